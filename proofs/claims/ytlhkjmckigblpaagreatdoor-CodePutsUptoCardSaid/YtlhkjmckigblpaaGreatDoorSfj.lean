/- Sf, Sg, Sh, Si, Sj in one text. -/
import Derived.Test.YtlhkjmckigblpaaGreatDoorSe
import Derived.Test.YtlhkjmckigblpaaGreatDoorYi
import Derived.Test.YtlhkjmckigblpaaGreatDoorYm
import Derived.Test.YtlhkjmckigblpaaGreatDoorVo
import Derived.Test.YtlhkjmckigblpaaGreatDoorQXz
/- Sf: Sf: The document's own writers of layer 3: a value that may be. -/
namespace Go.Proofs.YtlhkjmckigblpaaGreatDoor
open Go.RowKit Go.Shelf Vp Cp Rm
open Go
attribute [local go_sem] Oper.semAt_some

theorem chk_sign {l : List UInt8} (h : Pl.chk l = 0) : ∃ c r, l = c :: r ∧ (c = 45 → ∃ c' r', r = c' :: r' ∧ c' ≠ 45) := by
  have hm : Pl.mag l ≠ [] := fun e => by rw [Pl.chk_nil e] at h; exact absurd h (by decide)
  have hd : (Pl.mag l).all Pl.isDig = true := by
    cases hx : (Pl.mag l).all Pl.isDig with
    | true => rfl
    | false => rw [Pl.chk_bad hx] at h; exact absurd h (by decide)
  cases l with
  | nil => exact absurd (by rfl) hm
  | cons c r =>
    refine ⟨c, r, rfl, ?_⟩
    rintro rfl
    have e : Pl.mag (45 :: r) = r := rfl
    rw [e] at hm hd
    cases r with
    | nil => exact absurd rfl hm
    | cons c' r' =>
      refine ⟨c', r', rfl, ?_⟩
      rintro rfl
      rw [List.all_cons, Bool.and_eq_true] at hd
      exact absurd hd.1 (by decide)

theorem op_app1 {w : World} {o : Oper} {a : Act} {K : Act → World → Prop} {Q : Exit → Act → World → Prop} (s x : Operand)
    (ho : o.op = .call { callee := .builtin .append, args := #[s, x], argTypes := #[23, 23] })
    (B : Nat) (v : Value) (l : List UInt8) (hs : a.eval s = v) (hy : Bys B l w v) (c : UInt8) (g : Nat) (hx : a.eval x = .slice (some ⟨g, 0, none⟩) 1 1) (hc : w.cell? ⟨g, 0, none⟩ = some (.int .u8 (c.toNat : Int)))
    (hl : l.length ≤ 70000000000000) (hB : B ≤ w.heap.size)
    (h : ∀ v' w', Bys B (l ++ [c]) w' v' → w.grownBy w' v.ownBlock → K (a.put o.dst v') w') : Oper.wp Tryz.prog o a w K Q := by
  obtain ⟨i, hi, hz, hsize, hby⟩ := info_parts infoB
  refine wp_append_own w s x 23 ho B 5 i (.int .u8 0) 1 1 Tryz.underlying23 hi hz hsize hby rfl (by decide) v l.length (Lib.byteCells l) hs hy ⟨g, 0, none⟩ 1 1 (Lib.byteCells [c]) hx (by simp [Lib.byteCells]) ?_ ?_ (by unfold maxLen; omega) (by omega) hB ?_
  · intro j u hj
    have hjl : j < 1 := by
      have := (List.getElem?_eq_some_iff.1 hj).1
      simpa [Lib.byteCells] using this
    obtain rfl : j = 0 := by omega
    have e0 : (⟨g, 0, none⟩ : Addr).add 0 = ⟨g, 0, none⟩ := rfl
    rw [e0, hc]
    simpa [Lib.byteCells] using hj
  · intro u hu
    simp only [Lib.byteCells, List.mem_map] at hu
    obtain ⟨c, _, rfl⟩ := hu
    rfl
  · intro v' w' h2 h3 _
    exact h v' w' (own_join h2) h3

/-- What the writing of a value gives. -/
def Puts (x : V) : Prop := ∀ (u : Value) (w : World), VRep w w.heap.size x u → (encV x).length ≤ 60000000000000 →
  Calls Tryz.prog 68 #[u] w fun e w' => Gives w.heap.size w (encV x) e w'

theorem box_below {w : World} (o : Obj) (z : Int) : Below w.heap.size w ((w.alloc o).alloc (.cells #[.int .u8 z] 5)) := ((Below.refl _ _).alloc (Nat.le_refl _) _).alloc (by simp) _
theorem one_box (w : World) (o : Obj) (c : UInt8) (z : Int) (hz : (c.toNat : Int) = z) : Bys (w.heap.size + 1) [c] ((w.alloc o).alloc (.cells #[.int .u8 z] 5)) (.slice (some ⟨w.heap.size + 1, 0, none⟩) 1 1) := by
  subst hz
  have := one_own (w.alloc o) c
  rwa [show (w.alloc o).heap.size = w.heap.size + 1 by simp] at this
set_option maxRecDepth 100000 in
set_option maxHeartbeats 8000000 in
theorem rput_1 (n : Int) (s : ByteArray) (A : Option Addr) (N c : Nat) (w : World) :
    Calls Tryz.prog 68 #[.agg #[.int .u8 1, .int .i64 n, .string s, .slice A N c]] w fun e w' => Gives w.heap.size w (1 :: [if n = 1 then 1 else 0]) e w' := by
  have HB := Lib.hid (box_below (w := w) (.cells #[.int .u8 1, .int .i64 n, .string s, .slice A N c] 34) 1)
  have HH := Lib.hid (hands_of (one_box w (.cells #[.int .u8 1, .int .i64 n, .string s, .slice A N c] 34) 1 1 rfl))
  by_cases hn : n = 1
  · rw [if_pos hn]
    subst hn
    have HO := Lib.hid (rflag_c [1] (.slice (some ⟨w.heap.size + 1, 0, none⟩) 1 1) true ((w.alloc (.cells #[.int .u8 1, .int .i64 1, .string s, .slice A N c] 34)).alloc (.cells #[.int .u8 1] 5)) HH.out (by decide))
    clear HH
    go_enter Tryz.func68, Tryz.ntmps68
    go_wp2_with fail
    refine HO.out.mono ?_
    rintro e w3 ⟨v3, rfl, hy3, hb3⟩
    have HY3 := Lib.hid (own_low hy3 HB.out.size); have HB3 := Lib.hid (HB.out.trans (hb3.mono HB.out.size))
    clear hy3 hb3
    go_wp2_with fail
    go_ret
    exact Gives.mk_ HY3.out HB3.out
  · have HO := Lib.hid (rflag_c [1] (.slice (some ⟨w.heap.size + 1, 0, none⟩) 1 1) false ((w.alloc (.cells #[.int .u8 1, .int .i64 n, .string s, .slice A N c] 34)).alloc (.cells #[.int .u8 1] 5)) HH.out (by decide))
    rw [if_neg hn]
    have hnb : (n == 1) = false := by rw [beq_eq_false_iff_ne]; exact hn
    clear HH
    go_enter Tryz.func68, Tryz.ntmps68
    go_wp2_with fail
    refine HO.out.mono ?_
    rintro e w3 ⟨v3, rfl, hy3, hb3⟩
    have HY3 := Lib.hid (own_low hy3 HB.out.size); have HB3 := Lib.hid (HB.out.trans (hb3.mono HB.out.size))
    clear hy3 hb3
    go_wp2_with fail
    go_ret
    exact Gives.mk_ HY3.out HB3.out
set_option maxRecDepth 100000 in
set_option maxHeartbeats 8000000 in
theorem rput_2 (n : Int) (s : ByteArray) (A : Option Addr) (N c : Nat) (w : World) (h0 : -9223372036854775808 ≤ n) (h1 : n ≤ 9223372036854775807) :
    Calls Tryz.prog 68 #[.agg #[.int .u8 2, .int .i64 n, .string s, .slice A N c]] w fun e w' => Gives w.heap.size w (2 :: numB n) e w' := by
  have HB := Lib.hid (box_below (w := w) (.cells #[.int .u8 2, .int .i64 n, .string s, .slice A N c] 34) 2)
  have HH := Lib.hid (hands_of (one_box w (.cells #[.int .u8 2, .int .i64 n, .string s, .slice A N c] 34) 2 2 rfl))
  have HO := Lib.hid (rnum_c [2] (.slice (some ⟨w.heap.size + 1, 0, none⟩) 1 1) n h0 h1 ((w.alloc (.cells #[.int .u8 2, .int .i64 n, .string s, .slice A N c] 34)).alloc (.cells #[.int .u8 2] 5)) HH.out (by decide))
  clear HH h0 h1
  go_enter Tryz.func68, Tryz.ntmps68
  go_wp2_with fail
  refine HO.out.mono ?_
  rintro e w3 ⟨v3, rfl, hy3, hb3⟩
  have HY3 := Lib.hid (own_low hy3 HB.out.size); have HB3 := Lib.hid (HB.out.trans (hb3.mono HB.out.size))
  clear hy3 hb3
  go_wp2_with fail
  go_ret
  exact Gives.mk_ HY3.out HB3.out
set_option maxRecDepth 100000 in
set_option maxHeartbeats 8000000 in
theorem rput_3 (n : Int) (s : ByteArray) (A : Option Addr) (N c : Nat) (w : World) (hz : s.size ≤ 2147483647) (hc : Pl.chk s.data.toList = 0) (hl : (bigB s.data.toList).length ≤ 60000000000000) :
    Calls Tryz.prog 68 #[.agg #[.int .u8 3, .int .i64 n, .string s, .slice A N c]] w fun e w' => Gives w.heap.size w (3 :: bigB s.data.toList) e w' := by
  have HB := Lib.hid (box_below (w := w) (.cells #[.int .u8 3, .int .i64 n, .string s, .slice A N c] 34) 3)
  have HH := Lib.hid (hands_of (one_box w (.cells #[.int .u8 3, .int .i64 n, .string s, .slice A N c] 34) 3 3 rfl))
  obtain ⟨ch, r, hs, hr⟩ := chk_sign hc
  have HO := Lib.hid (rbig_c s ch r hs hr hz ((w.alloc (.cells #[.int .u8 3, .int .i64 n, .string s, .slice A N c] 34)).alloc (.cells #[.int .u8 3] 5)))
  generalize bigB s.data.toList = q at HO hl ⊢
  have HL := Lib.hid hl
  clear hs hr hc hl
  go_enter Tryz.func68, Tryz.ntmps68
  go_wp2_with fail
  refine HO.out.mono ?_
  rintro e w1 ⟨v1, rfl, hy1, hb1⟩
  have HB1 := Lib.hid (HB.out.trans (hb1.mono HB.out.size))
  have HO1 := Lib.hid (with_c [3] q (.slice (some ⟨w.heap.size + 1, 0, none⟩) 1 1) v1 w1 (HH.out.under hb1) (hands_of hy1) (by decide) (by have := HL.out; omega))
  clear hy1 hb1 HO HH
  go_wp2_with fail
  refine HO1.out.mono ?_
  rintro e w3 ⟨v3, rfl, hy3, hb3⟩
  have HY3 := Lib.hid (own_low hy3 HB1.out.size); have HB3 := Lib.hid (HB1.out.trans (hb3.mono HB1.out.size))
  clear hy3 hb3
  go_wp2_with fail
  go_ret
  exact Gives.mk_ HY3.out HB3.out
set_option maxRecDepth 100000 in
set_option maxHeartbeats 8000000 in
theorem rput_4 (n : Int) (s : ByteArray) (A : Option Addr) (N c : Nat) (w : World) (hz : s.size ≤ 2147483647) :
    Calls Tryz.prog 68 #[.agg #[.int .u8 4, .int .i64 n, .string s, .slice A N c]] w fun e w' => Gives w.heap.size w (4 :: strB s.data.toList) e w' := by
  have HB := Lib.hid (box_below (w := w) (.cells #[.int .u8 4, .int .i64 n, .string s, .slice A N c] 34) 4)
  have HH := Lib.hid (hands_of (one_box w (.cells #[.int .u8 4, .int .i64 n, .string s, .slice A N c] 34) 4 4 rfl))
  have HO := Lib.hid (rstr_c [4] (.slice (some ⟨w.heap.size + 1, 0, none⟩) 1 1) s hz ((w.alloc (.cells #[.int .u8 4, .int .i64 n, .string s, .slice A N c] 34)).alloc (.cells #[.int .u8 4] 5)) HH.out (by decide))
  clear HH
  go_enter Tryz.func68, Tryz.ntmps68
  go_wp2_with fail
  refine HO.out.mono ?_
  rintro e w3 ⟨v3, rfl, hy3, hb3⟩
  have HY3 := Lib.hid (own_low hy3 HB.out.size); have HB3 := Lib.hid (HB.out.trans (hb3.mono HB.out.size))
  clear hy3 hb3
  go_wp2_with fail
  go_ret
  exact Gives.mk_ HY3.out HB3.out
end Go.Proofs.YtlhkjmckigblpaaGreatDoor
/- Sg: Sg: The document's own writers of layer 3: rows of values, any value. -/
namespace Go.Proofs.YtlhkjmckigblpaaGreatDoor
open Go.RowKit Go.Shelf Vp Cp Rm
open Go
attribute [local go_sem] Oper.semAt_some

set_option maxRecDepth 100000 in
set_option maxHeartbeats 8000000 in
theorem rput_5 (n : Int) (s : ByteArray) (items : List V) (A : Option Addr) (c : Nat) (w : World) (hR : RRep w w.heap.size items A c) (hl : (preB items).length ≤ 60000000000000) (ih : ∀ x ∈ items, Puts x) :
    Calls Tryz.prog 68 #[.agg #[.int .u8 5, .int .i64 n, .string s, .slice A items.length c]] w fun e w' => Gives w.heap.size w ([5] ++ preB items ++ [0]) e w' := by
  have hmax : maxLen = 9223372036854775807 := rfl
  have hc1 := hR.1; have hc2 := hR.2.1
  have HB0 := Lib.hid (box_below (w := w) (.cells #[.int .u8 5, .int .i64 n, .string s, .slice A items.length c] 34) 5)
  have hY0 := one_box w (.cells #[.int .u8 5, .int .i64 n, .string s, .slice A items.length c] 34) 5 5 rfl
  obtain ⟨w0, hw0⟩ : ∃ w0, w0 = w.alloc (.cells #[.int .u8 5, .int .i64 n, .string s, .slice A items.length c] 34) := ⟨_, rfl⟩
  have hs0 : w0.heap.size = w.heap.size + 1 := by rw [hw0]; simp
  have HS0 := Lib.hid hs0
  have hX : Blk w0 w.heap.size 34 #[.int .u8 5, .int .i64 n, .string s, .slice A items.length c] := by rw [hw0]; exact Blk.new w _ _
  have HX := Lib.hid hX
  have hb01 : Below (w.heap.size + 1) w0 (w0.alloc (.cells #[.int .u8 5] 5)) := (Below.refl _ _).alloc (by omega) _
  have HB01 := Lib.hid hb01
  have HW0 : Hid (Below w.heap.size w w0) := Lib.hid (by rw [hw0]; exact (Below.refl _ _).alloc (Nat.le_refl _) _)
  have HR := Lib.hid (hR.under HW0.out)
  have HY0 := Lib.hid hY0
  rw [← hw0] at HY0
  have IH := Lib.hid ih; have HL := Lib.hid hl
  have HW := Lib.hid hw0
  clear hR ih hl hs0 hX hb01 hY0 hw0
  go_enter Tryz.func68, Tryz.ntmps68
  go_wp2_with fail
  go_loopg [4, 3] (items.length + 1) (fun gg s4 s3 wr => ∃ i : Nat, i ≤ items.length ∧ gg = items.length + 1 - i ∧ s4 = .int .i64 (i : Int) ∧ Bys (w.heap.size + 1) ([5] ++ preB (items.take i)) wr s3 ∧ Below (w.heap.size + 1) w0 wr)
  case atStart =>
    refine ⟨0, Nat.zero_le _, rfl, rfl, ?_, ?_⟩
    · rw [List.take_zero]
      show Bys _ ([5] ++ []) _ _
      rw [List.append_nil]
      rw [← HW.out]; exact HY0.out
    · rw [← HW.out]; exact HB01.out
  case round =>
    clear HY0 HB01
    obtain ⟨i, hi, hg, rfl, hy, hb⟩ := hrel
    have hX := HX.out.below hb (Nat.lt_succ_self _)
    have HG := Lib.hid hg; have HY := Lib.hid hy; have HB := Lib.hid hb
    clear hg hy hb
    have x3 := hX.cell 3; have z3 := hX.frozen 3
    simp at x3
    have hC : w.heap.size + 1 ≤ wr.heap.size := by have := HB.out.size; have := HS0.out; omega
    by_cases hlt : i < items.length
    · have hiz : (i : Int) < (items.length : Int) := by omega
      have HRR := Lib.hid (HR.out.under (HB.out.mono (Nat.le_succ _)))
      have HPT := Lib.hid (pre_take items hlt)
      have HPL := Lib.hid (pre_len_take items (i + 1))
      obtain ⟨g, off, rfl, hgb, k1, n1, s1, l1, A1, e1, ht, hv, c0, c1, c2, c3⟩ := HRR.out.at_ hlt
      have HT := Lib.hid ht; have HV := Lib.hid hv
      have HC : Hid (∀ W u, Below w.heap.size wr W → u = .agg #[.int .u8 (k1 : Int), .int .i64 n1, .string s1, .slice A1 l1.length e1] → Calls Tryz.prog 68 #[u] W fun e w' => Gives W.heap.size W (encV items[i]) e w') := Lib.hid fun W u hW hu => by
        subst hu
        refine IH.out _ (List.getElem_mem hlt) _ W ((hv.under hW).more (by have := hW.size; omega)) ?_
        have h1 := HPL.out
        have h2 := congrArg List.length HPT.out
        rw [List.length_append, List.length_cons] at h2
        have := HL.out
        omega
      have HS : Hid (∀ W', Below (w.heap.size + 1) wr W' → (W'.cell? ⟨w.heap.size, 3, none⟩ = some (.slice (some ⟨g, off, none⟩) items.length c) ∧ W'.cell? ⟨g, off + i * 4, none⟩ = some (.int .u8 (k1 : Int)) ∧ W'.cell? ⟨g, off + i * 4 + 1, none⟩ = some (.int .i64 n1) ∧ W'.cell? ⟨g, off + i * 4 + 2, none⟩ = some (.string s1) ∧ W'.cell? ⟨g, off + i * 4 + 3, none⟩ = some (.slice A1 l1.length e1))) :=
        Lib.hid fun W' hbw => ⟨(hbw.cell (p := ⟨w.heap.size, 3, none⟩) (Nat.lt_succ_self _)).trans x3, (hbw.cell (p := ⟨g, off + i * 4, none⟩) (Nat.lt_succ_of_lt hgb)).trans c0, (hbw.cell (p := ⟨g, off + i * 4 + 1, none⟩) (Nat.lt_succ_of_lt hgb)).trans c1, (hbw.cell (p := ⟨g, off + i * 4 + 2, none⟩) (Nat.lt_succ_of_lt hgb)).trans c2, (hbw.cell (p := ⟨g, off + i * 4 + 3, none⟩) (Nat.lt_succ_of_lt hgb)).trans c3⟩
      obtain ⟨L, hL⟩ : ∃ L, [5] ++ preB (items.take i) = L := ⟨_, rfl⟩
      rw [hL] at HY
      have HLE : Hid (L.length ≤ 69000000000000) := Lib.hid (by
        have h1 := pre_len_take items i
        have := HL.out
        rw [← hL]
        simp; omega)
      have HLL := Lib.hid hL
      have HEN : Hid ((encV items[i]).length ≤ 60000000000000) := Lib.hid (by
        have h1 := HPL.out
        have h2 := congrArg List.length HPT.out
        rw [List.length_append, List.length_cons] at h2
        have := HL.out
        omega)
      go_upto_region 16 with fail
      clear ht hv c0 c1 c2 c3 hL
      refine chain_region (fun W' => (W'.cell? ⟨w.heap.size, 3, none⟩ = some (.slice (some ⟨g, off, none⟩) items.length c) ∧ W'.cell? ⟨g, off + i * 4, none⟩ = some (.int .u8 (k1 : Int)) ∧ W'.cell? ⟨g, off + i * 4 + 1, none⟩ = some (.int .i64 n1) ∧ W'.cell? ⟨g, off + i * 4 + 2, none⟩ = some (.string s1) ∧ W'.cell? ⟨g, off + i * 4 + 3, none⟩ = some (.slice A1 l1.length e1))) 8 (by kernel_rfl) ?_
      obtain ⟨WD, hWD⟩ : ∃ W', W' = wr.drew := ⟨_, rfl⟩
      have HBD : Hid (Below (w.heap.size + 1) wr WD) := Lib.hid (by rw [hWD]; exact (Below.refl _ _).drew)
      have HYD : Hid (Bys (w.heap.size + 1) L WD u3) := Lib.hid (by rw [hWD]; exact HY.out)
      rw [← hWD]
      clear hWD
      have HSX := Lib.hid (HS.out _ HBD.out)
      refine T_take (i := 0) (v := u3) rfl (by kernel_rfl) (fun _ _ _ h => h) rfl (fun W hS => by go_simp) HSX.out ?_
      go_simp
      refine T_take (i := 3) (v := .pointer (some ⟨w.heap.size, 3, none⟩)) rfl (by kernel_rfl) (fun _ _ _ h => h) rfl (fun W hS => by go_simp) HSX.out ?_
      go_simp
      refine T_take (i := 4) (v := .slice (some ⟨g, off, none⟩) items.length c) rfl (by kernel_rfl) (fun _ _ _ h => h) rfl (fun W hS => by obtain ⟨h1, h2, h3, h4, h5⟩ := hS; go_simp) HSX.out ?_
      go_simp
      refine T_take (i := 5) (v := .int .i64 (i : Int)) rfl (by kernel_rfl) (fun _ _ _ h => h) rfl (fun W hS => by go_simp) HSX.out ?_
      go_simp
      refine T_take (i := 6) (v := .pointer (some ⟨g, off + i * 4, none⟩)) rfl (by kernel_rfl) (fun _ _ _ h => h) rfl (fun W hS => by go_simp) HSX.out ?_
      go_simp
      refine T_take (i := 7) (v := .agg #[.int .u8 (k1 : Int), .int .i64 n1, .string s1, .slice A1 l1.length e1]) rfl (by kernel_rfl) (fun _ _ _ h => h) rfl (fun W hS => by obtain ⟨h1, h2, h3, h4, h5⟩ := hS; go_simp) HSX.out ?_
      go_simp
      refine T_one (i := 1) rfl (by kernel_rfl) rfl ?_
      go_simp
      have hW1 : Below (w.heap.size + 1) WD (WD.alloc (.cells #[.int .u8 1] 5)) := (Below.refl _ _).alloc (by have := HBD.out.size; omega) _
      have HB1 := Lib.hid (HBD.out.trans hW1)
      have HY1 : Hid (Bys (w.heap.size + 1) L (WD.alloc (.cells #[.int .u8 1] 5)) u3) := Lib.hid (World.ownsRow.alloc HYD.out _)
      have HG1 : Hid ((WD.alloc (.cells #[.int .u8 1] 5)).cell? ⟨WD.heap.size, 0, none⟩ = some (.int .u8 1)) := Lib.hid (by go_simp)
      clear hW1
      obtain ⟨W1, hW⟩ : ∃ W', W' = WD.alloc (.cells #[.int .u8 1] 5) := ⟨_, rfl⟩
      rw [← hW] at HB1 HY1 HG1 ⊢
      clear hW
      refine ⟨HS.out _ HB1.out, ?_⟩
      refine T_one (i := 2) rfl (by kernel_rfl) rfl ?_
      refine op_app1 _ _ rfl (w.heap.size + 1) u3 L rfl HY1.out 1 WD.heap.size rfl HG1.out (by have := HLE.out; omega) (by have := HB1.out.size; omega) ?_
      intro v2 W2 hy2 hg2
      have HY2 := Lib.hid hy2
      have HB2 := Lib.hid (HB1.out.grown hg2 (by have := HB1.out.size; omega) fun k hk => (World.ownsRow.lt HY1.out k hk).1)
      clear hy2 hg2
      go_simp
      refine ⟨HS.out _ HB2.out, ?_⟩
      refine T_one (i := 8) rfl (by kernel_rfl) rfl ?_
      refine op_callT #[.agg #[.int .u8 (k1 : Int), .int .i64 n1, .string s1, .slice A1 l1.length e1]] (by simp [go_sem]) (enters_of Tryz.func68 (by kernel_rfl) rfl _ _) (HC.out W2 _ (HB2.out.mono (Nat.le_succ _)) rfl) ?_
      rintro e W3 ⟨v3, rfl, hy3, hb3⟩
      have HB3 := Lib.hid (HB2.out.trans (hb3.mono (by have := HB2.out.size; omega)))
      have HO := Lib.hid (with_c (L ++ [1]) (encV items[i]) v2 v3 W3 ((hands_of HY2.out).under hb3) (hands_of hy3) (by have := HLE.out; rw [List.length_append]; show _ + 1 ≤ _; omega) (by have := HEN.out; omega))
      clear hy3 hb3
      refine ⟨_, rfl, fun h => absurd h (by decide), ?_⟩
      go_simp
      refine T_one (i := 9) rfl (by kernel_rfl) rfl ?_
      refine op_callT #[v2, v3] (by simp [go_sem]) (enters_of Tryz.func63 (by kernel_rfl) rfl _ _) HO.out ?_
      rintro e W4 ⟨v4, rfl, hy4, hb4⟩
      have HY4 := Lib.hid (own_low hy4 (B' := w.heap.size + 1) (by have := HB3.out.size; omega))
      have HB4 := Lib.hid (HB3.out.trans (hb4.mono (by have := HB3.out.size; omega)))
      clear hy4 hb4 HO
      refine ⟨_, rfl, fun h => absurd h (by decide), ?_⟩
      go_simp
      refine T_one (i := 10) rfl (by kernel_rfl) rfl ?_
      go_simp
      refine ⟨by kernel_rfl, ?_⟩
      go_wp2_with fail
      go_roundg (items.length + 1 - (i + 1))
      case measure => have := HG.out; omega
      case rel =>
        refine ⟨i + 1, by omega, rfl, by go_num, ?_, HB.out.trans HB4.out⟩
        rw [HPT.out, ← List.append_assoc, HLL.out, show (1 :: encV items[i] : List UInt8) = [1] ++ encV items[i] from rfl, ← List.append_assoc]
        exact HY4.out
    · have hiz : ¬ (i : Int) < (items.length : Int) := by omega
      obtain rfl : i = items.length := by omega
      rw [List.take_length] at HY
      have hzb := one_own wr 0
      rw [show ((0 : UInt8).toNat : Int) = 0 from rfl] at hzb
      have HH := Lib.hid (hands_of hzb)
      obtain ⟨L, hL⟩ : ∃ L, [5] ++ preB items = L := ⟨_, rfl⟩
      rw [hL] at HY
      have HLL := Lib.hid hL
      have hLE : L.length ≤ 70000000000000 := by
        have := HL.out
        rw [← hL]
        simp; omega
      clear hL hzb
      go_wp2_with (at_builtin; refine wpList_appL _ rfl (.tmp 59) (.tmp 60) 23 rfl (w.heap.size + 1) 5 (.int .u8 0) Tryz.underlying23 infoB rfl _ L.length (Lib.byteCells L) rfl (HY.out.alloc _) _ [0] rfl HH.out (by simp; omega) (by simp; omega) ?_; intro v5 w5 hA hb5; have HA5 := Lib.hid (own_join hA); have HB5 := Lib.hid ((HB.out.alloc hC _).trans hb5); clear hA hb5)
      go_ret
      have hfin := own_low HA5.out (Nat.le_succ w.heap.size)
      rw [← HLL.out] at hfin
      exact Gives.mk_ hfin (HW0.out.trans (HB5.out.mono (Nat.le_succ _)))

set_option maxRecDepth 100000 in
set_option maxHeartbeats 8000000 in
theorem rput_6 (n : Int) (s : ByteArray) (items : List V) (A : Option Addr) (c : Nat) (w : World) (hR : RRep w w.heap.size items A c) (hz : s.size ≤ 2147483647) (hl : (preB items).length ≤ 60000000000000) (ih : ∀ x ∈ items, Puts x) :
    Calls Tryz.prog 68 #[.agg #[.int .u8 6, .int .i64 n, .string s, .slice A items.length c]] w fun e w' => Gives w.heap.size w (([6] ++ strB s.data.toList) ++ preB items ++ [0]) e w' := by
  have hmax : maxLen = 9223372036854775807 := rfl
  have hc1 := hR.1; have hc2 := hR.2.1
  have HB0 := Lib.hid (box_below (w := w) (.cells #[.int .u8 6, .int .i64 n, .string s, .slice A items.length c] 34) 6)
  have hY0 := one_box w (.cells #[.int .u8 6, .int .i64 n, .string s, .slice A items.length c] 34) 6 6 rfl
  obtain ⟨w0, hw0⟩ : ∃ w0, w0 = w.alloc (.cells #[.int .u8 6, .int .i64 n, .string s, .slice A items.length c] 34) := ⟨_, rfl⟩
  have hs0 : w0.heap.size = w.heap.size + 1 := by rw [hw0]; simp
  have HS0 := Lib.hid hs0
  have hX : Blk w0 w.heap.size 34 #[.int .u8 6, .int .i64 n, .string s, .slice A items.length c] := by rw [hw0]; exact Blk.new w _ _
  have HX := Lib.hid hX
  have hb01 : Below (w.heap.size + 1) w0 (w0.alloc (.cells #[.int .u8 6] 5)) := (Below.refl _ _).alloc (by omega) _
  have HB01 := Lib.hid hb01
  have HW0 : Hid (Below w.heap.size w w0) := Lib.hid (by rw [hw0]; exact (Below.refl _ _).alloc (Nat.le_refl _) _)
  have HR := Lib.hid (hR.under HW0.out)
  have HY0 := Lib.hid hY0
  rw [← hw0] at HY0
  have IH := Lib.hid ih; have HL := Lib.hid hl
  have HW := Lib.hid hw0
  have hsl := size_list s
  have HO := Lib.hid (rstr_c [6] (.slice (some ⟨w.heap.size + 1, 0, none⟩) 1 1) s hz ((w.alloc (.cells #[.int .u8 6, .int .i64 n, .string s, .slice A items.length c] 34)).alloc (.cells #[.int .u8 6] 5)) (hands_of hY0) (by decide))
  have hzt : ([6] ++ strB s.data.toList).length ≤ 5000000000 := by
    have := esc_le s.data.toList
    unfold strB
    simp only [List.length_append, List.length_cons, List.length_nil]
    omega
  obtain ⟨T, hT⟩ : ∃ T, [6] ++ strB s.data.toList = T := ⟨_, rfl⟩
  rw [hT] at hzt HO ⊢
  have HZ := Lib.hid hzt
  have hsz : (w0.alloc (.cells #[.int .u8 6] 5)).heap.size = w0.heap.size + 1 := by simp
  have HSZ := Lib.hid hsz
  clear hR ih hl hs0 hX hb01 hY0 hw0 hT hzt hsz hsl hz
  go_enter Tryz.func68, Tryz.ntmps68
  go_wp2_with fail
  refine HO.out.mono ?_
  rintro e w1 ⟨v1, rfl, hy1, hb1⟩
  rw [← HW.out] at hy1 hb1
  have HY1 := Lib.hid (own_low hy1 (B' := w.heap.size + 1) (by rw [HSZ.out, HS0.out]; omega))
  have HBS := Lib.hid (HB01.out.trans (hb1.mono (by rw [HSZ.out, HS0.out]; omega)))
  clear hy1 hb1 HO HY0 HB01
  go_wp2_with fail
  go_loopg [4, 3] (items.length + 1) (fun gg s4 s3 wr => ∃ i : Nat, i ≤ items.length ∧ gg = items.length + 1 - i ∧ s4 = .int .i64 (i : Int) ∧ Bys (w.heap.size + 1) (T ++ preB (items.take i)) wr s3 ∧ Below (w.heap.size + 1) w0 wr)
  case atStart =>
    refine ⟨0, Nat.zero_le _, rfl, rfl, ?_, ?_⟩
    · rw [List.take_zero]
      show Bys _ (T ++ []) _ _
      rw [List.append_nil]
      exact HY1.out
    · exact HBS.out
  case round =>
    clear HY1 HBS
    obtain ⟨i, hi, hg, rfl, hy, hb⟩ := hrel
    have hX := HX.out.below hb (Nat.lt_succ_self _)
    have HG := Lib.hid hg; have HY := Lib.hid hy; have HB := Lib.hid hb
    clear hg hy hb
    have x3 := hX.cell 3; have z3 := hX.frozen 3
    simp at x3
    have hC : w.heap.size + 1 ≤ wr.heap.size := by have := HB.out.size; have := HS0.out; omega
    by_cases hlt : i < items.length
    · have hiz : (i : Int) < (items.length : Int) := by omega
      have HRR := Lib.hid (HR.out.under (HB.out.mono (Nat.le_succ _)))
      have HPT := Lib.hid (pre_take items hlt)
      have HPL := Lib.hid (pre_len_take items (i + 1))
      obtain ⟨g, off, rfl, hgb, k1, n1, s1, l1, A1, e1, ht, hv, c0, c1, c2, c3⟩ := HRR.out.at_ hlt
      have HT := Lib.hid ht; have HV := Lib.hid hv
      have HC : Hid (∀ W u, Below w.heap.size wr W → u = .agg #[.int .u8 (k1 : Int), .int .i64 n1, .string s1, .slice A1 l1.length e1] → Calls Tryz.prog 68 #[u] W fun e w' => Gives W.heap.size W (encV items[i]) e w') := Lib.hid fun W u hW hu => by
        subst hu
        refine IH.out _ (List.getElem_mem hlt) _ W ((hv.under hW).more (by have := hW.size; omega)) ?_
        have h1 := HPL.out
        have h2 := congrArg List.length HPT.out
        rw [List.length_append, List.length_cons] at h2
        have := HL.out
        omega
      have HS : Hid (∀ W', Below (w.heap.size + 1) wr W' → (W'.cell? ⟨w.heap.size, 3, none⟩ = some (.slice (some ⟨g, off, none⟩) items.length c) ∧ W'.cell? ⟨g, off + i * 4, none⟩ = some (.int .u8 (k1 : Int)) ∧ W'.cell? ⟨g, off + i * 4 + 1, none⟩ = some (.int .i64 n1) ∧ W'.cell? ⟨g, off + i * 4 + 2, none⟩ = some (.string s1) ∧ W'.cell? ⟨g, off + i * 4 + 3, none⟩ = some (.slice A1 l1.length e1))) :=
        Lib.hid fun W' hbw => ⟨(hbw.cell (p := ⟨w.heap.size, 3, none⟩) (Nat.lt_succ_self _)).trans x3, (hbw.cell (p := ⟨g, off + i * 4, none⟩) (Nat.lt_succ_of_lt hgb)).trans c0, (hbw.cell (p := ⟨g, off + i * 4 + 1, none⟩) (Nat.lt_succ_of_lt hgb)).trans c1, (hbw.cell (p := ⟨g, off + i * 4 + 2, none⟩) (Nat.lt_succ_of_lt hgb)).trans c2, (hbw.cell (p := ⟨g, off + i * 4 + 3, none⟩) (Nat.lt_succ_of_lt hgb)).trans c3⟩
      obtain ⟨L, hL⟩ : ∃ L, T ++ preB (items.take i) = L := ⟨_, rfl⟩
      rw [hL] at HY
      have HLE : Hid (L.length ≤ 69000000000000) := Lib.hid (by
        have h1 := pre_len_take items i
        have := HL.out
        rw [← hL]
        have := HZ.out; rw [List.length_append]; omega)
      have HLL := Lib.hid hL
      have HEN : Hid ((encV items[i]).length ≤ 60000000000000) := Lib.hid (by
        have h1 := HPL.out
        have h2 := congrArg List.length HPT.out
        rw [List.length_append, List.length_cons] at h2
        have := HL.out
        omega)
      go_upto_region 16 with fail
      clear ht hv c0 c1 c2 c3 hL
      refine chain_region (fun W' => (W'.cell? ⟨w.heap.size, 3, none⟩ = some (.slice (some ⟨g, off, none⟩) items.length c) ∧ W'.cell? ⟨g, off + i * 4, none⟩ = some (.int .u8 (k1 : Int)) ∧ W'.cell? ⟨g, off + i * 4 + 1, none⟩ = some (.int .i64 n1) ∧ W'.cell? ⟨g, off + i * 4 + 2, none⟩ = some (.string s1) ∧ W'.cell? ⟨g, off + i * 4 + 3, none⟩ = some (.slice A1 l1.length e1))) 8 (by kernel_rfl) ?_
      obtain ⟨WD, hWD⟩ : ∃ W', W' = wr.drew := ⟨_, rfl⟩
      have HBD : Hid (Below (w.heap.size + 1) wr WD) := Lib.hid (by rw [hWD]; exact (Below.refl _ _).drew)
      have HYD : Hid (Bys (w.heap.size + 1) L WD u3) := Lib.hid (by rw [hWD]; exact HY.out)
      rw [← hWD]
      clear hWD
      have HSX := Lib.hid (HS.out _ HBD.out)
      refine T_take (i := 0) (v := u3) rfl (by kernel_rfl) (fun _ _ _ h => h) rfl (fun W hS => by go_simp) HSX.out ?_
      go_simp
      refine T_take (i := 3) (v := .pointer (some ⟨w.heap.size, 3, none⟩)) rfl (by kernel_rfl) (fun _ _ _ h => h) rfl (fun W hS => by go_simp) HSX.out ?_
      go_simp
      refine T_take (i := 4) (v := .slice (some ⟨g, off, none⟩) items.length c) rfl (by kernel_rfl) (fun _ _ _ h => h) rfl (fun W hS => by obtain ⟨h1, h2, h3, h4, h5⟩ := hS; go_simp) HSX.out ?_
      go_simp
      refine T_take (i := 5) (v := .int .i64 (i : Int)) rfl (by kernel_rfl) (fun _ _ _ h => h) rfl (fun W hS => by go_simp) HSX.out ?_
      go_simp
      refine T_take (i := 6) (v := .pointer (some ⟨g, off + i * 4, none⟩)) rfl (by kernel_rfl) (fun _ _ _ h => h) rfl (fun W hS => by go_simp) HSX.out ?_
      go_simp
      refine T_take (i := 7) (v := .agg #[.int .u8 (k1 : Int), .int .i64 n1, .string s1, .slice A1 l1.length e1]) rfl (by kernel_rfl) (fun _ _ _ h => h) rfl (fun W hS => by obtain ⟨h1, h2, h3, h4, h5⟩ := hS; go_simp) HSX.out ?_
      go_simp
      refine T_one (i := 1) rfl (by kernel_rfl) rfl ?_
      go_simp
      have hW1 : Below (w.heap.size + 1) WD (WD.alloc (.cells #[.int .u8 1] 5)) := (Below.refl _ _).alloc (by have := HBD.out.size; omega) _
      have HB1 := Lib.hid (HBD.out.trans hW1)
      have HY1 : Hid (Bys (w.heap.size + 1) L (WD.alloc (.cells #[.int .u8 1] 5)) u3) := Lib.hid (World.ownsRow.alloc HYD.out _)
      have HG1 : Hid ((WD.alloc (.cells #[.int .u8 1] 5)).cell? ⟨WD.heap.size, 0, none⟩ = some (.int .u8 1)) := Lib.hid (by go_simp)
      clear hW1
      obtain ⟨W1, hW⟩ : ∃ W', W' = WD.alloc (.cells #[.int .u8 1] 5) := ⟨_, rfl⟩
      rw [← hW] at HB1 HY1 HG1 ⊢
      clear hW
      refine ⟨HS.out _ HB1.out, ?_⟩
      refine T_one (i := 2) rfl (by kernel_rfl) rfl ?_
      refine op_app1 _ _ rfl (w.heap.size + 1) u3 L rfl HY1.out 1 WD.heap.size rfl HG1.out (by have := HLE.out; omega) (by have := HB1.out.size; omega) ?_
      intro v2 W2 hy2 hg2
      have HY2 := Lib.hid hy2
      have HB2 := Lib.hid (HB1.out.grown hg2 (by have := HB1.out.size; omega) fun k hk => (World.ownsRow.lt HY1.out k hk).1)
      clear hy2 hg2
      go_simp
      refine ⟨HS.out _ HB2.out, ?_⟩
      refine T_one (i := 8) rfl (by kernel_rfl) rfl ?_
      refine op_callT #[.agg #[.int .u8 (k1 : Int), .int .i64 n1, .string s1, .slice A1 l1.length e1]] (by simp [go_sem]) (enters_of Tryz.func68 (by kernel_rfl) rfl _ _) (HC.out W2 _ (HB2.out.mono (Nat.le_succ _)) rfl) ?_
      rintro e W3 ⟨v3, rfl, hy3, hb3⟩
      have HB3 := Lib.hid (HB2.out.trans (hb3.mono (by have := HB2.out.size; omega)))
      have HO := Lib.hid (with_c (L ++ [1]) (encV items[i]) v2 v3 W3 ((hands_of HY2.out).under hb3) (hands_of hy3) (by have := HLE.out; rw [List.length_append]; show _ + 1 ≤ _; omega) (by have := HEN.out; omega))
      clear hy3 hb3
      refine ⟨_, rfl, fun h => absurd h (by decide), ?_⟩
      go_simp
      refine T_one (i := 9) rfl (by kernel_rfl) rfl ?_
      refine op_callT #[v2, v3] (by simp [go_sem]) (enters_of Tryz.func63 (by kernel_rfl) rfl _ _) HO.out ?_
      rintro e W4 ⟨v4, rfl, hy4, hb4⟩
      have HY4 := Lib.hid (own_low hy4 (B' := w.heap.size + 1) (by have := HB3.out.size; omega))
      have HB4 := Lib.hid (HB3.out.trans (hb4.mono (by have := HB3.out.size; omega)))
      clear hy4 hb4 HO
      refine ⟨_, rfl, fun h => absurd h (by decide), ?_⟩
      go_simp
      refine T_one (i := 10) rfl (by kernel_rfl) rfl ?_
      go_simp
      refine ⟨by kernel_rfl, ?_⟩
      go_wp2_with fail
      go_roundg (items.length + 1 - (i + 1))
      case measure => have := HG.out; omega
      case rel =>
        refine ⟨i + 1, by omega, rfl, by go_num, ?_, HB.out.trans HB4.out⟩
        rw [HPT.out, ← List.append_assoc, HLL.out, show (1 :: encV items[i] : List UInt8) = [1] ++ encV items[i] from rfl, ← List.append_assoc]
        exact HY4.out
    · have hiz : ¬ (i : Int) < (items.length : Int) := by omega
      obtain rfl : i = items.length := by omega
      rw [List.take_length] at HY
      have hzb := one_own wr 0
      rw [show ((0 : UInt8).toNat : Int) = 0 from rfl] at hzb
      have HH := Lib.hid (hands_of hzb)
      obtain ⟨L, hL⟩ : ∃ L, T ++ preB items = L := ⟨_, rfl⟩
      rw [hL] at HY
      have HLL := Lib.hid hL
      have hLE : L.length ≤ 70000000000000 := by
        have := HL.out
        rw [← hL]
        have := HZ.out; rw [List.length_append]; omega
      clear hL hzb
      go_wp2_with (at_builtin; refine wpList_appL _ rfl (.tmp 59) (.tmp 60) 23 rfl (w.heap.size + 1) 5 (.int .u8 0) Tryz.underlying23 infoB rfl _ L.length (Lib.byteCells L) rfl (HY.out.alloc _) _ [0] rfl HH.out (by simp; omega) (by simp; omega) ?_; intro v5 w5 hA hb5; have HA5 := Lib.hid (own_join hA); have HB5 := Lib.hid ((HB.out.alloc hC _).trans hb5); clear hA hb5)
      go_ret
      have hfin := own_low HA5.out (Nat.le_succ w.heap.size)
      rw [← HLL.out] at hfin
      rw [List.append_assoc] at hfin
      exact Gives.mk_ hfin (HW0.out.trans (HB5.out.mono (Nat.le_succ _)))

theorem rput_c : ∀ t : V, Fit t → bigOk t = true → Puts t := by
  intro t
  induction t using V.ind with
  | h k n s l ih =>
    intro hf hb u w hv hsz
    have hpar : (1 ≤ k ∧ k ≤ 6 ∧ s.size ≤ 2147483647) ∧ ∀ x ∈ l, Fit x := by cases hf with | mk h1 h2 h3 h4 => exact ⟨⟨h1, h2, h3⟩, h4⟩
    obtain ⟨⟨h1, h2, h3⟩, h4⟩ := hpar
    obtain ⟨hb3, hbl⟩ := bigOk_parts hb
    have hih : ∀ x ∈ l, Puts x := fun x hx => ih x hx (h4 x hx) (hbl x hx)
    obtain ⟨k0, n0, s0, l1, A, c, ht, rfl, hk, hn, hs, hR⟩ := hv.open_
    injection ht with e1 e2 e3 e4
    subst e1; subst e2; subst e3; subst e4
    rw [enc_eq] at hsz ⊢
    have hcases : k = 1 ∨ k = 2 ∨ k = 3 ∨ k = 4 ∨ k = 5 ∨ k = 6 := by omega
    rcases hcases with rfl | rfl | rfl | rfl | rfl | rfl
    · exact rput_1 n s A l.length c w
    · exact rput_2 n s A l.length c w hn.1 hn.2
    · exact rput_3 n s A l.length c w h3 (hb3 rfl) (by simp at hsz; omega)
    · exact rput_4 n s A l.length c w h3
    · refine (rput_5 n s l A c w hR (by simp [tup_pre] at hsz; omega) hih).mono fun e w' h => ?_
      rw [if_neg (by decide), if_neg (by decide), if_neg (by decide), if_neg (by decide), if_pos rfl, tup_pre]
      exact h
    · refine (rput_6 n s l A c w hR h3 (by simp [tup_pre] at hsz; omega) hih).mono fun e w' h => ?_
      rw [if_neg (by decide), if_neg (by decide), if_neg (by decide), if_neg (by decide), if_neg (by decide), if_pos rfl, tup_pre]
      have e9 : (UInt8.ofNat 6 :: (strB s.data.toList ++ (preB l ++ [0]))) = [6] ++ strB s.data.toList ++ preB l ++ [0] := by simp
      rw [e9]
      exact h
end Go.Proofs.YtlhkjmckigblpaaGreatDoor
/- Sh: Sh: CodePuts: are these the bytes? They are written over. -/
namespace Go.Proofs.YtlhkjmckigblpaaGreatDoor
open Go.RowKit Go.Shelf Vp Cp Rm
open Go
attribute [local go_sem] Oper.semAt_some

set_option maxRecDepth 100000 in
set_option maxHeartbeats 4000000 in
theorem lawput_c (B : Nat) (l : List UInt8) (u v : Value) (w : World) (h : Bys B l w u) (h' : Sees w v l) (hl : l.length ≤ 70000000000000) :
    Calls Tryz.prog 28 #[u, v] w fun e w' => e = .returned (.bool true) ∧ Below B w w' := by
  have c1 := conv_c h.sees
  have c2 := conv_c h'
  have hnl := h.1
  rcases h.2 with ⟨rfl, h0⟩ | ⟨g, cap, cur, rfl, hgB, hg, hlc, hcm, hsz, hcu⟩
  · clear h h' hnl
    go_enter Tryz.func28, Tryz.ntmps28
    go_wp2_with fail
    go_loopg [6] 1 (fun gg s6 wr => gg = 1 ∧ s6 = .int .i64 0 ∧ wr = w)
    case atStart => exact ⟨rfl, rfl, rfl⟩
    case round =>
      obtain ⟨rfl, rfl, rfl⟩ := hrel
      go_wp2_with fail
      go_ret
      exact ⟨rfl, Below.refl _ _⟩
  · have hX : Blk w g 5 cur := hg
    have hcs : ∀ j (hj : j < l.length), cur[j]? = some (.int .u8 ((l[j]).toNat : Int)) := fun j hj => by
      have h1 := congrArg (fun q => q[j]?) hcu
      simp only [List.getElem?_take, Lib.byteCells, List.getElem?_map] at h1
      rw [if_pos (by omega)] at h1
      rw [List.getElem?_eq_getElem hj] at h1
      simpa using h1
    have HX := Lib.hid hX; have HCS := Lib.hid hcs
    have HSZ := Lib.hid hsz
    clear h h' hnl hg hcu hX hcs hsz
    go_enter Tryz.func28, Tryz.ntmps28
    go_wp2_with fail
    go_loopg [6] (l.length + 1) (fun gg s6 wr => ∃ (i : Nat) (cs : Array Value), i ≤ l.length ∧ gg = l.length + 1 - i ∧ s6 = .int .i64 (i : Int) ∧ Blk wr g 5 cs ∧ (∀ j, i ≤ j → ∀ hj : j < l.length, cs[j]? = some (.int .u8 ((l[j]).toNat : Int))) ∧ Below B w wr)
    case atStart => exact ⟨0, cur, Nat.zero_le _, rfl, rfl, HX.out, fun j _ hj => HCS.out j hj, Below.refl _ _⟩
    case round =>
      clear HX HCS c1 c2
      obtain ⟨i, cs, hi, hgg, rfl, hX, hcs, hb⟩ := hrel
      have HG := Lib.hid hgg; have HX := Lib.hid hX; have HCS := Lib.hid hcs; have HB := Lib.hid hb
      have hc := hX.cell i; have hz := hX.frozen i
      clear hgg hcs hb hX
      by_cases hlt : i < l.length
      · have hiz : (i : Int) < (l.length : Int) := by omega
        rw [HCS.out i (Nat.le_refl _) hlt] at hc
        go_wp2_with fail
        go_roundg (l.length + 1 - (i + 1))
        case measure => have := HG.out; omega
        case rel =>
          refine ⟨i + 1, _, by omega, rfl, by go_num, HX.out.set_ i _, fun j hj hjl => ?_, HB.out.setCell hgB _⟩
          rw [Array.getElem?_setIfInBounds_ne (by omega)]
          exact HCS.out j (by omega) hjl
      · have hiz : ¬ (i : Int) < (l.length : Int) := by omega
        go_wp2_with fail
        go_ret
        exact ⟨rfl, HB.out⟩
end Go.Proofs.YtlhkjmckigblpaaGreatDoor
/- Si: Si: The document's own writer of layer 3: what is written of any value. -/
namespace Go.Proofs.YtlhkjmckigblpaaGreatDoor
open Go.RowKit Go.Shelf Vp Cp Rm
open Go
attribute [local go_sem] Oper.semAt_some

set_option maxRecDepth 100000 in
set_option maxHeartbeats 4000000 in
theorem rvalue_c (l : List UInt8) (t : V) (u v : Value) (w : World) (h : Hands w u l) (hv : VRep w w.heap.size t v) (hd : depth t < 100000000) (hl : l.length ≤ 60000000000000) (hsz : chkV t = 0 → (encV t).length ≤ 60000000000000) :
    Calls Tryz.prog 35 #[u, v] w fun e w' => Gives w.heap.size w (l ++ valB t) e w' := by
  obtain ⟨k, n, s, its, A, c, ht, rfl, hk, hn, hs, hR⟩ := hv.open_
  have hbx := (Below.refl w.heap.size w).alloc (Nat.le_refl _) (.cells #[.int .u8 (k : Int), .int .i64 n, .string s, .slice A its.length c] 34)
  have HC := Lib.hid (refcheck_c t _ (w.alloc (.cells #[.int .u8 (k : Int), .int .i64 n, .string s, .slice A its.length c] 34)) hd ((hv.under hbx).more (by simp)))
  have HBX := Lib.hid hbx
  have HX := Lib.hid (Blk.new w 34 #[.int .u8 (k : Int), .int .i64 n, .string s, .slice A its.length c])
  have HS := Lib.hid h; have HV := Lib.hid hv
  have hvb : Hid (valB t = if chkV t = 0 then encV t else []) := Lib.hid rfl
  have HP : Hid (chkV t = 0 → Puts t) := Lib.hid fun h0 => rput_c t (by obtain ⟨_, h2, h3⟩ := valid_parts h0; exact fit_of t h2 h3) (valid_big h0)
  have HSZ := Lib.hid hsz
  generalize valB t = ob at hvb ⊢
  generalize chkV t = z at HC HP HSZ hvb
  clear h hv hbx hR hsz ht hd
  by_cases hz : z = 0
  · subst hz
    have hob := hvb.out
    rw [if_pos rfl] at hob
    subst hob
    have hp := HP.out rfl
    have hsz := HSZ.out rfl
    have HPP := Lib.hid hp; have HSS := Lib.hid hsz
    clear hp hsz HP HSZ hvb
    go_enter Tryz.func35, Tryz.ntmps35
    go_wp2_with fail
    refine HC.out.mono ?_
    rintro e w1 ⟨rfl, hb1⟩
    have HB1 := Lib.hid (HBX.out.trans (hb1.mono HBX.out.size))
    have hX1 := HX.out.below hb1 (by simp)
    have HPC := Lib.hid (HPP.out _ w1 ((HV.out.under HB1.out).more HB1.out.size) HSS.out)
    have x0 := hX1.cell 0; have z0 := hX1.frozen 0
    have x1 := hX1.cell 1; have z1 := hX1.frozen 1
    have x2 := hX1.cell 2; have z2 := hX1.frozen 2
    have x3 := hX1.cell 3; have z3 := hX1.frozen 3
    simp at x0 x1 x2 x3
    clear hb1 HC
    go_wp2_with fail
    refine HPC.out.mono ?_
    rintro e w2 ⟨v2, rfl, hy2, hb2⟩
    have HB2 := Lib.hid (HB1.out.trans (hb2.mono HB1.out.size))
    have HO := Lib.hid (with_c l (encV t) u v2 w2 (HS.out.under HB2.out) (hands_of hy2) (by omega) (by have := HSS.out; omega))
    clear hy2 hb2 HPC
    go_wp2_with fail
    refine HO.out.mono ?_
    rintro e w3 ⟨v3, rfl, hy3, hb3⟩
    have HY3 := Lib.hid (own_low hy3 HB2.out.size); have HB3 := Lib.hid (HB2.out.trans (hb3.mono HB2.out.size))
    clear hy3 hb3 HO
    go_wp2_with fail
    go_ret
    exact Gives.mk_ HY3.out HB3.out
  · have hob := hvb.out
    rw [if_neg hz] at hob
    subst hob
    have hzb : (z == 0) = false := by rw [beq_eq_false_iff_ne]; exact hz
    clear HP HSZ hvb
    go_enter Tryz.func35, Tryz.ntmps35
    go_wp2_with fail
    refine HC.out.mono ?_
    rintro e w1 ⟨rfl, hb1⟩
    have HB1 := Lib.hid (HBX.out.trans (hb1.mono HBX.out.size))
    have HO := Lib.hid (with_c l [] u (.slice none 0 0) w1 (HS.out.under HB1.out) (hands_nil w1) (by omega) (by decide))
    clear hb1 HC
    go_wp2_with fail
    refine HO.out.mono ?_
    rintro e w3 ⟨v3, rfl, hy3, hb3⟩
    have HY3 := Lib.hid (own_low hy3 HB1.out.size); have HB3 := Lib.hid (HB1.out.trans (hb3.mono HB1.out.size))
    clear hy3 hb3 HO
    go_wp2_with fail
    go_ret
    exact Gives.mk_ HY3.out HB3.out
end Go.Proofs.YtlhkjmckigblpaaGreatDoor
/- Sj: Sj: CodePuts: the program's writers behind bytes that were handed in. -/
namespace Go.Proofs.YtlhkjmckigblpaaGreatDoor
open Go.RowKit Go.Shelf Vp Cp
open Go
attribute [local go_sem] Oper.semAt_some

theorem clone_h (l : List UInt8) (v : Value) (w : World) (h : Hands w v l) (hl : l.length ≤ 140000000000000) : Calls Tryz.prog 44 #[v] w fun e w' => Gives w.heap.size w l e w' := by
  rcases h with ⟨rfl, rfl⟩ | ⟨a, c, rfl, h1, _⟩
  · exact clone_c [] _ w (.inl ⟨0, 0, rfl, rfl⟩) hl
  · refine (Tryz.bytes_Clone_at a l.length c (l.map fun x => (x.toNat : Int)) w (by simp) (by omega) fun i hi => by rw [h1 i hi]; simp [hi]).mono ?_
    rintro e w' ⟨v', rfl, h2, _, h3⟩
    refine Gives.mk_ ?_ h3
    unfold Bys
    have e1 : (l.map fun x => (x.toNat : Int)).map (Value.int .u8) = Lib.byteCells l := by simp [Lib.byteCells]
    rw [e1] at h2; exact h2

set_option maxRecDepth 100000 in
set_option maxHeartbeats 8000000 in
theorem num_h (l : List UInt8) (v : Value) (n : Int) (h0 : -9223372036854775808 ≤ n) (h1 : n ≤ 9223372036854775807) (w : World) (h : Hands w v l) (hl : l.length ≤ 140000000000000) :
    Calls Tryz.prog 11 #[v, .int .i64 n] w fun e w' => Gives w.heap.size w (l ++ numB n) e w' := by
  have hc := clone_h l v w h hl
  have HC := Lib.hid hc
  clear hc h
  go_enter Tryz.func11, Tryz.ntmps11
  go_wp2_with fail
  refine HC.out.mono ?_
  rintro e w1 ⟨v1, rfl, hy, hb⟩
  have HA := Lib.hid (appendNum_c w.heap.size l v1 n h0 h1 w1 hy hl hb.size); have HB := Lib.hid hb
  clear hy hb
  go_wp2_with fail
  refine HA.out.mono ?_
  rintro e w2 ⟨v2, rfl, hy, hb⟩
  have HY := Lib.hid hy; have HB2 := Lib.hid (HB.out.trans hb)
  clear hy hb
  go_wp2_with fail
  go_ret
  exact Gives.mk_ HY.out HB2.out

set_option maxRecDepth 100000 in
set_option maxHeartbeats 8000000 in
theorem count_h (l : List UInt8) (v : Value) (n : Int) (w : World) (h : Hands w v l) (hl : l.length ≤ 140000000000000) :
    Calls Tryz.prog 10 #[v, .int .i64 n] w fun e w' => Gives w.heap.size w (l ++ cntB n) e w' := by
  have hc := clone_h l v w h hl
  have HC := Lib.hid hc
  clear hc h
  by_cases hr : 0 ≤ n ∧ n ≤ 2147483647
  · obtain ⟨hr0, hr1⟩ := hr
    obtain ⟨m, rfl⟩ : ∃ m : Nat, n = (m : Int) := ⟨n.toNat, by omega⟩
    have hcb : cntB (m : Int) = own 0 m := by unfold cntB; rw [if_pos ⟨hr0, hr1⟩, Int.toNat_natCast]
    rw [hcb]
    clear hcb
    go_enter Tryz.func10, Tryz.ntmps10
    go_wp2_with fail
    refine HC.out.mono ?_
    rintro e w1 ⟨v1, rfl, hy, hb⟩
    have HA := Lib.hid (appendCount_c w.heap.size l v1 m (by omega) w1 hy hl hb.size); have HB := Lib.hid hb
    clear hy hb
    go_wp2_with fail
    refine HA.out.mono ?_
    rintro e w2 ⟨v2, rfl, hy, hb⟩
    have HY := Lib.hid hy; have HB2 := Lib.hid (HB.out.trans hb)
    clear hy hb
    go_wp2_with fail
    go_ret
    exact Gives.mk_ HY.out HB2.out
  · have hcb : cntB n = [] := by unfold cntB; rw [if_neg hr]
    rw [hcb, List.append_nil]
    clear hcb
    by_cases hneg : n < 0
    · clear hr
      go_enter Tryz.func10, Tryz.ntmps10
      go_wp2_with fail
      refine HC.out.mono ?_
      rintro e w1 ⟨v1, rfl, hy, hb⟩
      have HY := Lib.hid hy; have HB := Lib.hid hb
      clear hy hb
      go_wp2_with fail
      go_ret
      exact Gives.mk_ HY.out HB.out
    · have hgt : 2147483647 < n := by omega
      clear hr
      go_enter Tryz.func10, Tryz.ntmps10
      go_wp2_with fail
      refine HC.out.mono ?_
      rintro e w1 ⟨v1, rfl, hy, hb⟩
      have HY := Lib.hid hy; have HB := Lib.hid hb
      clear hy hb
      go_wp2_with fail
      go_ret
      exact Gives.mk_ HY.out HB.out

set_option maxRecDepth 100000 in
set_option maxHeartbeats 8000000 in
theorem flag_h (l : List UInt8) (v : Value) (f : Bool) (w : World) (h : Hands w v l) (hl : l.length ≤ 140000000000000) :
    Calls Tryz.prog 33 #[v, .bool f] w fun e w' => Gives w.heap.size w (l ++ flgB f) e w' := by
  have hc := clone_h l v w h hl
  have HC := Lib.hid hc
  clear hc h
  go_enter Tryz.func33, Tryz.ntmps33
  go_wp2_with fail
  refine HC.out.mono ?_
  rintro e w1 ⟨v1, rfl, hy, hb⟩
  have HA := Lib.hid (appendFlag_c w.heap.size l v1 f w1 hy hl hb.size); have HB := Lib.hid hb
  clear hy hb
  go_wp2_with fail
  refine HA.out.mono ?_
  rintro e w2 ⟨v2, rfl, hy, hb⟩
  have HY := Lib.hid hy; have HB2 := Lib.hid (HB.out.trans hb)
  clear hy hb
  go_wp2_with fail
  go_ret
  exact Gives.mk_ HY.out HB2.out

set_option maxRecDepth 100000 in
set_option maxHeartbeats 8000000 in
theorem str_h (l : List UInt8) (v : Value) (s : ByteArray) (hs : s.size ≤ 4000000000) (w : World) (h : Hands w v l) (hl : l.length ≤ 140000000000000) (hm : MaxAt w) :
    Calls Tryz.prog 31 #[v, .string s] w fun e w' => Gives w.heap.size w (l ++ strB s.data.toList) e w' := by
  have hc := clone_h l v w h hl
  have HC := Lib.hid hc; have HM := Lib.hid hm
  clear hc h hm
  go_enter Tryz.func31, Tryz.ntmps31
  go_wp2_with fail
  refine HC.out.mono ?_
  rintro e w1 ⟨v1, rfl, hy, hb⟩
  have HA := Lib.hid (appendStr_c w.heap.size l v1 s hs w1 hy hl hb.size (HM.out.under hb)); have HB := Lib.hid hb
  clear hy hb
  go_wp2_with fail
  refine HA.out.mono ?_
  rintro e w2 ⟨v2, rfl, hy, hb⟩
  have HY := Lib.hid hy; have HB2 := Lib.hid (HB.out.trans hb)
  clear hy hb
  go_wp2_with fail
  go_ret
  exact Gives.mk_ HY.out HB2.out

set_option maxRecDepth 100000 in
set_option maxHeartbeats 8000000 in
theorem value_h (l : List UInt8) (v : Value) (t : V) (u : Value) (w : World) (h : Hands w v l) (hv : VRep w w.heap.size t u) (hl : l.length ≤ 140000000000000) (hsz : chkV t = 0 → l.length + (encV t).length ≤ 60000000000000) (hm : MaxB w.heap.size w) :
    Calls Tryz.prog 21 #[v, u] w fun e w' => Gives w.heap.size w (l ++ valB t) e w' := by
  obtain ⟨k, n, s, its, A, c, ht, rfl, hk, hn, hs, hR⟩ := hv.open_
  have HC := Lib.hid (check_c t _ (w.alloc (.cells #[.int .u8 (k : Int), .int .i64 n, .string s, .slice A its.length c] 34)) ((hv.under ((Below.refl _ _).alloc (Nat.le_refl _) _)).more (by simp)))
  have HBX := Lib.hid ((Below.refl w.heap.size w).alloc (Nat.le_refl _) (.cells #[.int .u8 (k : Int), .int .i64 n, .string s, .slice A its.length c] 34))
  have HX := Lib.hid (Blk.new w 34 #[.int .u8 (k : Int), .int .i64 n, .string s, .slice A its.length c])
  have HS := Lib.hid h; have HV := Lib.hid hv; have HM := Lib.hid hm
  have HE : Hid (Fit t → ∀ (u : Value) (l : List UInt8) (v : Value) (W : World), VRep W w.heap.size t u → Bys w.heap.size l W v → l.length + (encV t).length ≤ 60000000000000 → w.heap.size ≤ W.heap.size → MaxB w.heap.size W →
      Calls Tryz.prog 53 #[u, v] W fun e w' => Gives w.heap.size W (l ++ encV t) e w') := Lib.hid (enc_c w.heap.size t)
  have HFIT := Lib.hid (fit_of t); have HP := Lib.hid (chk_parts (t := t)); have HSZ := Lib.hid hsz
  have hvb : Hid (valB t = if chkV t = 0 then encV t else []) := Lib.hid rfl
  generalize valB t = ob at hvb ⊢
  generalize chkV t = z at HC HP HSZ hvb
  generalize encV t = eb at HSZ hvb HE
  clear h hv hm hsz ht hR
  by_cases hz : z = 0
  · subst hz
    have HOB := Lib.hid (hvb.out.trans (if_pos rfl))
    have hfit := HFIT.out (HP.out rfl).1 (HP.out rfl).2
    have hen := HE.out hfit
    have hlen := HSZ.out rfl
    have HEN := Lib.hid hen
    clear hvb hen HE HFIT HP HSZ hfit
    go_enter Tryz.func21, Tryz.ntmps21
    go_wp2_with fail
    refine HC.out.mono ?_
    rintro e w1 ⟨rfl, hb⟩
    have HX1 := Lib.hid (HX.out.below hb HX.out.lt).drew
    have HB1 := Lib.hid (HBX.out.trans (hb.mono HBX.out.size)).drew
    clear hb HX HBX HC
    go_upto_region 3 with fail
    refine chain_region (fun W' => W'.cell? ⟨w.heap.size, 0, none⟩ = some (.int .u8 (k : Int)) ∧ W'.cell? ⟨w.heap.size, 1, none⟩ = some (.int .i64 n) ∧ W'.cell? ⟨w.heap.size, 2, none⟩ = some (.string s) ∧ W'.cell? ⟨w.heap.size, 3, none⟩ = some (.slice A its.length c)) 3 (by kernel_rfl) ?_
    refine T_take (i := 0) (v := .agg #[.int .u8 (k : Int), .int .i64 n, .string s, .slice A its.length c]) rfl (by kernel_rfl) (fun _ _ _ h => h) rfl (fun W hS => by obtain ⟨h1, h2, h3, h4⟩ := hS; go_simp) (s_of HX1.out) ?_
    refine T_take (i := 1) (v := v) rfl (by kernel_rfl) (fun _ _ _ h => h) rfl (fun W hS => by go_simp) (s_of HX1.out) ?_
    refine T_one (i := 2) rfl (by kernel_rfl) rfl ?_
    refine op_callT #[v] (by simp [go_sem]) (enters_of Tryz.func44 (by kernel_rfl) rfl _ _) (clone_h l v _ (HS.out.under HB1.out) hl) ?_
    rintro e w2 ⟨v2, rfl, hy2, hb2⟩
    have HX2 := Lib.hid (HX1.out.below hb2 HX1.out.lt)
    have HY2 := Lib.hid (own_lower hy2 HB1.out.size)
    have HB2 := Lib.hid (HB1.out.trans (hb2.mono HB1.out.size))
    clear hy2 hb2 HX1 HB1
    refine ⟨_, rfl, fun _ => s_of HX2.out, ?_⟩
    refine T_one (i := 3) rfl (by kernel_rfl) rfl ?_
    refine op_callT #[.agg #[.int .u8 (k : Int), .int .i64 n, .string s, .slice A its.length c], v2] (by simp [go_sem]) (enters_of Tryz.func53 (by kernel_rfl) rfl _ _) (HEN.out _ l v2 _ (HV.out.under HB2.out) HY2.out hlen HB2.out.size (HM.out.under HB2.out)) ?_
    rintro e w3 ⟨v3, rfl, hy3, hb3⟩
    have HB3 := Lib.hid (HB2.out.trans hb3)
    have HY3 := Lib.hid hy3
    clear hy3 hb3 HX2 HB2 HY2
    refine ⟨_, rfl, fun hh => absurd hh (by decide), ?_⟩
    refine T_one (i := 4) rfl (by kernel_rfl) rfl ?_
    go_simp
    refine T_done (by kernel_rfl) ?_
    go_wp2_with fail
    go_ret
    exact Gives.mk_ (by rw [HOB.out]; exact HY3.out) HB3.out
  · have HOB := Lib.hid (hvb.out.trans (if_neg hz))
    clear hvb HE HFIT HP HSZ
    go_enter Tryz.func21, Tryz.ntmps21
    go_wp2_with fail
    refine HC.out.mono ?_
    rintro e w1 ⟨rfl, hb⟩
    have HB1 := Lib.hid (HBX.out.trans (hb.mono HBX.out.size))
    have HCL := Lib.hid (clone_h l v w1 (HS.out.under HB1.out) hl)
    clear hb
    go_wp2_with fail
    refine HCL.out.mono ?_
    rintro e w2 ⟨v2, rfl, hy2, hb2⟩
    have HY2 := Lib.hid (own_lower hy2 HB1.out.size); have HB2 := Lib.hid (HB1.out.trans (hb2.mono HB1.out.size))
    clear hy2 hb2
    go_wp2_with fail
    go_ret
    exact Gives.mk_ (by rw [HOB.out, List.append_nil]; exact HY2.out) HB2.out

end Go.Proofs.YtlhkjmckigblpaaGreatDoor
