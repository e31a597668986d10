/- The document's own answer of layer 5: a text in quotes. -/
import Derived.Test.YteppdnlchjpekaaLz
namespace Go.Proofs.Yteppdnlchjpekaa
open Go.RowKit Lx
open Go
attribute [local go_sem] Oper.semAt_some

/-- A slice that a call made from block B on: it reads as these bytes. -/
def Bys (B : Nat) (l : List UInt8) (w : World) (v : Value) : Prop := w.ownsRow B 5 1 v l.length (Lib.byteCells l)
theorem infoB : (Try.prog.info? 5).map (fun i => (i.zero, i.size, i.bytes)) = some (some (.int .u8 0), 1, 1) := by kernel_rfl
theorem bys_new (w : World) (l : List UInt8) (hl : l.length ≤ 1000) : Bys w.heap.size l (w.alloc (.cells (Lib.byteCells l).toArray 5)) (.slice (some ⟨w.heap.size, 0, none⟩) l.length l.length) :=
  ⟨by simp [Lib.byteCells], .inr ⟨w.heap.size, l.length, (Lib.byteCells l).toArray, rfl, Nat.le_refl _, heap_alloc_new w _, Nat.le_refl _, by unfold maxLen; omega, by simp [Lib.byteCells], List.take_of_length_le (by simp [Lib.byteCells])⟩⟩
theorem add0 (g j : Nat) : (⟨g, 0, none⟩ : Addr).add j = ⟨g, j, none⟩ := by unfold Addr.add; split <;> simp_all
theorem bys_put {w' : World} {B : Nat} {l m : List UInt8} {v' : Value} (h : w'.ownsRow B 5 1 v' (l.length + m.length) (Lib.byteCells l ++ Lib.byteCells m)) : Bys B (l ++ m) w' v' := by
  unfold Bys; rw [byteCells_app, List.length_append]; exact h
section
variable (w : World)
theorem wpList_bys {ops : Array Oper} {rest : List Oper} {o : Oper} {a : Act} {Q : Exit → Act → World → Prop} (hgd : o.guard = none) (s x : Operand)
    (ho : o.op = .call { callee := .builtin .append, args := #[s, x], argTypes := #[38, 38] })
    (B : Nat) (l m : List UInt8) (v : Value) (hs : a.eval s = v) (h : Bys B l w v) (g c : Nat) (hx : a.eval x = .slice (some ⟨g, 0, none⟩) m.length c) (hb : Blk w g 5 (Lib.byteCells m).toArray)
    (hl : l.length + m.length ≤ 1000000000) (hB : B ≤ w.heap.size)
    (hK : ∀ v' w', Bys B (l ++ m) w' v' → Below B w w' → wpList Try.prog ops Q rest (a.put o.dst v') w') : wpList Try.prog ops Q (o :: rest) a w := by
  obtain ⟨i0, hi, hz0, hz1, hz2⟩ := info_parts infoB
  refine wpList_append_own _ hgd s x 38 ho B 5 i0 (.int .u8 0) 1 1 Try.underlying38 hi hz0 hz1 hz2 rfl (by decide) v l.length (Lib.byteCells l) hs h ⟨g, 0, none⟩ m.length c (Lib.byteCells m) hx (by simp [Lib.byteCells]) (fun j u hj => ?_) (fun u hu => ?_) (by unfold maxLen; omega) (by omega) hB ?_
  · have := hb.cell j
    rw [List.getElem?_toArray, hj] at this
    rw [add0]; exact this
  · simp [Lib.byteCells] at hu
    obtain ⟨_, _, rfl⟩ := hu
    rfl
  · intro v' w' h2 h3 _
    exact hK v' w' (bys_put h2) ((Below.refl B w).grown h3 hB fun k hk => (World.ownsRow.lt h k hk).1)
theorem step_bys {ops : Array Oper} {o : Oper} {a : Act} {K : Act → World → Prop} {Q : Exit → Act → World → Prop} {E : Prop} (hgd : o.guard = none) (s x : Operand)
    (ho : o.op = .call { callee := .builtin .append, args := #[s, x], argTypes := #[38, 38] })
    (B : Nat) (l m : List UInt8) (v : Value) (hs : a.eval s = v) (h : Bys B l w v) (g c : Nat) (hx : a.eval x = .slice (some ⟨g, 0, none⟩) m.length c) (hb : Blk w g 5 (Lib.byteCells m).toArray)
    (hl : l.length + m.length ≤ 1000000000) (hB : B ≤ w.heap.size)
    (hK : ∀ v' w', Bys B (l ++ m) w' v' → Below B w w' → K (a.put o.dst v') w') : if Region.wanted o (yielded ops a.tmps) = true then Oper.wp Try.prog o a w K Q else E := by
  obtain ⟨i0, hi, hz0, hz1, hz2⟩ := info_parts infoB
  refine step_append_own w hgd s x 38 ho B 5 i0 (.int .u8 0) 1 1 Try.underlying38 hi hz0 hz1 hz2 rfl (by decide) v l.length (Lib.byteCells l) hs h ⟨g, 0, none⟩ m.length c (Lib.byteCells m) hx (by simp [Lib.byteCells]) (fun j u hj => ?_) (fun u hu => ?_) (by unfold maxLen; omega) (by omega) hB ?_
  · have := hb.cell j
    rw [List.getElem?_toArray, hj] at this
    rw [add0]; exact this
  · simp [Lib.byteCells] at hu
    obtain ⟨_, _, rfl⟩ := hu
    rfl
  · intro v' w' h2 h3 _
    exact hK v' w' (bys_put h2) ((Below.refl B w).grown h3 hB fun k hk => (World.ownsRow.lt h k hk).1)
end
theorem Bys.alloc {B : Nat} {l : List UInt8} {w : World} {v : Value} (h : Bys B l w v) (o : Obj) : Bys B l (w.alloc o) v := World.ownsRow.alloc h o
theorem conv_bys {B : Nat} {l : List UInt8} {w : World} {v : Value} (h : Bys B l w v) : (convert 38 9 v).run Try.prog w = .ok (.string ⟨l.toArray⟩) w := by
  rcases h.2 with ⟨rfl, h0⟩ | ⟨g, cap, cur, rfl, _, hg, _, _, _, ht⟩
  · obtain rfl : l = [] := List.eq_nil_of_length_eq_zero h0
    exact run_convert_bytes_nil w 38 5 Try.underlying38 Try.underlying5 0 0 9 Try.underlying9
  · refine run_convert_bytes_back w 38 9 5 ⟨g, 0, none⟩ cap l Try.underlying38 Try.underlying5 Try.underlying9 fun j hj => ?_
    have e : (cur.toList.take (l.length * 1))[j]? = (Lib.byteCells l)[j]? := by rw [ht]
    rw [add0, cell_of_row w g j cur _ _ hg]
    rw [List.getElem?_take_of_lt (by omega)] at e
    rw [← Array.getElem?_toList, e]
    simp [Lib.byteCells, List.getElem?_eq_getElem hj]

set_option maxRecDepth 100000 in
set_option maxHeartbeats 8000000 in
theorem refquote_c (s : ByteArray) (hs : s.size ≤ 20000000) (w : World) :
    Calls Try.prog 8 #[.string s] w fun e w' => e = .returned (.string ⟨(quo s.data.toList).toArray⟩) ∧ Below w.heap.size w w' := by
  have hy0 : Bys w.heap.size [34] (w.alloc (.cells #[.int .u8 34] 5)) (.slice (some ⟨w.heap.size, 0, none⟩) 1 1) := bys_new w [34] (by decide)
  have hu0 : Below w.heap.size w (w.alloc (.cells #[.int .u8 34] 5)) := (Below.refl _ _).alloc (Nat.le_refl _) _
  have HY0 := Lib.hid hy0; have HU0 := Lib.hid hu0
  clear hy0 hu0
  go_enter Try.func8, Try.ntmps8
  go_wp2_with fail
  go_loopg [3, 5] (s.size + 1) (fun gg s3 s5 wr => ∃ k : Nat, k ≤ s.size ∧ gg = s.size + 1 - k ∧ s5 = .int .i64 (k : Int) ∧ Bys w.heap.size (34 :: mks (s.data.toList.take k)) wr s3 ∧ Below w.heap.size w wr)
  case atStart => exact ⟨0, Nat.zero_le _, by omega, rfl, HY0.out, HU0.out⟩
  case round =>
    clear HY0 HU0
    obtain ⟨k, hk, hg, rfl, hb, hu⟩ := hrel
    have HG := Lib.hid hg; have HB := Lib.hid hb; have HU := Lib.hid hu
    clear hg hb hu
    by_cases hlt : k < s.size
    · have hltz : (k : Int) < (s.size : Int) := by omega
      have htk : s.data.toList.take (k + 1) = s.data.toList.take k ++ [s[k]] := List.take_succ_eq_append_getElem (by rw [← size_list]; exact hlt)
      have hmk := mks_snoc (s.data.toList.take k) s[k]
      rw [← htk] at hmk
      have hml := mks_len (s.data.toList.take k)
      have htl : (s.data.toList.take k).length = k := by rw [List.length_take, ← size_list]; omega
      have hln : (34 :: mks (s.data.toList.take k)).length ≤ 100000000 := by rw [List.length_cons]; omega
      have HMK := Lib.hid hmk; have HLN := Lib.hid hln
      clear htk hmk hml htl hln
      generalize hz : s[k] = c at HMK
      have hzn : (s[k].toNat : Int) = (c.toNat : Int) := by rw [hz]
      clear hz
      by_cases h34 : c = 34
      · subst h34
        have hzz : (s[k].toNat : Int) = 34 := hzn
        clear hzn
        go_wp2_with (at_builtin; refine wpList_bys _ rfl _ _ rfl w.heap.size (34 :: mks (s.data.toList.take k)) [92, 34] _ rfl (HB.out.alloc _) wr.heap.size 2 rfl (Blk.new wr 5 #[.int .u8 92, .int .u8 34]) (by have := HLN.out; simp only [List.length_cons, List.length_nil] at this ⊢; omega) (by have := HU.out.size; simp; omega) ?_; intro v3 w3 hy3 hb3; have HY3 := Lib.hid hy3; have HB3 := Lib.hid ((HU.out.alloc (by have := HU.out.size; omega) _).trans hb3); clear hy3 hb3)
        go_roundg (s.size + 1 - (k + 1))
        case measure => have := HG.out; omega
        case rel =>
          refine ⟨k + 1, by omega, rfl, by go_num, ?_, HB3.out⟩
          rw [HMK.out]
          exact HY3.out
      by_cases h92 : c = 92
      · subst h92
        have hzz : (s[k].toNat : Int) = 92 := hzn
        clear hzn
        go_wp2_with (at_builtin; refine wpList_bys _ rfl _ _ rfl w.heap.size (34 :: mks (s.data.toList.take k)) [92, 92] _ rfl (HB.out.alloc _) wr.heap.size 2 rfl (Blk.new wr 5 #[.int .u8 92, .int .u8 92]) (by have := HLN.out; simp only [List.length_cons, List.length_nil] at this ⊢; omega) (by have := HU.out.size; simp; omega) ?_; intro v3 w3 hy3 hb3; have HY3 := Lib.hid hy3; have HB3 := Lib.hid ((HU.out.alloc (by have := HU.out.size; omega) _).trans hb3); clear hy3 hb3)
        go_roundg (s.size + 1 - (k + 1))
        case measure => have := HG.out; omega
        case rel =>
          refine ⟨k + 1, by omega, rfl, by go_num, ?_, HB3.out⟩
          rw [HMK.out]
          exact HY3.out
      by_cases h10 : c = 10
      · subst h10
        have hzz : (s[k].toNat : Int) = 10 := hzn
        clear hzn
        go_wp2_with (at_builtin; refine wpList_bys _ rfl _ _ rfl w.heap.size (34 :: mks (s.data.toList.take k)) [92, 110] _ rfl (HB.out.alloc _) wr.heap.size 2 rfl (Blk.new wr 5 #[.int .u8 92, .int .u8 110]) (by have := HLN.out; simp only [List.length_cons, List.length_nil] at this ⊢; omega) (by have := HU.out.size; simp; omega) ?_; intro v3 w3 hy3 hb3; have HY3 := Lib.hid hy3; have HB3 := Lib.hid ((HU.out.alloc (by have := HU.out.size; omega) _).trans hb3); clear hy3 hb3)
        go_roundg (s.size + 1 - (k + 1))
        case measure => have := HG.out; omega
        case rel =>
          refine ⟨k + 1, by omega, rfl, by go_num, ?_, HB3.out⟩
          rw [HMK.out]
          exact HY3.out
      by_cases h9 : c = 9
      · subst h9
        have hzz : (s[k].toNat : Int) = 9 := hzn
        clear hzn
        go_wp2_with (at_builtin; refine wpList_bys _ rfl _ _ rfl w.heap.size (34 :: mks (s.data.toList.take k)) [92, 116] _ rfl (HB.out.alloc _) wr.heap.size 2 rfl (Blk.new wr 5 #[.int .u8 92, .int .u8 116]) (by have := HLN.out; simp only [List.length_cons, List.length_nil] at this ⊢; omega) (by have := HU.out.size; simp; omega) ?_; intro v3 w3 hy3 hb3; have HY3 := Lib.hid hy3; have HB3 := Lib.hid ((HU.out.alloc (by have := HU.out.size; omega) _).trans hb3); clear hy3 hb3)
        go_roundg (s.size + 1 - (k + 1))
        case measure => have := HG.out; omega
        case rel =>
          refine ⟨k + 1, by omega, rfl, by go_num, ?_, HB3.out⟩
          rw [HMK.out]
          exact HY3.out
      have n34 : ((s[k].toNat : Int) == 34) = false := by rw [hzn, beq_eq_false_iff_ne]; exact fun e => h34 (UInt8.toNat_inj.1 (by show c.toNat = 34; omega))
      have n92 : ((s[k].toNat : Int) == 92) = false := by rw [hzn, beq_eq_false_iff_ne]; exact fun e => h92 (UInt8.toNat_inj.1 (by show c.toNat = 92; omega))
      have n10 : ((s[k].toNat : Int) == 10) = false := by rw [hzn, beq_eq_false_iff_ne]; exact fun e => h10 (UInt8.toNat_inj.1 (by show c.toNat = 10; omega))
      have n9 : ((s[k].toNat : Int) == 9) = false := by rw [hzn, beq_eq_false_iff_ne]; exact fun e => h9 (UInt8.toNat_inj.1 (by show c.toNat = 9; omega))
      by_cases hself : selfB c = true
      · have hm := mk_self hself
        rw [hm] at HMK
        unfold selfB at hself
        have hself := of_decide_eq_true hself
        have n32 : ¬ (s[k].toNat : Int) < 32 := by rw [hzn]; omega
        have n127 : ((s[k].toNat : Int) == 127) = false := by rw [hzn, beq_eq_false_iff_ne]; omega
        have HN := Lib.hid hzn
        clear hself hm h34 h92 h10 h9 hzn
        go_wp2_with (at_builtin; refine wpList_bys _ rfl _ _ rfl w.heap.size (34 :: mks (s.data.toList.take k)) [c] _ rfl (HB.out.alloc _) wr.heap.size 1 rfl (by have := Blk.new wr 5 #[.int .u8 (s[k].toNat : Int)]; rw [HN.out] at this ⊢; exact this) (by have := HLN.out; simp only [List.length_cons, List.length_nil] at this ⊢; omega) (by have := HU.out.size; simp; omega) ?_; intro v3 w3 hy3 hb3; have HY3 := Lib.hid hy3; have HB3 := Lib.hid ((HU.out.alloc (by have := HU.out.size; omega) _).trans hb3); clear hy3 hb3)
        go_roundg (s.size + 1 - (k + 1))
        case measure => have := HG.out; omega
        case rel =>
          refine ⟨k + 1, by omega, rfl, by go_num, ?_, HB3.out⟩
          rw [HMK.out]
          exact HY3.out
      · have hself : selfB c = false := by simpa using hself
        have hm := mk_hex hself h34 h92 h10 h9
        rw [hm] at HMK
        unfold selfB at hself
        have hself := of_decide_eq_false hself
        rw [hzn] at n34 n92 n10 n9
        have h256 : c.toNat < 256 := c.toNat_lt
        have hd : 0 ≤ (c.toNat : Int) / 16 ∧ (c.toNat : Int) / 16 < 16 := by omega
        have hm : 0 ≤ (c.toNat : Int) % 16 ∧ (c.toNat : Int) % 16 < 16 := by omega
        have g1 : ∀ h, (⟨#[48, 49, 50, 51, 52, 53, 54, 55, 56, 57, 97, 98, 99, 100, 101, 102]⟩ : ByteArray)[((c.toNat : Int) / 16).toNat]'h = hx (c.toNat / 16) := hx_get _ _ (by omega) (by omega)
        have g2 : ∀ h, (⟨#[48, 49, 50, 51, 52, 53, 54, 55, 56, 57, 97, 98, 99, 100, 101, 102]⟩ : ByteArray)[((c.toNat : Int) % 16).toNat]'h = hx (c.toNat % 16) := hx_get _ _ (by omega) (by omega)
        have ew2 : IntKind.i64.wrap (c.toNat : Int) = (c.toNat : Int) := IntWalk.i64_in _ (by omega)
        have ew3 : IntKind.i64.wrap ((c.toNat : Int) / 16) = (c.toNat : Int) / 16 := IntWalk.i64_in _ (by omega)
        have etm : (c.toNat : Int).tmod 16 = (c.toNat : Int) % 16 := Int.tmod_eq_emod_of_nonneg (by omega)
        clear h34 h92 h10 h9
        by_cases h32 : (c.toNat : Int) < 32
        · clear hself
          go_wp2_with fail
          go_region_law (refine step_bys _ rfl _ _ rfl w.heap.size (34 :: mks (s.data.toList.take k)) [92, 120, hx (c.toNat / 16), hx (c.toNat % 16)] _ rfl ((HB.out : Bys _ _ wr.drew _).alloc _) wr.heap.size 4 rfl (Blk.new wr.drew 5 #[.int .u8 92, .int .u8 120, .int .u8 ((hx (c.toNat / 16)).toNat : Int), .int .u8 ((hx (c.toNat % 16)).toNat : Int)]) (by have := HLN.out; simp only [List.length_cons, List.length_nil] at this ⊢; omega) (by have := HU.out.size; simp; omega) ?_; intro v3 w3 hy3 hb3; have HY3 := Lib.hid hy3; have HB3 := Lib.hid ((HU.out.drew.alloc (by have := HU.out.size; simp; omega) _).trans hb3); clear hy3 hb3)
          all_goals
            go_wp2_with fail
            go_roundg (s.size + 1 - (k + 1))
            case measure => have := HG.out; omega
            case rel =>
              refine ⟨k + 1, by omega, rfl, by go_num, ?_, HB3.out⟩
              rw [HMK.out]
              exact HY3.out
        · have h127 : c.toNat = 127 := by
            have e1 : c.toNat ≠ 34 := fun e => by rw [e] at n34; exact absurd n34 (by decide)
            have e2 : c.toNat ≠ 92 := fun e => by rw [e] at n92; exact absurd n92 (by decide)
            omega
          have n127 : ((c.toNat : Int) == 127) = true := by rw [h127]; rfl
          clear hself h127
          go_wp2_with fail
          go_region_law (refine step_bys _ rfl _ _ rfl w.heap.size (34 :: mks (s.data.toList.take k)) [92, 120, hx (c.toNat / 16), hx (c.toNat % 16)] _ rfl ((HB.out : Bys _ _ wr.drew _).alloc _) wr.heap.size 4 rfl (Blk.new wr.drew 5 #[.int .u8 92, .int .u8 120, .int .u8 ((hx (c.toNat / 16)).toNat : Int), .int .u8 ((hx (c.toNat % 16)).toNat : Int)]) (by have := HLN.out; simp only [List.length_cons, List.length_nil] at this ⊢; omega) (by have := HU.out.size; simp; omega) ?_; intro v3 w3 hy3 hb3; have HY3 := Lib.hid hy3; have HB3 := Lib.hid ((HU.out.drew.alloc (by have := HU.out.size; simp; omega) _).trans hb3); clear hy3 hb3)
          all_goals
            go_wp2_with fail
            go_roundg (s.size + 1 - (k + 1))
            case measure => have := HG.out; omega
            case rel =>
              refine ⟨k + 1, by omega, rfl, by go_num, ?_, HB3.out⟩
              rw [HMK.out]
              exact HY3.out
    · have hltz : ¬ (k : Int) < (s.size : Int) := by omega
      obtain rfl : k = s.size := by omega
      have htk : s.data.toList.take s.size = s.data.toList := by rw [size_list, List.take_length]
      have hml := mks_len s.data.toList
      rw [← size_list] at hml
      have hln : (34 :: mks s.data.toList).length ≤ 100000000 := by rw [List.length_cons]; omega
      rw [htk] at HB
      have HLN := Lib.hid hln
      clear htk hml hln
      go_wp2_with (at_builtin; refine wpList_bys _ rfl _ _ rfl w.heap.size (34 :: mks s.data.toList) [34] _ rfl (HB.out.alloc _) wr.heap.size 1 rfl (Blk.new wr 5 #[.int .u8 34]) (by have := HLN.out; simp only [List.length_cons, List.length_nil] at this ⊢; omega) (by have := HU.out.size; simp; omega) ?_; intro v3 w3 hy3 hb3; have HB3 := Lib.hid ((HU.out.alloc (by have := HU.out.size; omega) _).trans hb3); have HC := Lib.hid (conv_bys hy3); clear hy3 hb3)
      rw [HC.out]
      simp only [Result.andThen]
      rw [Oper.upon_value]
      go_wp2_with fail
      go_ret
      exact ⟨rfl, HB3.out⟩
end Go.Proofs.Yteppdnlchjpekaa
