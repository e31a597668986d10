/- Sa, Sb, Sc, Sd in one text. -/
import Derived.Test.YtlhkjmckigblpaaGreatDoorCo
import Derived.Test.YtlhkjmckigblpaaGreatDoorUb
/- Sa: The document's own writers of layer 3: bytes behind others, turned, a number's. -/
namespace Go.Proofs.YtlhkjmckigblpaaGreatDoor
open Go.RowKit Cp Rm
open Go
attribute [local go_sem] Oper.semAt_some

theorem hands_of {B : Nat} {l : List UInt8} {w : World} {v : Value} (h : Bys B l w v) : Hands w v l := by
  by_cases hl : l = []
  · subst hl
    rcases h.2 with ⟨rfl, _⟩ | ⟨g, c, cur, rfl, _⟩
    · exact .inl ⟨rfl, rfl⟩
    · exact .inr ⟨_, c, rfl, fun i hi => absurd hi (Nat.not_lt_zero _), fun h => absurd rfl h⟩
  · exact h.hands hl
theorem own_low {B B' : Nat} {l : List UInt8} {v : Value} {w : World} (h : Bys B l w v) (hB : B' ≤ B) : Bys B' l w v := by
  obtain ⟨h1, h2⟩ := h
  refine ⟨h1, ?_⟩
  rcases h2 with h2 | ⟨g, cap, cur, e1, e2, e3⟩
  · exact .inl h2
  · exact .inr ⟨g, cap, cur, e1, Nat.le_trans hB e2, e3⟩
/-- One byte in memory of its own. -/
theorem one_own (w : World) (c : UInt8) : Bys w.heap.size [c] (w.alloc (.cells #[.int .u8 (c.toNat : Int)] 5)) (.slice (some ⟨w.heap.size, 0, none⟩) 1 1) :=
  ⟨rfl, .inr ⟨w.heap.size, 1, #[.int .u8 (c.toNat : Int)], rfl, Nat.le_refl _, heap_alloc_new w _, Nat.le_refl _, by decide, rfl, rfl⟩⟩
set_option maxRecDepth 100000 in
set_option maxHeartbeats 4000000 in
theorem with_c (a b : List UInt8) (u v : Value) (w : World) (ha : Hands w u a) (hb : Hands w v b) (hl : a.length ≤ 70000000000000) (hl2 : b.length ≤ 70000000000000) :
    Calls Tryz.prog 63 #[u, v] w fun e w' => Gives w.heap.size w (a ++ b) e w' := by
  have HA := Lib.hid ha; have HB := Lib.hid hb
  clear ha hb
  have h0 : (w.alloc (.cells #[] 5)).ownsRow w.heap.size 5 1 (.slice (some ⟨w.heap.size, 0, none⟩) 0 0) 0 [] := ⟨rfl, .inr ⟨w.heap.size, 0, #[], rfl, Nat.le_refl _, heap_alloc_new w _, Nat.le_refl _, by decide, rfl, rfl⟩⟩
  have hw0 : Below w.heap.size w (w.alloc (.cells #[] 5)) := (Below.refl _ _).alloc (Nat.le_refl _) _
  have HO := Lib.hid h0; have HW := Lib.hid hw0
  clear h0 hw0
  go_enter Tryz.func63, Tryz.ntmps63
  go_wp2_with (first
    | (at_builtin; refine wpList_appL _ rfl (.tmp 5) (.tmp 6) 23 rfl w.heap.size 5 (.int .u8 0) Tryz.underlying23 infoB rfl _ 0 [] rfl HO.out u a rfl (HA.out.under HW.out) (by omega) HW.out.size ?_; intro v1 w1 hy1 hb1; have HY1 := Lib.hid hy1; have HB1 := Lib.hid (HW.out.trans hb1); clear hy1 hb1)
    | (at_builtin; refine wpList_appL _ rfl (.tmp 7) (.tmp 8) 23 rfl w.heap.size 5 (.int .u8 0) Tryz.underlying23 infoB rfl _ (0 + a.length) ([] ++ Lib.byteCells a) rfl HY1.out v b rfl (HB.out.under HB1.out) (by omega) HB1.out.size ?_; intro v2 w2 hy2 hb2; have HY2 := Lib.hid hy2; have HB2 := Lib.hid (HB1.out.trans hb2); clear hy2 hb2))
  go_ret
  refine Gives.mk_ ?_ HB2.out
  have := HY2.out
  unfold Bys
  rw [byteCells_app, List.length_append]
  simpa using this

theorem sub_fin : ∀ n : Fin 256, (255 : Int) - (n.val : Int) = ((UInt8.ofNat n.val ^^^ 255).toNat : Int) := by decide +kernel
theorem sub_of (x : UInt8) : (255 : Int) - (x.toNat : Int) = ((x ^^^ 255).toNat : Int) := by
  have := sub_fin ⟨x.toNat, x.toNat_lt⟩
  simpa using this

set_option maxRecDepth 100000 in
set_option maxHeartbeats 4000000 in
theorem turned_c (B : Nat) (l : List UInt8) (v : Value) (w : World) (h : Bys B l w v) (hl : l.length ≤ 70000000000000) :
    Calls Tryz.prog 64 #[v] w fun e w' => Gives w.heap.size w (xm 255 l) e w' := by
  obtain ⟨A, C, rfl, _, _, _⟩ := own_slice h
  have HY := Lib.hid h
  have hcell : ∀ (wr : World), Below w.heap.size w wr → ∀ i (hi : i < l.length), ∃ g, A = some ⟨g, 0, none⟩ ∧ wr.cell? ⟨g, i, none⟩ = some (.int .u8 ((l[i]).toNat : Int)) := fun wr hb i hi => by
    have hy := h.under hb
    obtain ⟨g, c, e⟩ := hy.some_ (by intro e; rw [e] at hi; exact absurd hi (Nat.not_lt_zero _))
    injection e with e1 _ e3
    subst e1; subst e3
    exact ⟨g, rfl, hy.cell (i := i) (List.getElem?_eq_getElem hi)⟩
  have HCL := Lib.hid hcell
  obtain ⟨n, hn⟩ : ∃ n, l.length = n := ⟨_, rfl⟩
  have HN := Lib.hid hn
  rw [hn] at hl ⊢
  clear h hcell hn
  go_enter Tryz.func64, Tryz.ntmps64
  go_wp2_with fail
  go_loopg [4, 3] (n + 1) (fun gg s4 s3 wr => ∃ (i : Nat) (A' : Option Addr) (c' : Nat), i ≤ n ∧ gg = n + 1 - i ∧ s4 = .int .i64 (i : Int) ∧ s3 = .slice A' i c' ∧ Bys w.heap.size (xm 255 (l.take i)) wr (.slice A' i c') ∧ Below w.heap.size w wr)
  case atStart => exact ⟨0, none, 0, Nat.zero_le _, rfl, rfl, rfl, ⟨rfl, .inl ⟨rfl, rfl⟩⟩, Below.refl _ _⟩
  case round =>
    obtain ⟨i, A', c', hi, hg, rfl, rfl, hy, hb⟩ := hrel
    have HG := Lib.hid hg; have HYR := Lib.hid hy; have HB := Lib.hid hb
    clear hg hy hb
    by_cases hin : i < n
    · have hiz : (i : Int) < (n : Int) := by omega
      have hil : i < l.length := by rw [HN.out]; exact hin
      obtain ⟨g, rfl, hc⟩ := HCL.out wr HB.out i hil
      have htk := xm_take 255 l hil
      have hsub := sub_of l[i]
      have hxl := (l[i] ^^^ 255).toNat_lt
      generalize l[i] = y at hc htk hsub hxl
      obtain ⟨z, hz⟩ : ∃ z, (y ^^^ 255).toNat = z := ⟨_, rfl⟩
      rw [hz] at hsub hxl
      have hlen : (xm 255 (l.take i)).length = i := by rw [xm_len, List.length_take, HN.out]; omega
      have HOW := Lib.hid (show wr.ownsRow w.heap.size 5 1 (.slice A' i c') i (Lib.byteCells (xm 255 (l.take i))) by have := HYR.out; unfold Bys at this; rwa [hlen] at this)
      have HTK := Lib.hid htk; have HLEN := Lib.hid hlen; have HZ := Lib.hid hz
      have hsz : w.heap.size ≤ wr.heap.size := HB.out.size
      clear htk hlen hz hil
      go_wp2_with (at_builtin; refine wpList_appB _ rfl (.tmp 11) (.tmp 17) 23 rfl w.heap.size 5 (.int .u8 0) Tryz.underlying23 infoB rfl _ i _ rfl (HOW.out.alloc _) wr.heap.size 1 (.int .u8 (z : Int)) rfl (by simp [World.cell?_alloc_new]) (by simp [Value.oneCell']) (by omega) (by simp; omega) ?_; intro g' cap' w3 hA; have HA := Lib.hid hA; clear hA)
      go_roundg (n + 1 - (i + 1))
      case measure => have := HG.out; omega
      case rel =>
        refine ⟨i + 1, _, _, by omega, rfl, by go_num, rfl, ?_, (HB.out.alloc hsz _).trans HA.out.2.2⟩
        have := HA.out.1
        rw [HTK.out]
        unfold Bys
        rw [byteCells_app, List.length_append, HLEN.out]
        have e1 : Lib.byteCells [y ^^^ 255] = [.int .u8 (z : Int)] := by rw [byteCells_one, HZ.out]
        rw [e1]
        exact this
    · have hiz : ¬ (i : Int) < (n : Int) := by omega
      obtain rfl : i = n := by omega
      have htl : l.take i = l := List.take_of_length_le (by rw [HN.out]; exact Nat.le_refl _)
      rw [htl] at HYR
      clear htl
      go_wp2_with fail
      go_ret
      exact Gives.mk_ HYR.out HB.out
end Go.Proofs.YtlhkjmckigblpaaGreatDoor
/- Sb: The document's own writers of layer 3: numbers, counts, texts, truth values. -/
namespace Go.Proofs.YtlhkjmckigblpaaGreatDoor
open Go.RowKit Cp Rm
open Go
attribute [local go_sem] Oper.semAt_some

theorem osz_end {n j : Nat} (hn : n < 18446744073709551616) (h0 : n / 256 ^ j = 0) (h1 : j = 0 ∨ n / 256 ^ (j - 1) ≠ 0) : j = osz n := by
  have hlt : n < 256 ^ j := by
    rcases Nat.lt_or_ge n (256 ^ j) with h | h
    · exact h
    · have := Nat.div_pos h (Nat.pow_pos (by decide)); omega
  rcases h1 with rfl | h1
  · have : n = 0 := by simpa using hlt
    subst this; exact osz_zero.symm
  · have hge : 256 ^ (j - 1) ≤ n := by
      rcases Nat.lt_or_ge n (256 ^ (j - 1)) with h | h
      · exact absurd (Nat.div_eq_of_lt h) h1
      · exact h
    have hj : j ≠ 0 := by
      rintro rfl
      simp at h0 h1
      omega
    obtain ⟨i, rfl⟩ : ∃ i, j = i + 1 := ⟨j - 1, by omega⟩
    rw [Nat.add_sub_cancel] at hge
    have h8 : i + 1 ≤ 8 := by
      rcases Nat.lt_or_ge 8 (i + 1) with h | h
      · have : (256 : Nat) ^ 8 ≤ 256 ^ i := Nat.pow_le_pow_right (by decide) (by omega)
        rw [pow8] at this
        omega
      · exact h
    exact (osz_is h8 hge hlt).symm
set_option maxRecDepth 100000 in
set_option maxHeartbeats 4000000 in
theorem rdig_c (n : Nat) (hn : n < 18446744073709551616) (w : World) :
    Calls Tryz.prog 65 #[.int .u64 (n : Int)] w fun e w' => Gives w.heap.size w (be (osz n) n) e w' := by
  have HNN := Lib.hid hn
  go_enter Tryz.func65, Tryz.ntmps65
  go_wp2_with fail
  go_loopg [0, 3] (n + 1) (fun gg s0 s3 wr => ∃ (j u : Nat), u = n / 256 ^ j ∧ gg = u + 1 ∧ s0 = .int .u64 (u : Int) ∧ (j = 0 ∨ n / 256 ^ (j - 1) ≠ 0) ∧ j ≤ 8 ∧ u < 18446744073709551616 ∧ Bys w.heap.size (be j n) wr s3 ∧ Below w.heap.size w wr)
  case atStart => exact ⟨0, n, by simp, rfl, rfl, .inl rfl, by omega, hn, ⟨rfl, .inl ⟨rfl, rfl⟩⟩, Below.refl _ _⟩
  case round =>
    obtain ⟨j, u, hu, hg, rfl, hj, hj8, hu64, hy, hb⟩ := hrel
    have HU := Lib.hid hu; have HG := Lib.hid hg; have HJ := Lib.hid hj; have HJ8 := Lib.hid hj8; have HY := Lib.hid hy; have HB := Lib.hid hb
    clear hu hg hj hj8 hy hb hn
    by_cases hu0 : u = 0
    · subst hu0
      have he : j = osz n := osz_end HNN.out HU.out.symm HJ.out
      have HE := Lib.hid he
      clear he hu64
      go_wp2_with fail
      go_ret
      exact Gives.mk_ (by have := HY.out; rw [← HE.out]; exact this) HB.out
    · have huz : (0 : Int) < (u : Int) := by omega
      have hmod : (u : Int) % 256 = ((UInt8.ofNat (n / 256 ^ j)).toNat : Int) := by rw [ofNat_mod, ← HU.out]; omega
      have hj7 : j < 8 := by
        rcases Nat.lt_or_ge j 8 with h | h
        · exact h
        · exfalso
          have : (256 : Nat) ^ 8 ≤ 256 ^ j := Nat.pow_le_pow_right (by decide) h
          rw [pow8] at this
          have h2 := HU.out
          rw [Nat.div_eq_of_lt (by have := HNN.out; omega)] at h2
          exact hu0 h2
      have hnext : u / 256 = n / 256 ^ (j + 1) := by rw [HU.out, Nat.div_div_eq_div_mul, Nat.pow_succ]
      have HNX := Lib.hid hnext; have HJ7 := Lib.hid hj7
      have hzb : 0 ≤ (u : Int) % 256 ∧ (u : Int) % 256 < 256 := by omega
      obtain ⟨x, hx⟩ : ∃ x, UInt8.ofNat (n / 256 ^ j) = x := ⟨_, rfl⟩
      have hbe : be (j + 1) n = x :: be j n := by rw [be, hx]
      rw [hx] at hmod
      have HBE := Lib.hid hbe
      have hxl := x.toNat_lt
      have HON := Lib.hid (one_own wr x)
      have HHA := Lib.hid ((hands_of HY.out).under ((Below.refl wr.heap.size wr).alloc (Nat.le_refl _) (.cells #[.int .u8 (x.toNat : Int)] 5)))
      have hsz : w.heap.size ≤ wr.heap.size := HB.out.size
      have HU0 := Lib.hid hu0
      clear hnext hbe hx hj7 hu0
      go_wp2_with (at_builtin; refine wpList_appL _ rfl (.tmp 9) (.tmp 10) 23 rfl wr.heap.size 5 (.int .u8 0) Tryz.underlying23 infoB rfl _ 1 (Lib.byteCells [x]) rfl HON.out _ (be j n) rfl HHA.out (by rw [be_len]; have := HJ7.out; omega) (by simp) ?_; intro v3 w3 hA hb3; have HA := Lib.hid hA; have HB3 := Lib.hid hb3; clear hA hb3)
      go_roundg (u / 256 + 1)
      case measure => have := HG.out; have := HU0.out; omega
      case rel =>
        refine ⟨j + 1, u / 256, HNX.out, rfl, by go_num, .inr (by rw [Nat.add_sub_cancel, ← HU.out]; exact HU0.out), HJ7.out, by omega, ?_, (HB.out.alloc hsz _).trans (HB3.out.mono hsz)⟩
        rw [HBE.out]
        have := HA.out
        refine own_low ?_ hsz
        unfold Bys
        rw [be_len] at this
        rw [List.length_cons, be_len, show x :: be j n = [x] ++ be j n from rfl, byteCells_app, Nat.add_comm]
        exact this
end Go.Proofs.YtlhkjmckigblpaaGreatDoor
/- Sc: The document's own writers of layer 3: what they write. -/
namespace Go.Proofs.YtlhkjmckigblpaaGreatDoor
open Go.RowKit Cp Rm
open Go
attribute [local go_sem] Oper.semAt_some

theorem hands_nil (w : World) : Hands w (.slice none 0 0) [] := .inl ⟨rfl, rfl⟩
theorem ofNat_val {k : Nat} (h : k < 256) : ((UInt8.ofNat k).toNat : Int) = (k : Int) := by rw [ofNat_mod, Nat.mod_eq_of_lt h]
theorem own_le {base n : Nat} (hn : n < 18446744073709551616) : (own base n).length ≤ 9 := by rw [own_len]; have := osz_le hn; omega
set_option maxRecDepth 100000 in
set_option maxHeartbeats 4000000 in
theorem rnum_pos (l : List UInt8) (u : Value) (n : Nat) (hn : n ≤ 9223372036854775807) (w : World) (h : Hands w u l) (hl : l.length ≤ 60000000000000) :
    Calls Tryz.prog 29 #[u, .int .i64 (n : Int)] w fun e w' => Gives w.heap.size w (l ++ own 128 n) e w' := by
  have hn64 : n < 18446744073709551616 := by omega
  have HD := Lib.hid (rdig_c n hn64 w)
  have hz8 := osz_le hn64
  have hown : own 128 n = UInt8.ofNat (128 + osz n) :: be (osz n) n := rfl
  obtain ⟨z, hz⟩ : ∃ z, osz n = z := ⟨_, rfl⟩
  rw [hz] at HD hz8 hown
  have hbl := be_len z n
  obtain ⟨d, hd⟩ : ∃ d, be z n = d := ⟨_, rfl⟩
  rw [hd] at HD hown hbl
  have hx := ofNat_val (k := 128 + z) (by omega)
  obtain ⟨x, hxx⟩ : ∃ x, UInt8.ofNat (128 + z) = x := ⟨_, rfl⟩
  rw [hxx] at hx hown
  have hx2 : (128 : Int) + (z : Int) = (x.toNat : Int) := by rw [hx]; omega
  have hx3 : (z : Int) = (x.toNat : Int) - 128 := by omega
  have hxl := x.toNat_lt
  rw [hown]
  have HU := Lib.hid h; have HBL := Lib.hid hbl; have HX := Lib.hid hx2
  have hnz : ¬ (n : Int) < 0 := by omega
  have hnz2 : ¬ (2147483647 : Int) < (n : Int) ∨ True := .inr trivial
  clear h hown hz hd hbl hxx hx hx3 hnz2 hx2
  go_enter Tryz.func29, Tryz.ntmps29
  go_wp2_with fail
  refine HD.out.mono ?_
  rintro e w1 ⟨v1, rfl, hy1, hb1⟩
  have HY1 := Lib.hid hy1; have HB1 := Lib.hid hb1
  obtain ⟨A1, C1, rfl, _, _, _⟩ := own_slice hy1
  rw [HBL.out] at HY1 ⊢
  have hd1 := hands_of hy1
  rw [HBL.out] at hd1
  have HO := Lib.hid (with_c [x] d _ (.slice A1 z C1) (w1.alloc (.cells #[.int .u8 (x.toNat : Int)] 5)) (hands_of (one_own w1 x)) (hd1.under ((Below.refl _ _).alloc (Nat.le_refl _) _)) (by simp) (by have := HBL.out; omega))
  have HB1A := Lib.hid (hb1.alloc hb1.size (.cells #[.int .u8 (x.toNat : Int)] 5))
  have hxz := HX.out
  clear hy1 hb1 hd1 HD
  go_wp2_with fail
  refine HO.out.mono ?_
  rintro e w2 ⟨v2, rfl, hy2, hb2⟩
  have HB2 := Lib.hid (HB1A.out.trans (hb2.mono HB1A.out.size))
  have HO2 := Lib.hid (with_c l _ u v2 w2 (HU.out.under HB2.out) (hands_of hy2) (by omega) (by have := HBL.out; simp; omega))
  clear hy2 hb2 HO hxz
  go_wp2_with fail
  refine HO2.out.mono ?_
  rintro e w3 ⟨v3, rfl, hy3, hb3⟩
  have HY3 := Lib.hid (own_low hy3 HB2.out.size); have HB3 := Lib.hid (HB2.out.trans (hb3.mono HB2.out.size))
  clear hy3 hb3 HO2
  go_wp2_with fail
  go_ret
  exact Gives.mk_ HY3.out HB3.out

set_option maxRecDepth 100000 in
set_option maxHeartbeats 4000000 in
theorem rcount_pos (l : List UInt8) (u : Value) (n : Nat) (hn : n ≤ 2147483647) (w : World) (h : Hands w u l) (hl : l.length ≤ 60000000000000) :
    Calls Tryz.prog 30 #[u, .int .i64 (n : Int)] w fun e w' => Gives w.heap.size w (l ++ own 0 n) e w' := by
  have hn64 : n < 18446744073709551616 := by omega
  have HD := Lib.hid (rdig_c n hn64 w)
  have hz8 := osz_le hn64
  have hown : own 0 n = UInt8.ofNat (0 + osz n) :: be (osz n) n := rfl
  obtain ⟨z, hz⟩ : ∃ z, osz n = z := ⟨_, rfl⟩
  rw [hz] at HD hz8 hown
  have hbl := be_len z n
  obtain ⟨d, hd⟩ : ∃ d, be z n = d := ⟨_, rfl⟩
  rw [hd] at HD hown hbl
  have hx := ofNat_val (k := 0 + z) (by omega)
  obtain ⟨x, hxx⟩ : ∃ x, UInt8.ofNat (0 + z) = x := ⟨_, rfl⟩
  rw [hxx] at hx hown
  have hx2 : (0 : Int) + (z : Int) = (x.toNat : Int) := by rw [hx]; omega
  have hx3 : (z : Int) = (x.toNat : Int) - 0 := by omega
  have hxl := x.toNat_lt
  rw [hown]
  have HU := Lib.hid h; have HBL := Lib.hid hbl; have HX := Lib.hid hx2
  have hnz : ¬ (n : Int) < 0 := by omega
  have hnz2 : ¬ (2147483647 : Int) < (n : Int) ∨ True := .inr trivial
  have hnm : ¬ (2147483647 : Int) < (n : Int) := by omega
  clear h hown hz hd hbl hxx hx hx3 hnz2 hx2
  go_enter Tryz.func30, Tryz.ntmps30
  go_wp2_with fail
  refine HD.out.mono ?_
  rintro e w1 ⟨v1, rfl, hy1, hb1⟩
  have HY1 := Lib.hid hy1; have HB1 := Lib.hid hb1
  obtain ⟨A1, C1, rfl, _, _, _⟩ := own_slice hy1
  rw [HBL.out] at HY1 ⊢
  have hd1 := hands_of hy1
  rw [HBL.out] at hd1
  have HO := Lib.hid (with_c [x] d _ (.slice A1 z C1) (w1.alloc (.cells #[.int .u8 (x.toNat : Int)] 5)) (hands_of (one_own w1 x)) (hd1.under ((Below.refl _ _).alloc (Nat.le_refl _) _)) (by simp) (by have := HBL.out; omega))
  have HB1A := Lib.hid (hb1.alloc hb1.size (.cells #[.int .u8 (x.toNat : Int)] 5))
  rw [show (x.toNat : Int) = (z : Int) by have := HX.out; omega] at HO HB1A
  clear hy1 hb1 hd1 HD
  go_wp2_with fail
  refine HO.out.mono ?_
  rintro e w2 ⟨v2, rfl, hy2, hb2⟩
  have HB2 := Lib.hid (HB1A.out.trans (hb2.mono HB1A.out.size))
  have HO2 := Lib.hid (with_c l _ u v2 w2 (HU.out.under HB2.out) (hands_of hy2) (by omega) (by have := HBL.out; simp; omega))
  clear hy2 hb2 HO
  go_wp2_with fail
  refine HO2.out.mono ?_
  rintro e w3 ⟨v3, rfl, hy3, hb3⟩
  have HY3 := Lib.hid (own_low hy3 HB2.out.size); have HB3 := Lib.hid (HB2.out.trans (hb3.mono HB2.out.size))
  clear hy3 hb3 HO2
  go_wp2_with fail
  go_ret
  exact Gives.mk_ HY3.out HB3.out

set_option maxRecDepth 100000 in
set_option maxHeartbeats 4000000 in
theorem rnum_c (l : List UInt8) (u : Value) (n : Int) (h0 : -9223372036854775808 ≤ n) (h1 : n ≤ 9223372036854775807) (w : World) (h : Hands w u l) (hl : l.length ≤ 60000000000000) :
    Calls Tryz.prog 29 #[u, .int .i64 n] w fun e w' => Gives w.heap.size w (l ++ numB n) e w' := by
  by_cases hn : 0 ≤ n
  · obtain ⟨m, rfl⟩ : ∃ m : Nat, n = (m : Int) := ⟨n.toNat, by omega⟩
    unfold numB
    rw [if_pos hn, Int.toNat_natCast]
    exact rnum_pos l u m (by omega) w h hl
  · obtain ⟨m, rfl⟩ : ∃ m : Nat, n = -1 - (m : Int) := ⟨(-1 - n).toNat, by omega⟩
    unfold numB
    rw [if_neg hn, show (-1 - (-1 - (m : Int))).toNat = m by omega, comp_xm]
    have HP := Lib.hid (rnum_pos [] (.slice none 0 0) m (by omega) w (hands_nil w) (by decide))
    rw [List.nil_append] at HP
    have hle := own_le (base := 128) (n := m) (by omega)
    generalize own 128 m = d at HP hle ⊢
    have HU := Lib.hid h
    obtain ⟨q, hq⟩ : ∃ q, -1 - (m : Int) = q := ⟨_, rfl⟩
    rw [hq]
    have hqz : q < 0 := by omega
    have hneg : -(q + 1) = (m : Int) := by omega
    have hneg2 : -q - 1 = (m : Int) := by omega
    have hm : (m : Int) ≤ 9223372036854775807 := by omega
    clear h hq hn h0 h1
    go_enter Tryz.func29, Tryz.ntmps29
    go_wp2_with fail
    refine HP.out.mono ?_
    rintro e w1 ⟨v1, rfl, hy1, hb1⟩
    have HB1 := Lib.hid hb1
    have HT := Lib.hid (turned_c _ d v1 w1 hy1 (by omega))
    clear hy1 hb1 HP
    go_wp2_with fail
    refine HT.out.mono ?_
    rintro e w2 ⟨v2, rfl, hy2, hb2⟩
    have HB2 := Lib.hid (HB1.out.trans (hb2.mono HB1.out.size))
    have HO2 := Lib.hid (with_c l _ u v2 w2 (HU.out.under HB2.out) (hands_of hy2) (by omega) (by rw [xm_len]; omega))
    clear hy2 hb2 HT
    go_wp2_with fail
    refine HO2.out.mono ?_
    rintro e w3 ⟨v3, rfl, hy3, hb3⟩
    have HY3 := Lib.hid (own_low hy3 HB2.out.size); have HB3 := Lib.hid (HB2.out.trans (hb3.mono HB2.out.size))
    clear hy3 hb3 HO2
    go_wp2_with fail
    go_ret
    exact Gives.mk_ HY3.out HB3.out

set_option maxRecDepth 100000 in
set_option maxHeartbeats 4000000 in
theorem rcount_c (l : List UInt8) (u : Value) (n : Int) (w : World) (h : Hands w u l) (hl : l.length ≤ 60000000000000) :
    Calls Tryz.prog 30 #[u, .int .i64 n] w fun e w' => Gives w.heap.size w (l ++ cntB n) e w' := by
  unfold cntB
  by_cases hn : 0 ≤ n ∧ n ≤ 2147483647
  · rw [if_pos hn]
    obtain ⟨m, rfl⟩ : ∃ m : Nat, n = (m : Int) := ⟨n.toNat, by omega⟩
    rw [Int.toNat_natCast]
    exact rcount_pos l u m (by omega) w h hl
  · rw [if_neg hn]
    have HO := Lib.hid (with_c l [] u (.slice none 0 0) w h (hands_nil w) (by omega) (by decide))
    have HN := Lib.hid hn
    clear h hn
    by_cases h0 : n < 0
    · go_enter Tryz.func30, Tryz.ntmps30
      go_wp2_with fail
      refine HO.out.mono ?_
      rintro e w3 ⟨v3, rfl, hy3, hb3⟩
      have HY3 := Lib.hid hy3; have HB3 := Lib.hid hb3
      clear hy3 hb3
      go_wp2_with fail
      go_ret
      exact Gives.mk_ HY3.out HB3.out
    · have h1 : (2147483647 : Int) < n := by have := HN.out; omega
      go_enter Tryz.func30, Tryz.ntmps30
      go_wp2_with fail
      refine HO.out.mono ?_
      rintro e w3 ⟨v3, rfl, hy3, hb3⟩
      have HY3 := Lib.hid hy3; have HB3 := Lib.hid hb3
      clear hy3 hb3
      go_wp2_with fail
      go_ret
      exact Gives.mk_ HY3.out HB3.out

set_option maxRecDepth 100000 in
set_option maxHeartbeats 4000000 in
theorem rflag_c (l : List UInt8) (u : Value) (q : Bool) (w : World) (h : Hands w u l) (hl : l.length ≤ 60000000000000) :
    Calls Tryz.prog 34 #[u, .bool q] w fun e w' => Gives w.heap.size w (l ++ flgB q) e w' := by
  have HU := Lib.hid h
  have hal : ∀ c : UInt8, Below w.heap.size w (w.alloc (.cells #[.int .u8 (c.toNat : Int)] 5)) := fun c => (Below.refl _ _).alloc (Nat.le_refl _) _
  clear h
  cases q
  · have HO := Lib.hid (with_c l [0] u _ _ (HU.out.under (hal 0)) (hands_of (one_own w 0)) (by omega) (by decide))
    have HB := Lib.hid (hal 0)
    clear hal HU
    go_enter Tryz.func34, Tryz.ntmps34
    go_wp2_with fail
    refine HO.out.mono ?_
    rintro e w3 ⟨v3, rfl, hy3, hb3⟩
    have HY3 := Lib.hid (own_low hy3 HB.out.size); have HB3 := Lib.hid (HB.out.trans (hb3.mono HB.out.size))
    clear hy3 hb3
    go_wp2_with fail
    go_ret
    exact Gives.mk_ HY3.out HB3.out
  · have HO := Lib.hid (with_c l [1] u _ _ (HU.out.under (hal 1)) (hands_of (one_own w 1)) (by omega) (by decide))
    have HB := Lib.hid (hal 1)
    clear hal HU
    go_enter Tryz.func34, Tryz.ntmps34
    go_wp2_with fail
    refine HO.out.mono ?_
    rintro e w3 ⟨v3, rfl, hy3, hb3⟩
    have HY3 := Lib.hid (own_low hy3 HB.out.size); have HB3 := Lib.hid (HB.out.trans (hb3.mono HB.out.size))
    clear hy3 hb3
    go_wp2_with fail
    go_ret
    exact Gives.mk_ HY3.out HB3.out
end Go.Proofs.YtlhkjmckigblpaaGreatDoor
/- Sd: The document's own writers of layer 3: texts. -/
namespace Go.Proofs.YtlhkjmckigblpaaGreatDoor
open Go.RowKit Cp Rm
open Go
attribute [local go_sem] Oper.semAt_some

theorem esc_app : ∀ a b : List UInt8, esc (a ++ b) = esc a ++ esc b
  | [], b => rfl
  | c :: a, b => by
    rw [List.cons_append, esc_cons, esc_cons, esc_app a b]
    split <;> simp
theorem esc_le : ∀ a : List UInt8, (esc a).length ≤ 2 * a.length
  | [] => Nat.le_refl _
  | c :: a => by
    have := esc_le a
    rw [esc_cons]
    split <;> simp only [List.length_cons] <;> omega
theorem two_own (w : World) (c d : UInt8) : Bys w.heap.size [c, d] (w.alloc (.cells #[.int .u8 (c.toNat : Int), .int .u8 (d.toNat : Int)] 5)) (.slice (some ⟨w.heap.size, 0, none⟩) 2 2) :=
  ⟨rfl, .inr ⟨w.heap.size, 2, #[.int .u8 (c.toNat : Int), .int .u8 (d.toNat : Int)], rfl, Nat.le_refl _, heap_alloc_new w _, Nat.le_refl _, by decide, rfl, rfl⟩⟩
theorem own_join {B : Nat} {a b : List UInt8} {w : World} {v : Value} (h : w.ownsRow B 5 1 v (a.length + b.length) (Lib.byteCells a ++ Lib.byteCells b)) : Bys B (a ++ b) w v := by
  unfold Bys
  rw [byteCells_app, List.length_append]
  exact h
set_option maxRecDepth 100000 in
set_option maxHeartbeats 8000000 in
theorem rstr_c (l : List UInt8) (u : Value) (s : ByteArray) (hs : s.size ≤ 2147483647) (w : World) (h : Hands w u l) (hl : l.length ≤ 60000000000000) :
    Calls Tryz.prog 32 #[u, .string s] w fun e w' => Gives w.heap.size w (l ++ strB s.data.toList) e w' := by
  have HO := Lib.hid (with_c l [] u (.slice none 0 0) w h (hands_nil w) (by omega) (by decide))
  rw [List.append_nil] at HO
  obtain ⟨t, ht⟩ : ∃ t, s.data.toList = t := ⟨_, rfl⟩
  have htl : t.length = s.size := by rw [← ht, Array.length_toList]; rfl
  have HT := Lib.hid ht; have HTL := Lib.hid htl
  rw [ht]
  clear h ht htl
  go_enter Tryz.func32, Tryz.ntmps32
  go_wp2_with fail
  refine HO.out.mono ?_
  rintro e w1 ⟨v1, rfl, hy1, hb1⟩
  have HY1 := Lib.hid hy1; have HB1 := Lib.hid hb1
  clear hy1 hb1 HO
  go_wp2_with fail
  go_loopg [6, 5] (s.size + 1) (fun gg s6 s5 wr => ∃ i : Nat, i ≤ s.size ∧ gg = s.size + 1 - i ∧ s6 = .int .i64 (i : Int) ∧ Bys w.heap.size (l ++ esc (t.take i)) wr s5 ∧ Below w.heap.size w wr)
  case atStart => exact ⟨0, Nat.zero_le _, rfl, rfl, by rw [List.take_zero]; show Bys w.heap.size (l ++ []) w1 v1; rw [List.append_nil]; exact HY1.out, HB1.out⟩
  case round =>
    clear HY1 HB1
    obtain ⟨i, hi, hg, rfl, hy, hb⟩ := hrel
    have HG := Lib.hid hg; have HY := Lib.hid hy; have HB := Lib.hid hb
    clear hg hy hb
    have hsz : w.heap.size ≤ wr.heap.size := HB.out.size
    have hel : (esc (t.take i)).length ≤ 2 * i := Nat.le_trans (esc_le _) (by rw [List.length_take]; omega)
    by_cases his : i < s.size
    · have hiz : (i : Int) < (s.size : Int) := by omega
      have hil : i < t.length := by rw [HTL.out]; exact his
      obtain ⟨c, hc⟩ : ∃ c, c = t[i] := ⟨_, rfl⟩
      have hcs : (s[i].toNat : Int) = (c.toNat : Int) := by
        have : s.data.toList[i]'(by rw [HT.out]; exact hil) = s[i] := rfl
        rw [hc, ← this]
        congr 2
        simp only [HT.out]
      have htk : esc (t.take (i + 1)) = esc (t.take i) ++ esc [c] := by rw [List.take_succ_eq_append_getElem hil, esc_app, hc]
      have HTK := Lib.hid htk
      obtain ⟨L, hL⟩ : ∃ L, l ++ esc (t.take i) = L := ⟨_, rfl⟩
      have hLL : L.length ≤ 60000000000000 + 2 * i := by rw [← hL, List.length_append]; omega
      rw [hL] at HY
      have HL := Lib.hid hL
      have HH1 := Lib.hid (hands_of (one_own wr c))
      clear htk hL hil hc hel
      by_cases hc0 : c = 0
      · subst hc0
        have hcs0 : (s[i].toNat : Int) = 0 := hcs
        have HCS := Lib.hid hcs
        rw [show ((0 : UInt8).toNat : Int) = 0 from rfl] at HH1
        clear hcs
        go_wp2_with (first
          | (at_builtin; refine wpList_appL _ rfl (.tmp 15) (.tmp 19) 23 rfl w.heap.size 5 (.int .u8 0) Tryz.underlying23 infoB rfl _ L.length (Lib.byteCells L) rfl (HY.out.alloc _) _ [0] rfl HH1.out (by simp; omega) (by simp; omega) ?_; intro v3 w3 hA hb3; have HA3 := Lib.hid (own_join hA); have HB3 := Lib.hid ((HB.out.alloc hsz _).trans hb3); have HH3 := Lib.hid (hands_of (one_own w3 255)); have hsz3 := HB3.out.size; clear hA hb3)
          | (at_builtin; refine wpList_appL _ rfl (.tmp 25) (.tmp 26) 23 rfl w.heap.size 5 (.int .u8 0) Tryz.underlying23 infoB rfl _ (L ++ [0]).length (Lib.byteCells (L ++ [0])) rfl (HA3.out.alloc _) _ [255] rfl HH3.out (by simp; omega) (by simp; omega) ?_; intro v4 w4 hA hb4; have HA4 := Lib.hid (own_join hA); have HB4 := Lib.hid ((HB3.out.alloc hsz3 _).trans hb4); clear hA hb4))
        go_roundg (s.size + 1 - (i + 1))
        case measure => have := HG.out; omega
        case rel =>
          refine ⟨i + 1, by omega, rfl, by go_num, ?_, HB4.out⟩
          rw [HTK.out, ← List.append_assoc, HL.out, show esc [(0 : UInt8)] = [0] ++ [255] from rfl, ← List.append_assoc]
          exact HA4.out
      · have hcz : ((c.toNat : Int) == 0) = false := by rw [beq_eq_false_iff_ne]; intro e; exact hc0 (UInt8.toNat_inj.1 (by simp; omega))
        have hcz2 : ¬ (c.toNat : Int) = 0 := by intro e; exact hc0 (UInt8.toNat_inj.1 (by simp; omega))
        have he1 : esc [c] = [c] := by rw [esc_cons, if_neg hc0]; rfl
        have HE1 := Lib.hid he1
        clear he1 hc0
        go_wp2_with (at_builtin; refine wpList_appL _ rfl (.tmp 15) (.tmp 19) 23 rfl w.heap.size 5 (.int .u8 0) Tryz.underlying23 infoB rfl _ L.length (Lib.byteCells L) rfl (HY.out.alloc _) _ [c] rfl HH1.out (by simp; omega) (by simp; omega) ?_; intro v3 w3 hA hb3; have HA3 := Lib.hid (own_join hA); have HB3 := Lib.hid ((HB.out.alloc hsz _).trans hb3); clear hA hb3)
        go_roundg (s.size + 1 - (i + 1))
        case measure => have := HG.out; omega
        case rel =>
          refine ⟨i + 1, by omega, rfl, by go_num, ?_, HB3.out⟩
          rw [HTK.out, HE1.out, ← List.append_assoc, HL.out]
          exact HA3.out
    · have hiz : ¬ (i : Int) < (s.size : Int) := by omega
      obtain rfl : i = s.size := by omega
      have htt : t.take s.size = t := List.take_of_length_le (by rw [HTL.out]; exact Nat.le_refl _)
      rw [htt] at HY hel
      have HH2 := Lib.hid (hands_of (two_own wr 0 0))
      obtain ⟨L, hL⟩ : ∃ L, l ++ esc t = L := ⟨_, rfl⟩
      have hLL : L.length ≤ 60000000000000 + 2 * s.size := by rw [← hL, List.length_append]; omega
      rw [hL] at HY
      have HL := Lib.hid hL
      rw [show ((0 : UInt8).toNat : Int) = 0 from rfl] at HH2
      clear htt hL hel
      go_wp2_with (at_builtin; refine wpList_appL _ rfl (.tmp 28) (.tmp 29) 23 rfl w.heap.size 5 (.int .u8 0) Tryz.underlying23 infoB rfl _ L.length (Lib.byteCells L) rfl (HY.out.alloc _) _ [0, 0] rfl HH2.out (by simp; omega) (by simp; omega) ?_; intro v3 w3 hA hb3; have HA3 := Lib.hid (own_join hA); have HB3 := Lib.hid ((HB.out.alloc hsz _).trans hb3); clear hA hb3)
      go_ret
      refine Gives.mk_ ?_ HB3.out
      unfold strB
      rw [← List.append_assoc, HL.out]
      exact HA3.out
end Go.Proofs.YtlhkjmckigblpaaGreatDoor
