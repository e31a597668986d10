/- The walks over the document's own answer for layer 1: the operations. -/
import Derived.Test.YtcclclginhhlaaaDoorRefM
import Derived.Test.YtcclclginhhlaaaDoorRg
import Derived.Test.YtcclclginhhlaaaDoorBigT
import Derived.Test.YtcclclginhhlaaaDoorOrdersW
namespace Go.Proofs.YtcclclginhhlaaaDoor
open Go.RowKit
open Pl Dig

theorem text_out (z : Int) (v : Value) (w : World) (h : NumIs w z v) (hl : (dg 10 z.natAbs).length ≤ 40000) :
    Calls Tryd.prog 28 #[v] w fun e w' => e = .returned (.tuple #[.string ⟨(txtOut z).1.toArray⟩, .int .i64 (txtOut z).2]) ∧ Below w.heap.size w w' := by
  obtain ⟨A, c, rfl, h1, h2, h3⟩ := h
  have hs : sgn (decide (z < 0)) (vl 10 (dg 10 z.natAbs)) = z := by
    rw [dg_vl (by decide)]
    unfold sgn
    by_cases h : z < 0
    · rw [decide_eq_true h]; simp; omega
    · rw [decide_eq_false h]; simp; omega
  have := text_any (decide (z < 0)) A c (dg 10 z.natAbs) w h3 h1 h2 (dg_lt (by decide) _) hl
  rwa [hs] at this
theorem len10_mul {m n j k : Nat} (hm : (dg 10 m).length ≤ j) (hn : (dg 10 n).length ≤ k) : (dg 10 (m * n)).length ≤ j + k + 1 := by
  have h1 := (dg_len (b := 10) (by decide) m _).1 hm
  have h2 := (dg_len (b := 10) (by decide) n _).1 hn
  refine (dg_len (by decide) (m * n) _).2 ?_
  have h3 : m * n ≤ 10 ^ j * 10 ^ k := Nat.mul_le_mul (Nat.le_of_lt h1) (Nat.le_of_lt h2)
  rw [← Nat.pow_add] at h3
  exact Nat.lt_of_le_of_lt h3 (Nat.pow_lt_pow_right (by decide) (by omega))
theorem len10_add {m n k j : Nat} (hm : (dg 10 m).length ≤ k) (hn : (dg 10 n).length ≤ k) (h : j ≤ m + n) : (dg 10 j).length ≤ k + 1 := by
  have h1 := (dg_len (b := 10) (by decide) m _).1 hm
  have h2 := (dg_len (b := 10) (by decide) n _).1 hn
  refine (dg_len (by decide) j _).2 ?_
  rw [Nat.pow_succ]
  omega

set_option maxRecDepth 100000 in
set_option maxHeartbeats 1000000 in
theorem do0_bad (a b : ByteArray) (w : World) (ha : a.size ≤ maxLen) (hb : b.size ≤ maxLen) (h : pairE a.data.toList b.data.toList ≠ 0) :
    Calls Tryd.prog 31 #[.int .i64 0, .string a, .string b] w fun e w' => e = .returned (.tuple #[.string ⟨#[]⟩, .int .i64 (pairE a.data.toList b.data.toList)]) ∧ Below w.heap.size w w' := by
  have hc := pair_bad2 a b w ha hb h
  unfold zero39 at hc
  generalize pairE a.data.toList b.data.toList = k at h hc ⊢
  have HC := Lib.hid hc
  have hne : (k != 0) = true := by simpa using h
  clear hc h
  go_enter Tryd.func31, Tryd.ntmps31
  go_wp2_with (go_at_call 47; refine HC.out.mono ?_; rintro e w1 ⟨rfl, hB1⟩; have HB1 := Lib.hid (((hB1).alloc hB1.size (.cells #[.bool false, .slice none 0 0] 39)).alloc (by have := hB1.size; simp; omega) (.cells #[.bool false, .slice none 0 0] 39)); clear hB1)
  go_ret2
  exact ⟨rfl, HB1.out⟩

set_option maxRecDepth 100000 in
set_option maxHeartbeats 1000000 in
theorem do1_bad (a b : ByteArray) (w : World) (ha : a.size ≤ maxLen) (hb : b.size ≤ maxLen) (h : pairE a.data.toList b.data.toList ≠ 0) :
    Calls Tryd.prog 31 #[.int .i64 1, .string a, .string b] w fun e w' => e = .returned (.tuple #[.string ⟨#[]⟩, .int .i64 (pairE a.data.toList b.data.toList)]) ∧ Below w.heap.size w w' := by
  have hc := pair_bad2 a b w ha hb h
  unfold zero39 at hc
  generalize pairE a.data.toList b.data.toList = k at h hc ⊢
  have HC := Lib.hid hc
  have hne : (k != 0) = true := by simpa using h
  clear hc h
  go_enter Tryd.func31, Tryd.ntmps31
  go_wp2_with (go_at_call 47; refine HC.out.mono ?_; rintro e w1 ⟨rfl, hB1⟩; have HB1 := Lib.hid (((hB1).alloc hB1.size (.cells #[.bool false, .slice none 0 0] 39)).alloc (by have := hB1.size; simp; omega) (.cells #[.bool false, .slice none 0 0] 39)); clear hB1)
  go_ret2
  exact ⟨rfl, HB1.out⟩

set_option maxRecDepth 100000 in
set_option maxHeartbeats 1000000 in
theorem do2_bad (a b : ByteArray) (w : World) (ha : a.size ≤ maxLen) (hb : b.size ≤ maxLen) (h : pairE a.data.toList b.data.toList ≠ 0) :
    Calls Tryd.prog 31 #[.int .i64 2, .string a, .string b] w fun e w' => e = .returned (.tuple #[.string ⟨#[]⟩, .int .i64 (pairE a.data.toList b.data.toList)]) ∧ Below w.heap.size w w' := by
  have hc := pair_bad2 a b w ha hb h
  unfold zero39 at hc
  generalize pairE a.data.toList b.data.toList = k at h hc ⊢
  have HC := Lib.hid hc
  have hne : (k != 0) = true := by simpa using h
  clear hc h
  go_enter Tryd.func31, Tryd.ntmps31
  go_wp2_with (go_at_call 47; refine HC.out.mono ?_; rintro e w1 ⟨rfl, hB1⟩; have HB1 := Lib.hid (((hB1).alloc hB1.size (.cells #[.bool false, .slice none 0 0] 39)).alloc (by have := hB1.size; simp; omega) (.cells #[.bool false, .slice none 0 0] 39)); clear hB1)
  go_ret2
  exact ⟨rfl, HB1.out⟩

set_option maxRecDepth 100000 in
set_option maxHeartbeats 2000000 in
theorem do0_good (a b : ByteArray) (w : World) (ha : chk a.data.toList = 0) (hb : chk b.data.toList = 0) :
    Calls Tryd.prog 31 #[.int .i64 0, .string a, .string b] w fun e w' => e = .returned (.tuple #[.string ⟨(txtOut ((valL a.data.toList) + (valL b.data.toList))).1.toArray⟩, .int .i64 (txtOut ((valL a.data.toList) + (valL b.data.toList))).2]) ∧ Below w.heap.size w w' := by
  have hbg := pair_good a b w ha hb
  have hla := val_len ha
  have hlb := val_len hb
  generalize valL a.data.toList = x at hbg hla ⊢
  generalize valL b.data.toList = y at hbg hlb ⊢
  obtain ⟨z, hz⟩ : ∃ z, z = x + y := ⟨_, rfl⟩
  rw [← hz]
  have hlz : (dg 10 z.natAbs).length ≤ 40000 := by exact Nat.le_trans (len10_add hla hlb (by omega)) (by decide)
  generalize hto : txtOut z = o
  have HTO := Lib.hid hto
  have HBG := Lib.hid hbg; have HZ := Lib.hid hz; have HLZ := Lib.hid hlz; have HLA := Lib.hid hla; have HLB := Lib.hid hlb
  clear hbg ha hb hlz hla hlb hz hto
  go_enter Tryd.func31, Tryd.ntmps31
  go_wp2_with (go_at_call 47; refine HBG.out.mono ?_; rintro e w1 ⟨va, vb, rfl, ⟨A1, c1, rfl, hPa⟩, ⟨A2, c2, rfl, hPb⟩, hB1⟩; have n1 : NumP w1 x A1 c1 := hPa; have n2 : NumP w1 y A2 c2 := hPb; have HPA := Lib.hid n1; have HPB := Lib.hid n2; have HB1 := Lib.hid (((hB1).alloc hB1.size (.cells #[.bool (decide (x < 0)), .slice A1 (dg 10 x.natAbs).length c1] 39)).alloc (by have := hB1.size; simp; omega) (.cells #[.bool (decide (y < 0)), .slice A2 (dg 10 y.natAbs).length c2] 39)); clear hPa hPb hB1 n1 n2)
  refine (sum_num x y _ _ _ ((HPA.out.alloc _).alloc _).is ((HPB.out.alloc _).alloc _).is (by have := HLA.out; omega) (by have := HLB.out; omega)).mono ?_
  rw [← HZ.out]
  rintro e w2 ⟨v2, rfl, hI2, hB2⟩
  have HI2 := Lib.hid hI2; have HB2 := Lib.hid (HB1.out.trans (hB2.mono HB1.out.size)); clear hI2 hB2
  go_wp2_with fail
  refine (text_out z _ _ HI2.out HLZ.out).mono ?_
  rw [HTO.out]
  rintro e w3 ⟨rfl, hB3⟩
  have HB3 := Lib.hid (HB2.out.trans (hB3.mono HB2.out.size)); clear hB3
  go_wp2_with fail
  go_ret2
  exact ⟨rfl, HB3.out⟩

set_option maxRecDepth 100000 in
set_option maxHeartbeats 2000000 in
theorem do2_good (a b : ByteArray) (w : World) (ha : chk a.data.toList = 0) (hb : chk b.data.toList = 0) :
    Calls Tryd.prog 31 #[.int .i64 2, .string a, .string b] w fun e w' => e = .returned (.tuple #[.string ⟨(txtOut ((valL a.data.toList) * (valL b.data.toList))).1.toArray⟩, .int .i64 (txtOut ((valL a.data.toList) * (valL b.data.toList))).2]) ∧ Below w.heap.size w w' := by
  have hbg := pair_good a b w ha hb
  have hla := val_len ha
  have hlb := val_len hb
  generalize valL a.data.toList = x at hbg hla ⊢
  generalize valL b.data.toList = y at hbg hlb ⊢
  obtain ⟨z, hz⟩ : ∃ z, z = x * y := ⟨_, rfl⟩
  rw [← hz]
  have hlz : (dg 10 z.natAbs).length ≤ 40000 := by rw [hz, Int.natAbs_mul]; exact Nat.le_trans (len10_mul hla hlb) (by decide)
  generalize hto : txtOut z = o
  have HTO := Lib.hid hto
  have HBG := Lib.hid hbg; have HZ := Lib.hid hz; have HLZ := Lib.hid hlz; have HLA := Lib.hid hla; have HLB := Lib.hid hlb
  clear hbg ha hb hlz hla hlb hz hto
  go_enter Tryd.func31, Tryd.ntmps31
  go_wp2_with (go_at_call 47; refine HBG.out.mono ?_; rintro e w1 ⟨va, vb, rfl, ⟨A1, c1, rfl, hPa⟩, ⟨A2, c2, rfl, hPb⟩, hB1⟩; have n1 : NumP w1 x A1 c1 := hPa; have n2 : NumP w1 y A2 c2 := hPb; have HPA := Lib.hid n1; have HPB := Lib.hid n2; have HB1 := Lib.hid (((hB1).alloc hB1.size (.cells #[.bool (decide (x < 0)), .slice A1 (dg 10 x.natAbs).length c1] 39)).alloc (by have := hB1.size; simp; omega) (.cells #[.bool (decide (y < 0)), .slice A2 (dg 10 y.natAbs).length c2] 39)); clear hPa hPb hB1 n1 n2)
  refine (product_num x y _ _ _ ((HPA.out.alloc _).alloc _).is ((HPB.out.alloc _).alloc _).is (by have := HLA.out; omega) (by have := HLB.out; omega)).mono ?_
  rw [← HZ.out]
  rintro e w2 ⟨v2, rfl, hI2, hB2⟩
  have HI2 := Lib.hid hI2; have HB2 := Lib.hid (HB1.out.trans (hB2.mono HB1.out.size)); clear hI2 hB2
  go_wp2_with fail
  refine (text_out z _ _ HI2.out HLZ.out).mono ?_
  rw [HTO.out]
  rintro e w3 ⟨rfl, hB3⟩
  have HB3 := Lib.hid (HB2.out.trans (hB3.mono HB2.out.size)); clear hB3
  go_wp2_with fail
  go_ret2
  exact ⟨rfl, HB3.out⟩

set_option maxRecDepth 100000 in
set_option maxHeartbeats 2000000 in
theorem do1_good (a b : ByteArray) (w : World) (ha : chk a.data.toList = 0) (hb : chk b.data.toList = 0) :
    Calls Tryd.prog 31 #[.int .i64 1, .string a, .string b] w fun e w' => e = .returned (.tuple #[.string ⟨(txtOut ((valL a.data.toList) - (valL b.data.toList))).1.toArray⟩, .int .i64 (txtOut ((valL a.data.toList) - (valL b.data.toList))).2]) ∧ Below w.heap.size w w' := by
  have hbg := pair_good a b w ha hb
  have hla := val_len ha
  have hlb := val_len hb
  generalize valL a.data.toList = x at hbg hla ⊢
  generalize valL b.data.toList = y at hbg hlb ⊢
  obtain ⟨z, hz⟩ : ∃ z, z = x - y := ⟨_, rfl⟩
  rw [← hz]
  have hlz : (dg 10 z.natAbs).length ≤ 40000 := by exact Nat.le_trans (len10_add hla hlb (by omega)) (by decide)
  generalize hto : txtOut z = o
  have HTO := Lib.hid hto
  have HBG := Lib.hid hbg; have HZ := Lib.hid hz; have HLZ := Lib.hid hlz; have HLA := Lib.hid hla; have HLB := Lib.hid hlb
  clear hbg ha hb hlz hla hlb hz hto
  go_enter Tryd.func31, Tryd.ntmps31
  go_upto_region 7 with (go_at_call 47; refine HBG.out.mono ?_; rintro e w1 ⟨va, vb, rfl, ⟨A1, c1, rfl, hPa⟩, ⟨A2, c2, rfl, hPb⟩, hB1⟩; have n1 : NumP w1 x A1 c1 := hPa; have n2 : NumP w1 y A2 c2 := hPb; have HPA := Lib.hid n1; have HPB := Lib.hid n2; have HB1 := Lib.hid (((hB1).alloc hB1.size (.cells #[.bool (decide (x < 0)), .slice A1 (dg 10 x.natAbs).length c1] 39)).alloc (by have := hB1.size; simp; omega) (.cells #[.bool (decide (y < 0)), .slice A2 (dg 10 y.natAbs).length c2] 39)); clear hPa hPb hB1 n1 n2)
  have bx := (Blk.new w1 39 #[.bool (decide (x < 0)), .slice A1 (dg 10 x.natAbs).length c1]).alloc (.cells #[.bool (decide (y < 0)), .slice A2 (dg 10 y.natAbs).length c2] 39)
  have by' := Blk.new (w1.alloc (.cells #[.bool (decide (x < 0)), .slice A1 (dg 10 x.natAbs).length c1] 39)) 39 #[.bool (decide (y < 0)), .slice A2 (dg 10 y.natAbs).length c2]
  rw [World.size_alloc] at by'
  have hpa := (HPA.out.alloc (.cells #[.bool (decide (x < 0)), .slice A1 (dg 10 x.natAbs).length c1] 39)).alloc (.cells #[.bool (decide (y < 0)), .slice A2 (dg 10 y.natAbs).length c2] 39)
  have hpb := (HPB.out.alloc (.cells #[.bool (decide (x < 0)), .slice A1 (dg 10 x.natAbs).length c1] 39)).alloc (.cells #[.bool (decide (y < 0)), .slice A2 (dg 10 y.natAbs).length c2] 39)
  generalize (w1.alloc (.cells #[.bool (decide (x < 0)), .slice A1 (dg 10 x.natAbs).length c1] 39)).alloc (.cells #[.bool (decide (y < 0)), .slice A2 (dg 10 y.natAbs).length c2] 39) = W at bx by' hpa hpb HB1 ⊢
  obtain ⟨ny, hny⟩ : ∃ n, n = -y := ⟨_, rfl⟩
  have hxy : x + ny = z := by rw [HZ.out, hny]; omega
  have hnl : (dg 10 ny.natAbs).length ≤ 30000 := by rw [hny, Int.natAbs_neg]; have := HLB.out; omega
  have hT := turned_num y _ W.drew hpb.is
  rw [← hny] at hT
  have HT := Lib.hid hT; have HXY := Lib.hid hxy; have HNL := Lib.hid hnl
  have BX := Lib.hid bx; have BY := Lib.hid by'; have PA := Lib.hid hpa
  have hS0 : W.drew.cell? ⟨w1.heap.size, 0, none⟩ = some (.bool (decide (x < 0))) ∧ W.drew.cell? ⟨w1.heap.size, 1, none⟩ = some (.slice A1 (dg 10 x.natAbs).length c1) ∧ W.drew.cell? ⟨w1.heap.size + 1, 0, none⟩ = some (.bool (decide (y < 0))) ∧ W.drew.cell? ⟨w1.heap.size + 1, 1, none⟩ = some (.slice A2 (dg 10 y.natAbs).length c2) := ⟨bx.drew.cell0, bx.drew.cell1, by'.drew.cell0, by'.drew.cell1⟩
  have HS0 := Lib.hid hS0
  clear hT hny hxy hnl bx by' hpa hpb hS0
  refine plain_region (fun W => W.cell? ⟨w1.heap.size, 0, none⟩ = some (.bool (decide (x < 0))) ∧ W.cell? ⟨w1.heap.size, 1, none⟩ = some (.slice A1 (dg 10 x.natAbs).length c1) ∧ W.cell? ⟨w1.heap.size + 1, 0, none⟩ = some (.bool (decide (y < 0))) ∧ W.cell? ⟨w1.heap.size + 1, 1, none⟩ = some (.slice A2 (dg 10 y.natAbs).length c2)) 9 (by kernel_rfl) ?_
  refine M_take (i := 0) (v := .agg #[.bool (decide (x < 0)), .slice A1 (dg 10 x.natAbs).length c1]) rfl (by kernel_rfl) (fun _ _ _ h => h) rfl (fun W hS => by obtain ⟨h1, h2, h3, h4⟩ := hS; go_simp) HS0.out ?_
  refine M_take (i := 1) (v := .agg #[.bool (decide (y < 0)), .slice A2 (dg 10 y.natAbs).length c2]) rfl (by kernel_rfl) (fun _ _ _ h => h) rfl (fun W hS => by obtain ⟨h1, h2, h3, h4⟩ := hS; go_simp) HS0.out ?_
  refine M_one (i := 2) rfl (by kernel_rfl) rfl ?_
  refine op_call #[.agg #[.bool (decide (y < 0)), .slice A2 (dg 10 y.natAbs).length c2]] (by simp [go_sem]) (enters_of Tryd.func29 (by kernel_rfl) rfl _ _) HT.out ?_
  rintro e w2 ⟨v2, rfl, hI2, hB2⟩
  have bx2 := BX.out.drew.below hB2 BX.out.lt; have by2 := BY.out.drew.below hB2 BY.out.lt
  have hS := sum_num x ny _ _ w2 ((show NumP W.drew x A1 c1 from PA.out).below hB2).is hI2 (by have := HLA.out; omega) HNL.out
  rw [HXY.out] at hS
  have hS2 : w2.cell? ⟨w1.heap.size, 0, none⟩ = some (.bool (decide (x < 0))) ∧ w2.cell? ⟨w1.heap.size, 1, none⟩ = some (.slice A1 (dg 10 x.natAbs).length c1) ∧ w2.cell? ⟨w1.heap.size + 1, 0, none⟩ = some (.bool (decide (y < 0))) ∧ w2.cell? ⟨w1.heap.size + 1, 1, none⟩ = some (.slice A2 (dg 10 y.natAbs).length c2) := ⟨bx2.cell0, bx2.cell1, by2.cell0, by2.cell1⟩
  have HS := Lib.hid hS; have HS2 := Lib.hid hS2; have HB2 := Lib.hid ((HB1.out.drew).trans (hB2.mono HB1.out.drew.size)); have BX2 := Lib.hid bx2; have BY2 := Lib.hid by2
  clear hS hS2 hI2 hB2 bx2 by2
  refine ⟨_, rfl, fun _ => HS2.out, ?_⟩
  refine M_one (i := 3) rfl (by kernel_rfl) rfl ?_
  refine op_call #[.agg #[.bool (decide (x < 0)), .slice A1 (dg 10 x.natAbs).length c1], v2] (by simp [go_sem]) (enters_of Tryd.func48 (by kernel_rfl) rfl _ _) HS.out ?_
  rintro e w3 ⟨v3, rfl, hI3, hB3⟩
  have bx3 := BX2.out.below hB3 BX2.out.lt; have by3 := BY2.out.below hB3 BY2.out.lt
  have hS3 : w3.cell? ⟨w1.heap.size, 0, none⟩ = some (.bool (decide (x < 0))) ∧ w3.cell? ⟨w1.heap.size, 1, none⟩ = some (.slice A1 (dg 10 x.natAbs).length c1) ∧ w3.cell? ⟨w1.heap.size + 1, 0, none⟩ = some (.bool (decide (y < 0))) ∧ w3.cell? ⟨w1.heap.size + 1, 1, none⟩ = some (.slice A2 (dg 10 y.natAbs).length c2) := ⟨bx3.cell0, bx3.cell1, by3.cell0, by3.cell1⟩
  have hX := text_out z _ w3 hI3 HLZ.out
  rw [HTO.out] at hX
  have HX := Lib.hid hX; have HS3 := Lib.hid hS3; have HB3 := Lib.hid (HB2.out.trans (hB3.mono HB2.out.size)); have BX3 := Lib.hid bx3; have BY3 := Lib.hid by3
  clear hX hS3 hI3 hB3 bx3 by3
  refine ⟨_, rfl, fun _ => HS3.out, ?_⟩
  refine M_one (i := 4) rfl (by kernel_rfl) rfl ?_
  refine op_call #[v3] (by simp [go_sem]) (enters_of Tryd.func28 (by kernel_rfl) rfl _ _) HX.out ?_
  rintro e w4 ⟨rfl, hB4⟩
  have bx4 := BX3.out.below hB4 BX3.out.lt; have by4 := BY3.out.below hB4 BY3.out.lt
  have HS4 := Lib.hid (And.intro bx4.cell0 (And.intro bx4.cell1 (And.intro by4.cell0 by4.cell1)))
  have HB4 := Lib.hid (HB3.out.trans (hB4.mono HB3.out.size))
  clear hB4 bx4 by4
  refine ⟨_, rfl, fun _ => HS4.out, ?_⟩
  refine M_take (i := 5) (v := .string ⟨o.1.toArray⟩) rfl (by kernel_rfl) (fun _ _ _ h => h) rfl (fun W hS => by go_simp) HS4.out ?_
  refine M_take (i := 6) (v := .int .i64 o.2) rfl (by kernel_rfl) (fun _ _ _ h => h) rfl (fun W hS => by go_simp) HS4.out ?_
  refine M_one (i := 7) rfl (by kernel_rfl) rfl ?_
  go_simp
  refine ⟨HS4.out, ?_⟩
  refine M_one (i := 8) rfl (by kernel_rfl) rfl ?_
  go_simp
  refine ⟨HS4.out, ?_⟩
  refine M_done (by kernel_rfl) ?_
  go_wp2_with fail
  go_ret2
  exact ⟨rfl, HB4.out⟩

theorem do0_out (a b : ByteArray) (w : World) (ha : a.size ≤ maxLen) (hb : b.size ≤ maxLen) :
    Calls Tryd.prog 31 #[.int .i64 0, .string a, .string b] w fun e w' => e = .returned (.tuple #[.string ⟨(opOut a.data.toList b.data.toList (valL a.data.toList + valL b.data.toList)).1.toArray⟩, .int .i64 (opOut a.data.toList b.data.toList (valL a.data.toList + valL b.data.toList)).2]) ∧ Below w.heap.size w w' := by
  unfold opOut
  by_cases h : pairE a.data.toList b.data.toList = 0
  · obtain ⟨h1, h2⟩ := pairE_zero.1 h
    rw [if_neg (by omega)]
    exact do0_good a b w h1 h2
  · rw [if_pos h]
    exact do0_bad a b w ha hb h

theorem do1_out (a b : ByteArray) (w : World) (ha : a.size ≤ maxLen) (hb : b.size ≤ maxLen) :
    Calls Tryd.prog 31 #[.int .i64 1, .string a, .string b] w fun e w' => e = .returned (.tuple #[.string ⟨(opOut a.data.toList b.data.toList (valL a.data.toList - valL b.data.toList)).1.toArray⟩, .int .i64 (opOut a.data.toList b.data.toList (valL a.data.toList - valL b.data.toList)).2]) ∧ Below w.heap.size w w' := by
  unfold opOut
  by_cases h : pairE a.data.toList b.data.toList = 0
  · obtain ⟨h1, h2⟩ := pairE_zero.1 h
    rw [if_neg (by omega)]
    exact do1_good a b w h1 h2
  · rw [if_pos h]
    exact do1_bad a b w ha hb h

theorem do2_out (a b : ByteArray) (w : World) (ha : a.size ≤ maxLen) (hb : b.size ≤ maxLen) :
    Calls Tryd.prog 31 #[.int .i64 2, .string a, .string b] w fun e w' => e = .returned (.tuple #[.string ⟨(opOut a.data.toList b.data.toList (valL a.data.toList * valL b.data.toList)).1.toArray⟩, .int .i64 (opOut a.data.toList b.data.toList (valL a.data.toList * valL b.data.toList)).2]) ∧ Below w.heap.size w w' := by
  unfold opOut
  by_cases h : pairE a.data.toList b.data.toList = 0
  · obtain ⟨h1, h2⟩ := pairE_zero.1 h
    rw [if_neg (by omega)]
    exact do2_good a b w h1 h2
  · rw [if_pos h]
    exact do2_bad a b w ha hb h
end Go.Proofs.YtcclclginhhlaaaDoor
