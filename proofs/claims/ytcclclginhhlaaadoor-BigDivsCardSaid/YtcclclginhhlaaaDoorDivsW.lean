/- The walks over the document's own answer for layer 1: a quotient and a rest of texts. -/
import Derived.Test.YtcclclginhhlaaaDoorRefN
import Derived.Test.YtcclclginhhlaaaDoorRefP
import Derived.Test.YtcclclginhhlaaaDoorBigU
namespace Go.Proofs.YtcclclginhhlaaaDoor
open Go.RowKit
open Pl Dig

set_option maxRecDepth 100000 in
set_option maxHeartbeats 1000000 in
theorem do3_bad (a b : ByteArray) (w : World) (ha : a.size ≤ maxLen) (hb : b.size ≤ maxLen) (h : pairE a.data.toList b.data.toList ≠ 0) :
    Calls Tryd.prog 31 #[.int .i64 3, .string a, .string b] w fun e w' => e = .returned (.tuple #[.string ⟨#[]⟩, .int .i64 (pairE a.data.toList b.data.toList)]) ∧ Below w.heap.size w w' := by
  have hc := pair_bad2 a b w ha hb h
  unfold zero39 at hc
  generalize pairE a.data.toList b.data.toList = k at h hc ⊢
  have HC := Lib.hid hc
  have hne : (k != 0) = true := by simpa using h
  clear hc h
  go_enter Tryd.func31, Tryd.ntmps31
  go_wp2_with (go_at_call 47; refine HC.out.mono ?_; rintro e w1 ⟨rfl, hB1⟩; have HB1 := Lib.hid (((hB1).alloc hB1.size (.cells #[.bool false, .slice none 0 0] 39)).alloc (by have := hB1.size; simp; omega) (.cells #[.bool false, .slice none 0 0] 39)); clear hB1)
  go_ret2
  exact ⟨rfl, HB1.out⟩

set_option maxRecDepth 100000 in
set_option maxHeartbeats 1000000 in
theorem do4_bad (a b : ByteArray) (w : World) (ha : a.size ≤ maxLen) (hb : b.size ≤ maxLen) (h : pairE a.data.toList b.data.toList ≠ 0) :
    Calls Tryd.prog 31 #[.int .i64 4, .string a, .string b] w fun e w' => e = .returned (.tuple #[.string ⟨#[]⟩, .int .i64 (pairE a.data.toList b.data.toList)]) ∧ Below w.heap.size w w' := by
  have hc := pair_bad2 a b w ha hb h
  unfold zero39 at hc
  generalize pairE a.data.toList b.data.toList = k at h hc ⊢
  have HC := Lib.hid hc
  have hne : (k != 0) = true := by simpa using h
  clear hc h
  go_enter Tryd.func31, Tryd.ntmps31
  go_wp2_with (go_at_call 47; refine HC.out.mono ?_; rintro e w1 ⟨rfl, hB1⟩; have HB1 := Lib.hid (((hB1).alloc hB1.size (.cells #[.bool false, .slice none 0 0] 39)).alloc (by have := hB1.size; simp; omega) (.cells #[.bool false, .slice none 0 0] 39)); clear hB1)
  go_ret2
  exact ⟨rfl, HB1.out⟩

set_option maxRecDepth 100000 in
set_option maxHeartbeats 2000000 in
theorem do3_zero (a b : ByteArray) (w : World) (ha : chk a.data.toList = 0) (hb : chk b.data.toList = 0) (h0 : valL b.data.toList = 0) :
    Calls Tryd.prog 31 #[.int .i64 3, .string a, .string b] w fun e w' => e = .returned (.tuple #[.string ⟨#[]⟩, .int .i64 81]) ∧ Below w.heap.size w w' := by
  have hbg := pair_good a b w ha hb
  generalize valL a.data.toList = x at hbg ⊢
  generalize valL b.data.toList = y at hbg h0 ⊢
  have hl0 : (dg 10 y.natAbs).length = 0 := by rw [h0]; simp [dg_zero]
  have HBG := Lib.hid hbg; have HL0 := Lib.hid hl0
  clear hbg ha hb h0
  go_enter Tryd.func31, Tryd.ntmps31
  go_wp2_with (go_at_call 47; refine HBG.out.mono ?_; rintro e w1 ⟨va, vb, rfl, ⟨A1, c1, rfl, hPa⟩, ⟨A2, c2, rfl, hPb⟩, hB1⟩; have n1 : NumP w1 x A1 c1 := hPa; have n2 : NumP w1 y A2 c2 := hPb; have HPA := Lib.hid n1; have HPB := Lib.hid n2; have HB1 := Lib.hid (((hB1).alloc hB1.size (.cells #[.bool (decide (x < 0)), .slice A1 (dg 10 x.natAbs).length c1] 39)).alloc (by have := hB1.size; simp; omega) (.cells #[.bool (decide (y < 0)), .slice A2 (dg 10 y.natAbs).length c2] 39)); clear hPa hPb hB1 n1 n2)
  go_ret2
  have hBB := HB1.out
  rw [HL0.out] at hBB
  exact ⟨rfl, hBB⟩
set_option maxRecDepth 100000 in
set_option maxHeartbeats 2000000 in
theorem do3_good (a b : ByteArray) (w : World) (ha : chk a.data.toList = 0) (hb : chk b.data.toList = 0) (h0 : valL b.data.toList ≠ 0) :
    Calls Tryd.prog 31 #[.int .i64 3, .string a, .string b] w fun e w' => e = .returned (.tuple #[.string ⟨(txtOut ((valL a.data.toList).tdiv (valL b.data.toList))).1.toArray⟩, .int .i64 (txtOut ((valL a.data.toList).tdiv (valL b.data.toList))).2]) ∧ Below w.heap.size w w' := by
  have hbg := pair_good a b w ha hb
  have hla := val_len ha
  have hlb := val_len hb
  generalize valL a.data.toList = x at hbg hla ⊢
  generalize valL b.data.toList = y at hbg hlb h0 ⊢
  obtain ⟨z, hz⟩ : ∃ z, z = x.tdiv y := ⟨_, rfl⟩
  rw [← hz]
  have hlz : (dg 10 z.natAbs).length ≤ 40000 := by
    rw [hz]
    exact Nat.le_trans ((dg_len (b := 10) (by decide) _ _).2 (Nat.lt_of_le_of_lt (by rw [Int.natAbs_tdiv]; exact Nat.div_le_self _ _) ((dg_len (b := 10) (by decide) _ _).1 (Nat.le_refl _)))) (Nat.le_trans hla (by decide))
  have hpos : 0 < (dg 10 y.natAbs).length := by
    rcases Nat.eq_zero_or_pos (dg 10 y.natAbs).length with h | h
    · have := (dg_len (b := 10) (by decide) y.natAbs 0).1 (by omega)
      simp at this; omega
    · exact h
  have hne : ¬ (((dg 10 y.natAbs).length : Int) = 0) := by omega
  generalize hto : txtOut z = o
  have HTO := Lib.hid hto
  have HBG := Lib.hid hbg; have HZ := Lib.hid hz; have HLZ := Lib.hid hlz; have HLA := Lib.hid hla; have HLB := Lib.hid hlb; have H0 := Lib.hid h0
  clear hbg ha hb hlz hla hlb hz hto h0
  go_enter Tryd.func31, Tryd.ntmps31
  go_wp2_with (go_at_call 47; refine HBG.out.mono ?_; rintro e w1 ⟨va, vb, rfl, ⟨A1, c1, rfl, hPa⟩, ⟨A2, c2, rfl, hPb⟩, hB1⟩; have n1 : NumP w1 x A1 c1 := hPa; have n2 : NumP w1 y A2 c2 := hPb; have HPA := Lib.hid n1; have HPB := Lib.hid n2; have HB1 := Lib.hid (((hB1).alloc hB1.size (.cells #[.bool (decide (x < 0)), .slice A1 (dg 10 x.natAbs).length c1] 39)).alloc (by have := hB1.size; simp; omega) (.cells #[.bool (decide (y < 0)), .slice A2 (dg 10 y.natAbs).length c2] 39)); clear hPa hPb hB1 n1 n2)
  refine (over_num x y _ _ _ ((HPA.out.alloc _).alloc _).is ((HPB.out.alloc _).alloc _).is HLA.out HLB.out H0.out).mono ?_
  rintro e w2 ⟨u, u', rfl, hq, hr, hB2⟩
  rw [← HZ.out] at hq
  obtain ⟨zq, hzq⟩ : ∃ z, z = x.tdiv y := ⟨_, rfl⟩
  obtain ⟨zr, hzr⟩ : ∃ z, z = x.tmod y := ⟨_, rfl⟩
  try rw [← hzq] at hq
  try rw [← hzr] at hr
  clear hzq hzr
  have HI := Lib.hid hq
  obtain ⟨Aq, cq, rfl, hq⟩ := hq
  obtain ⟨Ar, cr, rfl, hr⟩ := hr
  have HB2 := Lib.hid (HB1.out.trans (hB2.mono HB1.out.size)); clear hB2 hq hr
  go_wp2_with fail
  refine (text_out z _ _ ((HI.out.alloc _).alloc _) HLZ.out).mono ?_
  rw [HTO.out]
  rintro e w3 ⟨rfl, hB3⟩
  have HB3 := Lib.hid ((((HB2.out.alloc HB2.out.size _).alloc (by have := HB2.out.size; simp; omega) _)).trans (hB3.mono (by have := HB2.out.size; simp; omega))); clear hB3
  go_wp2_with fail
  go_ret2
  exact ⟨rfl, HB3.out⟩

theorem do3_out (a b : ByteArray) (w : World) (ha : a.size ≤ maxLen) (hb : b.size ≤ maxLen) :
    Calls Tryd.prog 31 #[.int .i64 3, .string a, .string b] w fun e w' => e = .returned (.tuple #[.string ⟨(divOut a.data.toList b.data.toList ((valL a.data.toList).tdiv (valL b.data.toList))).1.toArray⟩, .int .i64 (divOut a.data.toList b.data.toList ((valL a.data.toList).tdiv (valL b.data.toList))).2]) ∧ Below w.heap.size w w' := by
  unfold divOut
  by_cases h : pairE a.data.toList b.data.toList = 0
  · obtain ⟨h1, h2⟩ := pairE_zero.1 h
    rw [if_neg (by omega)]
    by_cases h0 : valL b.data.toList = 0
    · rw [if_pos h0]
      exact do3_zero a b w h1 h2 h0
    · rw [if_neg h0]
      exact do3_good a b w h1 h2 h0
  · rw [if_pos h]
    exact do3_bad a b w ha hb h

set_option maxRecDepth 100000 in
set_option maxHeartbeats 2000000 in
theorem do4_zero (a b : ByteArray) (w : World) (ha : chk a.data.toList = 0) (hb : chk b.data.toList = 0) (h0 : valL b.data.toList = 0) :
    Calls Tryd.prog 31 #[.int .i64 4, .string a, .string b] w fun e w' => e = .returned (.tuple #[.string ⟨#[]⟩, .int .i64 81]) ∧ Below w.heap.size w w' := by
  have hbg := pair_good a b w ha hb
  generalize valL a.data.toList = x at hbg ⊢
  generalize valL b.data.toList = y at hbg h0 ⊢
  have hl0 : (dg 10 y.natAbs).length = 0 := by rw [h0]; simp [dg_zero]
  have HBG := Lib.hid hbg; have HL0 := Lib.hid hl0
  clear hbg ha hb h0
  go_enter Tryd.func31, Tryd.ntmps31
  go_wp2_with (go_at_call 47; refine HBG.out.mono ?_; rintro e w1 ⟨va, vb, rfl, ⟨A1, c1, rfl, hPa⟩, ⟨A2, c2, rfl, hPb⟩, hB1⟩; have n1 : NumP w1 x A1 c1 := hPa; have n2 : NumP w1 y A2 c2 := hPb; have HPA := Lib.hid n1; have HPB := Lib.hid n2; have HB1 := Lib.hid (((hB1).alloc hB1.size (.cells #[.bool (decide (x < 0)), .slice A1 (dg 10 x.natAbs).length c1] 39)).alloc (by have := hB1.size; simp; omega) (.cells #[.bool (decide (y < 0)), .slice A2 (dg 10 y.natAbs).length c2] 39)); clear hPa hPb hB1 n1 n2)
  go_ret2
  have hBB := HB1.out
  rw [HL0.out] at hBB
  exact ⟨rfl, hBB⟩
set_option maxRecDepth 100000 in
set_option maxHeartbeats 2000000 in
theorem do4_good (a b : ByteArray) (w : World) (ha : chk a.data.toList = 0) (hb : chk b.data.toList = 0) (h0 : valL b.data.toList ≠ 0) :
    Calls Tryd.prog 31 #[.int .i64 4, .string a, .string b] w fun e w' => e = .returned (.tuple #[.string ⟨(txtOut ((valL a.data.toList).tmod (valL b.data.toList))).1.toArray⟩, .int .i64 (txtOut ((valL a.data.toList).tmod (valL b.data.toList))).2]) ∧ Below w.heap.size w w' := by
  have hbg := pair_good a b w ha hb
  have hla := val_len ha
  have hlb := val_len hb
  generalize valL a.data.toList = x at hbg hla ⊢
  generalize valL b.data.toList = y at hbg hlb h0 ⊢
  obtain ⟨z, hz⟩ : ∃ z, z = x.tmod y := ⟨_, rfl⟩
  rw [← hz]
  have hlz : (dg 10 z.natAbs).length ≤ 40000 := by
    rw [hz]
    exact Nat.le_trans ((dg_len (b := 10) (by decide) _ _).2 (Nat.lt_of_le_of_lt (by rw [Int.natAbs_tmod]; exact Nat.mod_le _ _) ((dg_len (b := 10) (by decide) _ _).1 (Nat.le_refl _)))) (Nat.le_trans hla (by decide))
  have hpos : 0 < (dg 10 y.natAbs).length := by
    rcases Nat.eq_zero_or_pos (dg 10 y.natAbs).length with h | h
    · have := (dg_len (b := 10) (by decide) y.natAbs 0).1 (by omega)
      simp at this; omega
    · exact h
  have hne : ¬ (((dg 10 y.natAbs).length : Int) = 0) := by omega
  generalize hto : txtOut z = o
  have HTO := Lib.hid hto
  have HBG := Lib.hid hbg; have HZ := Lib.hid hz; have HLZ := Lib.hid hlz; have HLA := Lib.hid hla; have HLB := Lib.hid hlb; have H0 := Lib.hid h0
  clear hbg ha hb hlz hla hlb hz hto h0
  go_enter Tryd.func31, Tryd.ntmps31
  go_wp2_with (go_at_call 47; refine HBG.out.mono ?_; rintro e w1 ⟨va, vb, rfl, ⟨A1, c1, rfl, hPa⟩, ⟨A2, c2, rfl, hPb⟩, hB1⟩; have n1 : NumP w1 x A1 c1 := hPa; have n2 : NumP w1 y A2 c2 := hPb; have HPA := Lib.hid n1; have HPB := Lib.hid n2; have HB1 := Lib.hid (((hB1).alloc hB1.size (.cells #[.bool (decide (x < 0)), .slice A1 (dg 10 x.natAbs).length c1] 39)).alloc (by have := hB1.size; simp; omega) (.cells #[.bool (decide (y < 0)), .slice A2 (dg 10 y.natAbs).length c2] 39)); clear hPa hPb hB1 n1 n2)
  refine (over_num x y _ _ _ ((HPA.out.alloc _).alloc _).is ((HPB.out.alloc _).alloc _).is HLA.out HLB.out H0.out).mono ?_
  rintro e w2 ⟨u, u', rfl, hq, hr, hB2⟩
  rw [← HZ.out] at hr
  obtain ⟨zq, hzq⟩ : ∃ z, z = x.tdiv y := ⟨_, rfl⟩
  obtain ⟨zr, hzr⟩ : ∃ z, z = x.tmod y := ⟨_, rfl⟩
  try rw [← hzq] at hq
  try rw [← hzr] at hr
  clear hzq hzr
  have HI := Lib.hid hr
  obtain ⟨Aq, cq, rfl, hq⟩ := hq
  obtain ⟨Ar, cr, rfl, hr⟩ := hr
  have HB2 := Lib.hid (HB1.out.trans (hB2.mono HB1.out.size)); clear hB2 hq hr
  go_wp2_with fail
  refine (text_out z _ _ ((HI.out.alloc _).alloc _) HLZ.out).mono ?_
  rw [HTO.out]
  rintro e w3 ⟨rfl, hB3⟩
  have HB3 := Lib.hid ((((HB2.out.alloc HB2.out.size _).alloc (by have := HB2.out.size; simp; omega) _)).trans (hB3.mono (by have := HB2.out.size; simp; omega))); clear hB3
  go_wp2_with fail
  go_ret2
  exact ⟨rfl, HB3.out⟩

theorem do4_out (a b : ByteArray) (w : World) (ha : a.size ≤ maxLen) (hb : b.size ≤ maxLen) :
    Calls Tryd.prog 31 #[.int .i64 4, .string a, .string b] w fun e w' => e = .returned (.tuple #[.string ⟨(divOut a.data.toList b.data.toList ((valL a.data.toList).tmod (valL b.data.toList))).1.toArray⟩, .int .i64 (divOut a.data.toList b.data.toList ((valL a.data.toList).tmod (valL b.data.toList))).2]) ∧ Below w.heap.size w w' := by
  unfold divOut
  by_cases h : pairE a.data.toList b.data.toList = 0
  · obtain ⟨h1, h2⟩ := pairE_zero.1 h
    rw [if_neg (by omega)]
    by_cases h0 : valL b.data.toList = 0
    · rw [if_pos h0]
      exact do4_zero a b w h1 h2 h0
    · rw [if_neg h0]
      exact do4_good a b w h1 h2 h0
  · rw [if_pos h]
    exact do4_bad a b w ha hb h

set_option maxRecDepth 100000 in
set_option maxHeartbeats 1000000 in
theorem law_divs (a b : ByteArray) (w : World) (ha : a.size ≤ maxLen) (hb : b.size ≤ maxLen)
    (htab : ∀ W, Below w.heap.size w W → Lib.TabIs Tryd.prog W "internal/strconv.uint64pow10" .u64 Lib.pow10Tab) :
    Calls Tryd.prog 8 #[.string a, .string b] w fun e w' => e = .returned (.bool true) ∧ Below w.heap.size w w' := by
  have HT := Lib.hid htab; clear htab
  by_cases hl : 1000 < wrap64 ((a.size : Int) + (b.size : Int))
  · go_enter Tryd.func8, Tryd.ntmps8
    go_wp2_with fail
    go_ret
    exact ⟨rfl, Below.refl _ _⟩
  · have H1 := Lib.hid (div_out a b w ha hb HT.out)
    have H2 := Lib.hid (fun W => do3_out a b W ha hb)
    have H3 := Lib.hid (fun W h => mod_out a b W ha hb h)
    have H4 := Lib.hid (fun W => do4_out a b W ha hb)
    generalize divOut a.data.toList b.data.toList ((valL a.data.toList).tdiv (valL b.data.toList)) = o at H1 H2
    generalize divOut a.data.toList b.data.toList ((valL a.data.toList).tmod (valL b.data.toList)) = p at H3 H4
    clear ha hb
    go_enter Tryd.func8, Tryd.ntmps8
    go_wp2_with fail
    refine H1.out.mono ?_
    rintro e w1 ⟨rfl, hB1⟩
    have HB1 := Lib.hid hB1; clear hB1
    go_wp2_with fail
    refine (H2.out _).mono ?_
    rintro e w2 ⟨rfl, hB2⟩
    have HB2 := Lib.hid (HB1.out.trans (hB2.mono HB1.out.size)); clear hB2
    go_wp2_with fail
    refine (H3.out _ (fun W h => HT.out W (HB2.out.trans (h.mono HB2.out.size)))).mono ?_
    rintro e w3 ⟨rfl, hB3⟩
    have HB3 := Lib.hid (HB2.out.trans (hB3.mono HB2.out.size)); clear hB3
    go_wp2_with fail
    refine (H4.out _).mono ?_
    rintro e w4 ⟨rfl, hB4⟩
    have HB4 := Lib.hid (HB3.out.trans (hB4.mono HB3.out.size)); clear hB4
    go_wp2_with fail
    go_ret
    exact ⟨by simp, HB4.out⟩

end Go.Proofs.YtcclclginhhlaaaDoor
