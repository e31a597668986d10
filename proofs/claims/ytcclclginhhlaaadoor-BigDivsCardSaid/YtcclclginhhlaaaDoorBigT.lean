/- The walks over package big: the operations on texts. -/
import Derived.Test.YtcclclginhhlaaaDoorBigS
import Derived.Test.YtcclclginhhlaaaDoorTxtF
import Derived.Test.YtcclclginhhlaaaDoorBigI
import Derived.Test.YtcclclginhhlaaaDoorRefL
namespace Go.Proofs.YtcclclginhhlaaaDoor
open Go.RowKit Go.Shelf
open Pl Dig
attribute [local go_sem] Oper.semAt_some

/-- What an operation on two texts tells: the refusal, or the result's text, or that it is too long. -/
def opOut (a b : List UInt8) (z : Int) : List UInt8 × Int := if pairE a b ≠ 0 then ([], pairE a b) else txtOut z
theorem big_len {l : List UInt8} (h : chk l = 0) : (dg b9 (valL l).natAbs).length ≤ 200 := b9_len (val_len h)
theorem len_mulB {m n j k : Nat} (hm : (dg b9 m).length ≤ j) (hn : (dg b9 n).length ≤ k) : (dg b9 (m * n)).length ≤ j + k + 1 := by
  have h1 := (dg_len b9_two m _).1 hm
  have h2 := (dg_len b9_two n _).1 hn
  refine (dg_len b9_two (m * n) _).2 ?_
  have h3 : m * n ≤ b9 ^ j * b9 ^ k := Nat.mul_le_mul (Nat.le_of_lt h1) (Nat.le_of_lt h2)
  rw [← Nat.pow_add] at h3
  exact Nat.lt_of_le_of_lt h3 (Nat.pow_lt_pow_right (by decide) (by omega))
theorem len_addB {m n k j : Nat} (hm : (dg b9 m).length ≤ k) (hn : (dg b9 n).length ≤ k) (h : j ≤ m + n) : (dg b9 j).length ≤ k + 1 := by
  have h1 := (dg_len b9_two m _).1 hm
  have h2 := (dg_len b9_two n _).1 hn
  refine (dg_len b9_two j _).2 ?_
  rw [Nat.pow_succ]
  have : b9 ^ k * 2 ≤ b9 ^ k * b9 := Nat.mul_le_mul_left _ b9_two
  omega
theorem ten_len {n k : Nat} (h : (dg b9 n).length ≤ k) : (dg 10 n).length ≤ 9 * k := by
  refine (dg_len (by decide) _ _).2 ?_
  have h4 := (dg_len b9_two n k).1 h
  rw [Nat.pow_mul]; exact h4
theorem mul_len (m n : Nat) (hm : (dg b9 m).length ≤ 200) (hn : (dg b9 n).length ≤ 200) : (dg b9 (m * n)).length ≤ 1000 := Nat.le_trans (len_mulB hm hn) (by decide)
theorem add_len {m n k : Nat} (hm : (dg b9 m).length ≤ 200) (hn : (dg b9 n).length ≤ 200) (h : k ≤ m + n) : (dg b9 k).length ≤ 1000 := Nat.le_trans (len_addB hm hn h) (by decide)

set_option maxRecDepth 100000 in
set_option maxHeartbeats 1000000 in
theorem add_bad (a b : ByteArray) (w : World) (ha : a.size ≤ maxLen) (hb : b.size ≤ maxLen) (h : pairE a.data.toList b.data.toList ≠ 0) :
    Calls Tryd.prog 35 #[.string a, .string b, .func (.func 36) #[] #[]] w fun e w' => e = .returned (.tuple #[.string ⟨#[]⟩, .int .i64 (pairE a.data.toList b.data.toList)]) ∧ Below w.heap.size w w' := by
  have hc := both_bad a b w ha hb h
  unfold zero54 at hc
  generalize pairE a.data.toList b.data.toList = k at h hc ⊢
  have HC := Lib.hid hc
  have hne : (k != 0) = true := by simpa using h
  clear hc h
  go_enter Tryd.func35, Tryd.ntmps35
  go_wp2_with (go_at_call 45; refine HC.out.mono ?_; rintro e w1 ⟨rfl, hB1⟩; have HB1 := Lib.hid (((hB1).alloc hB1.size (.cells #[.bool false, .slice none 0 0] 54)).alloc (by have := hB1.size; simp; omega) (.cells #[.bool false, .slice none 0 0] 54)); clear hB1)
  go_ret2
  exact ⟨rfl, HB1.out⟩

set_option maxRecDepth 100000 in
set_option maxHeartbeats 1000000 in
theorem sub_bad (a b : ByteArray) (w : World) (ha : a.size ≤ maxLen) (hb : b.size ≤ maxLen) (h : pairE a.data.toList b.data.toList ≠ 0) :
    Calls Tryd.prog 35 #[.string a, .string b, .func (.func 42) #[] #[]] w fun e w' => e = .returned (.tuple #[.string ⟨#[]⟩, .int .i64 (pairE a.data.toList b.data.toList)]) ∧ Below w.heap.size w w' := by
  have hc := both_bad a b w ha hb h
  unfold zero54 at hc
  generalize pairE a.data.toList b.data.toList = k at h hc ⊢
  have HC := Lib.hid hc
  have hne : (k != 0) = true := by simpa using h
  clear hc h
  go_enter Tryd.func35, Tryd.ntmps35
  go_wp2_with (go_at_call 45; refine HC.out.mono ?_; rintro e w1 ⟨rfl, hB1⟩; have HB1 := Lib.hid (((hB1).alloc hB1.size (.cells #[.bool false, .slice none 0 0] 54)).alloc (by have := hB1.size; simp; omega) (.cells #[.bool false, .slice none 0 0] 54)); clear hB1)
  go_ret2
  exact ⟨rfl, HB1.out⟩

set_option maxRecDepth 100000 in
set_option maxHeartbeats 1000000 in
theorem mul_bad (a b : ByteArray) (w : World) (ha : a.size ≤ maxLen) (hb : b.size ≤ maxLen) (h : pairE a.data.toList b.data.toList ≠ 0) :
    Calls Tryd.prog 35 #[.string a, .string b, .func (.func 37) #[] #[]] w fun e w' => e = .returned (.tuple #[.string ⟨#[]⟩, .int .i64 (pairE a.data.toList b.data.toList)]) ∧ Below w.heap.size w w' := by
  have hc := both_bad a b w ha hb h
  unfold zero54 at hc
  generalize pairE a.data.toList b.data.toList = k at h hc ⊢
  have HC := Lib.hid hc
  have hne : (k != 0) = true := by simpa using h
  clear hc h
  go_enter Tryd.func35, Tryd.ntmps35
  go_wp2_with (go_at_call 45; refine HC.out.mono ?_; rintro e w1 ⟨rfl, hB1⟩; have HB1 := Lib.hid (((hB1).alloc hB1.size (.cells #[.bool false, .slice none 0 0] 54)).alloc (by have := hB1.size; simp; omega) (.cells #[.bool false, .slice none 0 0] 54)); clear hB1)
  go_ret2
  exact ⟨rfl, HB1.out⟩

set_option maxRecDepth 100000 in
set_option maxHeartbeats 2000000 in
theorem add_good (a b : ByteArray) (w : World) (ha : chk a.data.toList = 0) (hb : chk b.data.toList = 0)
    (htab : ∀ W', Below w.heap.size w W' → Lib.TabIs Tryd.prog W' "internal/strconv.uint64pow10" .u64 Lib.pow10Tab) :
    Calls Tryd.prog 35 #[.string a, .string b, .func (.func 36) #[] #[]] w fun e w' => e = .returned (.tuple #[.string ⟨(txtOut ((valL a.data.toList) + (valL b.data.toList))).1.toArray⟩, .int .i64 (txtOut ((valL a.data.toList) + (valL b.data.toList))).2]) ∧ Below w.heap.size w w' := by
  have hbg := both_good a b w ha hb
  have hla := big_len ha
  have hlb := big_len hb
  generalize valL a.data.toList = x at hbg hla ⊢
  generalize valL b.data.toList = y at hbg hlb ⊢
  obtain ⟨z, hz⟩ : ∃ z, z = x + y := ⟨_, rfl⟩
  rw [← hz]
  have hlz : (dg b9 z.natAbs).length ≤ 1000 := by exact add_len hla hlb (by omega)
  have hchk := chk_txt z
  have HBG := Lib.hid hbg; have HT := Lib.hid htab; have HZ := Lib.hid hz; have HLZ := Lib.hid hlz; have HLA := Lib.hid hla; have HLB := Lib.hid hlb
  clear hbg htab ha hb hlz hla hlb hz
  have hout : txtOut z = if 200 < (dg 10 z.natAbs).length then ([], 80) else (txt z, 0) := by
    unfold txtOut
    by_cases h : 200 < (dg 10 z.natAbs).length
    · rw [if_pos h, if_neg (by omega)]
    · rw [if_neg h, if_pos (by omega)]
  rw [hout]
  clear hout
  obtain ⟨T, hT⟩ : ∃ T : ByteArray, T = ⟨(txt z).toArray⟩ := ⟨_, rfl⟩
  have hTd : T.data.toList = txt z := by rw [hT]
  have hTs : T.size ≤ maxLen := by
    have h1 : T.size = (txt z).length := by rw [← hTd]; exact size_len T
    have h2 : (txt z).length ≤ 1 + 9 * 1000 := by
      by_cases h0 : z = 0
      · rw [h0]; decide
      · rw [txt_ne h0, List.length_append, body_len]
        have h3 := ten_len HLZ.out
        split <;> simp <;> omega
    unfold maxLen; omega
  have HTD := Lib.hid hTd; have HTS := Lib.hid hTs; have HTT := Lib.hid hT
  clear hTd hTs hT
  have hcheck := fun W => big_check T W HTS.out
  rw [HTD.out, hchk] at hcheck
  clear hchk
  by_cases h : 200 < (dg 10 z.natAbs).length
  · rw [if_pos h] at hcheck ⊢
    have HCK := Lib.hid hcheck
    clear hcheck h
    go_enter Tryd.func35, Tryd.ntmps35
    go_wp2_with (go_at_call 45; refine HBG.out.mono ?_; rintro e w1 ⟨va, vb, rfl, ⟨A1, c1, rfl, hPa⟩, ⟨A2, c2, rfl, hPb⟩, hB1⟩; have HPA := Lib.hid hPa; have HPB := Lib.hid hPb; have HB1 := Lib.hid (((hB1).alloc hB1.size (.cells #[.bool (decide (x < 0)), .slice A1 (dg b9 x.natAbs).length c1] 54)).alloc (by have := hB1.size; simp; omega) (.cells #[.bool (decide (y < 0)), .slice A2 (dg b9 y.natAbs).length c2] 54)); clear hPa hPb hB1)
    refine (plus_big x y _ _ _ ((HPA.out.alloc _).alloc _).is ((HPB.out.alloc _).alloc _).is (by have := HLA.out; omega) (by have := HLB.out; omega)).mono ?_
    rw [← HZ.out]
    rintro e w2 ⟨v2, rfl, hI2, hB2⟩
    have HI2 := Lib.hid hI2; have HB2 := Lib.hid (HB1.out.trans (hB2.mono HB1.out.size)); clear hI2 hB2
    go_wp2_with fail
    refine (text_big z _ _ HI2.out HLZ.out (fun W h => HT.out W (HB2.out.trans (h.mono HB2.out.size)))).mono ?_
    rw [← HTT.out]
    rintro e w3 ⟨rfl, hB3⟩
    have HB3 := Lib.hid (HB2.out.trans (hB3.mono HB2.out.size)); clear hB3
    go_wp2_with fail
    refine (HCK.out _).mono ?_
    rintro e w4 ⟨rfl, hB4⟩
    have HB4 := Lib.hid (HB3.out.trans (hB4.mono HB3.out.size)); clear hB4
    go_wp2_with fail
    go_ret2
    exact ⟨rfl, HB4.out⟩
  · rw [if_neg h] at hcheck ⊢
    rw [← HTT.out]
    have HCK := Lib.hid hcheck
    clear hcheck h
    go_enter Tryd.func35, Tryd.ntmps35
    go_wp2_with (go_at_call 45; refine HBG.out.mono ?_; rintro e w1 ⟨va, vb, rfl, ⟨A1, c1, rfl, hPa⟩, ⟨A2, c2, rfl, hPb⟩, hB1⟩; have HPA := Lib.hid hPa; have HPB := Lib.hid hPb; have HB1 := Lib.hid (((hB1).alloc hB1.size (.cells #[.bool (decide (x < 0)), .slice A1 (dg b9 x.natAbs).length c1] 54)).alloc (by have := hB1.size; simp; omega) (.cells #[.bool (decide (y < 0)), .slice A2 (dg b9 y.natAbs).length c2] 54)); clear hPa hPb hB1)
    refine (plus_big x y _ _ _ ((HPA.out.alloc _).alloc _).is ((HPB.out.alloc _).alloc _).is (by have := HLA.out; omega) (by have := HLB.out; omega)).mono ?_
    rw [← HZ.out]
    rintro e w2 ⟨v2, rfl, hI2, hB2⟩
    have HI2 := Lib.hid hI2; have HB2 := Lib.hid (HB1.out.trans (hB2.mono HB1.out.size)); clear hI2 hB2
    go_wp2_with fail
    refine (text_big z _ _ HI2.out HLZ.out (fun W h => HT.out W (HB2.out.trans (h.mono HB2.out.size)))).mono ?_
    rw [← HTT.out]
    rintro e w3 ⟨rfl, hB3⟩
    have HB3 := Lib.hid (HB2.out.trans (hB3.mono HB2.out.size)); clear hB3
    go_wp2_with fail
    refine (HCK.out _).mono ?_
    rintro e w4 ⟨rfl, hB4⟩
    have HB4 := Lib.hid (HB3.out.trans (hB4.mono HB3.out.size)); clear hB4
    go_wp2_with fail
    go_ret2
    exact ⟨rfl, HB4.out⟩

set_option maxRecDepth 100000 in
set_option maxHeartbeats 2000000 in
theorem sub_good (a b : ByteArray) (w : World) (ha : chk a.data.toList = 0) (hb : chk b.data.toList = 0)
    (htab : ∀ W', Below w.heap.size w W' → Lib.TabIs Tryd.prog W' "internal/strconv.uint64pow10" .u64 Lib.pow10Tab) :
    Calls Tryd.prog 35 #[.string a, .string b, .func (.func 42) #[] #[]] w fun e w' => e = .returned (.tuple #[.string ⟨(txtOut ((valL a.data.toList) - (valL b.data.toList))).1.toArray⟩, .int .i64 (txtOut ((valL a.data.toList) - (valL b.data.toList))).2]) ∧ Below w.heap.size w w' := by
  have hbg := both_good a b w ha hb
  have hla := big_len ha
  have hlb := big_len hb
  generalize valL a.data.toList = x at hbg hla ⊢
  generalize valL b.data.toList = y at hbg hlb ⊢
  obtain ⟨z, hz⟩ : ∃ z, z = x - y := ⟨_, rfl⟩
  rw [← hz]
  have hlz : (dg b9 z.natAbs).length ≤ 1000 := by exact add_len hla hlb (by omega)
  have hchk := chk_txt z
  have HBG := Lib.hid hbg; have HT := Lib.hid htab; have HZ := Lib.hid hz; have HLZ := Lib.hid hlz; have HLA := Lib.hid hla; have HLB := Lib.hid hlb
  clear hbg htab ha hb hlz hla hlb hz
  have hout : txtOut z = if 200 < (dg 10 z.natAbs).length then ([], 80) else (txt z, 0) := by
    unfold txtOut
    by_cases h : 200 < (dg 10 z.natAbs).length
    · rw [if_pos h, if_neg (by omega)]
    · rw [if_neg h, if_pos (by omega)]
  rw [hout]
  clear hout
  obtain ⟨T, hT⟩ : ∃ T : ByteArray, T = ⟨(txt z).toArray⟩ := ⟨_, rfl⟩
  have hTd : T.data.toList = txt z := by rw [hT]
  have hTs : T.size ≤ maxLen := by
    have h1 : T.size = (txt z).length := by rw [← hTd]; exact size_len T
    have h2 : (txt z).length ≤ 1 + 9 * 1000 := by
      by_cases h0 : z = 0
      · rw [h0]; decide
      · rw [txt_ne h0, List.length_append, body_len]
        have h3 := ten_len HLZ.out
        split <;> simp <;> omega
    unfold maxLen; omega
  have HTD := Lib.hid hTd; have HTS := Lib.hid hTs; have HTT := Lib.hid hT
  clear hTd hTs hT
  have hcheck := fun W => big_check T W HTS.out
  rw [HTD.out, hchk] at hcheck
  clear hchk
  by_cases h : 200 < (dg 10 z.natAbs).length
  · rw [if_pos h] at hcheck ⊢
    have HCK := Lib.hid hcheck
    clear hcheck h
    go_enter Tryd.func35, Tryd.ntmps35
    go_wp2_with (go_at_call 45; refine HBG.out.mono ?_; rintro e w1 ⟨va, vb, rfl, ⟨A1, c1, rfl, hPa⟩, ⟨A2, c2, rfl, hPb⟩, hB1⟩; have HPA := Lib.hid hPa; have HPB := Lib.hid hPb; have HB1 := Lib.hid (((hB1).alloc hB1.size (.cells #[.bool (decide (x < 0)), .slice A1 (dg b9 x.natAbs).length c1] 54)).alloc (by have := hB1.size; simp; omega) (.cells #[.bool (decide (y < 0)), .slice A2 (dg b9 y.natAbs).length c2] 54)); clear hPa hPb hB1)
    refine (minus_big x y _ _ _ ((HPA.out.alloc _).alloc _).is ((HPB.out.alloc _).alloc _).is (by have := HLA.out; omega) (by have := HLB.out; omega)).mono ?_
    rw [← HZ.out]
    rintro e w2 ⟨v2, rfl, hI2, hB2⟩
    have HI2 := Lib.hid hI2; have HB2 := Lib.hid (HB1.out.trans (hB2.mono HB1.out.size)); clear hI2 hB2
    go_wp2_with fail
    refine (text_big z _ _ HI2.out HLZ.out (fun W h => HT.out W (HB2.out.trans (h.mono HB2.out.size)))).mono ?_
    rw [← HTT.out]
    rintro e w3 ⟨rfl, hB3⟩
    have HB3 := Lib.hid (HB2.out.trans (hB3.mono HB2.out.size)); clear hB3
    go_wp2_with fail
    refine (HCK.out _).mono ?_
    rintro e w4 ⟨rfl, hB4⟩
    have HB4 := Lib.hid (HB3.out.trans (hB4.mono HB3.out.size)); clear hB4
    go_wp2_with fail
    go_ret2
    exact ⟨rfl, HB4.out⟩
  · rw [if_neg h] at hcheck ⊢
    rw [← HTT.out]
    have HCK := Lib.hid hcheck
    clear hcheck h
    go_enter Tryd.func35, Tryd.ntmps35
    go_wp2_with (go_at_call 45; refine HBG.out.mono ?_; rintro e w1 ⟨va, vb, rfl, ⟨A1, c1, rfl, hPa⟩, ⟨A2, c2, rfl, hPb⟩, hB1⟩; have HPA := Lib.hid hPa; have HPB := Lib.hid hPb; have HB1 := Lib.hid (((hB1).alloc hB1.size (.cells #[.bool (decide (x < 0)), .slice A1 (dg b9 x.natAbs).length c1] 54)).alloc (by have := hB1.size; simp; omega) (.cells #[.bool (decide (y < 0)), .slice A2 (dg b9 y.natAbs).length c2] 54)); clear hPa hPb hB1)
    refine (minus_big x y _ _ _ ((HPA.out.alloc _).alloc _).is ((HPB.out.alloc _).alloc _).is (by have := HLA.out; omega) (by have := HLB.out; omega)).mono ?_
    rw [← HZ.out]
    rintro e w2 ⟨v2, rfl, hI2, hB2⟩
    have HI2 := Lib.hid hI2; have HB2 := Lib.hid (HB1.out.trans (hB2.mono HB1.out.size)); clear hI2 hB2
    go_wp2_with fail
    refine (text_big z _ _ HI2.out HLZ.out (fun W h => HT.out W (HB2.out.trans (h.mono HB2.out.size)))).mono ?_
    rw [← HTT.out]
    rintro e w3 ⟨rfl, hB3⟩
    have HB3 := Lib.hid (HB2.out.trans (hB3.mono HB2.out.size)); clear hB3
    go_wp2_with fail
    refine (HCK.out _).mono ?_
    rintro e w4 ⟨rfl, hB4⟩
    have HB4 := Lib.hid (HB3.out.trans (hB4.mono HB3.out.size)); clear hB4
    go_wp2_with fail
    go_ret2
    exact ⟨rfl, HB4.out⟩

set_option maxRecDepth 100000 in
set_option maxHeartbeats 2000000 in
theorem mul_good (a b : ByteArray) (w : World) (ha : chk a.data.toList = 0) (hb : chk b.data.toList = 0)
    (htab : ∀ W', Below w.heap.size w W' → Lib.TabIs Tryd.prog W' "internal/strconv.uint64pow10" .u64 Lib.pow10Tab) :
    Calls Tryd.prog 35 #[.string a, .string b, .func (.func 37) #[] #[]] w fun e w' => e = .returned (.tuple #[.string ⟨(txtOut ((valL a.data.toList) * (valL b.data.toList))).1.toArray⟩, .int .i64 (txtOut ((valL a.data.toList) * (valL b.data.toList))).2]) ∧ Below w.heap.size w w' := by
  have hbg := both_good a b w ha hb
  have hla := big_len ha
  have hlb := big_len hb
  generalize valL a.data.toList = x at hbg hla ⊢
  generalize valL b.data.toList = y at hbg hlb ⊢
  obtain ⟨z, hz⟩ : ∃ z, z = x * y := ⟨_, rfl⟩
  rw [← hz]
  have hlz : (dg b9 z.natAbs).length ≤ 1000 := by rw [hz, Int.natAbs_mul]; exact mul_len _ _ hla hlb
  have hchk := chk_txt z
  have HBG := Lib.hid hbg; have HT := Lib.hid htab; have HZ := Lib.hid hz; have HLZ := Lib.hid hlz; have HLA := Lib.hid hla; have HLB := Lib.hid hlb
  clear hbg htab ha hb hlz hla hlb hz
  have hout : txtOut z = if 200 < (dg 10 z.natAbs).length then ([], 80) else (txt z, 0) := by
    unfold txtOut
    by_cases h : 200 < (dg 10 z.natAbs).length
    · rw [if_pos h, if_neg (by omega)]
    · rw [if_neg h, if_pos (by omega)]
  rw [hout]
  clear hout
  obtain ⟨T, hT⟩ : ∃ T : ByteArray, T = ⟨(txt z).toArray⟩ := ⟨_, rfl⟩
  have hTd : T.data.toList = txt z := by rw [hT]
  have hTs : T.size ≤ maxLen := by
    have h1 : T.size = (txt z).length := by rw [← hTd]; exact size_len T
    have h2 : (txt z).length ≤ 1 + 9 * 1000 := by
      by_cases h0 : z = 0
      · rw [h0]; decide
      · rw [txt_ne h0, List.length_append, body_len]
        have h3 := ten_len HLZ.out
        split <;> simp <;> omega
    unfold maxLen; omega
  have HTD := Lib.hid hTd; have HTS := Lib.hid hTs; have HTT := Lib.hid hT
  clear hTd hTs hT
  have hcheck := fun W => big_check T W HTS.out
  rw [HTD.out, hchk] at hcheck
  clear hchk
  by_cases h : 200 < (dg 10 z.natAbs).length
  · rw [if_pos h] at hcheck ⊢
    have HCK := Lib.hid hcheck
    clear hcheck h
    go_enter Tryd.func35, Tryd.ntmps35
    go_wp2_with (go_at_call 45; refine HBG.out.mono ?_; rintro e w1 ⟨va, vb, rfl, ⟨A1, c1, rfl, hPa⟩, ⟨A2, c2, rfl, hPb⟩, hB1⟩; have HPA := Lib.hid hPa; have HPB := Lib.hid hPb; have HB1 := Lib.hid (((hB1).alloc hB1.size (.cells #[.bool (decide (x < 0)), .slice A1 (dg b9 x.natAbs).length c1] 54)).alloc (by have := hB1.size; simp; omega) (.cells #[.bool (decide (y < 0)), .slice A2 (dg b9 y.natAbs).length c2] 54)); clear hPa hPb hB1)
    refine (times_big x y _ _ _ ((HPA.out.alloc _).alloc _).is ((HPB.out.alloc _).alloc _).is (by have := HLA.out; omega) (by have := HLB.out; omega)).mono ?_
    rw [← HZ.out]
    rintro e w2 ⟨v2, rfl, hI2, hB2⟩
    have HI2 := Lib.hid hI2; have HB2 := Lib.hid (HB1.out.trans (hB2.mono HB1.out.size)); clear hI2 hB2
    go_wp2_with fail
    refine (text_big z _ _ HI2.out HLZ.out (fun W h => HT.out W (HB2.out.trans (h.mono HB2.out.size)))).mono ?_
    rw [← HTT.out]
    rintro e w3 ⟨rfl, hB3⟩
    have HB3 := Lib.hid (HB2.out.trans (hB3.mono HB2.out.size)); clear hB3
    go_wp2_with fail
    refine (HCK.out _).mono ?_
    rintro e w4 ⟨rfl, hB4⟩
    have HB4 := Lib.hid (HB3.out.trans (hB4.mono HB3.out.size)); clear hB4
    go_wp2_with fail
    go_ret2
    exact ⟨rfl, HB4.out⟩
  · rw [if_neg h] at hcheck ⊢
    rw [← HTT.out]
    have HCK := Lib.hid hcheck
    clear hcheck h
    go_enter Tryd.func35, Tryd.ntmps35
    go_wp2_with (go_at_call 45; refine HBG.out.mono ?_; rintro e w1 ⟨va, vb, rfl, ⟨A1, c1, rfl, hPa⟩, ⟨A2, c2, rfl, hPb⟩, hB1⟩; have HPA := Lib.hid hPa; have HPB := Lib.hid hPb; have HB1 := Lib.hid (((hB1).alloc hB1.size (.cells #[.bool (decide (x < 0)), .slice A1 (dg b9 x.natAbs).length c1] 54)).alloc (by have := hB1.size; simp; omega) (.cells #[.bool (decide (y < 0)), .slice A2 (dg b9 y.natAbs).length c2] 54)); clear hPa hPb hB1)
    refine (times_big x y _ _ _ ((HPA.out.alloc _).alloc _).is ((HPB.out.alloc _).alloc _).is (by have := HLA.out; omega) (by have := HLB.out; omega)).mono ?_
    rw [← HZ.out]
    rintro e w2 ⟨v2, rfl, hI2, hB2⟩
    have HI2 := Lib.hid hI2; have HB2 := Lib.hid (HB1.out.trans (hB2.mono HB1.out.size)); clear hI2 hB2
    go_wp2_with fail
    refine (text_big z _ _ HI2.out HLZ.out (fun W h => HT.out W (HB2.out.trans (h.mono HB2.out.size)))).mono ?_
    rw [← HTT.out]
    rintro e w3 ⟨rfl, hB3⟩
    have HB3 := Lib.hid (HB2.out.trans (hB3.mono HB2.out.size)); clear hB3
    go_wp2_with fail
    refine (HCK.out _).mono ?_
    rintro e w4 ⟨rfl, hB4⟩
    have HB4 := Lib.hid (HB3.out.trans (hB4.mono HB3.out.size)); clear hB4
    go_wp2_with fail
    go_ret2
    exact ⟨rfl, HB4.out⟩

set_option maxRecDepth 100000 in
theorem add_out (a b : ByteArray) (w : World) (ha : a.size ≤ maxLen) (hb : b.size ≤ maxLen)
    (htab : ∀ W', Below w.heap.size w W' → Lib.TabIs Tryd.prog W' "internal/strconv.uint64pow10" .u64 Lib.pow10Tab) :
    Calls Tryd.prog 15 #[.string a, .string b] w fun e w' => e = .returned (.tuple #[.string ⟨(opOut a.data.toList b.data.toList (valL a.data.toList + valL b.data.toList)).1.toArray⟩, .int .i64 (opOut a.data.toList b.data.toList (valL a.data.toList + valL b.data.toList)).2]) ∧ Below w.heap.size w w' := by
  have hc : Calls Tryd.prog 35 #[.string a, .string b, .func (.func 36) #[] #[]] w fun e w' => e = .returned (.tuple #[.string ⟨(opOut a.data.toList b.data.toList (valL a.data.toList + valL b.data.toList)).1.toArray⟩, .int .i64 (opOut a.data.toList b.data.toList (valL a.data.toList + valL b.data.toList)).2]) ∧ Below w.heap.size w w' := by
    unfold opOut
    by_cases h : pairE a.data.toList b.data.toList = 0
    · obtain ⟨h1, h2⟩ := pairE_zero.1 h
      rw [if_neg (by omega)]
      exact add_good a b w h1 h2 htab
    · rw [if_pos h]
      exact add_bad a b w ha hb h
  generalize opOut a.data.toList b.data.toList (valL a.data.toList + valL b.data.toList) = o at hc ⊢
  have HC := Lib.hid hc
  clear hc htab
  go_enter Tryd.func15, Tryd.ntmps15
  go_wp2_with (go_at_call 35; refine HC.out.mono ?_; rintro e w1 ⟨rfl, hB1⟩; have HB1 := Lib.hid hB1; clear hB1)
  go_ret2
  exact ⟨rfl, HB1.out⟩

set_option maxRecDepth 100000 in
theorem sub_out (a b : ByteArray) (w : World) (ha : a.size ≤ maxLen) (hb : b.size ≤ maxLen)
    (htab : ∀ W', Below w.heap.size w W' → Lib.TabIs Tryd.prog W' "internal/strconv.uint64pow10" .u64 Lib.pow10Tab) :
    Calls Tryd.prog 20 #[.string a, .string b] w fun e w' => e = .returned (.tuple #[.string ⟨(opOut a.data.toList b.data.toList (valL a.data.toList - valL b.data.toList)).1.toArray⟩, .int .i64 (opOut a.data.toList b.data.toList (valL a.data.toList - valL b.data.toList)).2]) ∧ Below w.heap.size w w' := by
  have hc : Calls Tryd.prog 35 #[.string a, .string b, .func (.func 42) #[] #[]] w fun e w' => e = .returned (.tuple #[.string ⟨(opOut a.data.toList b.data.toList (valL a.data.toList - valL b.data.toList)).1.toArray⟩, .int .i64 (opOut a.data.toList b.data.toList (valL a.data.toList - valL b.data.toList)).2]) ∧ Below w.heap.size w w' := by
    unfold opOut
    by_cases h : pairE a.data.toList b.data.toList = 0
    · obtain ⟨h1, h2⟩ := pairE_zero.1 h
      rw [if_neg (by omega)]
      exact sub_good a b w h1 h2 htab
    · rw [if_pos h]
      exact sub_bad a b w ha hb h
  generalize opOut a.data.toList b.data.toList (valL a.data.toList - valL b.data.toList) = o at hc ⊢
  have HC := Lib.hid hc
  clear hc htab
  go_enter Tryd.func20, Tryd.ntmps20
  go_wp2_with (go_at_call 35; refine HC.out.mono ?_; rintro e w1 ⟨rfl, hB1⟩; have HB1 := Lib.hid hB1; clear hB1)
  go_ret2
  exact ⟨rfl, HB1.out⟩

set_option maxRecDepth 100000 in
theorem mul_out (a b : ByteArray) (w : World) (ha : a.size ≤ maxLen) (hb : b.size ≤ maxLen)
    (htab : ∀ W', Below w.heap.size w W' → Lib.TabIs Tryd.prog W' "internal/strconv.uint64pow10" .u64 Lib.pow10Tab) :
    Calls Tryd.prog 16 #[.string a, .string b] w fun e w' => e = .returned (.tuple #[.string ⟨(opOut a.data.toList b.data.toList (valL a.data.toList * valL b.data.toList)).1.toArray⟩, .int .i64 (opOut a.data.toList b.data.toList (valL a.data.toList * valL b.data.toList)).2]) ∧ Below w.heap.size w w' := by
  have hc : Calls Tryd.prog 35 #[.string a, .string b, .func (.func 37) #[] #[]] w fun e w' => e = .returned (.tuple #[.string ⟨(opOut a.data.toList b.data.toList (valL a.data.toList * valL b.data.toList)).1.toArray⟩, .int .i64 (opOut a.data.toList b.data.toList (valL a.data.toList * valL b.data.toList)).2]) ∧ Below w.heap.size w w' := by
    unfold opOut
    by_cases h : pairE a.data.toList b.data.toList = 0
    · obtain ⟨h1, h2⟩ := pairE_zero.1 h
      rw [if_neg (by omega)]
      exact mul_good a b w h1 h2 htab
    · rw [if_pos h]
      exact mul_bad a b w ha hb h
  generalize opOut a.data.toList b.data.toList (valL a.data.toList * valL b.data.toList) = o at hc ⊢
  have HC := Lib.hid hc
  clear hc htab
  go_enter Tryd.func16, Tryd.ntmps16
  go_wp2_with (go_at_call 35; refine HC.out.mono ?_; rintro e w1 ⟨rfl, hB1⟩; have HB1 := Lib.hid hB1; clear hB1)
  go_ret2
  exact ⟨rfl, HB1.out⟩
end Go.Proofs.YtcclclginhhlaaaDoor
