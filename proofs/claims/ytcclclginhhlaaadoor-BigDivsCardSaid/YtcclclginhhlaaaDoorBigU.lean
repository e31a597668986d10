/- The walks over package big: divisions of texts. -/
import Derived.Test.YtcclclginhhlaaaDoorBigT
namespace Go.Proofs.YtcclclginhhlaaaDoor
open Go.RowKit Go.Shelf
open Pl Dig
attribute [local go_sem] Oper.semAt_some

/-- What a division of two texts tells. -/
def divOut (a b : List UInt8) (z : Int) : List UInt8 × Int := if pairE a b ≠ 0 then ([], pairE a b) else if valL b = 0 then ([], 81) else txtOut z

set_option maxRecDepth 100000 in
set_option maxHeartbeats 1000000 in
theorem div_bad (a b : ByteArray) (w : World) (ha : a.size ≤ maxLen) (hb : b.size ≤ maxLen) (h : pairE a.data.toList b.data.toList ≠ 0) :
    Calls Tryd.prog 38 #[.string a, .string b, .func (.func 39) #[] #[]] w fun e w' => e = .returned (.tuple #[.string ⟨#[]⟩, .int .i64 (pairE a.data.toList b.data.toList)]) ∧ Below w.heap.size w w' := by
  have hc := both_bad a b w ha hb h
  unfold zero54 at hc
  generalize pairE a.data.toList b.data.toList = k at h hc ⊢
  have HC := Lib.hid hc
  have hne : (k != 0) = true := by simpa using h
  clear hc h
  go_enter Tryd.func38, Tryd.ntmps38
  go_wp2_with (go_at_call 45; refine HC.out.mono ?_; rintro e w1 ⟨rfl, hB1⟩; have HB1 := Lib.hid (((hB1).alloc hB1.size (.cells #[.bool false, .slice none 0 0] 54)).alloc (by have := hB1.size; simp; omega) (.cells #[.bool false, .slice none 0 0] 54)); clear hB1)
  go_ret2
  exact ⟨rfl, HB1.out⟩

set_option maxRecDepth 100000 in
set_option maxHeartbeats 1000000 in
theorem div_zero (a b : ByteArray) (w : World) (ha : chk a.data.toList = 0) (hb : chk b.data.toList = 0) (h0 : valL b.data.toList = 0) :
    Calls Tryd.prog 38 #[.string a, .string b, .func (.func 39) #[] #[]] w fun e w' => e = .returned (.tuple #[.string ⟨#[]⟩, .int .i64 81]) ∧ Below w.heap.size w w' := by
  have hbg := both_good a b w ha hb
  rw [h0] at hbg
  generalize valL a.data.toList = x at hbg ⊢
  have HBG := Lib.hid hbg
  have hzz : ∀ W A c, BigP W 0 A c → Calls Tryd.prog 61 #[.agg #[.bool (decide ((0 : Int) < 0)), .slice A (dg b9 (0 : Int).natAbs).length c]] W fun e w' => e = .returned (.bool true) ∧ Below W.heap.size W w' := fun W A c h => zero_big 0 _ W h.is
  have HZZ := Lib.hid hzz
  clear hbg h0 ha hb hzz
  go_enter Tryd.func38, Tryd.ntmps38
  go_wp2_with (go_at_call 45; refine HBG.out.mono ?_; rintro e w1 ⟨va, vb, rfl, ⟨A1, c1, rfl, hPa⟩, ⟨A2, c2, rfl, hPb⟩, hB1⟩; have HPB := Lib.hid hPb; have HB1 := Lib.hid (((hB1).alloc hB1.size (.cells #[.bool (decide (x < 0)), .slice A1 (dg b9 x.natAbs).length c1] 54)).alloc (by have := hB1.size; simp; omega) (.cells #[.bool (decide ((0 : Int) < 0)), .slice A2 (dg b9 (0 : Int).natAbs).length c2] 54)); clear hPa hPb hB1)
  refine (HZZ.out _ A2 c2 ((HPB.out.alloc _).alloc _)).mono ?_
  rintro e w2 ⟨rfl, hB2⟩
  have HB2 := Lib.hid (HB1.out.trans (hB2.mono HB1.out.size)); clear hB2
  go_wp2_with fail
  go_ret2
  exact ⟨rfl, HB2.out⟩

set_option maxRecDepth 100000 in
set_option maxHeartbeats 2000000 in
theorem div_good (a b : ByteArray) (w : World) (ha : chk a.data.toList = 0) (hb : chk b.data.toList = 0) (h0 : valL b.data.toList ≠ 0)
    (htab : ∀ W', Below w.heap.size w W' → Lib.TabIs Tryd.prog W' "internal/strconv.uint64pow10" .u64 Lib.pow10Tab) :
    Calls Tryd.prog 38 #[.string a, .string b, .func (.func 39) #[] #[]] w fun e w' => e = .returned (.tuple #[.string ⟨(txt ((valL a.data.toList).tdiv (valL b.data.toList))).toArray⟩, .int .i64 0]) ∧ Below w.heap.size w w' := by
  have hbg := both_good a b w ha hb
  have hla := big_len ha
  have hlb := big_len hb
  generalize valL a.data.toList = x at hbg hla ⊢
  generalize valL b.data.toList = y at hbg hlb h0 ⊢
  obtain ⟨z, hz⟩ : ∃ z, z = x.tdiv y := ⟨_, rfl⟩
  rw [← hz]
  have hlz : (dg b9 z.natAbs).length ≤ 1000 := by rw [hz, Int.natAbs_tdiv]; exact Nat.le_trans (dg_mono (Nat.div_le_self _ _)) (by omega)
  have hzz : ∀ W A c, BigP W y A c → Calls Tryd.prog 61 #[.agg #[.bool (decide (y < 0)), .slice A (dg b9 y.natAbs).length c]] W fun e w' => e = .returned (.bool false) ∧ Below W.heap.size W w' := fun W A c h => by
    have := zero_big y _ W h.is
    rwa [decide_eq_false h0] at this
  have HBG := Lib.hid hbg; have HT := Lib.hid htab; have HZ := Lib.hid hz; have HLZ := Lib.hid hlz; have HLA := Lib.hid hla; have HLB := Lib.hid hlb; have HZZ := Lib.hid hzz; have H0 := Lib.hid h0
  clear hbg htab ha hb hlz hla hlb hz hzz h0
  obtain ⟨T, hT⟩ : ∃ T : ByteArray, T = ⟨(txt z).toArray⟩ := ⟨_, rfl⟩
  rw [← hT]
  have HTT := Lib.hid hT
  clear hT
  go_enter Tryd.func38, Tryd.ntmps38
  go_wp2_with (go_at_call 45; refine HBG.out.mono ?_; rintro e w1 ⟨va, vb, rfl, ⟨A1, c1, rfl, hPa⟩, ⟨A2, c2, rfl, hPb⟩, hB1⟩; have HPA := Lib.hid ((hPa.alloc (.cells #[.bool (decide (x < 0)), .slice A1 (dg b9 x.natAbs).length c1] 54)).alloc (.cells #[.bool (decide (y < 0)), .slice A2 (dg b9 y.natAbs).length c2] 54)); have HPB := Lib.hid ((hPb.alloc (.cells #[.bool (decide (x < 0)), .slice A1 (dg b9 x.natAbs).length c1] 54)).alloc (.cells #[.bool (decide (y < 0)), .slice A2 (dg b9 y.natAbs).length c2] 54)); have HB1 := Lib.hid (((hB1).alloc hB1.size (.cells #[.bool (decide (x < 0)), .slice A1 (dg b9 x.natAbs).length c1] 54)).alloc (by have := hB1.size; simp; omega) (.cells #[.bool (decide (y < 0)), .slice A2 (dg b9 y.natAbs).length c2] 54)); clear hPa hPb hB1)
  have bx := (Blk.new w1 54 #[.bool (decide (x < 0)), .slice A1 (dg b9 x.natAbs).length c1]).alloc (.cells #[.bool (decide (y < 0)), .slice A2 (dg b9 y.natAbs).length c2] 54)
  have by' := Blk.new (w1.alloc (.cells #[.bool (decide (x < 0)), .slice A1 (dg b9 x.natAbs).length c1] 54)) 54 #[.bool (decide (y < 0)), .slice A2 (dg b9 y.natAbs).length c2]
  rw [World.size_alloc] at by'
  generalize (w1.alloc (.cells #[.bool (decide (x < 0)), .slice A1 (dg b9 x.natAbs).length c1] 54)).alloc (.cells #[.bool (decide (y < 0)), .slice A2 (dg b9 y.natAbs).length c2] 54) = W at bx by' HPA HPB HB1 ⊢
  refine (HZZ.out _ A2 c2 HPB.out).mono ?_
  rintro e w2 ⟨rfl, hB2⟩
  have bx2 := bx.below hB2 bx.lt; have by2 := by'.below hB2 by'.lt
  have hPA2 := HPA.out.below hB2; have hPB2 := HPB.out.below hB2
  have x0 := bx2.cell0; have x1 := bx2.cell1; have y0 := by2.cell0; have y1 := by2.cell1
  have HPA2 := Lib.hid hPA2; have HPB2 := Lib.hid hPB2
  have HB2 := Lib.hid (HB1.out.trans (hB2.mono HB1.out.size))
  clear hB2 bx by' bx2 by2 hPA2 hPB2
  go_wp2_with fail
  refine (over_big x y _ _ _ HPA2.out.is HPB2.out.is (by have := HLA.out; omega) (by have := HLB.out; omega) H0.out).mono ?_
  rw [← HZ.out]
  rintro e w3 ⟨v3, rfl, hI3, hB3⟩
  have HI3 := Lib.hid hI3; have HB3 := Lib.hid (HB2.out.trans (hB3.mono HB2.out.size)); clear hI3 hB3
  go_wp2_with fail
  refine (text_big z _ _ HI3.out HLZ.out (fun W h => HT.out W (HB3.out.trans (h.mono HB3.out.size)))).mono ?_
  rw [← HTT.out]
  rintro e w4 ⟨rfl, hB4⟩
  have HB4 := Lib.hid (HB3.out.trans (hB4.mono HB3.out.size)); clear hB4
  go_wp2_with fail
  go_ret2
  exact ⟨rfl, HB4.out⟩

set_option maxRecDepth 100000 in
set_option maxHeartbeats 1000000 in
theorem mod_bad (a b : ByteArray) (w : World) (ha : a.size ≤ maxLen) (hb : b.size ≤ maxLen) (h : pairE a.data.toList b.data.toList ≠ 0) :
    Calls Tryd.prog 38 #[.string a, .string b, .func (.func 40) #[] #[]] w fun e w' => e = .returned (.tuple #[.string ⟨#[]⟩, .int .i64 (pairE a.data.toList b.data.toList)]) ∧ Below w.heap.size w w' := by
  have hc := both_bad a b w ha hb h
  unfold zero54 at hc
  generalize pairE a.data.toList b.data.toList = k at h hc ⊢
  have HC := Lib.hid hc
  have hne : (k != 0) = true := by simpa using h
  clear hc h
  go_enter Tryd.func38, Tryd.ntmps38
  go_wp2_with (go_at_call 45; refine HC.out.mono ?_; rintro e w1 ⟨rfl, hB1⟩; have HB1 := Lib.hid (((hB1).alloc hB1.size (.cells #[.bool false, .slice none 0 0] 54)).alloc (by have := hB1.size; simp; omega) (.cells #[.bool false, .slice none 0 0] 54)); clear hB1)
  go_ret2
  exact ⟨rfl, HB1.out⟩

set_option maxRecDepth 100000 in
set_option maxHeartbeats 1000000 in
theorem mod_zero (a b : ByteArray) (w : World) (ha : chk a.data.toList = 0) (hb : chk b.data.toList = 0) (h0 : valL b.data.toList = 0) :
    Calls Tryd.prog 38 #[.string a, .string b, .func (.func 40) #[] #[]] w fun e w' => e = .returned (.tuple #[.string ⟨#[]⟩, .int .i64 81]) ∧ Below w.heap.size w w' := by
  have hbg := both_good a b w ha hb
  rw [h0] at hbg
  generalize valL a.data.toList = x at hbg ⊢
  have HBG := Lib.hid hbg
  have hzz : ∀ W A c, BigP W 0 A c → Calls Tryd.prog 61 #[.agg #[.bool (decide ((0 : Int) < 0)), .slice A (dg b9 (0 : Int).natAbs).length c]] W fun e w' => e = .returned (.bool true) ∧ Below W.heap.size W w' := fun W A c h => zero_big 0 _ W h.is
  have HZZ := Lib.hid hzz
  clear hbg h0 ha hb hzz
  go_enter Tryd.func38, Tryd.ntmps38
  go_wp2_with (go_at_call 45; refine HBG.out.mono ?_; rintro e w1 ⟨va, vb, rfl, ⟨A1, c1, rfl, hPa⟩, ⟨A2, c2, rfl, hPb⟩, hB1⟩; have HPB := Lib.hid hPb; have HB1 := Lib.hid (((hB1).alloc hB1.size (.cells #[.bool (decide (x < 0)), .slice A1 (dg b9 x.natAbs).length c1] 54)).alloc (by have := hB1.size; simp; omega) (.cells #[.bool (decide ((0 : Int) < 0)), .slice A2 (dg b9 (0 : Int).natAbs).length c2] 54)); clear hPa hPb hB1)
  refine (HZZ.out _ A2 c2 ((HPB.out.alloc _).alloc _)).mono ?_
  rintro e w2 ⟨rfl, hB2⟩
  have HB2 := Lib.hid (HB1.out.trans (hB2.mono HB1.out.size)); clear hB2
  go_wp2_with fail
  go_ret2
  exact ⟨rfl, HB2.out⟩

set_option maxRecDepth 100000 in
set_option maxHeartbeats 2000000 in
theorem mod_good (a b : ByteArray) (w : World) (ha : chk a.data.toList = 0) (hb : chk b.data.toList = 0) (h0 : valL b.data.toList ≠ 0)
    (htab : ∀ W', Below w.heap.size w W' → Lib.TabIs Tryd.prog W' "internal/strconv.uint64pow10" .u64 Lib.pow10Tab) :
    Calls Tryd.prog 38 #[.string a, .string b, .func (.func 40) #[] #[]] w fun e w' => e = .returned (.tuple #[.string ⟨(txt ((valL a.data.toList).tmod (valL b.data.toList))).toArray⟩, .int .i64 0]) ∧ Below w.heap.size w w' := by
  have hbg := both_good a b w ha hb
  have hla := big_len ha
  have hlb := big_len hb
  generalize valL a.data.toList = x at hbg hla ⊢
  generalize valL b.data.toList = y at hbg hlb h0 ⊢
  obtain ⟨z, hz⟩ : ∃ z, z = x.tmod y := ⟨_, rfl⟩
  rw [← hz]
  have hlz : (dg b9 z.natAbs).length ≤ 1000 := by rw [hz, Int.natAbs_tmod]; exact Nat.le_trans (dg_mono (Nat.mod_le _ _)) (by omega)
  have hzz : ∀ W A c, BigP W y A c → Calls Tryd.prog 61 #[.agg #[.bool (decide (y < 0)), .slice A (dg b9 y.natAbs).length c]] W fun e w' => e = .returned (.bool false) ∧ Below W.heap.size W w' := fun W A c h => by
    have := zero_big y _ W h.is
    rwa [decide_eq_false h0] at this
  have HBG := Lib.hid hbg; have HT := Lib.hid htab; have HZ := Lib.hid hz; have HLZ := Lib.hid hlz; have HLA := Lib.hid hla; have HLB := Lib.hid hlb; have HZZ := Lib.hid hzz; have H0 := Lib.hid h0
  clear hbg htab ha hb hlz hla hlb hz hzz h0
  obtain ⟨T, hT⟩ : ∃ T : ByteArray, T = ⟨(txt z).toArray⟩ := ⟨_, rfl⟩
  rw [← hT]
  have HTT := Lib.hid hT
  clear hT
  go_enter Tryd.func38, Tryd.ntmps38
  go_wp2_with (go_at_call 45; refine HBG.out.mono ?_; rintro e w1 ⟨va, vb, rfl, ⟨A1, c1, rfl, hPa⟩, ⟨A2, c2, rfl, hPb⟩, hB1⟩; have HPA := Lib.hid ((hPa.alloc (.cells #[.bool (decide (x < 0)), .slice A1 (dg b9 x.natAbs).length c1] 54)).alloc (.cells #[.bool (decide (y < 0)), .slice A2 (dg b9 y.natAbs).length c2] 54)); have HPB := Lib.hid ((hPb.alloc (.cells #[.bool (decide (x < 0)), .slice A1 (dg b9 x.natAbs).length c1] 54)).alloc (.cells #[.bool (decide (y < 0)), .slice A2 (dg b9 y.natAbs).length c2] 54)); have HB1 := Lib.hid (((hB1).alloc hB1.size (.cells #[.bool (decide (x < 0)), .slice A1 (dg b9 x.natAbs).length c1] 54)).alloc (by have := hB1.size; simp; omega) (.cells #[.bool (decide (y < 0)), .slice A2 (dg b9 y.natAbs).length c2] 54)); clear hPa hPb hB1)
  have bx := (Blk.new w1 54 #[.bool (decide (x < 0)), .slice A1 (dg b9 x.natAbs).length c1]).alloc (.cells #[.bool (decide (y < 0)), .slice A2 (dg b9 y.natAbs).length c2] 54)
  have by' := Blk.new (w1.alloc (.cells #[.bool (decide (x < 0)), .slice A1 (dg b9 x.natAbs).length c1] 54)) 54 #[.bool (decide (y < 0)), .slice A2 (dg b9 y.natAbs).length c2]
  rw [World.size_alloc] at by'
  generalize (w1.alloc (.cells #[.bool (decide (x < 0)), .slice A1 (dg b9 x.natAbs).length c1] 54)).alloc (.cells #[.bool (decide (y < 0)), .slice A2 (dg b9 y.natAbs).length c2] 54) = W at bx by' HPA HPB HB1 ⊢
  refine (HZZ.out _ A2 c2 HPB.out).mono ?_
  rintro e w2 ⟨rfl, hB2⟩
  have bx2 := bx.below hB2 bx.lt; have by2 := by'.below hB2 by'.lt
  have hPA2 := HPA.out.below hB2; have hPB2 := HPB.out.below hB2
  have x0 := bx2.cell0; have x1 := bx2.cell1; have y0 := by2.cell0; have y1 := by2.cell1
  have HPA2 := Lib.hid hPA2; have HPB2 := Lib.hid hPB2
  have HB2 := Lib.hid (HB1.out.trans (hB2.mono HB1.out.size))
  clear hB2 bx by' bx2 by2 hPA2 hPB2
  go_wp2_with fail
  refine (rest_big x y _ _ _ HPA2.out.is HPB2.out.is (by have := HLA.out; omega) (by have := HLB.out; omega) H0.out).mono ?_
  rw [← HZ.out]
  rintro e w3 ⟨v3, rfl, hI3, hB3⟩
  have HI3 := Lib.hid hI3; have HB3 := Lib.hid (HB2.out.trans (hB3.mono HB2.out.size)); clear hI3 hB3
  go_wp2_with fail
  refine (text_big z _ _ HI3.out HLZ.out (fun W h => HT.out W (HB3.out.trans (h.mono HB3.out.size)))).mono ?_
  rw [← HTT.out]
  rintro e w4 ⟨rfl, hB4⟩
  have HB4 := Lib.hid (HB3.out.trans (hB4.mono HB3.out.size)); clear hB4
  go_wp2_with fail
  go_ret2
  exact ⟨rfl, HB4.out⟩

set_option maxRecDepth 100000 in
theorem div_out (a b : ByteArray) (w : World) (ha : a.size ≤ maxLen) (hb : b.size ≤ maxLen)
    (htab : ∀ W', Below w.heap.size w W' → Lib.TabIs Tryd.prog W' "internal/strconv.uint64pow10" .u64 Lib.pow10Tab) :
    Calls Tryd.prog 17 #[.string a, .string b] w fun e w' => e = .returned (.tuple #[.string ⟨(divOut a.data.toList b.data.toList ((valL a.data.toList).tdiv (valL b.data.toList))).1.toArray⟩, .int .i64 (divOut a.data.toList b.data.toList ((valL a.data.toList).tdiv (valL b.data.toList))).2]) ∧ Below w.heap.size w w' := by
  have hc : Calls Tryd.prog 38 #[.string a, .string b, .func (.func 39) #[] #[]] w fun e w' => e = .returned (.tuple #[.string ⟨(divOut a.data.toList b.data.toList ((valL a.data.toList).tdiv (valL b.data.toList))).1.toArray⟩, .int .i64 (divOut a.data.toList b.data.toList ((valL a.data.toList).tdiv (valL b.data.toList))).2]) ∧ Below w.heap.size w w' := by
    unfold divOut
    by_cases h : pairE a.data.toList b.data.toList = 0
    · obtain ⟨h1, h2⟩ := pairE_zero.1 h
      rw [if_neg (by omega)]
      by_cases h0 : valL b.data.toList = 0
      · rw [if_pos h0]
        exact div_zero a b w h1 h2 h0
      · rw [if_neg h0]
        have hle : txtOut ((valL a.data.toList).tdiv (valL b.data.toList)) = (txt ((valL a.data.toList).tdiv (valL b.data.toList)), 0) := by
          unfold txtOut
          rw [if_pos]
          exact Nat.le_trans ((dg_len (b := 10) (by decide) _ _).2 (Nat.lt_of_le_of_lt (by rw [Int.natAbs_tdiv]; exact Nat.div_le_self _ _) ((dg_len (b := 10) (by decide) _ _).1 (Nat.le_refl _)))) (val_len h1)
        rw [hle]
        exact div_good a b w h1 h2 h0 htab
    · rw [if_pos h]
      exact div_bad a b w ha hb h
  generalize divOut a.data.toList b.data.toList ((valL a.data.toList).tdiv (valL b.data.toList)) = o at hc ⊢
  have HC := Lib.hid hc
  clear hc htab
  go_enter Tryd.func17, Tryd.ntmps17
  go_wp2_with (go_at_call 38; refine HC.out.mono ?_; rintro e w1 ⟨rfl, hB1⟩; have HB1 := Lib.hid hB1; clear hB1)
  go_ret2
  exact ⟨rfl, HB1.out⟩

set_option maxRecDepth 100000 in
theorem mod_out (a b : ByteArray) (w : World) (ha : a.size ≤ maxLen) (hb : b.size ≤ maxLen)
    (htab : ∀ W', Below w.heap.size w W' → Lib.TabIs Tryd.prog W' "internal/strconv.uint64pow10" .u64 Lib.pow10Tab) :
    Calls Tryd.prog 18 #[.string a, .string b] w fun e w' => e = .returned (.tuple #[.string ⟨(divOut a.data.toList b.data.toList ((valL a.data.toList).tmod (valL b.data.toList))).1.toArray⟩, .int .i64 (divOut a.data.toList b.data.toList ((valL a.data.toList).tmod (valL b.data.toList))).2]) ∧ Below w.heap.size w w' := by
  have hc : Calls Tryd.prog 38 #[.string a, .string b, .func (.func 40) #[] #[]] w fun e w' => e = .returned (.tuple #[.string ⟨(divOut a.data.toList b.data.toList ((valL a.data.toList).tmod (valL b.data.toList))).1.toArray⟩, .int .i64 (divOut a.data.toList b.data.toList ((valL a.data.toList).tmod (valL b.data.toList))).2]) ∧ Below w.heap.size w w' := by
    unfold divOut
    by_cases h : pairE a.data.toList b.data.toList = 0
    · obtain ⟨h1, h2⟩ := pairE_zero.1 h
      rw [if_neg (by omega)]
      by_cases h0 : valL b.data.toList = 0
      · rw [if_pos h0]
        exact mod_zero a b w h1 h2 h0
      · rw [if_neg h0]
        have hle : txtOut ((valL a.data.toList).tmod (valL b.data.toList)) = (txt ((valL a.data.toList).tmod (valL b.data.toList)), 0) := by
          unfold txtOut
          rw [if_pos]
          exact Nat.le_trans ((dg_len (b := 10) (by decide) _ _).2 (Nat.lt_of_le_of_lt (by rw [Int.natAbs_tmod]; exact Nat.mod_le _ _) ((dg_len (b := 10) (by decide) _ _).1 (Nat.le_refl _)))) (val_len h1)
        rw [hle]
        exact mod_good a b w h1 h2 h0 htab
    · rw [if_pos h]
      exact mod_bad a b w ha hb h
  generalize divOut a.data.toList b.data.toList ((valL a.data.toList).tmod (valL b.data.toList)) = o at hc ⊢
  have HC := Lib.hid hc
  clear hc htab
  go_enter Tryd.func18, Tryd.ntmps18
  go_wp2_with (go_at_call 38; refine HC.out.mono ?_; rintro e w1 ⟨rfl, hB1⟩; have HB1 := Lib.hid hB1; clear hB1)
  go_ret2
  exact ⟨rfl, HB1.out⟩
end Go.Proofs.YtcclclginhhlaaaDoor
