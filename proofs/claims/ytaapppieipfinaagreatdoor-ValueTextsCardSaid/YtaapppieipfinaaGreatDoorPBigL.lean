/- The walks over package big: how two numbers stand. -/
import Derived.Test.YtaapppieipfinaaGreatDoorPBigK
namespace Go.Proofs.YtaapppieipfinaaGreatDoor
open Go.RowKit Go.Shelf
open Pl Dig

theorem b9_len {m k : Nat} (h : (dg 10 m).length ≤ k) : (dg b9 m).length ≤ k :=
  (dg_len b9_two m k).2 (Nat.lt_of_lt_of_le ((dg_len (by decide) m k).1 h) (Nat.pow_le_pow_left (by decide) k))


theorem compare_parts (m n : Nat) (A B : Option Addr) (ca cb : Nat) (w : World) (hA : Rd w w.heap.size 129 A (u32s (dg b9 m))) (hB : Rd w w.heap.size 129 B (u32s (dg b9 n))) (hla : (dg b9 m).length ≤ 1000) :
    Calls Tryz.prog 108 #[.slice A (dg b9 m).length ca, .slice B (dg b9 n).length cb] w fun e w' => e = .returned (.int .i64 (cmpI (m : Int) (n : Int))) ∧ Below w.heap.size w w' := callsIn_wide.1 (compare_in m n A B ca cb w hA hB hla)

set_option maxRecDepth 100000 in
set_option maxHeartbeats 2000000 in
theorem compare_big (x y : Int) (vx vy : Value) (w : World) (hx : BigIs w x vx) (hy : BigIs w y vy) (hlx : (dg b9 x.natAbs).length ≤ 1000) (hly : (dg b9 y.natAbs).length ≤ 1000) :
    Calls Tryz.prog 94 #[vx, vy] w fun e w' => e = .returned (.int .i64 (cmpI x y)) ∧ Below w.heap.size w w' := by
  obtain ⟨A, c, rfl, hX⟩ := hx
  obtain ⟨B, d, rfl, hY⟩ := hy
  obtain ⟨nx, hnx⟩ : ∃ nx, nx = decide (x < 0) := ⟨_, rfl⟩
  obtain ⟨ny, hny⟩ : ∃ ny, ny = decide (y < 0) := ⟨_, rfl⟩
  rw [← hnx, ← hny]
  have bX := (Blk.new w 105 #[.bool nx, .slice A (dg b9 x.natAbs).length c]).alloc (.cells #[.bool ny, .slice B (dg b9 y.natAbs).length d] 105)
  have bY := Blk.new (w.alloc (.cells #[.bool nx, .slice A (dg b9 x.natAbs).length c] 105)) 105 #[.bool ny, .slice B (dg b9 y.natAbs).length d]
  have hB := ((Below.refl w.heap.size w).alloc (Nat.le_refl _) (.cells #[.bool nx, .slice A (dg b9 x.natAbs).length c] 105)).alloc (by simp) (.cells #[.bool ny, .slice B (dg b9 y.natAbs).length d] 105)
  simp only [World.size_alloc] at bY
  have hX2 := (hX.alloc (.cells #[.bool nx, .slice A (dg b9 x.natAbs).length c] 105)).alloc (.cells #[.bool ny, .slice B (dg b9 y.natAbs).length d] 105)
  have hY2 := (hY.alloc (.cells #[.bool nx, .slice A (dg b9 x.natAbs).length c] 105)).alloc (.cells #[.bool ny, .slice B (dg b9 y.natAbs).length d] 105)
  have x0 := bX.cell0; have x1 := bX.cell1; have y0 := bY.cell0; have y1 := bY.cell1
  have hP := compare_parts x.natAbs y.natAbs A B c d _ hX2.2.2 hY2.2.2 hlx
  have hQ := compare_parts y.natAbs x.natAbs B A d c _ hY2.2.2 hX2.2.2 hly
  have HP := Lib.hid hP; have HQ := Lib.hid hQ; have HB := Lib.hid hB; have HNX := Lib.hid hnx; have HNY := Lib.hid hny
  have hfin : cmpI x y = if nx && ny then cmpI (y.natAbs : Int) (x.natAbs : Int) else if nx then -1 else if ny then 1 else cmpI (x.natAbs : Int) (y.natAbs : Int) := by
    rw [hnx, hny]
    unfold cmpI
    by_cases h1 : x < 0 <;> by_cases h2 : y < 0 <;> simp only [h1, h2, decide_true, decide_false, Bool.and_self, Bool.and_false, Bool.false_and, if_true, if_false, Bool.false_eq_true]
    all_goals ((repeat' split) <;> first | rfl | omega)
  generalize cmpI x y = z at hfin ⊢
  have HF := Lib.hid hfin
  clear hP hQ hB hnx hny hfin hX hY hX2 hY2 bX bY
  cases nx <;> cases ny
  · go_enter Tryz.func94, Tryz.ntmps94
    go_wp2_with (go_at_call 108; refine HP.out.mono ?_; rintro e w1 ⟨rfl, hB1⟩; have HB1 := Lib.hid (HB.out.trans (hB1.mono HB.out.size)); clear hB1)
    go_ret
    exact ⟨by rw [HF.out]; rfl, HB1.out⟩
  · go_enter Tryz.func94, Tryz.ntmps94
    go_wp2_with fail
    go_ret
    exact ⟨by rw [HF.out]; rfl, HB.out⟩
  · go_enter Tryz.func94, Tryz.ntmps94
    go_wp2_with fail
    go_ret
    exact ⟨by rw [HF.out]; rfl, HB.out⟩
  · go_enter Tryz.func94, Tryz.ntmps94
    go_wp2_with (go_at_call 108; refine HQ.out.mono ?_; rintro e w1 ⟨rfl, hB1⟩; have HB1 := Lib.hid (HB.out.trans (hB1.mono HB.out.size)); clear hB1)
    go_ret
    exact ⟨by rw [HF.out]; rfl, HB1.out⟩

set_option maxRecDepth 100000 in
theorem bigcmp_bad (a b : ByteArray) (w : World) (ha : a.size ≤ maxLen) (hb : b.size ≤ maxLen) (h : pairE a.data.toList b.data.toList ≠ 0) :
    Calls Tryz.prog 77 #[.string a, .string b] w fun e w' => e = .returned (.tuple #[.int .i64 0, .int .i64 (pairE a.data.toList b.data.toList)]) ∧ Below w.heap.size w w' := by
  have hc := both_bad a b w ha hb h
  unfold zero54 at hc
  generalize hk : pairE a.data.toList b.data.toList = k at h hc ⊢
  have HC := Lib.hid hc; clear hc hk
  have hne : (k != 0) = true := by simpa using h
  clear h
  go_enter Tryz.func77, Tryz.ntmps77
  go_wp2_with fail
  refine HC.out.mono ?_
  rintro e w1 ⟨rfl, hB1⟩
  have HB := Lib.hid (((hB1).alloc hB1.size (.cells #[.bool false, .slice none 0 0] 105)).alloc (by have := hB1.size; simp; omega) (.cells #[.bool false, .slice none 0 0] 105)); clear hB1
  go_wp2_with fail
  go_ret2
  exact ⟨rfl, HB.out⟩

set_option maxRecDepth 100000 in
theorem bigcmp_good (a b : ByteArray) (w : World) (ha : chk a.data.toList = 0) (hb : chk b.data.toList = 0) :
    Calls Tryz.prog 77 #[.string a, .string b] w fun e w' => e = .returned (.tuple #[.int .i64 (cmpI (valL a.data.toList) (valL b.data.toList)), .int .i64 0]) ∧ Below w.heap.size w w' := by
  have hla := b9_len (val_len ha)
  have hlb := b9_len (val_len hb)
  have hc := both_good a b w ha hb
  generalize valL a.data.toList = x at hla hc ⊢
  generalize valL b.data.toList = y at hlb hc ⊢
  have hcm := fun vx vy W hx hy => compare_big x y vx vy W hx hy (by omega) (by omega)
  generalize cmpI x y = z at hcm ⊢
  have HC := Lib.hid hc; have HCM := Lib.hid hcm
  clear hc hcm ha hb hla hlb
  go_enter Tryz.func77, Tryz.ntmps77
  go_wp2_with fail
  refine HC.out.mono ?_
  rintro e w1 ⟨va, vb, rfl, ⟨A, c, rfl, hX⟩, ⟨B, d, rfl, hY⟩, hB1⟩
  have bX := (Blk.new w1 105 #[.bool (decide (x < 0)), .slice A (dg b9 x.natAbs).length c]).alloc (.cells #[.bool (decide (y < 0)), .slice B (dg b9 y.natAbs).length d] 105)
  have bY := Blk.new (w1.alloc (.cells #[.bool (decide (x < 0)), .slice A (dg b9 x.natAbs).length c] 105)) 105 #[.bool (decide (y < 0)), .slice B (dg b9 y.natAbs).length d]
  simp only [World.size_alloc] at bY
  have hX2 := (hX.alloc (.cells #[.bool (decide (x < 0)), .slice A (dg b9 x.natAbs).length c] 105)).alloc (.cells #[.bool (decide (y < 0)), .slice B (dg b9 y.natAbs).length d] 105)
  have hY2 := (hY.alloc (.cells #[.bool (decide (x < 0)), .slice A (dg b9 x.natAbs).length c] 105)).alloc (.cells #[.bool (decide (y < 0)), .slice B (dg b9 y.natAbs).length d] 105)
  have HB := Lib.hid (((hB1).alloc hB1.size (.cells #[.bool (decide (x < 0)), .slice A (dg b9 x.natAbs).length c] 105)).alloc (by have := hB1.size; simp; omega) (.cells #[.bool (decide (y < 0)), .slice B (dg b9 y.natAbs).length d] 105))
  have x0 := bX.cell0; have x1 := bX.cell1; have y0 := bY.cell0; have y1 := bY.cell1
  have HX := Lib.hid hX2; have HY := Lib.hid hY2
  clear hB1 bX bY hX hY hX2 hY2
  go_wp2_with fail
  go_at_call 94
  refine (HCM.out _ _ _ HX.out.is HY.out.is).mono ?_
  rintro e w2 ⟨rfl, hB2⟩
  have HB2 := Lib.hid (HB.out.trans (hB2.mono HB.out.size)); clear hB2
  go_wp2_with fail
  go_ret2
  exact ⟨rfl, HB2.out⟩
/-- The order of numbers' texts. -/
def zcmp (a b : List UInt8) : Int := cmpI (valL a) (valL b)
theorem bigCmp_ok : BigCmpOk zcmp := fun a b w ha hb => bigcmp_good a b w ha hb
end Go.Proofs.YtaapppieipfinaaGreatDoor
