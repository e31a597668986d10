/- The walks over package big: two texts as numbers, refused. -/
import Derived.Test.YtaapppieipfinaaGreatDoorPBigE
namespace Go.Proofs.YtaapppieipfinaaGreatDoor
open Go.RowKit
open Pl Dig

theorem ret54_3 {fn : Func} {p q u : Tmp} (h : fn.results = #[.cell p 105, .cell q 105, .tmp u]) {tmps : Array Value} {W : World} {g k : Nat} {x y x' y' z : Value} (hp : tmps.getD p undef = .pointer (some ⟨g, 0, none⟩)) (hq : tmps.getD q undef = .pointer (some ⟨k, 0, none⟩)) (hu : tmps.getD u undef = z)
    (hb : Blk W g 105 #[x, y]) (hb' : Blk W k 105 #[x', y']) : (results fn tmps).run Tryz.prog W = .ok (.tuple #[.agg #[x, y], .agg #[x', y'], z]) W := by
  have c0 := hb.cell0
  have c1 := hb.cell1
  have d0 := hb'.cell0
  have d1 := hb'.cell1
  rw [Array.getD_eq_getD_getElem?] at hp hq hu
  simp [results, h, hp, hq, hu, go_sem, c0, c1, d0, d1]

set_option maxRecDepth 100000 in
set_option maxHeartbeats 1000000 in
theorem both_bad (a b : ByteArray) (w : World) (ha : a.size ≤ maxLen) (hb : b.size ≤ maxLen) (h : pairE a.data.toList b.data.toList ≠ 0) :
    Calls Tryz.prog 93 #[.string a, .string b] w fun e w' => e = .returned (.tuple #[zero54, zero54, .int .i64 (pairE a.data.toList b.data.toList)]) ∧ Below w.heap.size w w' := by
  have bR := (Blk.new w 105 #[.bool false, .slice none 0 0]).alloc (.cells #[.bool false, .slice none 0 0] 105)
  have bS := Blk.new (w.alloc (.cells #[.bool false, .slice none 0 0] 105)) 105 #[.bool false, .slice none 0 0]
  have hB := ((Below.refl w.heap.size w).alloc (Nat.le_refl _) (.cells #[.bool false, .slice none 0 0] 105)).alloc (by simp) (.cells #[.bool false, .slice none 0 0] 105)
  simp only [World.size_alloc] at bS
  have BR := Lib.hid bR; have BS := Lib.hid bS; have HB := Lib.hid hB; clear bR bS hB
  by_cases hz : chk a.data.toList = 0
  · have hra := read_good a ((w.alloc (.cells #[.bool false, .slice none 0 0] 105)).alloc (.cells #[.bool false, .slice none 0 0] 105)) hz
    unfold pairE at h ⊢
    rw [if_neg (by omega)] at h ⊢
    have hrb := fun W => read_bad b W hb h
    unfold zero54 at hrb ⊢
    generalize chk b.data.toList = kb at h hrb ⊢
    generalize valL a.data.toList = za at hra
    have hne : (kb != 0) = true := by simpa using h
    have HRA := Lib.hid hra; have HRB := Lib.hid hrb
    clear hra hrb h hz ha hb
    go_enter Tryz.func93, Tryz.ntmps93
    go_wp2_with fail
    go_at_call 107
    refine HRA.out.mono ?_
    rintro e w1 ⟨v, rfl, ⟨A, c, rfl, hP⟩, hB1⟩
    have bR := BR.out.below hB1 BR.out.lt
    have bS := BS.out.below hB1 BS.out.lt
    have k0 := bR.frozen 0
    have k1 := bR.frozen 1
    have l0 := bS.frozen 0
    have l1 := bS.frozen 1
    have x0 := bR.cell0
    have x1 := bR.cell1
    have y0 := bS.cell0
    have y1 := bS.cell1
    have HB1 := Lib.hid (HB.out.trans (hB1.mono HB.out.size))
    have BR1 := Lib.hid bR
    have BS1 := Lib.hid bS
    clear hP hB1 bR bS
    go_wp2_with fail
    clear x0 x1 y0 y1 k0 k1 l0 l1
    have bR2 := BR1.out.store2 (x' := .bool (decide (za < 0))) (y' := .slice A (dg b9 za.natAbs).length c)
    have bS2 := ((BS1.out.far (p := ⟨w.heap.size, 0, none⟩) (by simp) (.bool (decide (za < 0)))).far (p := ⟨w.heap.size, 1, none⟩) (by simp) (.slice A (dg b9 za.natAbs).length c))
    have hB2 := (HB1.out.setCell (p := ⟨w.heap.size, 0, none⟩) (by simp) (.bool (decide (za < 0)))).setCell (p := ⟨w.heap.size, 1, none⟩) (by simp) (.slice A (dg b9 za.natAbs).length c)
    have BR2 := Lib.hid bR2; have BS2 := Lib.hid bS2; have HB2 := Lib.hid hB2; clear bR2 bS2 hB2
    go_at_call 107
    refine (HRB.out _).mono ?_
    rintro e w2 ⟨rfl, hB3⟩
    have bR := BR2.out.below hB3 BR2.out.lt; have bS := BS2.out.below hB3 BS2.out.lt
    have k0 := bR.frozen 0; have k1 := bR.frozen 1; have l0 := bS.frozen 0; have l1 := bS.frozen 1; have x0 := bR.cell0; have x1 := bR.cell1; have y0 := bS.cell0; have y1 := bS.cell1
    have HB3 := Lib.hid (HB2.out.trans (hB3.mono HB2.out.size)); have BR3 := Lib.hid bR; have BS3 := Lib.hid bS; clear hB3 bR bS
    go_wp2_with fail
    refine bodyPost_ret (ret54_3 (g := w.heap.size) (k := w.heap.size + 1) Tryz.results93 rfl rfl rfl
      (((((BR3.out.far (p := ⟨w.heap.size + 1, 0, none⟩) (by simp) _).far (p := ⟨w.heap.size + 1, 1, none⟩) (by simp) _).store2 (x' := .bool false) (y' := .slice none 0 0)).far (p := ⟨w.heap.size + 1, 0, none⟩) (by simp) _).far (p := ⟨w.heap.size + 1, 1, none⟩) (by simp) _)
      ((((BS3.out.store2 (x' := .bool false) (y' := .slice none 0 0)).far (p := ⟨w.heap.size, 0, none⟩) (by simp) _).far (p := ⟨w.heap.size, 1, none⟩) (by simp) _).store2 (x' := .bool false) (y' := .slice none 0 0))) rfl ⟨rfl, ?_⟩
    exact (((((HB3.out.setCell (by simp) _).setCell (by simp) _).setCell (by simp) _).setCell (by simp) _).setCell (by simp) _).setCell (by simp) _
  · have hra := read_bad a ((w.alloc (.cells #[.bool false, .slice none 0 0] 105)).alloc (.cells #[.bool false, .slice none 0 0] 105)) ha hz
    unfold pairE at h ⊢
    rw [if_pos hz] at h ⊢
    unfold zero54 at hra ⊢
    generalize chk a.data.toList = ka at h hra ⊢
    have hne : (ka != 0) = true := by simpa using h
    have HRA := Lib.hid hra
    clear hra h hz ha hb
    go_enter Tryz.func93, Tryz.ntmps93
    go_wp2_with (go_at_call 107; refine HRA.out.mono ?_; rintro e w1 ⟨rfl, hB1⟩; have bR := BR.out.below hB1 BR.out.lt; have bS := BS.out.below hB1 BS.out.lt; have k0 := bR.frozen 0; have k1 := bR.frozen 1; have l0 := bS.frozen 0; have l1 := bS.frozen 1; have x0 := bR.cell0; have x1 := bR.cell1; have y0 := bS.cell0; have y1 := bS.cell1; have HB1 := Lib.hid (HB.out.trans (hB1.mono HB.out.size)); have BR1 := Lib.hid bR; have BS1 := Lib.hid bS; clear hB1 bR bS)
    refine bodyPost_ret (ret54_3 (g := w.heap.size) (k := w.heap.size + 1) Tryz.results93 rfl rfl rfl
      ((((BR1.out.store2 (x' := .bool false) (y' := .slice none 0 0)).store2 (x' := .bool false) (y' := .slice none 0 0)).far (p := ⟨w.heap.size + 1, 0, none⟩) (by simp) _).far (p := ⟨w.heap.size + 1, 1, none⟩) (by simp) _)
      (((((BS1.out.far (p := ⟨w.heap.size, 0, none⟩) (by simp) _).far (p := ⟨w.heap.size, 1, none⟩) (by simp) _).far (p := ⟨w.heap.size, 0, none⟩) (by simp) _).far (p := ⟨w.heap.size, 1, none⟩) (by simp) _).store2 (x' := .bool false) (y' := .slice none 0 0))) rfl ⟨rfl, ?_⟩
    exact (((((HB1.out.setCell (by simp) _).setCell (by simp) _).setCell (by simp) _).setCell (by simp) _).setCell (by simp) _).setCell (by simp) _
end Go.Proofs.YtaapppieipfinaaGreatDoor
