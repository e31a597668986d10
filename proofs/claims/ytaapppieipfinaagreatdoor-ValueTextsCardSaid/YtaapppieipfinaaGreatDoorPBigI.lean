/- The walks over package big: two texts as numbers. -/
import Derived.Test.YtaapppieipfinaaGreatDoorPBigH
namespace Go.Proofs.YtaapppieipfinaaGreatDoor
open Go.RowKit
open Pl Dig

set_option maxRecDepth 100000 in
set_option maxHeartbeats 1000000 in
theorem both_good (a b : ByteArray) (w : World) (ha : chk a.data.toList = 0) (hb : chk b.data.toList = 0) :
    Calls Tryz.prog 93 #[.string a, .string b] w fun e w' => ∃ va vb, e = .returned (.tuple #[va, vb, .int .i64 0]) ∧ BigIs w' (valL a.data.toList) va ∧ BigIs w' (valL b.data.toList) vb ∧ Below w.heap.size w w' := by
  have bR := (Blk.new w 105 #[.bool false, .slice none 0 0]).alloc (.cells #[.bool false, .slice none 0 0] 105)
  have bS := Blk.new (w.alloc (.cells #[.bool false, .slice none 0 0] 105)) 105 #[.bool false, .slice none 0 0]
  have hB := ((Below.refl w.heap.size w).alloc (Nat.le_refl _) (.cells #[.bool false, .slice none 0 0] 105)).alloc (by simp) (.cells #[.bool false, .slice none 0 0] 105)
  simp only [World.size_alloc] at bS
  have BR := Lib.hid bR; have BS := Lib.hid bS; have HB := Lib.hid hB; clear bR bS hB
  have hra := fun W => read_good a W ha
  have hrb := fun W => read_good b W hb
  generalize valL a.data.toList = za at hra ⊢
  generalize valL b.data.toList = zb at hrb ⊢
  have HRA := Lib.hid hra; have HRB := Lib.hid hrb
  clear hra hrb ha hb
  go_enter Tryz.func93, Tryz.ntmps93
  go_wp2_with fail
  go_at_call 107
  refine (HRA.out _).mono ?_
  rintro e w1 ⟨v, rfl, ⟨A, c, rfl, hP⟩, hB1⟩
  have bR := BR.out.below hB1 BR.out.lt
  have bS := BS.out.below hB1 BS.out.lt
  have k0 := bR.frozen 0; have k1 := bR.frozen 1; have x0 := bR.cell0; have x1 := bR.cell1
  have HB1 := Lib.hid (HB.out.trans (hB1.mono HB.out.size))
  have BR1 := Lib.hid (bR.store2 (x' := .bool (decide (za < 0))) (y' := .slice A (dg b9 za.natAbs).length c))
  have BS1 := Lib.hid ((bS.far (p := ⟨w.heap.size, 0, none⟩) (by simp) (.bool (decide (za < 0)))).far (p := ⟨w.heap.size, 1, none⟩) (by simp) (.slice A (dg b9 za.natAbs).length c))
  have HP1 := Lib.hid (hP.store54 bR (x' := .bool (decide (za < 0))) (y' := .slice A (dg b9 za.natAbs).length c))
  have HB2 := Lib.hid ((HB1.out.setCell (p := ⟨w.heap.size, 0, none⟩) (by simp) (.bool (decide (za < 0)))).setCell (p := ⟨w.heap.size, 1, none⟩) (by simp) (.slice A (dg b9 za.natAbs).length c))
  clear hP hB1 bR bS
  go_wp2_with fail
  clear x0 x1 k0 k1
  go_at_call 107
  refine (HRB.out _).mono ?_
  rintro e w2 ⟨v2, rfl, ⟨A2, c2, rfl, hP2⟩, hB3⟩
  have bR := BR1.out.below hB3 BR1.out.lt
  have bS := BS1.out.below hB3 BS1.out.lt
  have l0 := bS.frozen 0; have l1 := bS.frozen 1; have y0 := bS.cell0; have y1 := bS.cell1
  have HB3 := Lib.hid ((HB2.out.trans (hB3.mono HB2.out.size)))
  have r1 := (bR.far (p := ⟨w.heap.size + 1, 0, none⟩) (by simp) (.bool (decide (zb < 0)))).far (p := ⟨w.heap.size + 1, 1, none⟩) (by simp) (.slice A2 (dg b9 zb.natAbs).length c2)
  have s1 := bS.store2 (x' := .bool (decide (zb < 0))) (y' := .slice A2 (dg b9 zb.natAbs).length c2)
  have p1 := (HP1.out.below hB3).store54 bS (x' := .bool (decide (zb < 0))) (y' := .slice A2 (dg b9 zb.natAbs).length c2)
  have p2 := hP2.store54 bS (x' := .bool (decide (zb < 0))) (y' := .slice A2 (dg b9 zb.natAbs).length c2)
  have hB4 := (HB3.out.setCell (p := ⟨w.heap.size + 1, 0, none⟩) (by simp) (.bool (decide (zb < 0)))).setCell (p := ⟨w.heap.size + 1, 1, none⟩) (by simp) (.slice A2 (dg b9 zb.natAbs).length c2)
  have R1 := Lib.hid r1; have S1 := Lib.hid s1; have P1 := Lib.hid p1; have P2 := Lib.hid p2; have HB4 := Lib.hid hB4
  clear r1 s1 p1 p2 hB4 hB3 hP2 bR bS
  go_upto_region 7 with fail
  clear l0 l1 y0 y1
  have hwx := R1.out.lt
  generalize ((w2.setCell ⟨w.heap.size + 1, 0, none⟩ (.bool (decide (zb < 0)))).setCell ⟨w.heap.size + 1, 1, none⟩ (.slice A2 (dg b9 zb.natAbs).length c2)) = wx at R1 S1 P1 P2 HB4 hwx ⊢
  have x0 := R1.out.cell0; have x1 := R1.out.cell1; have y0 := S1.out.cell0; have y1 := S1.out.cell1
  have k0 := R1.out.frozen 0; have k1 := R1.out.frozen 1; have l0 := S1.out.frozen 0; have l1 := S1.out.frozen 1

  go_region
  go_wp2_with fail
  have rF := ((R1.out.store2 (x' := .bool (decide (za < 0))) (y' := .slice A (dg b9 za.natAbs).length c)).far (p := ⟨w.heap.size + 1, 0, none⟩) (by simp) (.bool (decide (zb < 0)))).far (p := ⟨w.heap.size + 1, 1, none⟩) (by simp) (.slice A2 (dg b9 zb.natAbs).length c2)
  have s0 := ((S1.out.far (p := ⟨w.heap.size, 0, none⟩) (by simp) (.bool (decide (za < 0)))).far (p := ⟨w.heap.size, 1, none⟩) (by simp) (.slice A (dg b9 za.natAbs).length c))
  have sF := s0.store2 (x' := .bool (decide (zb < 0))) (y' := .slice A2 (dg b9 zb.natAbs).length c2)
  refine bodyPost_ret (ret54_3 (g := w.heap.size) (k := w.heap.size + 1) Tryz.results93 rfl rfl rfl rF.drew sF.drew) rfl ⟨_, _, rfl, ?_, ?_, ?_⟩
  · exact ((P1.out.store54 R1.out).store54 s0).drew.is
  · exact ((P2.out.store54 R1.out).store54 s0).drew.is
  · exact ((((HB4.out.setCell (by simp) _).setCell (by simp) _).setCell (by simp) _).setCell (by simp) _).drew
end Go.Proofs.YtaapppieipfinaaGreatDoor
