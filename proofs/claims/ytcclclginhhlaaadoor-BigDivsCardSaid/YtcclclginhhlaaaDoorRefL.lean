/- The walk over the document own answer for layer 1: how two texts stand. -/
import Derived.Test.YtcclclginhhlaaaDoorRefK
namespace Go.Proofs.YtcclclginhhlaaaDoor
open Go.RowKit
open Pl Dig

theorem pairE_zero {a b : List UInt8} : pairE a b = 0 ↔ chk a = 0 ∧ chk b = 0 := by
  unfold pairE; split
  · rename_i h; constructor
    · intro h2; exact absurd h2 h
    · intro h2; exact absurd h2.1 h
  · rename_i h
    have h' : chk a = 0 := by simpa using h
    simp [h']
/-- How two numbers stand. -/
def cmpI (x y : Int) : Int := if x < y then -1 else if y < x then 1 else 0

set_option maxRecDepth 100000 in
set_option maxHeartbeats 1000000 in
theorem refcmp_bad (a b : ByteArray) (w : World) (ha : a.size ≤ 1000) (hb : b.size ≤ 1000) (h : pairE a.data.toList b.data.toList ≠ 0) :
    Calls Tryd.prog 26 #[.string a, .string b] w fun e w' => e = .returned (.tuple #[.int .i64 0, .int .i64 (pairE a.data.toList b.data.toList)]) ∧ Below w.heap.size w w' := by
  have hc := pair_bad a b w ha hb h
  unfold zero39 at hc
  generalize hk : pairE a.data.toList b.data.toList = k at h hc ⊢
  have HC := Lib.hid hc; clear hc hk
  have hne : (k != 0) = true := by simpa using h
  clear h
  go_enter Tryd.func26, Tryd.ntmps26
  go_wp2_with fail
  refine HC.out.mono ?_
  rintro e w1 ⟨rfl, hB1⟩
  have HB := Lib.hid (((hB1).alloc hB1.size (.cells #[.bool false, .slice none 0 0] 39)).alloc (by have := hB1.size; simp; omega) (.cells #[.bool false, .slice none 0 0] 39)); clear hB1
  go_wp2_with fail
  go_ret2
  exact ⟨rfl, HB.out⟩

set_option maxRecDepth 100000 in
set_option maxHeartbeats 800000 in
theorem refcmp_good (a b : ByteArray) (w : World) (ha : chk a.data.toList = 0) (hb : chk b.data.toList = 0) :
    Calls Tryd.prog 26 #[.string a, .string b] w fun e w' => e = .returned (.tuple #[.int .i64 (cmpI (valL a.data.toList) (valL b.data.toList)), .int .i64 0]) ∧ Below w.heap.size w w' := by
  have hla := val_len ha
  have hlb := val_len hb
  have hc := pair_good a b w ha hb
  generalize valL a.data.toList = za at hc hla ⊢
  generalize valL b.data.toList = zb at hc hlb ⊢
  have HC := Lib.hid hc; clear hc ha hb
  go_enter Tryd.func26, Tryd.ntmps26
  go_wp2_with fail
  refine HC.out.mono ?_
  rintro e w1 ⟨va, vb, rfl, hNa, hNb, hB1⟩
  obtain ⟨A1, c1, rfl, hNa⟩ := hNa
  obtain ⟨A2, c2, rfl, hNb⟩ := hNb
  have na : NumP w1 za A1 c1 := hNa
  have nb : NumP w1 zb A2 c2 := hNb
  clear hNa hNb
  obtain ⟨W, hW⟩ : ∃ W, W = (w1.alloc (.cells #[.bool (decide (za < 0)), .slice A1 (dg 10 za.natAbs).length c1] 39)).alloc (.cells #[.bool (decide (zb < 0)), .slice A2 (dg 10 zb.natAbs).length c2] 39) := ⟨_, rfl⟩
  have bX := (Blk.new w1 39 #[.bool (decide (za < 0)), .slice A1 (dg 10 za.natAbs).length c1]).alloc (.cells #[.bool (decide (zb < 0)), .slice A2 (dg 10 zb.natAbs).length c2] 39)
  have bY := Blk.new (w1.alloc (.cells #[.bool (decide (za < 0)), .slice A1 (dg 10 za.natAbs).length c1] 39)) 39 #[.bool (decide (zb < 0)), .slice A2 (dg 10 zb.natAbs).length c2]
  simp only [World.size_alloc] at bY
  have hB := (hB1.alloc hB1.size (.cells #[.bool (decide (za < 0)), .slice A1 (dg 10 za.natAbs).length c1] 39)).alloc (by have := hB1.size; simp; omega) (.cells #[.bool (decide (zb < 0)), .slice A2 (dg 10 zb.natAbs).length c2] 39)
  have n1 := ((na.alloc (.cells #[.bool (decide (za < 0)), .slice A1 (dg 10 za.natAbs).length c1] 39)).alloc (.cells #[.bool (decide (zb < 0)), .slice A2 (dg 10 zb.natAbs).length c2] 39)).is
  have n2 := ((nb.alloc (.cells #[.bool (decide (za < 0)), .slice A1 (dg 10 za.natAbs).length c1] 39)).alloc (.cells #[.bool (decide (zb < 0)), .slice A2 (dg 10 zb.natAbs).length c2] 39)).is
  rw [← hW] at bX bY hB n1 n2
  have x0 := bX.cell0; have x1 := bX.cell1; have y0 := bY.cell0; have y1 := bY.cell1
  have hz := bY.lt
  have hwz := hB1.size
  have BX := Lib.hid bX; have BY := Lib.hid bY; have HB := Lib.hid hB; have N1 := Lib.hid n1; have N2 := Lib.hid n2
  clear bX bY hB n1 n2 na nb hB1
  go_upto_region 4 with fail
  rw [← hW]
  clear hW
  obtain ⟨d, hd⟩ : ∃ d, d = za - zb := ⟨_, rfl⟩
  have hd2 : za + -zb = d := by omega
  obtain ⟨zn, hzn⟩ : ∃ zn, zn = -zb := ⟨_, rfl⟩
  have hln : (dg 10 zn.natAbs).length ≤ 200 := by rw [hzn, Int.natAbs_neg]; exact hlb
  rw [← hzn] at hd2
  have HD := Lib.hid hd; have HD2 := Lib.hid hd2; have HZN := Lib.hid hzn; clear hzn hd2
  clear hd
  go_cut [9] (fun s9 wx => ∃ g A3 c3, s9 = .pointer (some ⟨g, 0, none⟩) ∧ Blk wx g 39 #[.bool (decide (d < 0)), .slice A3 (dg 10 d.natAbs).length c3] ∧ Below w.heap.size w wx)
  case first =>
    go_region_held3 (fun w' => w'.cell? ⟨w1.heap.size, 0, none⟩ = some (.bool (decide (za < 0))) ∧ w'.cell? ⟨w1.heap.size, 1, none⟩ = some (.slice A1 (dg 10 za.natAbs).length c1) ∧ w'.cell? ⟨w1.heap.size + 1, 0, none⟩ = some (.bool (decide (zb < 0))) ∧ w'.cell? ⟨w1.heap.size + 1, 1, none⟩ = some (.slice A2 (dg 10 zb.natAbs).length c2)) ((repeat' apply And.intro) <;> (first | assumption | (go_keep; done) | (rw [World.cell?_setCell_other _ _ _ _ (by intro e; injection e; omega), World.cell?_setCell_other _ _ _ _ (by intro e; injection e; omega)]; assumption)))
      (first
        | (go_at_call 29; refine (turned_num zb _ _ (N2.out.below (by first | exact (Below.refl _ W).drew | exact ((Below.refl _ W).drew).alloc (Nat.le_refl _) _))).mono ?_; rw [← HZN.out]; rintro e w2 ⟨u2, rfl, hN2, hB2⟩; obtain ⟨A4, c4, rfl, hN2⟩ := hN2; have n4 : NumP w2 zn A4 c4 := hN2; have hBW : Below W.heap.size W w2 := (by first | exact ((Below.refl _ W).drew).trans hB2 | exact (((Below.refl _ W).drew).alloc (Nat.le_refl _) _).trans (hB2.mono (by simp))); (try (have bG : Blk w2 W.heap.size 39 #[.bool false, .slice none 0 0] := (Blk.new W.drew 39 #[.bool false, .slice none 0 0]).below hB2 (by simp); have g0 := bG.cell0; have g1 := bG.cell1; have k0 := bG.frozen 0; have k1 := bG.frozen 1; have BG := Lib.hid bG; clear bG)); have bX2 := BX.out.below hBW BX.out.lt; have bY2 := BY.out.below hBW BY.out.lt; have x0' := bX2.cell0; have x1' := bX2.cell1; have y0' := bY2.cell0; have y1' := bY2.cell1; have hzz := hBW.size; have HBW := Lib.hid hBW; have N4 := Lib.hid n4; clear hBW hB2 n4 hN2 bX2 bY2)
        | (go_at_call 48; refine (sum_num za zn _ _ _ (by first | exact N1.out.below HBW.out | exact (N1.out.below HBW.out).alloc _) (by first | exact N4.out.is | exact (N4.out.alloc _).is) (by omega) (by omega)).mono ?_; rw [HD2.out]; rintro e w3 ⟨u3, rfl, hN3, hB3⟩; obtain ⟨A5, c5, rfl, hN3⟩ := hN3; have hBW3 : Below W.heap.size W w3 := (by first | exact HBW.out.trans (hB3.mono HBW.out.size) | exact (HBW.out.alloc HBW.out.size _).trans (hB3.mono (by have := HBW.out.size; simp; omega))); (try (have bG := (Blk.new w2 39 #[.bool false, .slice none 0 0]).below hB3 (by simp); have g0 := bG.cell0; have g1 := bG.cell1; have k0 := bG.frozen 0; have k1 := bG.frozen 1; have BG := Lib.hid bG; clear bG)); (try (have bG := BG.out.below hB3 BG.out.lt; have g0 := bG.cell0; have g1 := bG.cell1; have k0 := bG.frozen 0; have k1 := bG.frozen 1; have BG := Lib.hid bG; clear bG)); have bX3 := BX.out.below hBW3 BX.out.lt; have bY3 := BY.out.below hBW3 BY.out.lt; have x0'' := bX3.cell0; have x1'' := bX3.cell1; have y0'' := bY3.cell0; have y1'' := bY3.cell1; have hzz3 := hBW3.size; have HBW3 := Lib.hid hBW3; clear hBW3 hB3 hN3 bX3 bY3))
    all_goals
      go_wp2_with fail
      go_meet
      refine ⟨_, A5, c5, rfl, ?_, ?_⟩
      · first | exact Blk.new _ _ _ | exact BG.out.store2
      · have hBF := HB.out.trans (HBW3.out.mono HB.out.size)
        first | exact hBF.alloc hBF.size _ | exact (hBF.setCell (by simp; omega) _).setCell (by simp; omega) _
  case rest =>
    obtain ⟨g, A3, c3, rfl, bG, hB3⟩ := hcut
    have z0 := bG.cell0; have z1 := bG.cell1
    have HB3 := Lib.hid hB3; clear hB3 bG
    have hfin : cmpI za zb = if d = 0 then 0 else if d < 0 then -1 else 1 := by
      rw [HD.out]; unfold cmpI
      by_cases h1 : za < zb
      · rw [if_pos h1, if_neg (by omega), if_pos (by omega)]
      · rw [if_neg h1]
        by_cases h2 : zb < za
        · rw [if_pos h2, if_neg (by omega), if_neg (by omega)]
        · rw [if_neg h2, if_pos (by omega)]
    have HF := Lib.hid hfin; clear hfin
    by_cases h0 : d = 0
    · subst h0
      go_wp2_with fail
      go_ret2
      exact ⟨by rw [HF.out]; rfl, HB3.out⟩
    · have hl : ¬ (dg 10 d.natAbs).length = 0 := by
        intro h; have := (dg_nil (b := 10) (n := d.natAbs) (by decide)).1 (List.eq_nil_of_length_eq_zero h); omega
      have hl1 : (((dg 10 d.natAbs).length : Int) == 0) = false := by rw [beq_eq_false_iff_ne]; omega
      by_cases hneg : d < 0
      · have hd' : decide (d < 0) = true := by simpa using hneg
        rw [hd'] at z0
        clear hd'
        go_wp2_with fail
        go_ret2
        exact ⟨by rw [HF.out, if_neg h0, if_pos hneg]; rfl, HB3.out⟩
      · have hd' : decide (d < 0) = false := by simpa using hneg
        rw [hd'] at z0
        clear hd'
        go_wp2_with fail
        go_ret2
        exact ⟨by rw [HF.out, if_neg h0, if_neg (by omega)]; rfl, HB3.out⟩
end Go.Proofs.YtcclclginhhlaaaDoor
