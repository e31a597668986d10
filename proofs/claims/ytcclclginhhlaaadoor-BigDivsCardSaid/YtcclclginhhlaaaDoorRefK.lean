/- The walks over the document own answer for layer 1: two texts as numbers. -/
import Derived.Test.YtcclclginhhlaaaDoorRefJ
namespace Go.Proofs.YtcclclginhhlaaaDoor
open Go.RowKit
open Pl Dig

theorem ret39_3 {fn : Func} {p q u : Tmp} (h : fn.results = #[.cell p 39, .cell q 39, .tmp u]) {tmps : Array Value} {W : World} {g k : Nat} {x y x' y' z : Value} (hp : tmps.getD p undef = .pointer (some ⟨g, 0, none⟩)) (hq : tmps.getD q undef = .pointer (some ⟨k, 0, none⟩)) (hu : tmps.getD u undef = z)
    (hb : Blk W g 39 #[x, y]) (hb' : Blk W k 39 #[x', y']) : (results fn tmps).run Tryd.prog W = .ok (.tuple #[.agg #[x, y], .agg #[x', y'], z]) W := by
  have c0 := hb.cell0
  have c1 := hb.cell1
  have d0 := hb'.cell0
  have d1 := hb'.cell1
  rw [Array.getD_eq_getD_getElem?] at hp hq hu
  simp [results, h, hp, hq, hu, go_sem, c0, c1, d0, d1]

def zero39 : Value := .agg #[.bool false, .slice none 0 0]
/-- The refusal of two texts. -/
def pairE (a b : List UInt8) : Int := if chk a ≠ 0 then chk a else chk b

set_option maxRecDepth 100000 in
set_option maxHeartbeats 1000000 in
theorem pair_bad (a b : ByteArray) (w : World) (ha : a.size ≤ 1000) (hb : b.size ≤ 1000) (h : pairE a.data.toList b.data.toList ≠ 0) :
    Calls Tryd.prog 47 #[.string a, .string b] w fun e w' => e = .returned (.tuple #[zero39, zero39, .int .i64 (pairE a.data.toList b.data.toList)]) ∧ Below w.heap.size w w' := by
  unfold zero39
  have bR := (Blk.new w 39 #[.bool false, .slice none 0 0]).alloc (.cells #[.bool false, .slice none 0 0] 39)
  have bS := Blk.new (w.alloc (.cells #[.bool false, .slice none 0 0] 39)) 39 #[.bool false, .slice none 0 0]
  have hB := ((Below.refl w.heap.size w).alloc (Nat.le_refl _) (.cells #[.bool false, .slice none 0 0] 39)).alloc (by simp) (.cells #[.bool false, .slice none 0 0] 39)
  simp only [World.size_alloc] at bS
  have BR := Lib.hid bR; have BS := Lib.hid bS; have HB := Lib.hid hB; clear bR bS hB
  unfold pairE at h ⊢
  generalize hk : chk a.data.toList = ka at h ⊢
  generalize hk' : chk b.data.toList = kb at h ⊢
  have HK := Lib.hid hk; have HK' := Lib.hid hk'; clear hk hk'
  by_cases hz : ka = 0
  · have hz1 : (ka == 0) = true := by simpa using hz
    rw [if_neg (by omega)] at h ⊢
    have hz2 : (kb != 0) = true := by simpa using h
    clear h
    have HZ := Lib.hid hz; clear hz
    go_enter Tryd.func47, Tryd.ntmps47
    go_wp2_with fail
    refine (ref_chk a _ ha).mono ?_
    rw [HK.out]
    rintro e w1 ⟨rfl, rfl⟩
    go_wp2_with fail
    refine (ref_chk b _ hb).mono ?_
    rw [HK'.out]
    rintro e w1 ⟨rfl, rfl⟩
    go_wp2_with fail
    exact bodyPost_ret (ret39_3 (g := w.heap.size) (k := w.heap.size + 1) Tryd.results47 rfl rfl rfl BR.out BS.out) rfl ⟨rfl, HB.out⟩
  · have hz1 : (ka == 0) = false := by simpa using hz
    have hz2 : (ka != 0) = true := by simpa using hz
    rw [if_pos hz] at h ⊢
    clear h hz
    go_enter Tryd.func47, Tryd.ntmps47
    go_wp2_with fail
    refine (ref_chk a _ ha).mono ?_
    rw [HK.out]
    rintro e w1 ⟨rfl, rfl⟩
    go_wp2_with fail
    exact bodyPost_ret (ret39_3 (g := w.heap.size) (k := w.heap.size + 1) Tryd.results47 rfl rfl rfl BR.out BS.out) rfl ⟨rfl, HB.out⟩

set_option maxRecDepth 100000 in
set_option maxHeartbeats 1000000 in
theorem pair_good (a b : ByteArray) (w : World) (ha : chk a.data.toList = 0) (hb : chk b.data.toList = 0) :
    Calls Tryd.prog 47 #[.string a, .string b] w fun e w' => ∃ va vb, e = .returned (.tuple #[va, vb, .int .i64 0]) ∧ NumIs w' (valL a.data.toList) va ∧ NumIs w' (valL b.data.toList) vb ∧ Below w.heap.size w w' := by
  have HA := Lib.hid ha; have HBB := Lib.hid hb
  have ha1 : a.size ≤ 1000 := by have := (good_size ha).1; omega
  have hb1 : b.size ≤ 1000 := by have := (good_size hb).1; omega
  clear ha hb
  generalize hza : valL a.data.toList = za
  generalize hzb : valL b.data.toList = zb
  have HZA := Lib.hid hza; have HZB := Lib.hid hzb; clear hza hzb
  have bR := (Blk.new w 39 #[.bool false, .slice none 0 0]).alloc (.cells #[.bool false, .slice none 0 0] 39)
  have bS := Blk.new (w.alloc (.cells #[.bool false, .slice none 0 0] 39)) 39 #[.bool false, .slice none 0 0]
  have hB := ((Below.refl w.heap.size w).alloc (Nat.le_refl _) (.cells #[.bool false, .slice none 0 0] 39)).alloc (by simp) (.cells #[.bool false, .slice none 0 0] 39)
  simp only [World.size_alloc] at bS
  have BR := Lib.hid bR; have BS := Lib.hid bS; have HB := Lib.hid hB; clear bR bS hB
  go_enter Tryd.func47, Tryd.ntmps47
  go_wp2_with fail
  refine (ref_chk a _ ha1).mono ?_
  rw [HA.out]
  rintro e w1 ⟨rfl, rfl⟩
  go_wp2_with fail
  refine (ref_chk b _ hb1).mono ?_
  rw [HBB.out]
  rintro e w1 ⟨rfl, rfl⟩
  go_wp2_with fail
  refine (of_num a _ HA.out).mono ?_
  rw [HZA.out]
  rintro e w3 ⟨u3, rfl, hN3, hB3⟩
  obtain ⟨A3, c3, rfl, hN3⟩ := hN3
  have n3 : NumP w3 za A3 c3 := hN3
  have bR3 := BR.out.below hB3 BR.out.lt
  have bS3 := BS.out.below hB3 BS.out.lt
  have hBB3 := HB.out.trans (hB3.mono HB.out.size)
  have BR := Lib.hid bR3; have BS := Lib.hid bS3; have HB := Lib.hid hBB3; have N3 := Lib.hid n3
  clear bR3 bS3 hBB3 n3 hN3 hB3
  go_wp2_with fail
  refine (of_num b _ HBB.out).mono ?_
  rw [HZB.out]
  rintro e w4 ⟨u4, rfl, hN4, hB4⟩
  obtain ⟨A4, c4, rfl, hN4⟩ := hN4
  have n4 : NumP w4 zb A4 c4 := hN4
  have bR4 := BR.out.below hB4 BR.out.lt
  have bS4 := BS.out.below hB4 BS.out.lt
  have n3 := (N3.out.below hB4)
  have hBB4 := HB.out.trans (hB4.mono HB.out.size)
  have x0 := bR4.cell0; have x1 := bR4.cell1; have k0 := bR4.frozen 0; have k1 := bR4.frozen 1
  have y0 := bS4.cell0; have y1 := bS4.cell1; have l0 := bS4.frozen 0; have l1 := bS4.frozen 1
  have BR := Lib.hid bR4; have BS := Lib.hid bS4; have HB := Lib.hid hBB4; have N3 := Lib.hid n3; have N4 := Lib.hid n4
  clear bR4 bS4 hBB4 n3 n4 hN4 hB4
  go_wp2_with fail
  have r1 := ((BR.out.store2 (x' := .bool (decide (za < 0))) (y' := .slice A3 (dg 10 za.natAbs).length c3)).far (p := ⟨w.heap.size + 1, 0, none⟩) (by simp) (.bool (decide (zb < 0)))).far (p := ⟨w.heap.size + 1, 1, none⟩) (by simp) (.slice A4 (dg 10 zb.natAbs).length c4)
  have s0 := ((BS.out.far (p := ⟨w.heap.size, 0, none⟩) (by simp) (.bool (decide (za < 0)))).far (p := ⟨w.heap.size, 1, none⟩) (by simp) (.slice A3 (dg 10 za.natAbs).length c3))
  have r2 := s0.store2 (x' := .bool (decide (zb < 0))) (y' := .slice A4 (dg 10 zb.natAbs).length c4)
  refine bodyPost_ret (ret39_3 (g := w.heap.size) (k := w.heap.size + 1) Tryd.results47 rfl rfl rfl r1 r2) rfl ⟨_, _, rfl, ?_, ?_, ?_⟩
  · exact (N3.out.is.store39 BR.out).store39 s0
  · exact (N4.out.is.store39 BR.out).store39 s0
  · exact (((HB.out.setCell (by simp) _).setCell (by simp) _).setCell (by simp) _).setCell (by simp) _
end Go.Proofs.YtcclclginhhlaaaDoor
