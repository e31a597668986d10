/- The walk over the document own answer for layer 1: the sum of two numbers. -/
import Derived.Test.YtcclclginhhlaaaDoorRefI
namespace Go.Proofs.YtcclclginhhlaaaDoor
open Go.RowKit
open Pl Dig

/-- What of a number stands beside its sign. -/
def NumP (w : World) (z : Int) (A : Option Addr) (c : Nat) : Prop := (dg 10 z.natAbs).length ≤ c ∧ c ≤ maxLen ∧ Rd w w.heap.size 3 A (ints (dg 10 z.natAbs))
theorem NumP.is {w : World} {z : Int} {A : Option Addr} {c : Nat} (h : NumP w z A c) : NumIs w z (.agg #[.bool (decide (z < 0)), .slice A (dg 10 z.natAbs).length c]) := ⟨A, c, rfl, h⟩
theorem NumP.below {w w' : World} {z : Int} {A : Option Addr} {c : Nat} (h : NumP w z A c) (hb : Below w.heap.size w w') : NumP w' z A c := ⟨h.1, h.2.1, (h.2.2.below hb).more hb.size⟩
theorem NumP.alloc {w : World} {z : Int} {A : Option Addr} {c : Nat} (h : NumP w z A c) (o : Obj) : NumP (w.alloc o) z A c := h.below ((Below.refl _ _).alloc (Nat.le_refl _) o)

set_option maxRecDepth 100000 in
set_option maxHeartbeats 2000000 in
theorem sum_num (z z' : Int) (v v' : Value) (w : World) (h : NumIs w z v) (h' : NumIs w z' v') (hl : (dg 10 z.natAbs).length ≤ 30000) (hl' : (dg 10 z'.natAbs).length ≤ 30000) :
    Calls Tryd.prog 48 #[v, v'] w fun e w' => ∃ u, e = .returned u ∧ NumIs w' (z + z') u ∧ Below w.heap.size w w' := by
  obtain ⟨A, c, rfl, hN⟩ := h
  obtain ⟨A', c', rfl, hN'⟩ := h'
  obtain ⟨r, hr⟩ : ∃ r, r = z + z' := ⟨_, rfl⟩
  rw [← hr]
  obtain ⟨sa, hsa⟩ : ∃ s, s = decide (z < 0) := ⟨_, rfl⟩
  obtain ⟨sb, hsb⟩ : ∃ s, s = decide (z' < 0) := ⟨_, rfl⟩
  have n1 : NumP w z A c := hN
  have n1' : NumP w z' A' c' := hN'
  clear hN hN'
  have HR := Lib.hid hr; clear hr
  rw [← hsa, ← hsb]
  obtain ⟨W, hW⟩ : ∃ W, W = ((w.alloc (.cells #[.bool sa, .slice A (dg 10 z.natAbs).length c] 39)).alloc (.cells #[.bool sb, .slice A' (dg 10 z'.natAbs).length c'] 39)).alloc (.cells #[.bool false, .slice none 0 0] 39) := ⟨_, rfl⟩
  have bX := ((Blk.new w 39 #[.bool sa, .slice A (dg 10 z.natAbs).length c]).alloc (.cells #[.bool sb, .slice A' (dg 10 z'.natAbs).length c'] 39)).alloc (.cells #[.bool false, .slice none 0 0] 39)
  have bY := (Blk.new (w.alloc (.cells #[.bool sa, .slice A (dg 10 z.natAbs).length c] 39)) 39 #[.bool sb, .slice A' (dg 10 z'.natAbs).length c']).alloc (.cells #[.bool false, .slice none 0 0] 39)
  have bR := Blk.new ((w.alloc (.cells #[.bool sa, .slice A (dg 10 z.natAbs).length c] 39)).alloc (.cells #[.bool sb, .slice A' (dg 10 z'.natAbs).length c'] 39)) 39 #[.bool false, .slice none 0 0]
  have hB := (((Below.refl w.heap.size w).alloc (Nat.le_refl _) (.cells #[.bool sa, .slice A (dg 10 z.natAbs).length c] 39)).alloc (by simp) (.cells #[.bool sb, .slice A' (dg 10 z'.natAbs).length c'] 39)).alloc (by simp; omega) (.cells #[.bool false, .slice none 0 0] 39)
  have n2 := (((n1.alloc (.cells #[.bool sa, .slice A (dg 10 z.natAbs).length c] 39)).alloc (.cells #[.bool sb, .slice A' (dg 10 z'.natAbs).length c'] 39)).alloc (.cells #[.bool false, .slice none 0 0] 39)).is
  have n2' := (((n1'.alloc (.cells #[.bool sa, .slice A (dg 10 z.natAbs).length c] 39)).alloc (.cells #[.bool sb, .slice A' (dg 10 z'.natAbs).length c'] 39)).alloc (.cells #[.bool false, .slice none 0 0] 39)).is
  simp only [World.size_alloc] at bY bR
  rw [← hW, ← hsa] at n2
  rw [← hW, ← hsb] at n2'
  rw [← hW] at bX bY bR hB
  clear n1 n1'
  have hsz : w.heap.size + 1 + 1 < W.heap.size := bR.lt
  have x0 := bX.cell0; have x1 := bX.cell1; have y0 := bY.cell0; have y1 := bY.cell1
  have BX := Lib.hid bX; have BY := Lib.hid bY; have BR := Lib.hid bR; have HB := Lib.hid hB; have N2 := Lib.hid n2; have N2' := Lib.hid n2'
  have HSA := Lib.hid hsa; have HSB := Lib.hid hsb
  clear bX bY bR hB n2 n2' hsa hsb
  go_enter Tryd.func48, Tryd.ntmps48
  go_upto_region 1 with fail
  rw [← hW]
  clear hW
  by_cases hs : sa = sb
  · subst hs
    have hres : sgn sa ((z.natAbs + z'.natAbs : Nat) : Int).natAbs = r := by
      rw [HR.out]; unfold sgn
      have e1 := HSA.out; have e2 := HSB.out
      rw [e1] at e2
      rw [e1]
      by_cases h1 : z < 0
      · have h2 : z' < 0 := by simpa [h1] using e2.symm
        simp [h1]; omega
      · have h2 : ¬ z' < 0 := by simpa [h1] using e2.symm
        simp [h1]; omega
    have HRES := Lib.hid hres; clear hres
    go_wp2_with fail
    refine (plus_num z z' _ _ W N2.out N2'.out (by omega) (by omega)).mono ?_
    rintro e w3 ⟨u3, rfl, hN3, hB3⟩
    generalize ((z.natAbs + z'.natAbs : Nat) : Int) = p at hN3 HRES
    obtain ⟨A3, c3, rfl, hN3⟩ := hN3
    have n3 : NumP w3 p A3 c3 := hN3
    clear hN3
    have hsz3 := hB3.size
    have bX3 := BX.out.below hB3 BX.out.lt
    have bY3 := BY.out.below hB3 BY.out.lt
    have x0 := (bX3.alloc (.cells #[.bool (decide (p < 0)), .slice A3 (dg 10 p.natAbs).length c3] 39)).cell0; have y0 := (bY3.alloc (.cells #[.bool (decide (p < 0)), .slice A3 (dg 10 p.natAbs).length c3] 39)).cell0
    obtain ⟨w4, hw4⟩ : ∃ w4, w4 = w3.alloc (.cells #[.bool sa, .slice A3 (dg 10 p.natAbs).length c3] 39) := ⟨_, rfl⟩
    have bR4 := (BR.out.below hB3 BR.out.lt).alloc (.cells #[.bool sa, .slice A3 (dg 10 p.natAbs).length c3] 39)
    have hB4 := (HB.out.trans (hB3.mono HB.out.size)).alloc (HB.out.trans (hB3.mono HB.out.size)).size (.cells #[.bool sa, .slice A3 (dg 10 p.natAbs).length c3] 39)
    have n4 := n3.alloc (.cells #[.bool sa, .slice A3 (dg 10 p.natAbs).length c3] 39)
    rw [← hw4] at bR4 hB4 n4
    have BR4 := Lib.hid bR4; have HB4 := Lib.hid hB4; have N4 := Lib.hid n4; have HW4 := Lib.hid hw4
    clear n3 hB3 bX3 bY3 bR4 hB4 n4 hw4
    go_wp2_with fail
    rw [← HW4.out]
    refine (tidy_b sa p A3 c3 w4 N4.out).mono ?_
    rw [HRES.out]
    rintro e w5 ⟨u5, rfl, hN5, hB5⟩
    obtain ⟨A5, c5, rfl, hN5⟩ := hN5
    have bR5 := BR4.out.below hB5 BR4.out.lt
    have z0 := bR5.cell0; have z1 := bR5.cell1; have k0 := bR5.frozen 0; have k1 := bR5.frozen 1
    have HR5 := Lib.hid bR5; have HB5 := Lib.hid hB5; have HM := Lib.hid hN5
    clear bR5 hB5 hN5
    go_wp2_with fail
    refine bodyPost_ret (ret39 (g := w.heap.size + 1 + 1) Tryd.results48 rfl HR5.out.store2) rfl ⟨_, rfl, NumIs.store39 ⟨A5, c5, rfl, HM.out⟩ HR5.out, ?_⟩
    exact ((HB4.out.trans (HB5.out.mono HB4.out.size)).setCell (by simp; omega) _).setCell (by simp; omega) _
  · have hsn : (sa == sb) = false := by simpa using hs
    have hcmp : cmpN z.natAbs z'.natAbs < 0 ↔ z.natAbs < z'.natAbs := by
      unfold cmpN; split
      · simp; assumption
      · split <;> simp <;> omega
    have hss : (z < 0 ∧ ¬ z' < 0) ∨ (¬ z < 0 ∧ z' < 0) := by
      have e1 := HSA.out; have e2 := HSB.out
      rw [e1, e2] at hs
      by_cases h1 : z < 0 <;> by_cases h2 : z' < 0 <;> simp [h1, h2] at hs ⊢
    clear hs
    by_cases hlt : z.natAbs < z'.natAbs
    · have hc : cmpN z.natAbs z'.natAbs < 0 := hcmp.2 hlt
      clear hcmp
      have hres : sgn sb ((z'.natAbs - z.natAbs : Nat) : Int).natAbs = r := by
        rw [HR.out, HSB.out]; unfold sgn
        rcases hss with ⟨h1, h2⟩ | ⟨h1, h2⟩
        · simp [h2]; omega
        · simp [h2]; omega
      have HSS := Lib.hid hss; clear hss
      have HRES := Lib.hid hres; clear hres
      go_wp2_with fail
      refine (size_num z z' _ _ W N2.out N2'.out (by omega) (by omega)).mono ?_
      rintro e w3 ⟨rfl, hB3⟩
      have n3 := N2.out.below hB3
      have n3' := N2'.out.below hB3
      have bX3 := BX.out.below hB3 BX.out.lt
      have bY3 := BY.out.below hB3 BY.out.lt
      have bR3 := BR.out.below hB3 BR.out.lt
      have hBB := HB.out.trans (hB3.mono HB.out.size)
      have x0 := bX3.cell0; have x1 := bX3.cell1; have y0 := bY3.cell0; have y1 := bY3.cell1
      have hsz3 := hB3.size
      have hsz : w.heap.size + 1 + 1 < w3.heap.size := bR3.lt
      have BX := Lib.hid bX3; have BY := Lib.hid bY3; have BR := Lib.hid bR3; have HB := Lib.hid hBB; have N2 := Lib.hid n3; have N2' := Lib.hid n3'
      clear bX3 bY3 bR3 hBB n3 n3' hB3
      obtain ⟨W, hWW⟩ : ∃ W, W = w3 := ⟨_, rfl⟩
      subst hWW
      go_wp2_with fail
      refine (minus_num z' z _ _ W N2'.out N2.out (by omega) (by omega) (by omega)).mono ?_
      rintro e w3 ⟨u3, rfl, hN3, hB3⟩
      generalize ((z'.natAbs - z.natAbs : Nat) : Int) = p at hN3 HRES
      obtain ⟨A3, c3, rfl, hN3⟩ := hN3
      have n3 : NumP w3 p A3 c3 := hN3
      clear hN3
      have hsz3 := hB3.size
      have bX3 := BX.out.below hB3 BX.out.lt
      have bY3 := BY.out.below hB3 BY.out.lt
      have x0 := (bX3.alloc (.cells #[.bool (decide (p < 0)), .slice A3 (dg 10 p.natAbs).length c3] 39)).cell0; have y0 := (bY3.alloc (.cells #[.bool (decide (p < 0)), .slice A3 (dg 10 p.natAbs).length c3] 39)).cell0
      obtain ⟨w4, hw4⟩ : ∃ w4, w4 = w3.alloc (.cells #[.bool sb, .slice A3 (dg 10 p.natAbs).length c3] 39) := ⟨_, rfl⟩
      have bR4 := (BR.out.below hB3 BR.out.lt).alloc (.cells #[.bool sb, .slice A3 (dg 10 p.natAbs).length c3] 39)
      have hB4 := (HB.out.trans (hB3.mono HB.out.size)).alloc (HB.out.trans (hB3.mono HB.out.size)).size (.cells #[.bool sb, .slice A3 (dg 10 p.natAbs).length c3] 39)
      have n4 := n3.alloc (.cells #[.bool sb, .slice A3 (dg 10 p.natAbs).length c3] 39)
      rw [← hw4] at bR4 hB4 n4
      have BR4 := Lib.hid bR4; have HB4 := Lib.hid hB4; have N4 := Lib.hid n4; have HW4 := Lib.hid hw4
      clear n3 hB3 bX3 bY3 bR4 hB4 n4 hw4
      go_wp2_with fail
      rw [← HW4.out]
      refine (tidy_b sb p A3 c3 w4 N4.out).mono ?_
      rw [HRES.out]
      rintro e w5 ⟨u5, rfl, hN5, hB5⟩
      obtain ⟨A5, c5, rfl, hN5⟩ := hN5
      have bR5 := BR4.out.below hB5 BR4.out.lt
      have z0 := bR5.cell0; have z1 := bR5.cell1; have k0 := bR5.frozen 0; have k1 := bR5.frozen 1
      have HR5 := Lib.hid bR5; have HB5 := Lib.hid hB5; have HM := Lib.hid hN5
      clear bR5 hB5 hN5
      go_wp2_with fail
      refine bodyPost_ret (ret39 (g := w.heap.size + 1 + 1) Tryd.results48 rfl HR5.out.store2) rfl ⟨_, rfl, NumIs.store39 ⟨A5, c5, rfl, HM.out⟩ HR5.out, ?_⟩
      exact ((HB4.out.trans (HB5.out.mono HB4.out.size)).setCell (by simp; omega) _).setCell (by simp; omega) _
    · have hc : ¬ cmpN z.natAbs z'.natAbs < 0 := fun h => hlt (hcmp.1 h)
      clear hcmp
      have hres : sgn sa ((z.natAbs - z'.natAbs : Nat) : Int).natAbs = r := by
        rw [HR.out, HSA.out]; unfold sgn
        rcases hss with ⟨h1, h2⟩ | ⟨h1, h2⟩
        · simp [h1]; omega
        · simp [h1]; omega
      have HSS := Lib.hid hss; clear hss
      have HRES := Lib.hid hres; clear hres
      go_wp2_with fail
      refine (size_num z z' _ _ W N2.out N2'.out (by omega) (by omega)).mono ?_
      rintro e w3 ⟨rfl, hB3⟩
      have n3 := N2.out.below hB3
      have n3' := N2'.out.below hB3
      have bX3 := BX.out.below hB3 BX.out.lt
      have bY3 := BY.out.below hB3 BY.out.lt
      have bR3 := BR.out.below hB3 BR.out.lt
      have hBB := HB.out.trans (hB3.mono HB.out.size)
      have x0 := bX3.cell0; have x1 := bX3.cell1; have y0 := bY3.cell0; have y1 := bY3.cell1
      have hsz3 := hB3.size
      have hsz : w.heap.size + 1 + 1 < w3.heap.size := bR3.lt
      have BX := Lib.hid bX3; have BY := Lib.hid bY3; have BR := Lib.hid bR3; have HB := Lib.hid hBB; have N2 := Lib.hid n3; have N2' := Lib.hid n3'
      clear bX3 bY3 bR3 hBB n3 n3' hB3
      obtain ⟨W, hWW⟩ : ∃ W, W = w3 := ⟨_, rfl⟩
      subst hWW
      go_wp2_with fail
      refine (minus_num z z' _ _ W N2.out N2'.out (by omega) (by omega) (by omega)).mono ?_
      rintro e w3 ⟨u3, rfl, hN3, hB3⟩
      generalize ((z.natAbs - z'.natAbs : Nat) : Int) = p at hN3 HRES
      obtain ⟨A3, c3, rfl, hN3⟩ := hN3
      have n3 : NumP w3 p A3 c3 := hN3
      clear hN3
      have hsz3 := hB3.size
      have bX3 := BX.out.below hB3 BX.out.lt
      have bY3 := BY.out.below hB3 BY.out.lt
      have x0 := (bX3.alloc (.cells #[.bool (decide (p < 0)), .slice A3 (dg 10 p.natAbs).length c3] 39)).cell0; have y0 := (bY3.alloc (.cells #[.bool (decide (p < 0)), .slice A3 (dg 10 p.natAbs).length c3] 39)).cell0
      obtain ⟨w4, hw4⟩ : ∃ w4, w4 = w3.alloc (.cells #[.bool sa, .slice A3 (dg 10 p.natAbs).length c3] 39) := ⟨_, rfl⟩
      have bR4 := (BR.out.below hB3 BR.out.lt).alloc (.cells #[.bool sa, .slice A3 (dg 10 p.natAbs).length c3] 39)
      have hB4 := (HB.out.trans (hB3.mono HB.out.size)).alloc (HB.out.trans (hB3.mono HB.out.size)).size (.cells #[.bool sa, .slice A3 (dg 10 p.natAbs).length c3] 39)
      have n4 := n3.alloc (.cells #[.bool sa, .slice A3 (dg 10 p.natAbs).length c3] 39)
      rw [← hw4] at bR4 hB4 n4
      have BR4 := Lib.hid bR4; have HB4 := Lib.hid hB4; have N4 := Lib.hid n4; have HW4 := Lib.hid hw4
      clear n3 hB3 bX3 bY3 bR4 hB4 n4 hw4
      go_wp2_with fail
      rw [← HW4.out]
      refine (tidy_b sa p A3 c3 w4 N4.out).mono ?_
      rw [HRES.out]
      rintro e w5 ⟨u5, rfl, hN5, hB5⟩
      obtain ⟨A5, c5, rfl, hN5⟩ := hN5
      have bR5 := BR4.out.below hB5 BR4.out.lt
      have z0 := bR5.cell0; have z1 := bR5.cell1; have k0 := bR5.frozen 0; have k1 := bR5.frozen 1
      have HR5 := Lib.hid bR5; have HB5 := Lib.hid hB5; have HM := Lib.hid hN5
      clear bR5 hB5 hN5
      go_wp2_with fail
      refine bodyPost_ret (ret39 (g := w.heap.size + 1 + 1) Tryd.results48 rfl HR5.out.store2) rfl ⟨_, rfl, NumIs.store39 ⟨A5, c5, rfl, HM.out⟩ HR5.out, ?_⟩
      exact ((HB4.out.trans (HB5.out.mono HB4.out.size)).setCell (by simp; omega) _).setCell (by simp; omega) _
end Go.Proofs.YtcclclginhhlaaaDoor
