/- The walks over the document own answer for layer 1: a number with the other sign. -/
import Derived.Test.YtcclclginhhlaaaDoorRefH
namespace Go.Proofs.YtcclclginhhlaaaDoor
open Go.RowKit
open Pl Dig

theorem tidy_b (b : Bool) (z : Int) (A : Option Addr) (c : Nat) (w : World) (h : (dg 10 z.natAbs).length ≤ c ∧ c ≤ maxLen ∧ Rd w w.heap.size 3 A (ints (dg 10 z.natAbs))) :
    Calls Tryd.prog 52 #[.agg #[.bool b, .slice A (dg 10 z.natAbs).length c]] w fun e w' => ∃ v, e = .returned v ∧ NumIs w' (sgn b z.natAbs) v ∧ Below w.heap.size w w' := by
  have := tidy_num b A c (dg 10 z.natAbs) w h.2.2 h.1 h.2.1 (dg_lt (by decide) _)
  rw [dg_vl (by decide)] at this
  exact this
theorem plus_num (z z' : Int) (v v' : Value) (w : World) (h : NumIs w z v) (h' : NumIs w z' v') (hl : (dg 10 z.natAbs).length ≤ 40000) (hl' : (dg 10 z'.natAbs).length ≤ 40000) :
    Calls Tryd.prog 67 #[v, v'] w fun e w' => ∃ u, e = .returned u ∧ NumIs w' ((z.natAbs + z'.natAbs : Nat) : Int) u ∧ Below w.heap.size w w' := by
  obtain ⟨A, c, rfl, h1, h2, h3⟩ := h
  obtain ⟨A', c', rfl, h1', h2', h3'⟩ := h'
  have := plus_any (decide (z < 0)) (decide (z' < 0)) A A' c c' (dg 10 z.natAbs) (dg 10 z'.natAbs) w h3 h3' hl hl' (dg_lt (by decide) _) (dg_lt (by decide) _)
  rw [dg_vl (by decide), dg_vl (by decide)] at this
  exact this
theorem minus_num (z z' : Int) (v v' : Value) (w : World) (h : NumIs w z v) (h' : NumIs w z' v') (hl : (dg 10 z.natAbs).length ≤ 40000) (hl' : (dg 10 z'.natAbs).length ≤ 40000) (hle : z'.natAbs ≤ z.natAbs) :
    Calls Tryd.prog 68 #[v, v'] w fun e w' => ∃ u, e = .returned u ∧ NumIs w' ((z.natAbs - z'.natAbs : Nat) : Int) u ∧ Below w.heap.size w w' := by
  obtain ⟨A, c, rfl, h1, h2, h3⟩ := h
  obtain ⟨A', c', rfl, h1', h2', h3'⟩ := h'
  have := minus_any (decide (z < 0)) (decide (z' < 0)) A A' c c' (dg 10 z.natAbs) (dg 10 z'.natAbs) w h3 h3' hl hl' (dg_lt (by decide) _) (dg_lt (by decide) _) (by rw [dg_vl (by decide), dg_vl (by decide)]; exact hle)
  rw [dg_vl (by decide), dg_vl (by decide)] at this
  exact this

set_option maxRecDepth 100000 in
set_option maxHeartbeats 1000000 in
theorem turned_num (z : Int) (v : Value) (w : World) (h : NumIs w z v) :
    Calls Tryd.prog 29 #[v] w fun e w' => ∃ u, e = .returned u ∧ NumIs w' (-z) u ∧ Below w.heap.size w w' := by
  obtain ⟨A, c, rfl, hN⟩ := h
  have hz : sgn (!decide (z < 0)) z.natAbs = -z := by
    unfold sgn
    by_cases hz : z < 0
    · simp [hz]; omega
    · simp [hz]; omega
  obtain ⟨b, hb⟩ : ∃ b, b = decide (z < 0) := ⟨_, rfl⟩
  rw [← hb] at hz ⊢
  have HZ := Lib.hid hz; clear hz
  have HBB := Lib.hid hb; clear hb
  have n1 : NumIs w z (.agg #[.bool (decide (z < 0)), .slice A (dg 10 z.natAbs).length c]) := ⟨A, c, rfl, hN⟩
  go_enter Tryd.func29, Tryd.ntmps29
  go_wp2_with fail
  obtain ⟨w2, hw2⟩ : ∃ w2, w2 = ((w.alloc (.cells #[.bool !b, .slice A (dg 10 z.natAbs).length c] 39)).alloc (.cells #[.bool false, .slice none 0 0] 39)) := ⟨_, rfl⟩
  have bR := Blk.new (w.alloc (.cells #[.bool !b, .slice A (dg 10 z.natAbs).length c] 39)) 39 #[.bool false, .slice none 0 0]
  have hB := ((Below.refl w.heap.size w).alloc (Nat.le_refl _) (.cells #[.bool !b, .slice A (dg 10 z.natAbs).length c] 39)).alloc (by simp) (.cells #[.bool false, .slice none 0 0] 39)
  have n2 := (n1.alloc (.cells #[.bool !b, .slice A (dg 10 z.natAbs).length c] 39)).alloc (.cells #[.bool false, .slice none 0 0] 39)
  rw [World.size_alloc] at bR
  rw [← hw2] at bR hB n2 ⊢
  clear hw2 n1 hN
  obtain ⟨_, _, hq, hN⟩ := n2
  injection hq with hq
  have hq := congrArg Array.toList hq
  simp only [List.cons.injEq, Value.slice.injEq] at hq
  obtain ⟨_, ⟨rfl, _, rfl⟩, _⟩ := hq
  have HB := Lib.hid hB; have BR := Lib.hid bR; clear hB bR
  refine (tidy_b (!b) z A c w2 hN).mono ?_
  rw [HZ.out]
  rintro e w1 ⟨v1, rfl, hN1, hB1⟩
  obtain ⟨A1, c1, rfl, hN2⟩ := hN1
  have bR1 := BR.out.below hB1 BR.out.lt
  have y0 := bR1.cell0; have y1 := bR1.cell1; have k0 := bR1.frozen 0; have k1 := bR1.frozen 1
  have HR1 := Lib.hid bR1; have HB1 := Lib.hid hB1; have HM := Lib.hid hN2
  clear bR1 hB1 hN2 hN
  go_wp2_with fail
  refine bodyPost_ret (ret39 (g := w.heap.size + 1) Tryd.results29 rfl HR1.out.store2) rfl ⟨_, rfl, NumIs.store39 ⟨A1, c1, by simp, HM.out⟩ HR1.out, ?_⟩
  exact ((HB.out.trans (HB1.out.mono HB.out.size)).setCell (by simp) _).setCell (by simp) _
end Go.Proofs.YtcclclginhhlaaaDoor
