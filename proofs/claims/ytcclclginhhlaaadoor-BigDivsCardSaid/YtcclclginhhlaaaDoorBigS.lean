/- The walks over package big: differences and rests of numbers. -/
import Derived.Test.YtcclclginhhlaaaDoorBigR
namespace Go.Proofs.YtcclclginhhlaaaDoor
open Go.RowKit Go.Shelf
open Pl Dig
attribute [local go_sem] Oper.semAt_some

theorem Four.agg {w W : World} {nx ny : Bool} {A B : Option Addr} {lx ly c d : Nat} (h : Four w W nx ny A B lx ly c d) : W.cell? ⟨w.heap.size, 0, none⟩ = some (.bool nx) ∧ W.cell? ⟨w.heap.size, 1, none⟩ = some (.slice A lx c) ∧ W.cell? ⟨w.heap.size + 1, 0, none⟩ = some (.bool ny) ∧ W.cell? ⟨w.heap.size + 1, 1, none⟩ = some (.slice B ly d) := h
theorem BigP.agg {w : World} {z : Int} {A : Option Addr} {c : Nat} {b : Bool} (h : BigP w z A c) (hb : b = decide (z < 0)) : BigIs w z (.agg #[.bool b, .slice A (dg b9 z.natAbs).length c]) := ⟨A, c, by rw [hb], h⟩

set_option maxRecDepth 100000 in
set_option maxHeartbeats 2000000 in
theorem minus_big (x y : Int) (vx vy : Value) (w : World) (hx : BigIs w x vx) (hy : BigIs w y vy) (hlx : (dg b9 x.natAbs).length ≤ 900) (hly : (dg b9 y.natAbs).length ≤ 900) :
    Calls Tryd.prog 42 #[vx, vy] w fun e w' => ∃ v, e = .returned v ∧ BigIs w' (x - y) v ∧ Below w.heap.size w w' := by
  obtain ⟨A, c, rfl, hX⟩ := hx
  obtain ⟨B, d, rfl, hY⟩ := hy
  obtain ⟨nx, hnx⟩ : ∃ n, n = decide (x < 0) := ⟨_, rfl⟩
  obtain ⟨ny, hny⟩ : ∃ n, n = decide (y < 0) := ⟨_, rfl⟩
  rw [← hnx, ← hny]
  have hT := three_start w nx ny A B (dg b9 x.natAbs).length (dg b9 y.natAbs).length c d
  have hX2 := hX.below hT.2.2.2
  have hY2 := hY.below hT.2.2.2
  clear hX hY
  have HX2 := Lib.hid hX2; have HY2 := Lib.hid hY2; have HNX := Lib.hid hnx; have HNY := Lib.hid hny
  clear hX2 hY2 hnx hny
  go_enter Tryd.func42, Tryd.ntmps42
  go_upto_region 1 with fail
  generalize (((w.alloc (.cells #[.bool nx, .slice A (dg b9 x.natAbs).length c] 54)).alloc (.cells #[.bool ny, .slice B (dg b9 y.natAbs).length d] 54)).alloc (.cells #[.bool false, .slice none 0 0] 54)) = W at hT HX2 HY2 ⊢
  have hO := opp_big y _ W.drew (HY2.out.drew.agg HNY.out)
  have HO := Lib.hid hO
  have HT := Lib.hid hT; have H4 := Lib.hid hT.drew.four
  clear hT hO
  obtain ⟨z, hz⟩ : ∃ z, z = -y := ⟨_, rfl⟩
  rw [← hz] at HO
  have hzl : (dg b9 z.natAbs).length ≤ 900 := by rw [hz, Int.natAbs_neg]; exact hly
  have hxz : x + z = x - y := by rw [hz]; omega
  have HXZ := Lib.hid hxz
  clear hz hxz
  generalize hlm : (dg b9 x.natAbs).length = lm at *
  generalize hln : (dg b9 y.natAbs).length = ln at *
  have HLM := Lib.hid hlm; have HLN := Lib.hid hln
  clear hlm hln
  refine plain_region (fun W => Four w W nx ny A B lm ln c d) 4 (by kernel_rfl) ?_
  refine M_take (i := 0) (v := .agg #[.bool nx, .slice A lm c]) rfl (by kernel_rfl) (fun _ _ _ h => h) rfl (fun W hS => by obtain ⟨h1, h2, h3, h4⟩ := hS; go_simp) H4.out ?_
  refine M_take (i := 1) (v := .agg #[.bool ny, .slice B ln d]) rfl (by kernel_rfl) (fun _ _ _ h => h) rfl (fun W hS => by obtain ⟨h1, h2, h3, h4⟩ := hS; go_simp) H4.out ?_
  refine M_one (i := 2) rfl (by kernel_rfl) rfl ?_
  refine op_call #[.agg #[.bool ny, .slice B ln d]] (by simp [go_sem]) (enters_of Tryd.func50 (by kernel_rfl) rfl _ _) HO.out ?_
  rintro e w1 ⟨v1, rfl, hI1, hB1⟩
  have t1 := HT.out.drew.below hB1
  have hX1 := HX2.out.drew.below hB1
  have hP := plus_big x z _ v1 w1 (hX1.agg HNX.out) hI1 (by rw [HLM.out]; exact hlx) hzl
  rw [HXZ.out, HLM.out] at hP
  have HP := Lib.hid hP
  have T1 := Lib.hid t1; have F1 := Lib.hid t1.four
  clear t1 hI1 hB1 hX1 hP
  refine ⟨_, rfl, fun _ => F1.out, ?_⟩
  refine M_one (i := 3) rfl (by kernel_rfl) rfl ?_
  refine op_call #[.agg #[.bool nx, .slice A lm c], v1] (by simp [go_sem]) (enters_of Tryd.func36 (by kernel_rfl) rfl _ _) HP.out ?_
  rintro e w2 ⟨v2, rfl, hI2, hB2⟩
  obtain ⟨A2, c2, rfl, hp2⟩ := hI2
  have t2 := T1.out.below hB2
  have T2 := Lib.hid t2; have F2 := Lib.hid t2.four; have HP2 := Lib.hid hp2
  have x0 := t2.2.2.1.cell0; have x1 := t2.2.2.1.cell1; have k0 := t2.2.2.1.frozen 0; have k1 := t2.2.2.1.frozen 1
  clear t2 hp2 hB2
  refine ⟨_, rfl, fun _ => F2.out, ?_⟩
  refine M_one (i := 4) rfl (by kernel_rfl) rfl ?_
  go_simp
  refine M_done (by kernel_rfl) ?_
  go_wp2_with fail
  refine bodyPost_ret (ret54 (g := w.heap.size + 1 + 1) Tryd.results42 rfl T2.out.2.2.1.store2) rfl ⟨_, rfl, ⟨A2, c2, rfl, HP2.out.store54 T2.out.2.2.1⟩, ?_⟩
  exact (T2.out.2.2.2.setCell (by simp; omega) _).setCell (by simp; omega) _

set_option maxRecDepth 100000 in
set_option maxHeartbeats 2000000 in
theorem rest_big (x y : Int) (vx vy : Value) (w : World) (hx : BigIs w x vx) (hy : BigIs w y vy) (hlx : (dg b9 x.natAbs).length ≤ 400) (hly : (dg b9 y.natAbs).length ≤ 400) (hy0 : y ≠ 0) :
    Calls Tryd.prog 40 #[vx, vy] w fun e w' => ∃ v, e = .returned v ∧ BigIs w' (x.tmod y) v ∧ Below w.heap.size w w' := by
  obtain ⟨A, c, rfl, hX⟩ := hx
  obtain ⟨B, d, rfl, hY⟩ := hy
  obtain ⟨nx, hnx⟩ : ∃ n, n = decide (x < 0) := ⟨_, rfl⟩
  obtain ⟨ny, hny⟩ : ∃ n, n = decide (y < 0) := ⟨_, rfl⟩
  rw [← hnx, ← hny]
  obtain ⟨r, hrr⟩ : ∃ r, r = x.tmod y := ⟨_, rfl⟩
  rw [← hrr]
  have HRR := Lib.hid hrr
  clear hrr
  have hT := three_start w nx ny A B (dg b9 x.natAbs).length (dg b9 y.natAbs).length c d
  have hX2 := hX.below hT.2.2.2
  have hY2 := hY.below hT.2.2.2
  clear hX hY
  have HX2 := Lib.hid hX2; have HY2 := Lib.hid hY2; have HNX := Lib.hid hnx; have HNY := Lib.hid hny
  clear hX2 hY2 hnx hny
  go_enter Tryd.func40, Tryd.ntmps40
  go_upto_region 1 with fail
  generalize (((w.alloc (.cells #[.bool nx, .slice A (dg b9 x.natAbs).length c] 54)).alloc (.cells #[.bool ny, .slice B (dg b9 y.natAbs).length d] 54)).alloc (.cells #[.bool false, .slice none 0 0] 54)) = W at hT HX2 HY2 ⊢
  have hO := over_big x y _ _ W.drew (HX2.out.drew.agg HNX.out) (HY2.out.drew.agg HNY.out) hlx hly hy0
  have HO := Lib.hid hO
  have HT := Lib.hid hT; have H4 := Lib.hid hT.drew.four
  clear hT hO
  obtain ⟨q, hq⟩ : ∃ q, q = x.tdiv y := ⟨_, rfl⟩
  have hql : q.natAbs ≤ x.natAbs := by rw [hq, Int.natAbs_tdiv]; exact Nat.div_le_self _ _
  have hqy : (q * y).natAbs ≤ x.natAbs := by rw [hq, Int.natAbs_mul, Int.natAbs_tdiv]; exact Nat.div_mul_le_self _ _
  have hr : x - q * y = x.tmod y := by rw [hq, Int.tmod_def, Int.mul_comm]
  rw [← hq] at HO
  have hql2 : (dg b9 q.natAbs).length ≤ 400 := Nat.le_trans (dg_mono hql) hlx
  have hqy2 : (dg b9 (q * y).natAbs).length ≤ 900 := Nat.le_trans (dg_mono hqy) (by omega)
  have hr := hr.trans HRR.out.symm
  have HR := Lib.hid hr; have HQL := Lib.hid hql2; have HQY := Lib.hid hqy2
  clear hq hql hqy hr hql2 hqy2 hy0
  generalize hlm : (dg b9 x.natAbs).length = lm at *
  generalize hln : (dg b9 y.natAbs).length = ln at *
  have HLM := Lib.hid hlm; have HLN := Lib.hid hln
  clear hlm hln
  refine plain_region (fun W => Four w W nx ny A B lm ln c d) 7 (by kernel_rfl) ?_
  refine M_take (i := 0) (v := .agg #[.bool nx, .slice A lm c]) rfl (by kernel_rfl) (fun _ _ _ h => h) rfl (fun W hS => by obtain ⟨h1, h2, h3, h4⟩ := hS; go_simp) H4.out ?_
  refine M_take (i := 1) (v := .agg #[.bool nx, .slice A lm c]) rfl (by kernel_rfl) (fun _ _ _ h => h) rfl (fun W hS => by obtain ⟨h1, h2, h3, h4⟩ := hS; go_simp) H4.out ?_
  refine M_take (i := 2) (v := .agg #[.bool ny, .slice B ln d]) rfl (by kernel_rfl) (fun _ _ _ h => h) rfl (fun W hS => by obtain ⟨h1, h2, h3, h4⟩ := hS; go_simp) H4.out ?_
  refine M_take (i := 4) (v := .agg #[.bool ny, .slice B ln d]) rfl (by kernel_rfl) (fun _ _ _ h => h) rfl (fun W hS => by obtain ⟨h1, h2, h3, h4⟩ := hS; go_simp) H4.out ?_
  refine M_one (i := 3) rfl (by kernel_rfl) rfl ?_
  refine op_call #[.agg #[.bool nx, .slice A lm c], .agg #[.bool ny, .slice B ln d]] (by simp [go_sem]) (enters_of Tryd.func39 (by kernel_rfl) rfl _ _) HO.out ?_
  rintro e w1 ⟨v1, rfl, hI1, hB1⟩
  have t1 := HT.out.drew.below hB1
  have hX1 := HX2.out.drew.below hB1
  have hY1 := HY2.out.drew.below hB1
  have hP := times_big q y v1 _ w1 hI1 (hY1.agg HNY.out) HQL.out (by rw [HLN.out]; exact hly)
  rw [HLN.out] at hP
  have HP := Lib.hid hP; have HX1 := Lib.hid hX1
  have T1 := Lib.hid t1; have F1 := Lib.hid t1.four
  clear t1 hI1 hB1 hX1 hY1 hP
  refine ⟨_, rfl, fun _ => F1.out, ?_⟩
  refine M_one (i := 5) rfl (by kernel_rfl) rfl ?_
  refine op_call #[v1, .agg #[.bool ny, .slice B ln d]] (by simp [go_sem]) (enters_of Tryd.func37 (by kernel_rfl) rfl _ _) HP.out ?_
  rintro e w2 ⟨v2, rfl, hI2, hB2⟩
  have t2 := T1.out.below hB2
  have hX3 := HX1.out.below hB2
  have hM := minus_big x (q * y) _ v2 w2 (hX3.agg HNX.out) hI2 (by rw [HLM.out]; omega) HQY.out
  rw [HLM.out, HR.out] at hM
  have HM := Lib.hid hM
  have T2 := Lib.hid t2; have F2 := Lib.hid t2.four
  clear t2 hI2 hB2 hX3 hM
  refine ⟨_, rfl, fun _ => F2.out, ?_⟩
  refine M_one (i := 6) rfl (by kernel_rfl) rfl ?_
  refine op_call #[.agg #[.bool nx, .slice A lm c], v2] (by simp [go_sem]) (enters_of Tryd.func42 (by kernel_rfl) rfl _ _) HM.out ?_
  rintro e w3 ⟨v3, rfl, hI3, hB3⟩
  obtain ⟨A3, c3, rfl, hp3⟩ := hI3
  have t3 := T2.out.below hB3
  have T3 := Lib.hid t3; have F3 := Lib.hid t3.four; have HP3 := Lib.hid hp3
  have x0 := t3.2.2.1.cell0; have x1 := t3.2.2.1.cell1; have k0 := t3.2.2.1.frozen 0; have k1 := t3.2.2.1.frozen 1
  clear t3 hp3 hB3
  refine ⟨_, rfl, fun _ => F3.out, ?_⟩
  refine M_one (i := 7) rfl (by kernel_rfl) rfl ?_
  go_simp
  refine M_done (by kernel_rfl) ?_
  go_wp2_with fail
  refine bodyPost_ret (ret54 (g := w.heap.size + 1 + 1) Tryd.results40 rfl T3.out.2.2.1.store2) rfl ⟨_, rfl, ⟨A3, c3, rfl, HP3.out.store54 T3.out.2.2.1⟩, ?_⟩
  exact (T3.out.2.2.2.setCell (by simp; omega) _).setCell (by simp; omega) _
end Go.Proofs.YtcclclginhhlaaaDoor
