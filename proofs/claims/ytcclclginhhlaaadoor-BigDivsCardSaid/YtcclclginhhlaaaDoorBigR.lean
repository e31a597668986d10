/- The walks over package big: sums, differences, rests of numbers. -/
import Derived.Test.YtcclclginhhlaaaDoorBigQ
namespace Go.Proofs.YtcclclginhhlaaaDoor
open Go.RowKit Go.Shelf
open Pl Dig
attribute [local go_sem] Oper.semAt_some

theorem plus_same {x y : Int} (h : decide (x < 0) = decide (y < 0)) : sgn (decide (x < 0)) (x.natAbs + y.natAbs) = x + y := by
  unfold sgn
  by_cases h1 : x < 0
  · rw [decide_eq_true h1] at h ⊢
    have h2 : y < 0 := by simpa using h.symm
    simp; omega
  · rw [decide_eq_false h1] at h ⊢
    have h2 : ¬ y < 0 := by simpa using h.symm
    simp; omega
theorem plus_other {x y : Int} (h : ¬ decide (x < 0) = decide (y < 0)) (hle : y.natAbs ≤ x.natAbs) : sgn (decide (x < 0)) (x.natAbs - y.natAbs) = x + y := by
  unfold sgn
  by_cases h1 : x < 0
  · rw [decide_eq_true h1] at h ⊢
    have h2 : ¬ y < 0 := by intro h3; exact h (decide_eq_true h3).symm
    simp; omega
  · rw [decide_eq_false h1] at h ⊢
    have h2 : y < 0 := by
      by_cases h3 : y < 0
      · exact h3
      · exact absurd (decide_eq_false h3).symm h
    simp; omega

set_option maxRecDepth 100000 in
set_option maxHeartbeats 4000000 in
theorem plus_big (x y : Int) (vx vy : Value) (w : World) (hx : BigIs w x vx) (hy : BigIs w y vy) (hlx : (dg b9 x.natAbs).length ≤ 900) (hly : (dg b9 y.natAbs).length ≤ 900) :
    Calls Tryd.prog 36 #[vx, vy] w fun e w' => ∃ v, e = .returned v ∧ BigIs w' (x + y) v ∧ Below w.heap.size w w' := by
  obtain ⟨A, c, rfl, hX⟩ := hx
  obtain ⟨B, d, rfl, hY⟩ := hy
  have hs1 := plus_same (x := x) (y := y)
  have hs2 := plus_other (x := x) (y := y)
  have hs3 := plus_other (x := y) (y := x)
  rw [Int.add_comm y x] at hs3
  obtain ⟨r, hr⟩ : ∃ r, r = x + y := ⟨_, rfl⟩
  rw [← hr] at hs1 hs2 hs3 ⊢
  clear hr
  obtain ⟨nx, hnx⟩ : ∃ n, n = decide (x < 0) := ⟨_, rfl⟩
  obtain ⟨ny, hny⟩ : ∃ n, n = decide (y < 0) := ⟨_, rfl⟩
  rw [← hnx, ← hny] at hs1 hs2 hs3 ⊢
  have hT := three_start w nx ny A B (dg b9 x.natAbs).length (dg b9 y.natAbs).length c d
  have hX2 : PartP _ x.natAbs A c := hX.below hT.2.2.2
  have hY2 : PartP _ y.natAbs B d := hY.below hT.2.2.2
  clear hnx hny hX hY
  generalize x.natAbs = m at *
  generalize y.natAbs = n at *
  generalize hlm : (dg b9 m).length = lm at hT hX2 hY2 hlx ⊢
  generalize hln : (dg b9 n).length = ln at hT hX2 hY2 hly ⊢
  have HX2 := Lib.hid hX2; have HY2 := Lib.hid hY2; have HLM := Lib.hid hlm; have HLN := Lib.hid hln
  clear hX2 hY2 hlm hln
  go_enter Tryd.func36, Tryd.ntmps36
  go_upto_region 1 with fail
  generalize (((w.alloc (.cells #[.bool nx, .slice A lm c] 54)).alloc (.cells #[.bool ny, .slice B ln d] 54)).alloc (.cells #[.bool false, .slice none 0 0] 54)) = W at hT HX2 HY2 ⊢
  have HT := Lib.hid hT
  have y0 := hT.1.cell0; have y1 := hT.1.cell1; have z0 := hT.2.1.cell0; have z1 := hT.2.1.cell1
  clear hT
  by_cases hn : nx = ny
  · have hS := hs1 hn
    have hc := add_parts m n A B c d W.drew HX2.out.drew.2.2 HY2.out.drew.2.2 (by rw [HLM.out]; omega) (by rw [HLN.out]; omega)
    rw [HLM.out, HLN.out] at hc
    have HC := Lib.hid hc; have HS := Lib.hid hS; have H4 := Lib.hid HT.out.drew.four
    have hnn : (nx == ny) = true := by simpa using hn
    clear hc hS hn hs1 hs2 hs3
    go_upto_region 2 with fail

    refine plain_region (fun W => Four w W nx ny A B lm ln c d) 8 (by kernel_rfl) ?_
    refine M_take (i := 0) (v := .pointer (some ⟨w.heap.size, 0, none⟩)) rfl (by kernel_rfl) (fun _ _ _ h => h) rfl (fun W hS => by go_simp) H4.out ?_
    refine M_take (i := 1) (v := .bool nx) rfl (by kernel_rfl) (fun _ _ _ h => h) rfl (fun W hS => by obtain ⟨h1, h2, h3, h4⟩ := hS; go_simp) H4.out ?_
    refine M_take (i := 2) (v := .pointer (some ⟨w.heap.size, 1, none⟩)) rfl (by kernel_rfl) (fun _ _ _ h => h) rfl (fun W hS => by go_simp) H4.out ?_
    refine M_take (i := 3) (v := .slice A lm c) rfl (by kernel_rfl) (fun _ _ _ h => h) rfl (fun W hS => by obtain ⟨h1, h2, h3, h4⟩ := hS; go_simp) H4.out ?_
    refine M_take (i := 4) (v := .pointer (some ⟨w.heap.size + 1, 1, none⟩)) rfl (by kernel_rfl) (fun _ _ _ h => h) rfl (fun W hS => by go_simp) H4.out ?_
    refine M_take (i := 5) (v := .slice B ln d) rfl (by kernel_rfl) (fun _ _ _ h => h) rfl (fun W hS => by obtain ⟨h1, h2, h3, h4⟩ := hS; go_simp) H4.out ?_
    refine M_one (i := 6) rfl (by kernel_rfl) rfl ?_
    refine op_call #[.slice A lm c, .slice B ln d] (by simp [go_sem]) (enters_of Tryd.func57 (by kernel_rfl) rfl _ _) HC.out ?_
    rintro e w1 ⟨A1, c1, rfl, hp1, hB1⟩
    have t1 := HT.out.drew.below hB1
    have T1 := Lib.hid t1; have F1 := Lib.hid t1.four; have HP1 := Lib.hid hp1
    clear t1 hp1 hB1
    refine ⟨_, rfl, fun _ => F1.out, ?_⟩
    refine M_one (i := 7) rfl (by kernel_rfl) rfl ?_
    refine op_call #[.bool nx, .slice A1 (dg b9 (m + n)).length c1] (by simp [go_sem]) (enters_of Tryd.func56 (by kernel_rfl) rfl _ _) (signed_nat nx (m + n) A1 c1 w1 HP1.out) ?_
    rintro e w2 ⟨A2, c2, rfl, hp2, hB2⟩
    rw [HS.out] at hp2 ⊢
    have t2 := T1.out.below hB2
    have T2 := Lib.hid t2; have F2 := Lib.hid t2.four; have HP2 := Lib.hid hp2
    have x0 := t2.2.2.1.cell0; have x1 := t2.2.2.1.cell1; have k0 := t2.2.2.1.frozen 0; have k1 := t2.2.2.1.frozen 1
    clear t2 hp2 hB2
    refine ⟨_, rfl, fun _ => F2.out, ?_⟩
    refine M_one (i := 8) rfl (by kernel_rfl) rfl ?_
    go_simp
    refine M_done (by kernel_rfl) ?_
    go_wp2_with fail
    refine bodyPost_ret (ret54 (g := w.heap.size + 1 + 1) Tryd.results36 rfl T2.out.2.2.1.store2) rfl ⟨_, rfl, ⟨A2, c2, rfl, HP2.out.store54 T2.out.2.2.1⟩, ?_⟩
    exact (T2.out.2.2.2.setCell (by simp; omega) _).setCell (by simp; omega) _
  · have hnn : (nx == ny) = false := by simpa using hn
    have hcp := compare_parts m n A B c d W HX2.out.2.2 HY2.out.2.2 (by rw [HLM.out]; omega)
    rw [HLM.out, HLN.out] at hcp
    have HCP := Lib.hid hcp
    clear hcp
    by_cases hlt : m < n
    · have hz : cmpI (m : Int) (n : Int) = -1 := by unfold cmpI; rw [if_pos (by omega)]
      rw [hz] at HCP
      have hS := hs3 (fun h => hn h.symm) (Nat.le_of_lt hlt)
      have HS := Lib.hid hS; have HLT := Lib.hid hlt
      clear hz hS hn hs1 hs2 hs3 hlt
      go_upto_region 4 with (go_at_call 58; refine HCP.out.mono ?_; rintro e w0 ⟨rfl, hB0⟩; have t0 := HT.out.below hB0; have g0 := t0.1.cell0; have g1 := t0.1.cell1; have g2 := t0.2.1.cell0; have g3 := t0.2.1.cell1; have f0 := t0.1.frozen 0; have f1 := t0.1.frozen 1; have f2 := t0.2.1.frozen 0; have f3 := t0.2.1.frozen 1; have T0 := Lib.hid t0; have HB0 := Lib.hid hB0; clear t0 hB0)
      clear y0 y1 z0 z1
      go_upto_region 5 with fail
      have e0 := ((T0.out.1.store2 (x' := .bool ny) (y' := .slice B ln d)).far (p := ⟨w.heap.size + 1, 0, none⟩) (by simp) (.bool nx)).far (p := ⟨w.heap.size + 1, 1, none⟩) (by simp) (.slice A lm c)
      have e1 := ((T0.out.2.1.far (p := ⟨w.heap.size, 0, none⟩) (by simp) (.bool ny)).far (p := ⟨w.heap.size, 1, none⟩) (by simp) (.slice B ln d)).store2 (x' := .bool nx) (y' := .slice A lm c)
      have e2 := ((((T0.out.2.2.1.far (p := ⟨w.heap.size, 0, none⟩) (by simp; try omega) (.bool ny)).far (p := ⟨w.heap.size, 1, none⟩) (by simp; try omega) (.slice B ln d)).far (p := ⟨w.heap.size + 1, 0, none⟩) (by simp) (.bool nx)).far (p := ⟨w.heap.size + 1, 1, none⟩) (by simp) (.slice A lm c))
      have e3 := ((((T0.out.2.2.2.setCell (p := ⟨w.heap.size, 0, none⟩) (by simp) (.bool ny)).setCell (p := ⟨w.heap.size, 1, none⟩) (by simp) (.slice B ln d)).setCell (p := ⟨w.heap.size + 1, 0, none⟩) (by simp) (.bool nx)).setCell (p := ⟨w.heap.size + 1, 1, none⟩) (by simp) (.slice A lm c))
      have p1 := ((((HX2.out.below HB0.out).far (p := ⟨w.heap.size, 0, none⟩) T0.out.1 (by decide) (.bool ny)).far (p := ⟨w.heap.size, 1, none⟩) (T0.out.1.set_ 0 _) (by decide) (.slice B ln d)).far (p := ⟨w.heap.size + 1, 0, none⟩) ((T0.out.2.1.far (p := ⟨w.heap.size, 0, none⟩) (by simp) (.bool ny)).far (p := ⟨w.heap.size, 1, none⟩) (by simp) (.slice B ln d)) (by decide) (.bool nx)).far (p := ⟨w.heap.size + 1, 1, none⟩) (((T0.out.2.1.far (p := ⟨w.heap.size, 0, none⟩) (by simp) (.bool ny)).far (p := ⟨w.heap.size, 1, none⟩) (by simp) (.slice B ln d)).set_ 0 _) (by decide) (.slice A lm c)
      have p2 := ((((HY2.out.below HB0.out).far (p := ⟨w.heap.size, 0, none⟩) T0.out.1 (by decide) (.bool ny)).far (p := ⟨w.heap.size, 1, none⟩) (T0.out.1.set_ 0 _) (by decide) (.slice B ln d)).far (p := ⟨w.heap.size + 1, 0, none⟩) ((T0.out.2.1.far (p := ⟨w.heap.size, 0, none⟩) (by simp) (.bool ny)).far (p := ⟨w.heap.size, 1, none⟩) (by simp) (.slice B ln d)) (by decide) (.bool nx)).far (p := ⟨w.heap.size + 1, 1, none⟩) (((T0.out.2.1.far (p := ⟨w.heap.size, 0, none⟩) (by simp) (.bool ny)).far (p := ⟨w.heap.size, 1, none⟩) (by simp) (.slice B ln d)).set_ 0 _) (by decide) (.slice A lm c)
      clear g0 g1 g2 g3 f0 f1 f2 f3
      generalize (((w0.setCell ⟨w.heap.size, 0, none⟩ (.bool ny)).setCell ⟨w.heap.size, 1, none⟩ (.slice B ln d)).setCell ⟨w.heap.size + 1, 0, none⟩ (.bool nx)).setCell ⟨w.heap.size + 1, 1, none⟩ (.slice A lm c) = w5 at e0 e1 e2 e3 p1 p2 ⊢
      have HT : Hid (Three w w5 ny nx B A ln lm d c) := Lib.hid ⟨e0, e1, e2, e3⟩
      have hc := sub_parts n m B A d c w5.drew p2.drew.2.2 p1.drew.2.2 (by rw [HLN.out]; omega) (Nat.le_of_lt HLT.out)
      rw [HLM.out, HLN.out] at hc
      have HC := Lib.hid hc; have H4 := Lib.hid HT.out.drew.four
      clear hc p1 p2 e0 e1 e2 e3

      refine plain_region (fun W => Four w W ny nx B A ln lm d c) 8 (by kernel_rfl) ?_
      refine M_take (i := 0) (v := .pointer (some ⟨w.heap.size, 0, none⟩)) rfl (by kernel_rfl) (fun _ _ _ h => h) rfl (fun W hS => by go_simp) H4.out ?_
      refine M_take (i := 1) (v := .bool ny) rfl (by kernel_rfl) (fun _ _ _ h => h) rfl (fun W hS => by obtain ⟨h1, h2, h3, h4⟩ := hS; go_simp) H4.out ?_
      refine M_take (i := 2) (v := .pointer (some ⟨w.heap.size, 1, none⟩)) rfl (by kernel_rfl) (fun _ _ _ h => h) rfl (fun W hS => by go_simp) H4.out ?_
      refine M_take (i := 3) (v := .slice B ln d) rfl (by kernel_rfl) (fun _ _ _ h => h) rfl (fun W hS => by obtain ⟨h1, h2, h3, h4⟩ := hS; go_simp) H4.out ?_
      refine M_take (i := 4) (v := .pointer (some ⟨w.heap.size + 1, 1, none⟩)) rfl (by kernel_rfl) (fun _ _ _ h => h) rfl (fun W hS => by go_simp) H4.out ?_
      refine M_take (i := 5) (v := .slice A lm c) rfl (by kernel_rfl) (fun _ _ _ h => h) rfl (fun W hS => by obtain ⟨h1, h2, h3, h4⟩ := hS; go_simp) H4.out ?_
      refine M_one (i := 6) rfl (by kernel_rfl) rfl ?_
      refine op_call #[.slice B ln d, .slice A lm c] (by simp [go_sem]) (enters_of Tryd.func59 (by kernel_rfl) rfl _ _) HC.out ?_
      rintro e w1 ⟨A1, c1, rfl, hp1, _, hB1⟩
      have t1 := HT.out.drew.below hB1
      have T1 := Lib.hid t1; have F1 := Lib.hid t1.four; have HP1 := Lib.hid hp1
      clear t1 hp1 hB1
      refine ⟨_, rfl, fun _ => F1.out, ?_⟩
      refine M_one (i := 7) rfl (by kernel_rfl) rfl ?_
      refine op_call #[.bool ny, .slice A1 (dg b9 (n - m)).length c1] (by simp [go_sem]) (enters_of Tryd.func56 (by kernel_rfl) rfl _ _) (signed_nat ny (n - m) A1 c1 w1 HP1.out) ?_
      rintro e w2 ⟨A2, c2, rfl, hp2, hB2⟩
      rw [HS.out] at hp2 ⊢
      have t2 := T1.out.below hB2
      have T2 := Lib.hid t2; have F2 := Lib.hid t2.four; have HP2 := Lib.hid hp2
      have x0 := t2.2.2.1.cell0; have x1 := t2.2.2.1.cell1; have k0 := t2.2.2.1.frozen 0; have k1 := t2.2.2.1.frozen 1
      clear t2 hp2 hB2
      refine ⟨_, rfl, fun _ => F2.out, ?_⟩
      refine M_one (i := 8) rfl (by kernel_rfl) rfl ?_
      go_simp
      refine M_done (by kernel_rfl) ?_
      go_wp2_with fail
      refine bodyPost_ret (ret54 (g := w.heap.size + 1 + 1) Tryd.results36 rfl T2.out.2.2.1.store2) rfl ⟨_, rfl, ⟨A2, c2, rfl, HP2.out.store54 T2.out.2.2.1⟩, ?_⟩
      exact (T2.out.2.2.2.setCell (by simp; omega) _).setCell (by simp; omega) _
    · have hz : ¬ cmpI (m : Int) (n : Int) < 0 := by unfold cmpI; rw [if_neg (by omega)]; split <;> decide
      have hS := hs2 hn (by omega)
      have HS := Lib.hid hS
      have hle : n ≤ m := by omega
      have HLE := Lib.hid hle
      generalize cmpI (m : Int) (n : Int) = zz at hz HCP
      clear hS hn hs1 hs2 hs3 hlt hle
      go_upto_region 5 with (go_at_call 58; refine HCP.out.mono ?_; rintro e w0 ⟨rfl, hB0⟩; have t0 := HT.out.below hB0; have T0 := Lib.hid t0; have HB0 := Lib.hid hB0; clear t0 hB0)
      clear y0 y1 z0 z1
      have HT := T0
      have hX3 := HX2.out.below HB0.out; have hY3 := HY2.out.below HB0.out
      have hc := sub_parts m n A B c d w0.drew hX3.drew.2.2 hY3.drew.2.2 (by rw [HLM.out]; omega) HLE.out
      rw [HLM.out, HLN.out] at hc
      have HC := Lib.hid hc; have H4 := Lib.hid HT.out.drew.four
      clear hc hX3 hY3

      refine plain_region (fun W => Four w W nx ny A B lm ln c d) 8 (by kernel_rfl) ?_
      refine M_take (i := 0) (v := .pointer (some ⟨w.heap.size, 0, none⟩)) rfl (by kernel_rfl) (fun _ _ _ h => h) rfl (fun W hS => by go_simp) H4.out ?_
      refine M_take (i := 1) (v := .bool nx) rfl (by kernel_rfl) (fun _ _ _ h => h) rfl (fun W hS => by obtain ⟨h1, h2, h3, h4⟩ := hS; go_simp) H4.out ?_
      refine M_take (i := 2) (v := .pointer (some ⟨w.heap.size, 1, none⟩)) rfl (by kernel_rfl) (fun _ _ _ h => h) rfl (fun W hS => by go_simp) H4.out ?_
      refine M_take (i := 3) (v := .slice A lm c) rfl (by kernel_rfl) (fun _ _ _ h => h) rfl (fun W hS => by obtain ⟨h1, h2, h3, h4⟩ := hS; go_simp) H4.out ?_
      refine M_take (i := 4) (v := .pointer (some ⟨w.heap.size + 1, 1, none⟩)) rfl (by kernel_rfl) (fun _ _ _ h => h) rfl (fun W hS => by go_simp) H4.out ?_
      refine M_take (i := 5) (v := .slice B ln d) rfl (by kernel_rfl) (fun _ _ _ h => h) rfl (fun W hS => by obtain ⟨h1, h2, h3, h4⟩ := hS; go_simp) H4.out ?_
      refine M_one (i := 6) rfl (by kernel_rfl) rfl ?_
      refine op_call #[.slice A lm c, .slice B ln d] (by simp [go_sem]) (enters_of Tryd.func59 (by kernel_rfl) rfl _ _) HC.out ?_
      rintro e w1 ⟨A1, c1, rfl, hp1, _, hB1⟩
      have t1 := HT.out.drew.below hB1
      have T1 := Lib.hid t1; have F1 := Lib.hid t1.four; have HP1 := Lib.hid hp1
      clear t1 hp1 hB1
      refine ⟨_, rfl, fun _ => F1.out, ?_⟩
      refine M_one (i := 7) rfl (by kernel_rfl) rfl ?_
      refine op_call #[.bool nx, .slice A1 (dg b9 (m - n)).length c1] (by simp [go_sem]) (enters_of Tryd.func56 (by kernel_rfl) rfl _ _) (signed_nat nx (m - n) A1 c1 w1 HP1.out) ?_
      rintro e w2 ⟨A2, c2, rfl, hp2, hB2⟩
      rw [HS.out] at hp2 ⊢
      have t2 := T1.out.below hB2
      have T2 := Lib.hid t2; have F2 := Lib.hid t2.four; have HP2 := Lib.hid hp2
      have x0 := t2.2.2.1.cell0; have x1 := t2.2.2.1.cell1; have k0 := t2.2.2.1.frozen 0; have k1 := t2.2.2.1.frozen 1
      clear t2 hp2 hB2
      refine ⟨_, rfl, fun _ => F2.out, ?_⟩
      refine M_one (i := 8) rfl (by kernel_rfl) rfl ?_
      go_simp
      refine M_done (by kernel_rfl) ?_
      go_wp2_with fail
      refine bodyPost_ret (ret54 (g := w.heap.size + 1 + 1) Tryd.results36 rfl T2.out.2.2.1.store2) rfl ⟨_, rfl, ⟨A2, c2, rfl, HP2.out.store54 T2.out.2.2.1⟩, ?_⟩
      exact (T2.out.2.2.2.setCell (by simp; omega) _).setCell (by simp; omega) _
end Go.Proofs.YtcclclginhhlaaaDoor
