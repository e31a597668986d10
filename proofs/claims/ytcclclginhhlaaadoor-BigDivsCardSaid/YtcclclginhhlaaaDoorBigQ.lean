/- The walks over package big: operations on numbers. -/
import Derived.Test.YtcclclginhhlaaaDoorBigO
namespace Go.Proofs.YtcclclginhhlaaaDoor
open Go.RowKit Go.Shelf
open Pl Dig
attribute [local go_sem] Oper.semAt_some

theorem mul_sign (x y : Int) : sgn (!(decide (x < 0) == decide (y < 0))) (x.natAbs * y.natAbs) = x * y := by
  unfold sgn
  by_cases h1 : x < 0 <;> by_cases h2 : y < 0
  · obtain ⟨p, rfl⟩ : ∃ p : Nat, x = -(p : Int) := ⟨x.natAbs, by omega⟩
    obtain ⟨q, rfl⟩ : ∃ q : Nat, y = -(q : Int) := ⟨y.natAbs, by omega⟩
    rw [decide_eq_true h1, decide_eq_true h2]; simp [Int.neg_mul_neg]
  · obtain ⟨p, rfl⟩ : ∃ p : Nat, x = -(p : Int) := ⟨x.natAbs, by omega⟩
    obtain ⟨q, rfl⟩ : ∃ q : Nat, y = (q : Int) := ⟨y.natAbs, by omega⟩
    rw [decide_eq_true h1, decide_eq_false (by omega)]; simp [Int.neg_mul]
  · obtain ⟨p, rfl⟩ : ∃ p : Nat, x = (p : Int) := ⟨x.natAbs, by omega⟩
    obtain ⟨q, rfl⟩ : ∃ q : Nat, y = -(q : Int) := ⟨y.natAbs, by omega⟩
    rw [decide_eq_false (by omega), decide_eq_true h2]; simp [Int.mul_neg]
  · obtain ⟨p, rfl⟩ : ∃ p : Nat, x = (p : Int) := ⟨x.natAbs, by omega⟩
    obtain ⟨q, rfl⟩ : ∃ q : Nat, y = (q : Int) := ⟨y.natAbs, by omega⟩
    rw [decide_eq_false (by omega), decide_eq_false (by omega)]; simp
theorem div_sign (x y : Int) : sgn (!(decide (x < 0) == decide (y < 0))) (x.natAbs / y.natAbs) = x.tdiv y := by
  unfold sgn
  by_cases h1 : x < 0 <;> by_cases h2 : y < 0
  · obtain ⟨p, rfl⟩ : ∃ p : Nat, x = -(p : Int) := ⟨x.natAbs, by omega⟩
    obtain ⟨q, rfl⟩ : ∃ q : Nat, y = -(q : Int) := ⟨y.natAbs, by omega⟩
    rw [decide_eq_true h1, decide_eq_true h2, Int.neg_tdiv, Int.tdiv_neg]; simp
  · obtain ⟨p, rfl⟩ : ∃ p : Nat, x = -(p : Int) := ⟨x.natAbs, by omega⟩
    obtain ⟨q, rfl⟩ : ∃ q : Nat, y = (q : Int) := ⟨y.natAbs, by omega⟩
    rw [decide_eq_true h1, decide_eq_false (by omega), Int.neg_tdiv]; simp
  · obtain ⟨p, rfl⟩ : ∃ p : Nat, x = (p : Int) := ⟨x.natAbs, by omega⟩
    obtain ⟨q, rfl⟩ : ∃ q : Nat, y = -(q : Int) := ⟨y.natAbs, by omega⟩
    rw [decide_eq_false (by omega), decide_eq_true h2, Int.tdiv_neg]; simp
  · obtain ⟨p, rfl⟩ : ∃ p : Nat, x = (p : Int) := ⟨x.natAbs, by omega⟩
    obtain ⟨q, rfl⟩ : ∃ q : Nat, y = (q : Int) := ⟨y.natAbs, by omega⟩
    rw [decide_eq_false (by omega), decide_eq_false (by omega)]; simp
/-- signed, of a magnitude. -/
theorem signed_nat (b : Bool) (m : Nat) (A : Option Addr) (c : Nat) (w : World) (h : PartP w m A c) :
    Calls Tryd.prog 56 #[.bool b, .slice A (dg b9 m).length c] w fun e w' => ∃ A' c', e = .returned (.agg #[.bool (decide (sgn b m < 0)), .slice A' (dg b9 (sgn b m).natAbs).length c']) ∧ BigP w' (sgn b m) A' c' ∧ Below w.heap.size w w' := by
  have := signed_big b (m : Int) A c w h
  rw [Int.natAbs_natCast] at this
  refine this.mono ?_
  rintro e w' ⟨v, rfl, ⟨A', c', rfl, hP⟩, hB⟩
  exact ⟨A', c', rfl, hP, hB⟩
/-- The boxes with which a method of two numbers begins. -/
def Three (w W : World) (nx ny : Bool) (A B : Option Addr) (lx ly c d : Nat) : Prop :=
  Blk W w.heap.size 54 #[.bool nx, .slice A lx c] ∧ Blk W (w.heap.size + 1) 54 #[.bool ny, .slice B ly d] ∧ Blk W (w.heap.size + 1 + 1) 54 #[.bool false, .slice none 0 0] ∧ Below w.heap.size w W
theorem three_start (w : World) (nx ny : Bool) (A B : Option Addr) (lx ly c d : Nat) :
    Three w (((w.alloc (.cells #[.bool nx, .slice A lx c] 54)).alloc (.cells #[.bool ny, .slice B ly d] 54)).alloc (.cells #[.bool false, .slice none 0 0] 54)) nx ny A B lx ly c d := by
  refine ⟨((Blk.new w _ _).alloc _).alloc _, ?_, ?_, (((Below.refl _ w).alloc (Nat.le_refl _) _).alloc (by simp) _).alloc (by simp; omega) _⟩
  · have := (Blk.new (w.alloc (.cells #[.bool nx, .slice A lx c] 54)) 54 #[.bool ny, .slice B ly d]).alloc (.cells #[.bool false, .slice none 0 0] 54)
    simpa using this
  · have := Blk.new ((w.alloc (.cells #[.bool nx, .slice A lx c] 54)).alloc (.cells #[.bool ny, .slice B ly d] 54)) 54 #[.bool false, .slice none 0 0]
    simpa using this
theorem Three.below {w W W' : World} {nx ny : Bool} {A B : Option Addr} {lx ly c d : Nat} (h : Three w W nx ny A B lx ly c d) (hb : Below W.heap.size W W') : Three w W' nx ny A B lx ly c d :=
  ⟨h.1.below hb h.1.lt, h.2.1.below hb h.2.1.lt, h.2.2.1.below hb h.2.2.1.lt, h.2.2.2.trans (hb.mono h.2.2.2.size)⟩
theorem Three.drew {w W : World} {nx ny : Bool} {A B : Option Addr} {lx ly c d : Nat} (h : Three w W nx ny A B lx ly c d) : Three w W.drew nx ny A B lx ly c d := ⟨h.1.drew, h.2.1.drew, h.2.2.1.drew, h.2.2.2.drew⟩
/-- What of two boxes is loaded. -/
def Four (w W : World) (nx ny : Bool) (A B : Option Addr) (lx ly c d : Nat) : Prop :=
  W.cell? ⟨w.heap.size, 0, none⟩ = some (.bool nx) ∧ W.cell? ⟨w.heap.size, 1, none⟩ = some (.slice A lx c) ∧ W.cell? ⟨w.heap.size + 1, 0, none⟩ = some (.bool ny) ∧ W.cell? ⟨w.heap.size + 1, 1, none⟩ = some (.slice B ly d)
theorem Three.four {w W : World} {nx ny : Bool} {A B : Option Addr} {lx ly c d : Nat} (h : Three w W nx ny A B lx ly c d) : Four w W nx ny A B lx ly c d := ⟨h.1.cell0, h.1.cell1, h.2.1.cell0, h.2.1.cell1⟩

set_option maxRecDepth 100000 in
set_option maxHeartbeats 2000000 in
theorem times_big (x y : Int) (vx vy : Value) (w : World) (hx : BigIs w x vx) (hy : BigIs w y vy) (hlx : (dg b9 x.natAbs).length ≤ 400) (hly : (dg b9 y.natAbs).length ≤ 400) :
    Calls Tryd.prog 37 #[vx, vy] w fun e w' => ∃ v, e = .returned v ∧ BigIs w' (x * y) v ∧ Below w.heap.size w w' := by
  obtain ⟨A, c, rfl, hX⟩ := hx
  obtain ⟨B, d, rfl, hY⟩ := hy
  have hs := mul_sign x y
  obtain ⟨r, hr⟩ : ∃ r, r = x * y := ⟨_, rfl⟩
  rw [← hr] at hs ⊢
  clear hr
  obtain ⟨nx, hnx⟩ : ∃ n, n = decide (x < 0) := ⟨_, rfl⟩
  obtain ⟨ny, hny⟩ : ∃ n, n = decide (y < 0) := ⟨_, rfl⟩
  rw [← hnx, ← hny] at hs ⊢
  have hT := three_start w nx ny A B (dg b9 x.natAbs).length (dg b9 y.natAbs).length c d
  have hX2 : PartP _ x.natAbs A c := hX.below hT.2.2.2
  have hY2 : PartP _ y.natAbs B d := hY.below hT.2.2.2
  clear hnx hny hX hY
  generalize x.natAbs = m at *
  generalize y.natAbs = n at *
  generalize hlm : (dg b9 m).length = lm at hT hX2 hY2 hlx ⊢
  generalize hln : (dg b9 n).length = ln at hT hX2 hY2 hly ⊢
  have HS := Lib.hid hs; have HX2 := Lib.hid hX2; have HY2 := Lib.hid hY2; have HLM := Lib.hid hlm; have HLN := Lib.hid hln
  clear hs hX2 hY2 hlm hln
  go_enter Tryd.func37, Tryd.ntmps37
  go_upto_region 1 with fail
  generalize (((w.alloc (.cells #[.bool nx, .slice A lm c] 54)).alloc (.cells #[.bool ny, .slice B ln d] 54)).alloc (.cells #[.bool false, .slice none 0 0] 54)) = W at hT HX2 HY2 ⊢
  have hc := mul_parts m n A B c d W.drew HX2.out.drew.2.2 HY2.out.drew.2.2 (by rw [HLM.out]; omega) (by rw [HLN.out]; omega)
  rw [HLM.out, HLN.out] at hc
  have HC := Lib.hid hc
  have HT := Lib.hid hT; have H4 := Lib.hid hT.drew.four
  clear hc
  clear hT
  refine plain_region (fun W => Four w W nx ny A B lm ln c d) 11 (by kernel_rfl) ?_
  refine M_take (i := 0) (v := .pointer (some ⟨w.heap.size, 0, none⟩)) rfl (by kernel_rfl) (fun _ _ _ h => h) rfl (fun W hS => by go_simp) H4.out ?_
  refine M_take (i := 1) (v := .bool nx) rfl (by kernel_rfl) (fun _ _ _ h => h) rfl (fun W hS => by obtain ⟨h1, h2, h3, h4⟩ := hS; go_simp) H4.out ?_
  refine M_take (i := 2) (v := .pointer (some ⟨w.heap.size + 1, 0, none⟩)) rfl (by kernel_rfl) (fun _ _ _ h => h) rfl (fun W hS => by go_simp) H4.out ?_
  refine M_take (i := 3) (v := .bool ny) rfl (by kernel_rfl) (fun _ _ _ h => h) rfl (fun W hS => by obtain ⟨h1, h2, h3, h4⟩ := hS; go_simp) H4.out ?_
  refine M_take (i := 4) (v := .bool (!(nx == ny))) rfl (by kernel_rfl) (fun _ _ _ h => h) rfl (fun W hS => by go_simp) H4.out ?_
  refine M_take (i := 5) (v := .pointer (some ⟨w.heap.size, 1, none⟩)) rfl (by kernel_rfl) (fun _ _ _ h => h) rfl (fun W hS => by go_simp) H4.out ?_
  refine M_take (i := 6) (v := .slice A lm c) rfl (by kernel_rfl) (fun _ _ _ h => h) rfl (fun W hS => by obtain ⟨h1, h2, h3, h4⟩ := hS; go_simp) H4.out ?_
  refine M_take (i := 7) (v := .pointer (some ⟨w.heap.size + 1, 1, none⟩)) rfl (by kernel_rfl) (fun _ _ _ h => h) rfl (fun W hS => by go_simp) H4.out ?_
  refine M_take (i := 8) (v := .slice B ln d) rfl (by kernel_rfl) (fun _ _ _ h => h) rfl (fun W hS => by obtain ⟨h1, h2, h3, h4⟩ := hS; go_simp) H4.out ?_
  refine M_one (i := 9) rfl (by kernel_rfl) rfl ?_
  refine op_call #[.slice A lm c, .slice B ln d] (by simp [go_sem]) (enters_of Tryd.func60 (by kernel_rfl) rfl _ _) HC.out ?_
  rintro e w1 ⟨A1, c1, rfl, hp1, hB1⟩
  have t1 := HT.out.drew.below hB1
  have T1 := Lib.hid t1; have F1 := Lib.hid t1.four; have HP1 := Lib.hid hp1
  clear t1 hp1 hB1
  refine ⟨_, rfl, fun _ => F1.out, ?_⟩
  refine M_one (i := 10) rfl (by kernel_rfl) rfl ?_
  refine op_call #[.bool (!(nx == ny)), .slice A1 (dg b9 (m * n)).length c1] (by simp [go_sem]) (enters_of Tryd.func56 (by kernel_rfl) rfl _ _) (signed_nat (!(nx == ny)) (m * n) A1 c1 w1 HP1.out) ?_
  rintro e w2 ⟨A2, c2, rfl, hp2, hB2⟩
  rw [HS.out] at hp2 ⊢
  have t2 := T1.out.below hB2
  have T2 := Lib.hid t2; have F2 := Lib.hid t2.four; have HP2 := Lib.hid hp2
  have x0 := t2.2.2.1.cell0; have x1 := t2.2.2.1.cell1; have k0 := t2.2.2.1.frozen 0; have k1 := t2.2.2.1.frozen 1
  clear t2 hp2 hB2
  refine ⟨_, rfl, fun _ => F2.out, ?_⟩
  refine M_one (i := 11) rfl (by kernel_rfl) rfl ?_
  go_simp
  refine M_done (by kernel_rfl) ?_
  go_wp2_with fail
  refine bodyPost_ret (ret54 (g := w.heap.size + 1 + 1) Tryd.results37 rfl T2.out.2.2.1.store2) rfl ⟨_, rfl, ⟨A2, c2, rfl, HP2.out.store54 T2.out.2.2.1⟩, ?_⟩
  exact (T2.out.2.2.2.setCell (by simp; omega) _).setCell (by simp; omega) _

set_option maxRecDepth 100000 in
set_option maxHeartbeats 2000000 in
theorem over_big (x y : Int) (vx vy : Value) (w : World) (hx : BigIs w x vx) (hy : BigIs w y vy) (hlx : (dg b9 x.natAbs).length ≤ 400) (hly : (dg b9 y.natAbs).length ≤ 400) (hy0 : y ≠ 0) :
    Calls Tryd.prog 39 #[vx, vy] w fun e w' => ∃ v, e = .returned v ∧ BigIs w' (x.tdiv y) v ∧ Below w.heap.size w w' := by
  obtain ⟨A, c, rfl, hX⟩ := hx
  obtain ⟨B, d, rfl, hY⟩ := hy
  have hs := div_sign x y
  obtain ⟨r, hr⟩ : ∃ r, r = x.tdiv y := ⟨_, rfl⟩
  rw [← hr] at hs ⊢
  clear hr
  obtain ⟨nx, hnx⟩ : ∃ n, n = decide (x < 0) := ⟨_, rfl⟩
  obtain ⟨ny, hny⟩ : ∃ n, n = decide (y < 0) := ⟨_, rfl⟩
  rw [← hnx, ← hny] at hs ⊢
  have hT := three_start w nx ny A B (dg b9 x.natAbs).length (dg b9 y.natAbs).length c d
  have hX2 : PartP _ x.natAbs A c := hX.below hT.2.2.2
  have hY2 : PartP _ y.natAbs B d := hY.below hT.2.2.2
  have hn0 : 0 < y.natAbs := by omega
  clear hnx hny hX hY
  generalize x.natAbs = m at *
  generalize y.natAbs = n at *
  generalize hlm : (dg b9 m).length = lm at hT hX2 hY2 hlx ⊢
  generalize hln : (dg b9 n).length = ln at hT hX2 hY2 hly ⊢
  have HS := Lib.hid hs; have HX2 := Lib.hid hX2; have HY2 := Lib.hid hY2; have HLM := Lib.hid hlm; have HLN := Lib.hid hln
  clear hs hX2 hY2 hlm hln
  go_enter Tryd.func39, Tryd.ntmps39
  go_upto_region 1 with fail
  generalize (((w.alloc (.cells #[.bool nx, .slice A lm c] 54)).alloc (.cells #[.bool ny, .slice B ln d] 54)).alloc (.cells #[.bool false, .slice none 0 0] 54)) = W at hT HX2 HY2 ⊢
  have hc := div_parts m n A B c d W.drew HX2.out.drew HY2.out.drew (by rw [HLM.out]; omega) (by rw [HLN.out]; omega) hn0
  rw [HLM.out, HLN.out] at hc
  have HC := Lib.hid hc
  have HT := Lib.hid hT; have H4 := Lib.hid hT.drew.four
  clear hc
  clear hT
  refine plain_region (fun W => Four w W nx ny A B lm ln c d) 11 (by kernel_rfl) ?_
  refine M_take (i := 0) (v := .pointer (some ⟨w.heap.size, 0, none⟩)) rfl (by kernel_rfl) (fun _ _ _ h => h) rfl (fun W hS => by go_simp) H4.out ?_
  refine M_take (i := 1) (v := .bool nx) rfl (by kernel_rfl) (fun _ _ _ h => h) rfl (fun W hS => by obtain ⟨h1, h2, h3, h4⟩ := hS; go_simp) H4.out ?_
  refine M_take (i := 2) (v := .pointer (some ⟨w.heap.size + 1, 0, none⟩)) rfl (by kernel_rfl) (fun _ _ _ h => h) rfl (fun W hS => by go_simp) H4.out ?_
  refine M_take (i := 3) (v := .bool ny) rfl (by kernel_rfl) (fun _ _ _ h => h) rfl (fun W hS => by obtain ⟨h1, h2, h3, h4⟩ := hS; go_simp) H4.out ?_
  refine M_take (i := 4) (v := .bool (!(nx == ny))) rfl (by kernel_rfl) (fun _ _ _ h => h) rfl (fun W hS => by go_simp) H4.out ?_
  refine M_take (i := 5) (v := .pointer (some ⟨w.heap.size, 1, none⟩)) rfl (by kernel_rfl) (fun _ _ _ h => h) rfl (fun W hS => by go_simp) H4.out ?_
  refine M_take (i := 6) (v := .slice A lm c) rfl (by kernel_rfl) (fun _ _ _ h => h) rfl (fun W hS => by obtain ⟨h1, h2, h3, h4⟩ := hS; go_simp) H4.out ?_
  refine M_take (i := 7) (v := .pointer (some ⟨w.heap.size + 1, 1, none⟩)) rfl (by kernel_rfl) (fun _ _ _ h => h) rfl (fun W hS => by go_simp) H4.out ?_
  refine M_take (i := 8) (v := .slice B ln d) rfl (by kernel_rfl) (fun _ _ _ h => h) rfl (fun W hS => by obtain ⟨h1, h2, h3, h4⟩ := hS; go_simp) H4.out ?_
  refine M_one (i := 9) rfl (by kernel_rfl) rfl ?_
  refine op_call #[.slice A lm c, .slice B ln d] (by simp [go_sem]) (enters_of Tryd.func62 (by kernel_rfl) rfl _ _) HC.out ?_
  rintro e w1 ⟨A1, c1, rfl, hp1, hB1⟩
  have t1 := HT.out.drew.below hB1
  have T1 := Lib.hid t1; have F1 := Lib.hid t1.four; have HP1 := Lib.hid hp1
  clear t1 hp1 hB1
  refine ⟨_, rfl, fun _ => F1.out, ?_⟩
  refine M_one (i := 10) rfl (by kernel_rfl) rfl ?_
  refine op_call #[.bool (!(nx == ny)), .slice A1 (dg b9 (m / n)).length c1] (by simp [go_sem]) (enters_of Tryd.func56 (by kernel_rfl) rfl _ _) (signed_nat (!(nx == ny)) (m / n) A1 c1 w1 HP1.out) ?_
  rintro e w2 ⟨A2, c2, rfl, hp2, hB2⟩
  rw [HS.out] at hp2 ⊢
  have t2 := T1.out.below hB2
  have T2 := Lib.hid t2; have F2 := Lib.hid t2.four; have HP2 := Lib.hid hp2
  have x0 := t2.2.2.1.cell0; have x1 := t2.2.2.1.cell1; have k0 := t2.2.2.1.frozen 0; have k1 := t2.2.2.1.frozen 1
  clear t2 hp2 hB2
  refine ⟨_, rfl, fun _ => F2.out, ?_⟩
  refine M_one (i := 11) rfl (by kernel_rfl) rfl ?_
  go_simp
  refine M_done (by kernel_rfl) ?_
  go_wp2_with fail
  refine bodyPost_ret (ret54 (g := w.heap.size + 1 + 1) Tryd.results39 rfl T2.out.2.2.1.store2) rfl ⟨_, rfl, ⟨A2, c2, rfl, HP2.out.store54 T2.out.2.2.1⟩, ?_⟩
  exact (T2.out.2.2.2.setCell (by simp; omega) _).setCell (by simp; omega) _
end Go.Proofs.YtcclclginhhlaaaDoor
