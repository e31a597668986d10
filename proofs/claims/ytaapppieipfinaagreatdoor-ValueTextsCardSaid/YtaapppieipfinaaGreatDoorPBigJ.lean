/- cmp.Compare; how two lists of parts stand, in plain numbers. -/
import Derived.Test.YtaapppieipfinaaGreatDoorPBigI
namespace Go.Proofs.YtaapppieipfinaaGreatDoor
open Go.RowKit Go.Shelf
open Pl Dig
attribute [local go_sem] Oper.semAt_some

theorem nan96 (x : Int) (w : World) : Calls Tryz.prog 132 #[.int .i64 x] w fun e w' => e = .returned (.bool false) ∧ w = w' := by
  go_enter Tryz.func132, Tryz.ntmps132
  go_wp2_with fail
  go_ret
  exact ⟨rfl, rfl⟩
theorem nan97 (x : Int) (w : World) : Calls Tryz.prog 134 #[.int .u32 x] w fun e w' => e = .returned (.bool false) ∧ w = w' := by
  go_enter Tryz.func134, Tryz.ntmps134
  go_wp2_with fail
  go_ret
  exact ⟨rfl, rfl⟩
set_option maxRecDepth 100000 in
theorem cmp77 (x y : Int) (w : World) : Calls Tryz.prog 122 #[.int .i64 x, .int .i64 y] w fun e w' => e = .returned (.int .i64 (cmpI x y)) ∧ w = w' := by
  unfold cmpI
  by_cases h : x < y
  · rw [if_pos h]
    go_enter Tryz.func122, Tryz.ntmps122
    go_wp2_with (go_at_call 132; refine (nan96 _ _).mono ?_; rintro e w1 ⟨rfl, rfl⟩)
    go_ret
    exact ⟨rfl, rfl⟩
  · rw [if_neg h]
    by_cases h2 : y < x
    · rw [if_pos h2]
      go_enter Tryz.func122, Tryz.ntmps122
      go_wp2_with (go_at_call 132; refine (nan96 _ _).mono ?_; rintro e w1 ⟨rfl, rfl⟩)
      go_ret
      exact ⟨rfl, rfl⟩
    · rw [if_neg h2]
      go_enter Tryz.func122, Tryz.ntmps122
      go_wp2_with (go_at_call 132; refine (nan96 _ _).mono ?_; rintro e w1 ⟨rfl, rfl⟩)
      go_ret
      exact ⟨rfl, rfl⟩
set_option maxRecDepth 100000 in
theorem cmp78 (x y : Int) (w : World) : Calls Tryz.prog 124 #[.int .u32 x, .int .u32 y] w fun e w' => e = .returned (.int .i64 (cmpI x y)) ∧ w = w' := by
  unfold cmpI
  by_cases h : x < y
  · rw [if_pos h]
    go_enter Tryz.func124, Tryz.ntmps124
    go_wp2_with (go_at_call 134; refine (nan97 _ _).mono ?_; rintro e w1 ⟨rfl, rfl⟩)
    go_ret
    exact ⟨rfl, rfl⟩
  · rw [if_neg h]
    by_cases h2 : y < x
    · rw [if_pos h2]
      go_enter Tryz.func124, Tryz.ntmps124
      go_wp2_with (go_at_call 134; refine (nan97 _ _).mono ?_; rintro e w1 ⟨rfl, rfl⟩)
      go_ret
      exact ⟨rfl, rfl⟩
    · rw [if_neg h2]
      go_enter Tryz.func124, Tryz.ntmps124
      go_wp2_with (go_at_call 134; refine (nan97 _ _).mono ?_; rintro e w1 ⟨rfl, rfl⟩)
      go_ret
      exact ⟨rfl, rfl⟩

/-- The value of a list whose parts from k + 1 on are another's, and whose part k is less. -/
theorem vl_cmp {xs ys : List Nat} {k : Nat} (hx : ∀ d ∈ xs, d < b9) (hk : k < xs.length) (hl : xs.length = ys.length) (hd : xs.drop (k + 1) = ys.drop (k + 1)) (h : xs.getD k 0 < ys.getD k 0) : vl b9 xs < vl b9 ys := by
  have e : ∀ l : List Nat, k < l.length → vl b9 l = vl b9 (l.take k) + b9 ^ k * (l.getD k 0 + b9 * vl b9 (l.drop (k + 1))) := by
    intro l hl'
    conv => lhs; rw [← List.take_append_drop k l, vl_append, List.drop_eq_getElem_cons hl']
    rw [List.length_take, Nat.min_eq_left (by omega)]
    simp [vl, List.getD_eq_getElem?_getD, hl']
  rw [e xs hk, e ys (by omega), hd]
  have h1 := vl_lt b9 (xs.take k) (fun d hd => hx d (List.mem_of_mem_take hd))
  rw [List.length_take, Nat.min_eq_left (by omega)] at h1
  generalize b9 * vl b9 (ys.drop (k + 1)) = t
  generalize ys.getD k 0 = q at h ⊢
  generalize xs.getD k 0 = p at h ⊢
  have h2 : b9 ^ k * (p + t + 1) ≤ b9 ^ k * (q + t) := Nat.mul_le_mul_left _ (by omega)
  rw [Nat.mul_add _ (p + t) 1] at h2
  omega
theorem len_cmp {m n : Nat} (h : (dg b9 m).length < (dg b9 n).length) : m < n := by
  rcases Nat.lt_or_ge m n with h1 | h1
  · exact h1
  · exfalso
    have h2 := (dg_len b9_two m (dg b9 m).length).1 (Nat.le_refl _)
    have h3 := (dg_len b9_two n (dg b9 m).length).2 (by omega)
    omega
end Go.Proofs.YtaapppieipfinaaGreatDoor
