/- Plain: a value that may be and has few parts has few bytes. -/
import Derived.Test.YtlhkjmckigblpaaGreatDoorYl
import Derived.Test.YtlhkjmckigblpaaGreatDoorYk
namespace Go.Proofs.YtlhkjmckigblpaaGreatDoor
open Vp Cp
namespace Tx

theorem num_len {n : Int} (hn : -9223372036854775808 ≤ n ∧ n ≤ 9223372036854775807) : (numB n).length ≤ 9 := by
  unfold numB
  split
  · have := osz_le (n := n.toNat) (by omega)
    rw [own_len]; omega
  · have := osz_le (n := (-1 - n).toNat) (by omega)
    rw [comp, List.length_map, own_len]; omega
theorem str_len (s : List UInt8) : (strB s).length ≤ 2 * s.length + 2 := by
  have h1 := esc_len s; have h2 := count_le_len s
  unfold strB
  rw [List.length_append, h1]
  have h3 : [(0 : UInt8), 0].length = 2 := rfl
  omega
theorem big_len {s : List UInt8} (h : s.length ≤ 1000) : (bigB s).length ≤ s.length + 10 := by
  have h1 := osz_le (n := s.length) (by omega); have h2 := osz_le (n := s.length - 1) (by omega)
  unfold bigB
  split
  · rw [comp, List.length_map, List.length_cons, List.length_append, own_len, List.length_tail]; omega
  · rw [List.length_cons, List.length_append, own_len]; omega
theorem tup_len : ∀ l : List V, (∀ x ∈ l, (encV x).length + 10 ≤ 200 * pts x) → (tupB l).length ≤ 1 + 200 * ptsL l
  | [], _ => by rw [tupB, ptsL]; decide
  | x :: xs, h => by
    have h1 := h x (by simp)
    have h2 := tup_len xs fun y hy => h y (by simp [hy])
    rw [tupB, ptsL, List.length_cons, List.length_append]; omega
theorem enc_len : ∀ t : V, OkE t → (encV t).length + 10 ≤ 200 * pts t := by
  intro t
  induction t using V.ind with
  | h k n s l ih =>
    intro ho
    cases ho with
    | mk h1 h2 hn h3 h4 h5 h6 hl =>
    have ht := tup_len l fun x hx => ih x hx (hl x hx)
    have hs : s.data.toList.length = s.size := (size_list s).symm
    have h7 := str_len s.data.toList
    rw [hs] at h7
    have hnum := num_len hn
    rw [enc_eq, pts, List.length_cons]
    have hcases : k = 1 ∨ k = 2 ∨ k = 3 ∨ k = 4 ∨ k = 5 ∨ k = 6 := by omega
    rcases hcases with rfl | rfl | rfl | rfl | rfl | rfl
    · rw [if_pos rfl]
      have : [if n = 1 then (1 : UInt8) else 0].length = 1 := rfl
      omega
    · rw [if_neg (by decide), if_pos rfl]; omega
    · have hc := h4 rfl
      have := chk_len (l := s.data.toList) (by rw [hc]; decide) (by rw [hc]; decide)
      have hb := big_len (s := s.data.toList) (by omega)
      rw [hs] at hb this
      rw [if_neg (by decide), if_neg (by decide), if_pos rfl]; omega
    · rw [if_neg (by decide), if_neg (by decide), if_neg (by decide), if_pos rfl]; omega
    · rw [if_neg (by decide), if_neg (by decide), if_neg (by decide), if_neg (by decide), if_pos rfl]; omega
    · rw [if_neg (by decide), if_neg (by decide), if_neg (by decide), if_neg (by decide), if_neg (by decide), if_pos rfl, List.length_append]; omega
theorem ok_of : ∀ t : V, some_ (bad Pl.chk) t = false → some_ (long Pl.chk) t = false → ∀ (u : Value) (w : World) (B : Nat), VRep w B t u → OkE t := by
  intro t
  induction t using V.ind with
  | h k n s l ih =>
    intro h1 h2 u w B hv
    rw [some_eq, Bool.or_eq_false_iff] at h1 h2
    obtain ⟨b1, b2⟩ := h1
    obtain ⟨c1, c2⟩ := h2
    obtain ⟨k', n', s', l', A, c, ht, rfl, hk, hn, hs, hR⟩ := hv.open_
    obtain ⟨rfl, rfl, rfl, rfl⟩ : k = k' ∧ n = n' ∧ s = s' ∧ l = l' := by cases ht; exact ⟨rfl, rfl, rfl, rfl⟩
    have hall : ∀ x ∈ l, OkE x := fun x hx => by
      obtain ⟨j, hj, rfl⟩ := List.getElem_of_mem hx
      obtain ⟨_, _, _, _, _, _, _, _, _, _, _, hvx, _⟩ := hR.at_ hj
      exact ih _ hx (by have := List.any_eq_false.1 b2 _ hx; simpa using this) (by have := List.any_eq_false.1 c2 _ hx; simpa using this) _ _ _ hvx
    have hnil : s.size = 0 → s.data.toList = [] := fun e => List.length_eq_zero_iff.1 (by rw [← size_list]; exact e)
    have hcases : k = 1 ∨ k = 2 ∨ k = 3 ∨ k = 4 ∨ k = 5 ∨ k = 6 ∨ (k ≠ 1 ∧ k ≠ 2 ∧ k ≠ 3 ∧ k ≠ 4 ∧ k ≠ 5 ∧ k ≠ 6) := by omega
    rcases hcases with rfl | rfl | rfl | rfl | rfl | rfl | hne
    · unfold bad at b1
      simp only [Bool.or_eq_false_iff, Bool.and_eq_false_iff, decide_eq_false_iff_not] at b1
      obtain ⟨⟨b1, _⟩, _⟩ := b1
      exact .mk (by decide) (by decide) hn (fun _ => by omega) (fun e => absurd e (by decide)) (fun e => absurd e (by decide)) (fun e => absurd e (by decide)) hall
    · exact .mk (by decide) (by decide) hn (fun e => absurd e (by decide)) (fun e => absurd e (by decide)) (fun e => absurd e (by decide)) (fun e => absurd e (by decide)) hall
    · unfold bad at b1; unfold long at c1
      simp only [Bool.or_eq_false_iff, decide_eq_false_iff_not] at b1 c1
      obtain ⟨_, b1⟩ := b1
      refine .mk (by decide) (by decide) hn (fun e => absurd e (by decide)) (fun _ => ?_) (fun e => absurd e (by decide)) (fun e => absurd e (by decide)) hall
      rcases chk_three s.data.toList with g | g | g
      · exact g
      · exact absurd g b1
      · exact absurd g c1
    · unfold bad at b1
      simp only [Bool.or_eq_false_iff, Bool.not_eq_false', List.isEmpty_iff] at b1
      exact .mk (by decide) (by decide) hn (fun e => absurd e (by decide)) (fun e => absurd e (by decide)) (fun _ => b1.2) (fun e => absurd e (by decide)) hall
    · unfold bad at b1
      simp only [Bool.or_eq_false_iff, decide_eq_false_iff_not] at b1
      obtain ⟨⟨_, b1⟩, _⟩ := b1
      exact .mk (by decide) (by decide) hn (fun e => absurd e (by decide)) (fun e => absurd e (by decide)) (fun e => absurd e (by decide)) (fun _ => hnil (by omega)) hall
    · exact .mk (by decide) (by decide) hn (fun e => absurd e (by decide)) (fun e => absurd e (by decide)) (fun e => absurd e (by decide)) (fun e => absurd e (by decide)) hall
    · exfalso
      unfold bad at b1; split at b1 <;> simp_all
/-- A value that may be, with few parts, has few bytes. -/
theorem few_bytes {t : V} {u : Value} {w : World} {B : Nat} (hv : VRep w B t u) {q : Bool} (hq : q = false) (hn : Narrow t q) (h : chkV t = 0) : OkE t ∧ (encV t).length ≤ 400000 := by
  obtain ⟨h1, h2, h3⟩ := valid_parts h
  rw [deeper_depth] at h1
  have hd : depth t ≤ 64 := by simpa using h1
  have ho := ok_of t h2 h3 u w B hv
  have := enc_len t ho
  have := hn hq (by omega)
  exact ⟨ho, by omega⟩
end Tx
end Go.Proofs.YtlhkjmckigblpaaGreatDoor
