/- Plain facts on the text of a number of nine-digit parts; a builder that a walk keeps. -/
import Derived.Test.YtcclclginhhlaaaDoorBld
import Derived.Test.YtcclclginhhlaaaDoorFu
import Derived.Test.YtcclclginhhlaaaDoorShelfB
import Derived.Test.YtcclclginhhlaaaDoorShelfC
namespace Go.Proofs.YtcclclginhhlaaaDoor
open Go.RowKit Go.Shelf
open Pl Dig

theorem b9_pow : b9 = 10 ^ 9 := rfl
/-- The digits of a part, filled up to nine. -/
def pad (p : Nat) : List Nat := dg 10 p ++ List.replicate (9 - (dg 10 p).length) 0
theorem dg_le9 {p : Nat} (h : p < b9) : (dg 10 p).length ≤ 9 := (dg_len (by decide) p 9).2 (by rw [← b9_pow]; exact h)
theorem pad_len {p : Nat} (h : p < b9) : (pad p).length = 9 := by
  unfold pad; rw [List.length_append, List.length_replicate]; have := dg_le9 h; omega
theorem pad_vl (p : Nat) : vl 10 (pad p) = p := by
  unfold pad; rw [vl_append, vl_zeros 10 (List.replicate _ 0) (fun d hd => (List.mem_replicate.1 hd).2), dg_vl (by decide)]; simp
theorem pad_lt {p : Nat} : ∀ d ∈ pad p, d < 10 := by
  intro d hd
  unfold pad at hd
  rcases List.mem_append.1 hd with h | h
  · exact dg_lt (by decide) p d h
  · rw [(List.mem_replicate.1 h).2]; decide
theorem dg_pad {p t : Nat} (hp : p < b9) (ht : 0 < t) : dg 10 (p + b9 * t) = pad p ++ dg 10 t := by
  have e : vl 10 (pad p ++ dg 10 t) = p + b9 * t := by rw [vl_append, pad_vl, pad_len hp, dg_vl (by decide), b9_pow]
  rw [← e]
  refine dg_of (by decide) ?_ ?_
  · intro d hd
    rcases List.mem_append.1 hd with h | h
    · exact pad_lt d h
    · exact dg_lt (by decide) t d h
  · have hne : dg 10 t ≠ [] := fun h => by have := (dg_nil (b := 10) (by decide)).1 h; omega
    unfold Tip
    have ht' := dg_tip (b := 10) (by decide) t
    unfold Tip at ht'
    rw [List.getLast?_append]
    cases h : (dg 10 t).getLast? with
    | none => exact absurd (List.getLast?_eq_none_iff.1 h) hne
    | some x => rw [h] at ht'; simpa using ht'
/-- The noughts that a part wants ahead of it. -/
def lead (p : Nat) : Nat := 9 - (Lib.decDigits p).length
theorem dec_len {p : Nat} (h : p < b9) : 1 ≤ (Lib.decDigits p).length ∧ (Lib.decDigits p).length ≤ 9 := by
  by_cases h0 : p = 0
  · subst h0; simp [Lib.decDigits]
  · rw [decD p (by omega)]
    simp only [List.length_map, List.length_reverse]
    refine ⟨?_, dg_le9 h⟩
    rcases Nat.eq_zero_or_pos (dg 10 p).length with h1 | h1
    · exact absurd ((dg_nil (b := 10) (by decide)).1 (List.eq_nil_of_length_eq_zero h1)) h0
    · exact h1
theorem pad_chr {p : Nat} (h : p < b9) : (pad p).reverse.map chr = List.replicate (lead p) 48 ++ Lib.decDigits p := by
  unfold pad lead
  by_cases h0 : p = 0
  · subst h0; simp [Lib.decDigits, dg_zero, chr]
  · rw [decD p (by omega), List.reverse_append, List.map_append, List.reverse_replicate, List.map_replicate]
    simp only [List.length_map, List.length_reverse]
    rfl
theorem dec_step {p t : Nat} (hp : p < b9) (ht : 0 < t) : Lib.decDigits (p + b9 * t) = Lib.decDigits t ++ (List.replicate (lead p) 48 ++ Lib.decDigits p) := by
  rw [decD _ (by have := Nat.mul_pos (show 0 < b9 by decide) ht; omega), dg_pad hp ht, List.reverse_append, List.map_append, pad_chr hp, ← decD t ht]

/-- The parts from place j on, as a number. -/
def top (ps : List Nat) (j : Nat) : Nat := vl b9 (ps.drop j)
theorem top_end (ps : List Nat) : top ps ps.length = 0 := by simp [top, vl]
theorem top_step (ps : List Nat) {j : Nat} (h : j < ps.length) : top ps j = ps.getD j 0 + b9 * top ps (j + 1) := by
  unfold top
  rw [List.drop_eq_getElem_cons h]
  simp [vl, List.getD_eq_getElem?_getD, h]
theorem top_all (ps : List Nat) : top ps 0 = vl b9 ps := rfl
theorem top_pos {ps : List Nat} (ht : Tip ps) {j : Nat} (h : j < ps.length) : 0 < top ps j := by
  rcases Nat.eq_zero_or_pos (top ps j) with h0 | h0
  · exfalso
    have e : ps.drop j ≠ [] := by intro h'; have := congrArg List.length h'; simp at this; omega
    have t' : Tip (ps.drop j) := by unfold Tip; rw [List.getLast?_drop, if_neg (by omega)]; exact ht
    have := vl_ge b9_two t' e
    unfold top at h0
    rw [h0] at this
    have := Nat.pow_pos (n := (ps.drop j).length - 1) (show 0 < b9 by decide)
    omega
  · exact h0

theorem builder_kept {B b : Nat} {bs : List Value} {W W' : World} {row : Option Nat} (h : Lib.IsBuilder 82 5 B b bs W) (hg : W.grownBy W' row) (hr : ∀ r, row = some r → ∃ o : Obj, W.heap[r]? = some o ∧ o.isCells = false) : Lib.IsBuilder 82 5 B b bs W' := by
  have aux : ∀ p, Lib.BuilderAt 82 5 B b p bs W → Lib.BuilderAt 82 5 B b p bs W' := by
    rintro p ⟨hB, v, hb, hown, hne⟩
    refine ⟨hB, v, (grownBy_keeps_cells hg hr hb rfl).trans hb, hown.kept hg ?_, hne⟩
    by_cases hv : v.ownBlock = none
    · exact .inl hv
    · obtain ⟨g, hgv⟩ := Option.ne_none_iff_exists'.1 hv
      refine .inr ?_
      rw [hgv]
      intro e
      obtain ⟨o, ho, hc⟩ := hr g e.symm
      obtain ⟨c, fz, hcells⟩ := Lib.ownsRow_kind hown g hgv
      rw [ho] at hcells; cases hcells; cases hc
  exact h.imp (aux _) (aux _)
theorem builder_lt {B b : Nat} {bs : List Value} {W : World} (h : Lib.IsBuilder 82 5 B b bs W) : b < W.heap.size := h.elim (·.lt) (·.lt)
theorem builder_ge {B b : Nat} {bs : List Value} {W : World} (h : Lib.IsBuilder 82 5 B b bs W) : B ≤ b := h.elim (·.1) (·.1)
theorem kept_from {b N : Nat} {W W' : World} (h : Lib.OthersKept 5 (some b) W W') (hs : W.heap.size ≤ W'.heap.size) (hb : b < N) : KeepsFrom N W W' :=
  ⟨hs, fun k o hk ho hc => h k o ho (by intro e; injection e; omega) (fun c fz e => by subst e; cases hc)⟩
theorem kept_blk {b g : Nat} {t : TypeId} {cs : Array Value} {W W' : World} (h : Lib.OthersKept 5 (some b) W W') (hb : Blk W g t cs) (hg : g ≠ b) (ht : t ≠ 5) : W'.heap[g]? = W.heap[g]? := by
  have hb' : W.heap[g]? = some (.cells cs t (0, 0)) := hb
  rw [hb']
  exact h g _ hb' (by intro e; injection e; omega) (fun c fz e => by cases e; exact ht rfl)
end Go.Proofs.YtcclclginhhlaaaDoor
