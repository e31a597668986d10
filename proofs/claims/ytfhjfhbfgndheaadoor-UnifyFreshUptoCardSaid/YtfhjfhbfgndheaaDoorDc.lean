/- Lists of one's own: read, written, cut short. -/
import Derived.Test.YtfhjfhbfgndheaaDoorDb
namespace Go.Proofs.YtfhjfhbfgndheaaDoor
open Go.RowKit
open Go
namespace Gd

/-- One element of a list of one's own: its cells, and where they lie. -/
theorem Own.at_ {R S : Nat → Prop} {e : TypeId} {sz : Nat} {ds : List D} {w : World} {v : Value} (h : Own R S e sz ds w v) {j : Nat} (hj : j < ds.length) :
    ∃ g c cs, v = .slice (some ⟨g, 0, none⟩) ds.length c ∧ ds.length ≤ c ∧ c ≤ maxLen ∧ g < w.heap.size ∧ R g ∧ cs.length = sz ∧ Lies (fun b => S b ∧ v.ownBlock ≠ some b) w ds[j] cs ∧
      (∀ i x, cs[i]? = some x → w.cell? ⟨g, j * sz + i, none⟩ = some x) ∧ (∀ i, w.frozen? ⟨g, i, none⟩ = false) ∧ ∃ cur, Blk w g e cur := by
  obtain ⟨us, h1, h2, h3, h6, h4⟩ := h
  rcases h3.2 with ⟨rfl, h0⟩ | ⟨g, cap, cur, rfl, hB, hg, hc, hm, hcs, htk⟩
  · omega
  · have hgl : g < w.heap.size := (Array.getElem?_eq_some_iff.1 hg).1
    refine ⟨g, cap, us[j]'(by omega), rfl, hc, hm, hgl, h6 g rfl, h2 _ (List.getElem_mem _), h4 j hj (by omega), fun i x hx => ?_, fun i => Blk.frozen hg i, cur, hg⟩
    have e1 := flat_at us h2 j (by omega) i x hx
    rw [cell_of_row w g _ cur e (0, 0) hg]
    rw [← htk, List.getElem?_take] at e1
    split at e1
    · rw [← Array.getElem?_toList]; exact e1
    · cases e1
/-- What is known of the value alone. -/
theorem Own.val {R S : Nat → Prop} {e : TypeId} {sz : Nat} {ds : List D} {w : World} {v : Value} (h : Own R S e sz ds w v) :
    (v = .slice none 0 0 ∧ ds = []) ∨ ∃ g c, v = .slice (some ⟨g, 0, none⟩) ds.length c ∧ ds.length ≤ c ∧ c ≤ maxLen ∧ g < w.heap.size ∧ R g ∧ ∃ cur, Blk w g e cur := by
  obtain ⟨us, h1, h2, h3, h6, h4⟩ := h
  rcases h3.2 with ⟨rfl, h0⟩ | ⟨g, cap, cur, rfl, hB, hg, hc, hm, hcs, htk⟩
  · exact .inl ⟨rfl, List.eq_nil_of_length_eq_zero h0⟩
  · exact .inr ⟨g, cap, rfl, hc, hm, (Array.getElem?_eq_some_iff.1 hg).1, h6 g rfl, cur, hg⟩
theorem Own.slice {R S : Nat → Prop} {e : TypeId} {sz : Nat} {ds : List D} {w : World} {v : Value} (h : Own R S e sz ds w v) : ∃ A c, v = .slice A ds.length c ∧ ds.length ≤ c ∧ c ≤ maxLen := by
  rcases h.val with ⟨rfl, rfl⟩ | ⟨g, c, rfl, h1, h2, _⟩
  · exact ⟨none, 0, rfl, Nat.le_refl _, by decide⟩
  · exact ⟨_, _, rfl, h1, h2⟩
theorem flat_set {sz : Nat} (u : Value) : ∀ (css : List (List Value)), (∀ c ∈ css, c.length = sz) → ∀ (j : Nat) (hj : j < css.length) (i : Nat), i < sz → (css.set j (css[j].set i u)).flatten = css.flatten.set (j * sz + i) u
  | [], _, j, hj, _, _ => by simp at hj
  | c :: css, h, 0, _, i, hi => by
    have hc := h c (by simp)
    rw [List.set_cons_zero, List.flatten_cons, List.flatten_cons, Nat.zero_mul, Nat.zero_add, List.getElem_cons_zero, List.set_append_left _ _ (by omega)]
  | c :: css, h, j + 1, hj, i, hi => by
    have hc := h c (by simp)
    rw [List.set_cons_succ, List.flatten_cons, List.flatten_cons, List.getElem_cons_succ, flat_set u css (fun c hc => h c (by simp [hc])) j (by simpa using hj) i hi, List.set_append_right _ _ (by rw [hc, Nat.add_mul]; omega)]
    rw [show (j + 1) * sz + i - c.length = j * sz + i by rw [hc, Nat.add_mul]; omega]
/-- One cell of one element is written. -/
theorem Own.set {R S : Nat → Prop} {e : TypeId} {sz : Nat} {ds : List D} {w : World} {g n c : Nat} (h : Own R S e sz ds w (.slice (some ⟨g, 0, none⟩) n c)) {j i k : Nat} (hj : j < ds.length) (hi : i < sz) (hk : k = j * sz + i) (u : Value) (d' : D)
    (hd : ∀ w' cs, Rep w' w.heap.size ds[j] cs → Rep w' w.heap.size d' (cs.set i u)) : Own R S e sz (ds.set j d') (w.setCell ⟨g, k, none⟩ u) (.slice (some ⟨g, 0, none⟩) n c) := by
  subst hk
  obtain ⟨us, h1, h2, h3, h6, h4⟩ := h
  have hju : j < us.length := by omega
  refine ⟨us.set j (us[j].set i u), by simp [h1], fun x hx => ?_, ?_, h6, fun q hq hq2 => ?_⟩
  · rcases List.mem_or_eq_of_mem_set hx with hx | hx
    · exact h2 x hx
    · rw [hx, List.length_set]; exact h2 _ (List.getElem_mem _)
  · rw [flat_set u us h2 j hju i hi, List.length_set]
    rcases h3.2 with ⟨h0, _⟩ | ⟨g', cap, cur, he, hB, hg, hc, hm, hcs, htk⟩
    · cases h0
    · injection he with e1 e2 e3
      injection e1 with e1
      injection e1 with e1
      subst e1
      refine ⟨by rw [List.length_set]; exact h3.1, .inr ⟨g, cap, cur.setIfInBounds (j * sz + i) u, by rw [e2, e3], hB, Blk.set_ hg _ _, hc, hm, by simp [hcs], ?_⟩⟩
      rw [Array.toList_setIfInBounds, List.take_set, htk]
  · have far : ∀ d cs, Lies (fun b => S b ∧ (Value.slice (some ⟨g, 0, none⟩) n c).ownBlock ≠ some b) w d cs → Lies (fun b => S b ∧ (Value.slice (some ⟨g, 0, none⟩) n c).ownBlock ≠ some b) (w.setCell ⟨g, j * sz + i, none⟩ u) d cs := fun d cs hl =>
      hl.set ⟨g, j * sz + i, none⟩ (fun hb => hb.2 rfl) u
    by_cases hqj : q = j
    · subst hqj
      rw [List.getElem_set_self, List.getElem_set_self]
      have := far _ _ (h4 q hj hju)
      intro w' hw
      have h5 := this w' hw
      rw [World.size_setCell] at h5 ⊢
      exact hd w' _ h5
    · rw [List.getElem_set_ne (fun e => hqj e.symm), List.getElem_set_ne (fun e => hqj e.symm)]
      exact far _ _ (h4 q (by simpa using hq) (by simpa using hq2))
/-- Fewer elements. -/
theorem Own.take {R S : Nat → Prop} {e : TypeId} {sz : Nat} {ds : List D} {w : World} {A : Option Addr} {n c : Nat} (h : Own R S e sz ds w (.slice A n c)) {k : Nat} (hk : k ≤ ds.length) : Own R S e sz (ds.take k) w (.slice A k c) := by
  obtain ⟨us, h1, h2, h3, h6, h4⟩ := h
  have hfl : ∀ (us : List (List Value)) (k : Nat), (∀ c ∈ us, c.length = sz) → (us.take k).flatten = us.flatten.take (k * sz) := fun us => by
    induction us with
    | nil => intro k _; simp
    | cons c us ih =>
      intro k h
      cases k with
      | zero => simp
      | succ k =>
        have hc := h c (by simp)
        rw [List.take_succ_cons, List.flatten_cons, List.flatten_cons, ih k fun x hx => h x (by simp [hx]), List.take_append, hc]
        rw [show (k + 1) * sz - sz = k * sz by rw [Nat.add_mul]; omega, List.take_of_length_le (l := c) (by rw [hc, Nat.add_mul]; omega)]
  have hob : (Value.slice A k c).ownBlock = (Value.slice A n c).ownBlock := by cases A <;> rfl
  refine ⟨us.take k, by simp [h1], fun x hx => h2 x (List.mem_of_mem_take hx), ?_, fun b hb => h6 b (hob ▸ hb), fun j hj hj2 => ?_⟩
  · rw [hfl us k h2, List.length_take, Nat.min_eq_left hk]
    have hl3 := h3.1
    refine ⟨by rw [List.length_take, hl3, Nat.min_eq_left (Nat.mul_le_mul_right _ hk)], ?_⟩
    rcases h3.2 with ⟨h0, h00⟩ | ⟨g, cap, cur, he, hB, hg, hc, hm, hcs, htk⟩
    · injection h0 with e1 e2 e3
      subst e1; subst e3
      exact .inl ⟨by rw [show k = 0 by omega], by omega⟩
    · injection he with e1 e2 e3
      subst e1; subst e3
      exact .inr ⟨g, c, cur, rfl, hB, hg, by omega, hm, hcs, by rw [← htk, List.take_take, Nat.min_eq_left (Nat.mul_le_mul_right _ hk)]⟩
  · rw [List.getElem_take, List.getElem_take, hob]
    exact h4 j (by simp at hj; omega) (by simp at hj2; omega)
end Gd
end Go.Proofs.YtfhjfhbfgndheaaDoor
