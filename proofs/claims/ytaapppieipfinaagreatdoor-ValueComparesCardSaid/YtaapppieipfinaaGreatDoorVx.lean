/- Plain facts: how values stand is an order, and only the same are alike. -/
import Derived.Test.YtaapppieipfinaaGreatDoorPTxt
namespace Go.Proofs.YtaapppieipfinaaGreatDoor
open Vp Pl

/-- Three comparisons are handed on. -/
def Tri (x y z : Int) : Prop := x ≤ 0 → y ≤ 0 → z ≤ 0 ∧ ((x < 0 ∨ y < 0) → z < 0) ∧ (x = 0 → y = 0 → z = 0)
def One3 (x : Int) : Prop := x = -1 ∨ x = 0 ∨ x = 1
def lx (p q : Int) : Int := if p ≠ 0 then p else q
theorem Tri.lx {x y z x' y' z' : Int} (h : Tri x y z) (h' : Tri x' y' z') : Tri (lx x x') (lx y y') (lx z z') := by
  unfold Tri Go.Proofs.YtaapppieipfinaaGreatDoor.lx at *
  split <;> split <;> split <;> omega
theorem One3.lx {x x' : Int} (h : One3 x) (h' : One3 x') : One3 (lx x x') := by
  unfold Go.Proofs.YtaapppieipfinaaGreatDoor.lx; split <;> assumption
theorem lx_neg {x x' y y' : Int} (h : x = -y) (h' : x' = -y') : lx x x' = - lx y y' := by
  unfold lx; split <;> split <;> omega
theorem cmpI_tri (a b c : Int) : Tri (cmpI a b) (cmpI b c) (cmpI a c) := by
  unfold Tri cmpI; repeat' split
  all_goals omega
theorem cmpI_one (a b : Int) : One3 (cmpI a b) := by
  unfold One3 cmpI; repeat' split
  all_goals omega
theorem cmpI_neg (a b : Int) : cmpI a b = - cmpI b a := by
  unfold cmpI; repeat' split
  all_goals omega
theorem cmpI_zero {a b : Int} (h : cmpI a b = 0) : a = b := by
  unfold cmpI at h
  split at h
  · omega
  · split at h <;> omega
theorem cb_cons (a b : UInt8) (xs bs : List UInt8) : Lib.compareBytes (a :: xs) (b :: bs) = lx (cmpI a.toNat b.toNat) (Lib.compareBytes xs bs) := by
  rw [Lib.compareBytes, lx, cmpI]
  simp only [UInt8.lt_iff_toNat_lt]
  repeat' split
  all_goals first | rfl | omega
theorem cb_one : ∀ a b : List UInt8, One3 (Lib.compareBytes a b)
  | [], [] => .inr (.inl rfl)
  | [], _ :: _ => .inl rfl
  | _ :: _, [] => .inr (.inr rfl)
  | a :: xs, b :: bs => by rw [cb_cons]; exact (cmpI_one _ _).lx (cb_one xs bs)
theorem cb_neg : ∀ a b : List UInt8, Lib.compareBytes a b = - Lib.compareBytes b a
  | [], [] => rfl
  | [], _ :: _ => rfl
  | _ :: _, [] => rfl
  | a :: xs, b :: bs => by rw [cb_cons, cb_cons]; exact lx_neg (cmpI_neg _ _) (cb_neg xs bs)
theorem cb_tri : ∀ a b c : List UInt8, Tri (Lib.compareBytes a b) (Lib.compareBytes b c) (Lib.compareBytes a c)
  | [], [], [] => by simp [Tri, Lib.compareBytes]
  | [], [], _ :: _ => by simp [Tri, Lib.compareBytes]
  | [], _ :: _, [] => by simp [Tri, Lib.compareBytes]
  | [], _ :: _, _ :: _ => by simp [Tri, Lib.compareBytes]
  | _ :: _, [], [] => by simp [Tri, Lib.compareBytes]
  | _ :: _, [], _ :: _ => by simp [Tri, Lib.compareBytes]
  | _ :: _, _ :: _, [] => by simp [Tri, Lib.compareBytes]
  | a :: xs, b :: bs, c :: cs => by rw [cb_cons, cb_cons, cb_cons]; exact (cmpI_tri _ _ _).lx (cb_tri xs bs cs)
theorem lx_zero {p q : Int} (h : lx p q = 0) : p = 0 ∧ q = 0 := by
  unfold lx at h; split at h
  · exact absurd h (by assumption)
  · rename_i hp; exact ⟨by omega, h⟩
theorem cb_zero : ∀ a b : List UInt8, Lib.compareBytes a b = 0 → a = b
  | [], [], _ => rfl
  | [], _ :: _, h => absurd h (by simp [Lib.compareBytes])
  | _ :: _, [], h => absurd h (by simp [Lib.compareBytes])
  | a :: xs, b :: bs, h => by
    rw [cb_cons] at h
    obtain ⟨h1, h2⟩ := lx_zero h
    have := cmpI_zero h1
    rw [cb_zero xs bs h2, show a = b from UInt8.toNat.inj (by omega)]

theorem vcmpI (a b : Int) : Vp.cmpI a b = cmpI a b := rfl
/-- What stands behind the kinds. -/
def behind (k : Nat) (n n' : Int) (s s' : List UInt8) (q : Int) : Int :=
  if k = 1 ∨ k = 2 then cmpI n n' else if k = 3 then zcmp s s' else lx (Lib.compareBytes s s') q
theorem cmpV_eq (k k' : Nat) (n n' : Int) (s s' : ByteArray) (l l' : List V) :
    cmpV zcmp (.mk k n s l) (.mk k' n' s' l') = lx (cmpI k k') (behind k n n' s.data.toList s'.data.toList (cmpL zcmp l l')) := by
  rw [cmpV, lx, behind]
  simp only [vcmpI]
  by_cases h : k = k'
  · subst h
    have : cmpI (k : Int) k = 0 := by unfold cmpI; simp
    simp only [this, ne_eq, not_true_eq_false, if_false, lx]
  · have : cmpI (k : Int) k' ≠ 0 := fun e => h (by have := cmpI_zero e; omega)
    simp only [this, ne_eq, h, not_false_eq_true, if_true]
theorem cmpL_cons (x y : V) (xs ys : List V) : cmpL zcmp (x :: xs) (y :: ys) = lx (cmpV zcmp x y) (cmpL zcmp xs ys) := by rw [cmpL, lx]
theorem cmpL_nil : cmpL zcmp [] [] = 0 := by rw [cmpL]
theorem cmpL_less (y : V) (ys : List V) : cmpL zcmp [] (y :: ys) = -1 := by rw [cmpL]
theorem cmpL_more (x : V) (xs : List V) : cmpL zcmp (x :: xs) [] = 1 := by rw [cmpL]
theorem behind_one (k : Nat) (n n' : Int) (s s' : List UInt8) {q : Int} (hq : One3 q) : One3 (behind k n n' s s' q) := by
  unfold behind; split
  · exact cmpI_one _ _
  · split
    · exact cmpI_one _ _
    · exact (cb_one _ _).lx hq
theorem behind_neg (k : Nat) (n n' : Int) (s s' : List UInt8) {q q' : Int} (hq : q = - q') : behind k n n' s s' q = - behind k n' n s' s q' := by
  unfold behind; split
  · exact cmpI_neg _ _
  · split
    · exact cmpI_neg _ _
    · exact lx_neg (cb_neg _ _) hq
theorem behind_tri (k : Nat) (n n' n'' : Int) (s s' s'' : List UInt8) {x y z : Int} (h : Tri x y z) : Tri (behind k n n' s s' x) (behind k n' n'' s' s'' y) (behind k n n'' s s'' z) := by
  unfold behind; split
  · exact cmpI_tri _ _ _
  · split
    · exact cmpI_tri _ _ _
    · exact (cb_tri _ _ _).lx h
theorem cmpL_one_of : ∀ (a b : List V), (∀ t ∈ a, ∀ t', One3 (cmpV zcmp t t')) → One3 (cmpL zcmp a b)
  | [], [], _ => by rw [cmpL_nil]; exact .inr (.inl rfl)
  | [], _ :: _, _ => by rw [cmpL_less]; exact .inl rfl
  | _ :: _, [], _ => by rw [cmpL_more]; exact .inr (.inr rfl)
  | x :: xs, y :: ys, h => by rw [cmpL_cons]; exact (h x (by simp) y).lx (cmpL_one_of xs ys fun t ht => h t (by simp [ht]))
theorem cmpV_one (t : V) : ∀ t', One3 (cmpV zcmp t t') := by
  induction t using V.ind with
  | h k n s l ih =>
  rintro ⟨k', n', s', l'⟩
  rw [cmpV_eq]; exact (cmpI_one _ _).lx (behind_one _ _ _ _ _ (cmpL_one_of l l' ih))
theorem cmpL_neg_of : ∀ (a b : List V), (∀ t ∈ a, ∀ t', cmpV zcmp t t' = - cmpV zcmp t' t) → cmpL zcmp a b = - cmpL zcmp b a
  | [], [], _ => by rw [cmpL_nil]; rfl
  | [], _ :: _, _ => by rw [cmpL_less, cmpL_more]
  | _ :: _, [], _ => by rw [cmpL_less, cmpL_more]; rfl
  | x :: xs, y :: ys, h => by rw [cmpL_cons, cmpL_cons]; exact lx_neg (h x (by simp) y) (cmpL_neg_of xs ys fun t ht => h t (by simp [ht]))
theorem cmpV_neg (t : V) : ∀ t', cmpV zcmp t t' = - cmpV zcmp t' t := by
  induction t using V.ind with
  | h k n s l ih =>
  rintro ⟨k', n', s', l'⟩
  rw [cmpV_eq, cmpV_eq]
  by_cases hk : k = k'
  · subst hk; exact lx_neg (cmpI_neg _ _) (behind_neg _ _ _ _ _ (cmpL_neg_of l l' ih))
  · have h1 : cmpI (k : Int) k' ≠ 0 := fun e => hk (by have := cmpI_zero e; omega)
    have h2 := cmpI_neg (k : Int) k'
    unfold lx
    rw [if_pos h1, if_pos (by omega), h2]
theorem cmpL_tri_of : ∀ (a b c : List V), (∀ t ∈ a, ∀ t' t'', Tri (cmpV zcmp t t') (cmpV zcmp t' t'') (cmpV zcmp t t'')) → Tri (cmpL zcmp a b) (cmpL zcmp b c) (cmpL zcmp a c)
  | [], [], [], _ => by simp [Tri, cmpL_nil]
  | [], [], _ :: _, _ => by simp [Tri, cmpL_nil, cmpL_less]
  | [], _ :: _, [], _ => by simp [Tri, cmpL_more, cmpL_less]
  | [], _ :: _, _ :: _, _ => by simp [Tri, cmpL_less]
  | _ :: _, [], [], _ => by simp [Tri, cmpL_nil, cmpL_more]
  | _ :: _, [], _ :: _, _ => by simp [Tri, cmpL_more, cmpL_less]
  | _ :: _, _ :: _, [], _ => by simp [Tri, cmpL_more]
  | x :: xs, y :: ys, z :: zs, h => by
    rw [cmpL_cons, cmpL_cons, cmpL_cons]; exact (h x (by simp) y z).lx (cmpL_tri_of xs ys zs fun t ht => h t (by simp [ht]))
theorem cmpV_tri (t : V) : ∀ t' t'', Tri (cmpV zcmp t t') (cmpV zcmp t' t'') (cmpV zcmp t t'') := by
  induction t using V.ind with
  | h k n s l ih =>
  rintro ⟨k', n', s', l'⟩ ⟨k'', n'', s'', l''⟩
  rw [cmpV_eq, cmpV_eq, cmpV_eq]
  by_cases hk : k = k'
  · subst hk
    exact (cmpI_tri _ _ _).lx (behind_tri _ _ _ _ _ _ _ (cmpL_tri_of l l' l'' ih))
  · have h1 : cmpI (k : Int) k' ≠ 0 := fun e => hk (by have := cmpI_zero e; omega)
    have h2 := cmpI_tri (k : Int) k' k''
    have h3 : cmpI (k' : Int) k'' = 0 → (k' : Int) = k'' := cmpI_zero
    unfold Tri lx at *
    by_cases h4 : (k' : Int) = k''
    · have : cmpI (k' : Int) k'' = 0 := by rw [h4]; unfold cmpI; simp
      rw [h4] at h1 ⊢
      split <;> split <;> omega
    · have h5 : cmpI (k' : Int) k'' ≠ 0 := fun e => h4 (h3 e)
      rw [if_pos h1, if_pos h5]
      split <;> omega

theorem cmpL_one (a b : List V) : One3 (cmpL zcmp a b) := cmpL_one_of a b fun t _ => cmpV_one t
theorem cmpL_neg (a b : List V) : cmpL zcmp a b = - cmpL zcmp b a := cmpL_neg_of a b fun t _ => cmpV_neg t
theorem cmpL_tri (a b c : List V) : Tri (cmpL zcmp a b) (cmpL zcmp b c) (cmpL zcmp a c) := cmpL_tri_of a b c fun t _ => cmpV_tri t
theorem cmpR_one (a b : List V) : One3 (cmpR zcmp a b) := by
  have := cmpL_one a b
  unfold cmpR; unfold One3 at *
  repeat' split
  all_goals omega
theorem cmpR_neg (a b : List V) : cmpR zcmp a b = - cmpR zcmp b a := by
  have := cmpL_neg a b
  unfold cmpR
  cases invL a <;> cases invL b <;> simp <;> omega
theorem cmpR_tri (a b c : List V) : Tri (cmpR zcmp a b) (cmpR zcmp b c) (cmpR zcmp a c) := by
  have := cmpL_tri a b c
  unfold cmpR; unfold Tri at *
  cases invL a <;> cases invL b <;> cases invL c <;> simp <;> omega
theorem cmpR_self (a : List V) : cmpR zcmp a a = 0 := by have := cmpR_neg a a; omega

/-- Nothing in the value is of a wrong form, or too long. -/
def Fine (t : V) : Prop := some_ (bad Pl.chk) t = false ∧ some_ (long Pl.chk) t = false
theorem Fine.parts {k : Nat} {n : Int} {s : ByteArray} {l : List V} (h : Fine (.mk k n s l)) : bad Pl.chk (.mk k n s l) = false ∧ long Pl.chk (.mk k n s l) = false ∧ ∀ t ∈ l, Fine t := by
  obtain ⟨h1, h2⟩ := h
  rw [some_eq, Bool.or_eq_false_iff] at h1 h2
  refine ⟨h1.1, h2.1, fun t ht => ⟨?_, ?_⟩⟩
  · have h3 := h1.2; rw [List.any_eq_false] at h3; exact Bool.eq_false_iff.2 (h3 t ht)
  · have h3 := h2.2; rw [List.any_eq_false] at h3; exact Bool.eq_false_iff.2 (h3 t ht)
theorem data_inj {s s' : ByteArray} (h : s.data.toList = s'.data.toList) : s = s' := ByteArray.ext (Array.ext' h)
theorem size_zero {s : ByteArray} (h : s.size = 0) : s.data.toList = [] := List.eq_nil_of_length_eq_zero (by simpa using h)
theorem cmpL_same_of : ∀ (a b : List V), (∀ t ∈ a, ∀ t', Fine t → Fine t' → cmpV zcmp t t' = 0 → t = t') → (∀ t ∈ a, Fine t) → (∀ t ∈ b, Fine t) → cmpL zcmp a b = 0 → a = b
  | [], [], _, _, _, _ => rfl
  | [], _ :: _, _, _, _, h => by rw [cmpL_less] at h; omega
  | _ :: _, [], _, _, _, h => by rw [cmpL_more] at h; omega
  | x :: xs, y :: ys, ih, ha, hb, h => by
    rw [cmpL_cons] at h
    obtain ⟨h1, h2⟩ := lx_zero h
    rw [ih x (by simp) y (ha x (by simp)) (hb y (by simp)) h1, cmpL_same_of xs ys (fun t ht => ih t (by simp [ht])) (fun t ht => ha t (by simp [ht])) (fun t ht => hb t (by simp [ht])) h2]
theorem cmpV_same (t : V) : ∀ t', Fine t → Fine t' → cmpV zcmp t t' = 0 → t = t' := by
  induction t using V.ind with
  | h k n s l ih =>
  rintro ⟨k', n', s', l'⟩ h h' h0
  obtain ⟨b1, g1, p1⟩ := h.parts
  obtain ⟨b2, g2, p2⟩ := h'.parts
  rw [cmpV_eq] at h0
  obtain ⟨hk', h1⟩ := lx_zero h0
  clear h0
  have hk := cmpI_zero hk'
  clear hk'
  obtain rfl : k = k' := by omega
  clear hk
  have hbig : ∀ {u : ByteArray}, Pl.chk u.data.toList ≠ 4 → Pl.chk u.data.toList ≠ 80 → Pl.chk u.data.toList = 0 := fun {u} a b => by
    rcases chk_three u.data.toList with h | h | h
    · exact h
    · exact absurd h a
    · exact absurd h b
  have hcases : k = 1 ∨ k = 2 ∨ k = 3 ∨ k = 4 ∨ k = 5 ∨ k = 6 ∨ (k ≠ 1 ∧ k ≠ 2 ∧ k ≠ 3 ∧ k ≠ 4 ∧ k ≠ 5 ∧ k ≠ 6) := by omega
  rcases hcases with rfl | rfl | rfl | rfl | rfl | rfl | hne
  · have hn := cmpI_zero (show cmpI n n' = 0 by simpa [behind] using h1)
    simp only [bad, Bool.or_eq_false_iff, Bool.not_eq_false', List.isEmpty_iff, decide_eq_false_iff_not, Decidable.not_not] at b1 b2
    rw [hn, b1.2, b2.2, data_inj ((size_zero b1.1.2).trans (size_zero b2.1.2).symm)]
  · have hn := cmpI_zero (show cmpI n n' = 0 by simpa [behind] using h1)
    simp only [bad, Bool.or_eq_false_iff, Bool.not_eq_false', List.isEmpty_iff, decide_eq_false_iff_not, Decidable.not_not] at b1 b2
    rw [hn, b1.2, b2.2, data_inj ((size_zero b1.1).trans (size_zero b2.1).symm)]
  · have hn := cmpI_zero (show cmpI (valL s.data.toList) (valL s'.data.toList) = 0 by simpa [behind, zcmp] using h1)
    simp only [bad, Bool.or_eq_false_iff, Bool.not_eq_false', List.isEmpty_iff, decide_eq_false_iff_not, Decidable.not_not] at b1 b2
    simp only [long, decide_eq_false_iff_not] at g1 g2
    rw [b1.1.1, b2.1.1, b1.1.2, b2.1.2, data_inj (val_inj (hbig b1.2 g1) (hbig b2.2 g2) hn)]
  · have hs := show lx (Lib.compareBytes s.data.toList s'.data.toList) (cmpL zcmp l l') = 0 by simpa [behind] using h1
    simp only [bad, Bool.or_eq_false_iff, Bool.not_eq_false', List.isEmpty_iff, decide_eq_false_iff_not, Decidable.not_not] at b1 b2
    rw [b1.1, b2.1, b1.2, b2.2, data_inj (cb_zero _ _ (lx_zero hs).1)]
  · have hs := show lx (Lib.compareBytes s.data.toList s'.data.toList) (cmpL zcmp l l') = 0 by simpa [behind] using h1
    simp only [bad, Bool.or_eq_false_iff, decide_eq_false_iff_not, Decidable.not_not] at b1 b2
    rw [b1.1.1, b2.1.1, data_inj (cb_zero _ _ (lx_zero hs).1), cmpL_same_of l l' ih p1 p2 (lx_zero hs).2]
  · have hs := show lx (Lib.compareBytes s.data.toList s'.data.toList) (cmpL zcmp l l') = 0 by simpa [behind] using h1
    simp only [bad, Bool.or_eq_false_iff, decide_eq_false_iff_not, Decidable.not_not] at b1 b2
    rw [b1.1, b2.1, data_inj (cb_zero _ _ (lx_zero hs).1), cmpL_same_of l l' ih p1 p2 (lx_zero hs).2]
  · have : bad Pl.chk (.mk k n s l) = true := by unfold bad; split <;> simp_all
    rw [this] at b1; exact absurd b1 (by simp)
theorem invL_fine {l : List V} (h : invL l = false) : ∀ t ∈ l, Fine t := by
  intro t ht
  unfold invL at h
  rw [List.any_eq_false] at h
  have := h t ht
  have h0 : chkV t = 0 := by simpa using this
  obtain ⟨_, h2, h3⟩ := valid_parts h0
  exact ⟨h2, h3⟩
theorem cmpL_same {a b : List V} (ha : invL a = false) (hb : invL b = false) : cmpL zcmp a b = 0 ↔ a = b :=
  ⟨cmpL_same_of a b (fun t _ => cmpV_same t) (invL_fine ha) (invL_fine hb), fun h => by subst h; have := cmpL_neg a a; omega⟩
theorem cmpR_same {a b : List V} (ha : invL a = false) (hb : invL b = false) : cmpR zcmp a b = 0 ↔ a = b := by
  unfold cmpR; rw [ha, hb]; simpa using cmpL_same ha hb
end Go.Proofs.YtaapppieipfinaaGreatDoor
