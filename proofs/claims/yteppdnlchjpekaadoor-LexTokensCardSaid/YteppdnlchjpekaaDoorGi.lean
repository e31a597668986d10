/- Blanks and remarks between two tokens change no kind and no text: plain. -/
import Derived.Test.YteppdnlchjpekaaDoorGh
import Derived.Test.YteppdnlchjpekaaDoorGa
namespace Go.Proofs.YteppdnlchjpekaaDoor
open Go.RowKit Lx
open Go
namespace Lx
theorem amid_drop' {r : List UInt8} {m : Nat} (a : Nat) (h : ¬ Amid r m) : ¬ Amid (r.drop a) (m - a) := by
  rcases Nat.lt_or_ge a m with h1 | h1
  · exact amid_drop (by omega) h
  · rintro ⟨x, y, h2, _⟩; omega
theorem first_k {l : List UInt8} (he : (fFirst l).2 = 0) : ∃ k, k < 8 ∧ (∀ j, j < k → (fd j l).2.2 = 0) ∧ 0 < (fd k l).2.2 ∧ fFirst l = (fd k l, exc (fd k l).1 (fd k l).2.1) := by
  unfold fFirst at he ⊢
  split at he
  · rename_i k hk
    obtain ⟨h0, hk8, hn⟩ := List.find?_range_eq_some.1 hk
    exact ⟨k, by simpa using hk8, fun j hj => by have := hn j hj; simpa using this, by simpa using h0, rfl⟩
  · dsimp only at he; omega
/-- What each finder found. -/
theorem first_cases {l : List UInt8} {k : Nat} (hk : k < 8) (h0 : 0 < (fd k l).2.2) : ((k = 0 ∨ k = 3 ∨ k = 4 ∨ k = 5) ∧ (fd k l).2.2 = (lead l).length) ∨ (k = 1 ∧ plainN l ≠ []) ∨ (k = 2 ∧ fieldN l ≠ []) ∨
    (k = 6 ∧ ∃ r x, l = 34 :: r ∧ qGo (r.length + 1) r [] 1 = some x ∧ fd 6 l = (7, x.1, x.2)) ∨ (k = 7 ∧ ∃ g, signs.find? (fun g => Lib.hasPrefix l g) = some g ∧ fd 7 l = (8, g, g.length)) := by
  match k, hk with
  | 0, _ =>
    refine Or.inl ⟨Or.inl rfl, ?_⟩
    have h0' : 0 < (fWord l).2.2 := h0
    show (fWord l).2.2 = _
    unfold fWord at h0' ⊢
    split
    · rfl
    · rename_i h; rw [if_neg h] at h0'; exact absurd h0' (by decide)
  | 1, _ => exact Or.inr (Or.inl ⟨rfl, by intro h; rw [show fd 1 l = no from fname_no h] at h0; exact absurd h0 (by decide)⟩)
  | 2, _ => exact Or.inr (Or.inr (Or.inl ⟨rfl, by intro h; rw [show fd 2 l = no from ffield_no h] at h0; exact absurd h0 (by decide)⟩))
  | 3, _ =>
    refine Or.inl ⟨Or.inr (Or.inl rfl), ?_⟩
    have h0' : 0 < (fVar l).2.2 := h0
    show (fVar l).2.2 = _
    unfold fVar at h0' ⊢
    cases hl : lead l with
    | nil => rw [hl] at h0'; exact absurd h0' (by decide)
    | cons c r =>
      rw [hl] at h0'
      dsimp only at h0' ⊢
      split
      · rfl
      · rename_i h; rw [if_neg h] at h0'; exact absurd h0' (by decide)
  | 4, _ =>
    refine Or.inl ⟨Or.inr (Or.inr (Or.inl rfl)), ?_⟩
    have h0' : 0 < (fAny l).2.2 := h0
    show (fAny l).2.2 = _
    unfold fAny at h0' ⊢
    split
    · rename_i h; rw [h]; rfl
    · rename_i h; rw [if_neg h] at h0'; exact absurd h0' (by decide)
  | 5, _ =>
    refine Or.inl ⟨Or.inr (Or.inr (Or.inr rfl)), ?_⟩
    have h0' : 0 < (fNum l).2.2 := h0
    show (fNum l).2.2 = _
    unfold fNum at h0' ⊢
    split
    · rfl
    · rename_i h; rw [if_neg h] at h0'; exact absurd h0' (by decide)
  | 6, _ =>
    refine Or.inr (Or.inr (Or.inr (Or.inl ⟨rfl, ?_⟩)))
    have h0' : 0 < (fQuote l).2.2 := h0
    show ∃ r x, l = 34 :: r ∧ qGo (r.length + 1) r [] 1 = some x ∧ fQuote l = (7, x.1, x.2)
    unfold fQuote at h0' ⊢
    cases l with
    | nil => exact absurd h0' (by decide)
    | cons c r =>
      dsimp only at h0' ⊢
      split at h0'
      · rename_i hc
        cases hq : qGo (r.length + 1) r [] 1 with
        | none => rw [hq] at h0'; exact absurd h0' (by decide)
        | some x => exact ⟨r, x, by rw [hc], hq, by rw [if_pos hc]; rfl⟩
      · exact absurd h0' (by decide)
  | 7, _ =>
    refine Or.inr (Or.inr (Or.inr (Or.inr ⟨rfl, ?_⟩)))
    have h0' : 0 < (fSign l).2.2 := h0
    cases hg : signs.find? (fun g => Lib.hasPrefix l g) with
    | none => unfold fSign at h0'; rw [hg] at h0'; exact absurd h0' (by decide)
    | some g => exact ⟨g, rfl, by show fSign l = _; unfold fSign; rw [hg]⟩
  | k + 8, hk => omega
theorem sign_facts : ∀ g ∈ signs, g ≠ [] ∧ g.head? ≠ some 34 ∧ ∀ c, g.getLast? = some c → partB c = false := by
  intro g hm
  simp only [signs, List.mem_cons, List.not_mem_nil, or_false] at hm
  rcases hm with rfl | rfl | rfl | rfl | rfl | rfl | rfl | rfl | rfl | rfl | rfl | rfl | rfl | rfl | rfl | rfl | rfl | rfl | rfl | rfl | rfl <;>
    exact ⟨by decide, by decide, fun c hc => by simp at hc; subst hc; decide⟩
/-- A token does not end amid letters. -/
theorem first_end {r : List UInt8} (he : (fFirst r).2 = 0) : ¬ Amid r (fFirst r).1.2.2 := by
  obtain ⟨k, hk, hn, h0, e⟩ := first_k he
  rw [e]
  dsimp only
  rintro ⟨a, b, h1, h2, h3, h4, h5⟩
  rcases first_cases hk h0 with ⟨_, hz⟩ | ⟨rfl, hp⟩ | ⟨rfl, hf⟩ | ⟨rfl, r', x, rfl, hq, hx⟩ | ⟨rfl, g, hg, hx⟩
  · rw [hz] at h3
    rw [lead_stop r h3] at h5; exact absurd h5 (by decide)
  · have hx : fd 1 r = nameOf (plainN r) (fieldN (r.drop (plainN r).length)) := rfl
    by_cases hf : fieldN (r.drop (plainN r).length) = []
    · rw [hx, nameOf, if_neg hp, if_pos hf, plain_self hp] at h3
      rw [lead_stop r h3] at h5; exact absurd h5 (by decide)
    · obtain ⟨u, hu, hfu, hu0⟩ := field_self hf
      rw [hx, nameOf, if_neg hp, if_neg hf, hfu, plain_self hu0] at h3
      have : u[(lead u).length]? = some b := by
        have h' : (r.drop (plainN r).length)[1 + (lead u).length]? = some b := by rw [List.getElem?_drop]; exact h3
        rw [hu, Nat.add_comm, List.getElem?_cons_succ] at h'
        exact h'
      rw [lead_stop u this] at h5; exact absurd h5 (by decide)
  · obtain ⟨u, rfl, hfu, hu0⟩ := field_self hf
    have hx : fd 2 (46 :: u) = (9, fieldN (46 :: u), 1 + (fieldN (46 :: u)).length) := by show fField _ = _; unfold fField fieldOf; rw [if_neg hf]
    rw [hx, hfu, plain_self hu0] at h3
    dsimp only at h3
    rw [Nat.add_comm, List.getElem?_cons_succ] at h3
    rw [lead_stop u h3] at h5; exact absurd h5 (by decide)
  · obtain ⟨h6, h7, _⟩ := q_local _ _ _ _ _ hq
    rw [hx] at h2 h1
    dsimp only at h2 h1
    rw [show x.2 - 1 = (x.2 - 1 - 1) + 1 by omega, List.getElem?_cons_succ, h7] at h2
    injection h2 with h2
    subst h2
    exact absurd h4 (by decide)
  · have hsm := List.find?_some hg
    have hp : g <+: r := List.isPrefixOf_iff_prefix.1 hsm
    obtain ⟨hne, _, hl⟩ := sign_facts g (List.mem_of_find?_eq_some hg)
    obtain ⟨Z, rfl⟩ := hp
    rw [hx] at h2 h1
    dsimp only at h2 h1
    rw [List.getElem?_append_left (by omega), ← List.getLast?_eq_getElem?] at h2
    rw [hl a h2] at h4; exact absurd h4 (by decide)
/-- The first token does not hang on what stands behind a place that is not amid letters. -/
theorem first_cut {r : List UInt8} (he : (fFirst r).2 = 0) {m : Nat} (hm : (fFirst r).1.2.2 ≤ m) (hnb : ¬ Amid r m) (Y : List UInt8) : fFirst (r.take m ++ 32 :: Y) = fFirst r := by
  obtain ⟨k, hk, hn, h0, e⟩ := first_k he
  rw [e] at hm ⊢
  dsimp only at hm
  have hl : lead (r.take m ++ 32 :: Y) = lead r := lead_cut (lead_fits (by omega) hnb) Y
  have hf := field_cut hnb Y
  have hall : fd k (r.take m ++ 32 :: Y) = fd k r := by
    rcases first_cases hk h0 with ⟨hk4, _⟩ | ⟨rfl, hp⟩ | ⟨rfl, hf0⟩ | ⟨rfl, r', x, rfl, hq, hx⟩ | ⟨rfl, g, hg, hx⟩
    · rcases hk4 with rfl | rfl | rfl | rfl
      · exact fword_l hl
      · exact fvar_l hl
      · exact fany_l hl
      · exact fnum_l hl
    · have hx : ∀ l, fd 1 l = nameOf (plainN l) (fieldN (l.drop (plainN l).length)) := fun _ => rfl
      rw [hx] at hm
      rw [hx, hx, plain_lead hl]
      have ha : (plainN r).length ≤ m := by
        unfold nameOf at hm
        rw [if_neg hp] at hm
        split at hm
        · exact hm
        · dsimp only at hm; omega
      have hd : (r.take m ++ 32 :: Y).drop (plainN r).length = (r.drop (plainN r).length).take (m - (plainN r).length) ++ 32 :: Y := by
        rw [List.drop_append_of_le_length (by rw [List.length_take]; have := plain_len r; omega), List.drop_take]
      rw [hd]
      rcases field_cut (amid_drop' (plainN r).length hnb) Y with h | ⟨h, hlt⟩
      · rw [h]
      · by_cases hf0 : fieldN (r.drop (plainN r).length) = []
        · rw [h, hf0]
        · rw [nameOf, if_neg hp, if_neg hf0] at hm
          dsimp only at hm
          omega
    · have hx : ∀ l, fd 2 l = fieldOf (fieldN l) := fun _ => rfl
      rw [hx] at hm
      rw [hx, hx]
      rcases hf with h | ⟨h, hlt⟩
      · rw [h]
      · unfold fieldOf at hm
        rw [if_neg hf0] at hm
        dsimp only at hm
        omega
    · obtain ⟨h6, _, h8⟩ := q_local _ _ _ _ _ hq
      have hsz := q_size _ _ _ _ _ hq
      rw [hx] at hm ⊢
      dsimp only at hm
      obtain ⟨m', rfl⟩ : ∃ n, m = n + 1 := ⟨m - 1, by omega⟩
      rw [List.take_succ_cons, List.cons_append]
      rw [fd_q]
      unfold fQuote
      dsimp only
      rw [if_pos rfl, h8 _ (r'.take m' ++ 32 :: Y) ?_ ?_]
      · rfl
      · rw [List.length_append, List.length_take, List.length_cons]; omega
      · have : r'.take (x.2 - 1) = (r'.take m').take (x.2 - 1) := by rw [List.take_take, Nat.min_eq_left (by omega)]
        rw [this]
        exact (List.take_prefix _ _).trans (List.prefix_append _ _)
    · rw [hx] at hm ⊢
      show fSign _ = _
      unfold fSign
      rw [sign_cut hg hm Y]
  rw [first_at hk ?_ (by rw [hall]; exact h0), hall]
  intro j hj
  have hold := hn j hj
  have hN : 1 < k → fName (r.take m ++ 32 :: Y) = no := fun h => fname_no (by rw [plain_lead hl]; exact name_no (hn 1 h))
  have hF : 2 < k → fField (r.take m ++ 32 :: Y) = no := fun h => ffield_no (by
    have h2 := field_no (hn 2 h)
    rcases hf with h3 | ⟨h3, _⟩
    · rw [h3, h2]
    · exact h3)
  match j, hj, hold with
  | 0, _, hold => exact (congrArg (fun x : Fnd => x.2.2) (fword_l hl)).trans hold
  | 1, hj, _ => exact congrArg (fun x : Fnd => x.2.2) (hN hj)
  | 2, hj, _ => exact congrArg (fun x : Fnd => x.2.2) (hF hj)
  | 3, _, hold => exact (congrArg (fun x : Fnd => x.2.2) (fvar_l hl)).trans hold
  | 4, _, hold => exact (congrArg (fun x : Fnd => x.2.2) (fany_l hl)).trans hold
  | 5, _, hold => exact (congrArg (fun x : Fnd => x.2.2) (fnum_l hl)).trans hold
  | 6, hj, _ =>
    have h7 : k = 7 := by omega
    subst h7
    rcases first_cases hk h0 with ⟨hk4, _⟩ | ⟨h, _⟩ | ⟨h, _⟩ | ⟨h, _⟩ | ⟨_, g, hg, hx⟩
    · omega
    · omega
    · omega
    · omega
    have hsm := List.find?_some hg
    have hp : g <+: r := List.isPrefixOf_iff_prefix.1 hsm
    obtain ⟨hne, h34, _⟩ := sign_facts g (List.mem_of_find?_eq_some hg)
    obtain ⟨Z, rfl⟩ := hp
    rw [hx] at hm
    dsimp only at hm
    match g, hne, h34, hm with
    | c :: g, _, h34, hm =>
      obtain ⟨m', rfl⟩ : ∃ n, m = n + 1 := ⟨m - 1, by rw [List.length_cons] at hm; omega⟩
      have hc : c ≠ 34 := fun h => h34 (by rw [h]; rfl)
      rw [List.cons_append, List.take_succ_cons, List.cons_append]
      show (fQuote _).2.2 = 0
      unfold fQuote
      simp [hc, no]
  | j + 7, hj, _ => omega
end Lx
end Go.Proofs.YteppdnlchjpekaaDoor
