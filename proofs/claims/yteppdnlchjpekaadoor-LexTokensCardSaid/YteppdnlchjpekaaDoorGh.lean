/- What is put between two tokens of a text changes no kind and no text: plain. -/
import Derived.Test.YteppdnlchjpekaaDoorGf
namespace Go.Proofs.YteppdnlchjpekaaDoor
open Go.RowKit Lx
open Go
namespace Lx
/-- A place amid letters, digits and _. -/
def Amid (r : List UInt8) (m : Nat) : Prop := ∃ a b, 1 ≤ m ∧ r[m - 1]? = some a ∧ r[m]? = some b ∧ partB a = true ∧ partB b = true
theorem lead_pre' (l : List UInt8) : lead l <+: l := List.takeWhile_prefix _
theorem lead_get {l : List UInt8} {j : Nat} (h : j < (lead l).length) : ∃ a, l[j]? = some a ∧ partB a = true := by
  obtain ⟨b, hb⟩ := lead_pre' l
  refine ⟨(lead l)[j], ?_, lead_parts l _ (List.getElem_mem h)⟩
  have : (lead l ++ b)[j]? = some (lead l)[j] := by rw [List.getElem?_append_left h, List.getElem?_eq_getElem h]
  rwa [hb] at this
theorem lead_stop (l : List UInt8) {b : UInt8} (h : l[(lead l).length]? = some b) : partB b = false := by
  induction l with
  | nil => simp at h
  | cons c l ih =>
    unfold lead at ih h
    rw [List.takeWhile_cons] at h
    split at h
    · rw [List.length_cons, List.getElem?_cons_succ] at h; exact ih h
    · rename_i hc
      simp only [List.length_nil, List.getElem?_cons_zero, Option.some.injEq] at h
      subst h
      simpa using hc
theorem lead_fits {u : List UInt8} {m : Nat} (hm : 1 ≤ m) (h : ¬ Amid u m) : (lead u).length ≤ m := by
  rcases Nat.lt_or_ge m (lead u).length with hl | hl
  · obtain ⟨a, h1, h2⟩ := lead_get (l := u) (j := m - 1) (by omega)
    obtain ⟨b, h3, h4⟩ := lead_get (l := u) (j := m) hl
    exact absurd ⟨a, b, hm, h1, h3, h2, h4⟩ h
  · exact hl
theorem lead32 (Y : List UInt8) : lead (32 :: Y) = [] := lead_np (by decide)
theorem lead_cut {u : List UInt8} {m : Nat} (h : (lead u).length ≤ m) (Y : List UInt8) : lead (u.take m ++ 32 :: Y) = lead u := by
  induction u generalizing m with
  | nil => rw [List.take_nil]; exact lead32 Y
  | cons c u ih =>
    cases m with
    | zero =>
      have : lead (c :: u) = [] := List.length_eq_zero_iff.1 (by omega)
      rw [this, List.take_zero]; exact lead32 Y
    | succ m =>
      rw [List.take_succ_cons, List.cons_append]
      cases hc : partB c with
      | false => rw [lead_np hc, lead_np hc]
      | true =>
        have e : ∀ l, lead (c :: l) = c :: lead l := fun l => by unfold lead; rw [List.takeWhile_cons, hc, if_pos rfl]
        rw [e, e, ih]
        rw [e, List.length_cons] at h
        omega
theorem amid_drop {r : List UInt8} {m a : Nat} (ha : a + 1 ≤ m) (h : ¬ Amid r m) : ¬ Amid (r.drop a) (m - a) := by
  rintro ⟨x, y, h1, h2, h3, h4, h5⟩
  rw [List.getElem?_drop] at h2 h3
  refine h ⟨x, y, by omega, ?_, ?_, h4, h5⟩
  · rw [show m - 1 = a + (m - a - 1) by omega]; exact h2
  · rw [show m = a + (m - a) by omega]; exact h3
theorem field_cut {t : List UInt8} {m : Nat} (h : ¬ Amid t m) (Y : List UInt8) : fieldN (t.take m ++ 32 :: Y) = fieldN t ∨ (fieldN (t.take m ++ 32 :: Y) = [] ∧ m < 1 + (fieldN t).length) := by
  cases m with
  | zero => exact Or.inr ⟨field_np (by decide), by omega⟩
  | succ m =>
    cases t with
    | nil => left; rw [List.take_nil]; exact field_np (by decide)
    | cons c u =>
      rw [List.take_succ_cons, List.cons_append]
      by_cases hc : c = 46
      · subst hc
        have e : ∀ l, fieldN (46 :: l) = plainN l := fun l => by unfold fieldN; simp
        rw [e, e]
        rcases Nat.lt_or_ge m (lead u).length with hl | hl
        · have hm0 : m = 0 := by
            rcases Nat.eq_zero_or_pos m with h0 | h0
            · exact h0
            · have := lead_fits h0 (by have := amid_drop (r := 46 :: u) (m := m + 1) (a := 1) (by omega) h; simpa using this)
              omega
          subst hm0
          rw [List.take_zero, List.nil_append, plain_nil (lead32 Y)]
          by_cases hp : plainN u = []
          · left; exact hp.symm
          · right; exact ⟨rfl, by have := List.length_pos_iff.2 hp; omega⟩
        · left; exact plain_lead (lead_cut hl Y)
      · left; rw [field_np hc, field_np hc]
theorem mark_cases (l : List UInt8) : (markAt l).2 = 0 ∨ (∃ c r, l = c :: r ∧ ∀ X, markAt (c :: X) = (c, 1)) ∨ (∃ d b r, l = 92 :: d :: r ∧ ∀ X, markAt (92 :: d :: X) = (b, 2)) ∨ (∃ a b v r, l = 92 :: 120 :: a :: b :: r ∧ ∀ X, markAt (92 :: 120 :: a :: b :: X) = (v, 4)) := by
  match l with
  | [] => exact Or.inl rfl
  | c :: r =>
    by_cases h1 : 32 ≤ c.toNat ∧ c.toNat ≠ 34 ∧ c.toNat ≠ 92 ∧ c.toNat ≠ 127
    · exact Or.inr (Or.inl ⟨c, r, rfl, fun X => by unfold markAt; dsimp only; rw [if_pos h1]⟩)
    by_cases h2 : c = 92
    · subst h2
      match r with
      | [] => exact Or.inl rfl
      | d :: r2 =>
        have two : ∀ b, (∀ X, markAt (92 :: d :: X) = (b, 2)) → (markAt (92 :: d :: r2)).2 = 0 ∨ (∃ c r, (92 :: d :: r2 : List UInt8) = c :: r ∧ ∀ X, markAt (c :: X) = (c, 1)) ∨ (∃ d' b r, (92 :: d :: r2 : List UInt8) = 92 :: d' :: r ∧ ∀ X, markAt (92 :: d' :: X) = (b, 2)) ∨ (∃ a b v r, (92 :: d :: r2 : List UInt8) = 92 :: 120 :: a :: b :: r ∧ ∀ X, markAt (92 :: 120 :: a :: b :: X) = (v, 4)) :=
          fun b hb => Or.inr (Or.inr (Or.inl ⟨d, b, r2, rfl, hb⟩))
        by_cases h3 : d = 34
        · subst h3; exact two 34 fun X => rfl
        by_cases h4 : d = 92
        · subst h4; exact two 92 fun X => rfl
        by_cases h5 : d = 110
        · subst h5; exact two 10 fun X => rfl
        by_cases h6 : d = 116
        · subst h6; exact two 9 fun X => rfl
        by_cases h7 : d = 120
        · subst h7
          match r2 with
          | [] => exact Or.inl rfl
          | [a] => exact Or.inl rfl
          | a :: b :: r3 =>
            have e : ∀ X, markAt (92 :: 120 :: a :: b :: X) = if Lib.indexByte hexL a < 0 ∨ Lib.indexByte hexL b < 0 then (0, 0) else (UInt8.ofNat ((Lib.indexByte hexL a).toNat * 16 + (Lib.indexByte hexL b).toNat), 4) := fun X => rfl
            by_cases h8 : Lib.indexByte hexL a < 0 ∨ Lib.indexByte hexL b < 0
            · left; rw [e, if_pos h8]
            · exact Or.inr (Or.inr (Or.inr ⟨a, b, _, r3, rfl, fun X => by rw [e, if_neg h8]⟩))
        · left
          unfold markAt
          dsimp only
          rw [if_neg (by decide), if_neg (by decide), if_neg h3, if_neg h4, if_neg h5, if_neg h6, if_pos h7]
    · left
      unfold markAt
      dsimp only
      rw [if_neg h1, if_pos h2]
theorem mark_pre (l l' : List UInt8) (h : (markAt l).2 ≠ 0) (hp : l.take (markAt l).2 <+: l') : markAt l' = markAt l := by
  rcases mark_cases l with h0 | ⟨c, r, rfl, hX⟩ | ⟨d, b, r, rfl, hX⟩ | ⟨a, b, v, r, rfl, hX⟩
  · exact absurd h0 h
  all_goals
    rw [hX] at hp ⊢
    obtain ⟨Y, rfl⟩ := hp
    exact hX Y
/-- A text in quotes ends with a quote, and does not look beyond it. -/
theorem q_local : ∀ (f : Nat) (l out : List UInt8) (k : Nat) (x : List UInt8 × Nat), qGo f l out k = some x → k < x.2 ∧ l[x.2 - k - 1]? = some 34 ∧ ∀ f' l', x.2 - k ≤ f' → l.take (x.2 - k) <+: l' → qGo f' l' out k = some x
  | 0, _, _, _, _, h => by simp [qGo] at h
  | _ + 1, [], _, _, _, h => by simp [qGo] at h
  | f + 1, c :: r, out, k, x, h => by
    rw [qGo] at h
    split at h
    · rename_i hc
      injection h with h
      subst h
      dsimp only
      refine ⟨by omega, by rw [show k + 1 - k - 1 = 0 by omega, hc]; rfl, fun f' l' hf hp => ?_⟩
      rw [show k + 1 - k = 1 by omega] at hf hp
      obtain ⟨X, rfl⟩ := hp
      obtain ⟨f'', rfl⟩ : ∃ n, f' = n + 1 := ⟨f' - 1, by omega⟩
      show qGo (f'' + 1) (c :: X) out k = _
      rw [qGo, if_pos hc]
    · rename_i hc
      split at h
      · cases h
      · rename_i hm
        obtain ⟨h1, h2, h3⟩ := q_local f _ _ _ x h
        have hml := mark_le (c :: r)
        generalize hp : markAt (c :: r) = p at *
        refine ⟨by omega, ?_, fun f' l' hf hpre => ?_⟩
        · rw [List.getElem?_drop] at h2
          rw [show x.2 - k - 1 = p.2 + (x.2 - (k + p.2) - 1) by omega]
          exact h2
        · obtain ⟨X, hX⟩ := hpre
          have hsp : (c :: r).take (x.2 - k) = (c :: r).take p.2 ++ ((c :: r).drop p.2).take (x.2 - (k + p.2)) := by
            rw [show x.2 - k = p.2 + (x.2 - (k + p.2)) by omega, List.take_add]
          have hpl : (c :: r).take p.2 <+: l' := ⟨_, by rw [← hX, hsp, List.append_assoc]⟩
          have hmk : markAt l' = p := by rw [← hp]; exact mark_pre (c :: r) l' (by rw [hp]; exact hm) (by rw [hp]; exact hpl)
          obtain ⟨f'', rfl⟩ : ∃ n, f' = n + 1 := ⟨f' - 1, by omega⟩
          have hc' : ∃ r', l' = c :: r' := by
            rw [← hX]
            obtain ⟨n, hn⟩ : ∃ n, x.2 - k = n + 1 := ⟨x.2 - k - 1, by omega⟩
            rw [hn, List.take_succ_cons]
            exact ⟨_, rfl⟩
          obtain ⟨r', rfl⟩ := hc'
          rw [qGo, if_neg hc, hmk, if_neg hm]
          refine h3 f'' _ (by omega) ?_
          refine ⟨X, ?_⟩
          rw [← hX, hsp, List.append_assoc]
          rw [List.drop_append_of_le_length (l₁ := (c :: r).take p.2) (by rw [List.length_take]; omega), List.drop_of_length_le (l := (c :: r).take p.2) (by rw [List.length_take]; omega), List.nil_append]
theorem pre_take {l g : List UInt8} {m : Nat} (hg : (32 : UInt8) ∉ g) {Y : List UInt8} (h : Lib.hasPrefix (l.take m ++ 32 :: Y) g = true) : Lib.hasPrefix l g = true := by
  have hp : g <+: l.take m ++ 32 :: Y := List.isPrefixOf_iff_prefix.1 h
  refine List.isPrefixOf_iff_prefix.2 ?_
  rcases Nat.lt_or_ge (l.take m).length g.length with hl | hl
  · obtain ⟨Z, hZ⟩ := hp
    have : (g ++ Z)[(l.take m).length]? = some 32 := by rw [hZ, List.getElem?_append_right (Nat.le_refl _)]; simp
    rw [List.getElem?_append_left hl] at this
    exact absurd (List.mem_of_getElem? this) hg
  · have h1 : g <+: l.take m := List.prefix_of_prefix_length_le hp (List.prefix_append _ _) hl
    exact h1.trans (List.take_prefix _ _)
theorem sign_cut {l g : List UInt8} (hg : signs.find? (fun g => Lib.hasPrefix l g) = some g) {m : Nat} (hm : g.length ≤ m) (Y : List UInt8) : signs.find? (fun g => Lib.hasPrefix (l.take m ++ 32 :: Y) g) = some g := by
  have h32 : ∀ g ∈ signs, (32 : UInt8) ∉ g := by decide
  have hgl : Lib.hasPrefix (l.take m ++ 32 :: Y) g = true := by
    have hsm := List.find?_some hg
    have hp : g <+: l := List.isPrefixOf_iff_prefix.1 hsm
    obtain ⟨Z, rfl⟩ := hp
    refine List.isPrefixOf_iff_prefix.2 ?_
    rw [List.take_append, List.take_of_length_le hm, List.append_assoc]
    exact List.prefix_append _ _
  obtain ⟨xs, ys, e, hn⟩ := (List.find?_eq_some_iff_append.1 hg).2
  refine List.find?_eq_some_iff_append.2 ⟨hgl, xs, ys, e, fun a ha => ?_⟩
  have h1 := hn a ha
  have hin : a ∈ signs := by rw [e]; simp [ha]
  cases hq : Lib.hasPrefix (l.take m ++ 32 :: Y) a with
  | false => rfl
  | true => rw [pre_take (h32 a hin) hq] at h1; exact absurd h1 (by decide)
end Lx
end Go.Proofs.YteppdnlchjpekaaDoor
