/- Where tokens lie in a text: plain. -/
import Derived.Test.YteppdnlchjpekaaDoorEt
namespace Go.Proofs.YteppdnlchjpekaaDoor
open Go.RowKit Lx
open Go
namespace Lx
/-- What stands at a token's place. -/
def Begins (k : Nat) (tx : List UInt8) (c : UInt8) : Prop := if k = 7 then c = 34 else if k = 9 then c = 46 else tx.head? = some c
theorem lead_pre (l : List UInt8) : lead l <+: l := List.takeWhile_prefix _
theorem head_pre {a l : List UInt8} {c : UInt8} (h : a <+: l) (hc : a.head? = some c) : l.head? = some c := by
  obtain ⟨b, rfl⟩ := h
  cases a with
  | nil => simp at hc
  | cons x a => simpa using hc
theorem plain_pre (l : List UInt8) : plainN l <+: l := by
  have := lead_pre l
  unfold plainN
  cases h : lead l with
  | nil => exact List.nil_prefix
  | cons c r =>
    rw [h] at this
    dsimp only
    split
    · exact this
    · exact List.nil_prefix
theorem some_head {a : List UInt8} (h : a ≠ []) : ∃ c, a.head? = some c := by
  cases a with
  | nil => exact absurd rfl h
  | cons c a => exact ⟨c, rfl⟩
theorem begins_of {k : Nat} {tx l : List UInt8} (h7 : k ≠ 7) (h9 : k ≠ 9) (hp : ∃ d, tx.head? = some d ∧ l.head? = some d) : ∃ c, l.head? = some c ∧ Begins k tx c := by
  obtain ⟨c, h1, h2⟩ := hp
  exact ⟨c, h2, by unfold Begins; rw [if_neg h7, if_neg h9]; exact h1⟩
theorem both {a l : List UInt8} (hp : a <+: l) (h : a ≠ []) : ∃ d, a.head? = some d ∧ l.head? = some d := by
  obtain ⟨c, hc⟩ := some_head h
  exact ⟨c, hc, head_pre hp hc⟩
theorem fd_begins (k : Nat) (l : List UInt8) (h : 0 < (fd k l).2.2) : ∃ c, l.head? = some c ∧ Begins (fd k l).1 (fd k l).2.1 c := by
  unfold fd at h ⊢
  split at h
  · unfold fWord at h ⊢
    split at h
    · rename_i hw
      rw [if_pos hw]
      refine begins_of (k := 1) (by decide) (by decide) (both (lead_pre l) fun e => ?_)
      have h' : 0 < (lead l).length := h
      rw [show lead l = [] from e] at h'; simp at h'
    · simp [no] at h
  · unfold fName nameOf at h ⊢
    split at h
    · simp [no] at h
    · rename_i ha
      obtain ⟨c, h1, h2⟩ := both (plain_pre l) ha
      rw [if_neg ha]
      split
      · exact begins_of (k := 2) (by decide) (by decide) ⟨c, h1, h2⟩
      · refine begins_of (k := 2) (by decide) (by decide) ⟨c, ?_, h2⟩
        cases hh : plainN l with
        | nil => exact absurd hh ha
        | cons x y => rw [hh] at h1; simpa using h1
  · unfold fField fieldOf at h ⊢
    split at h
    · simp [no] at h
    · rename_i hf
      rw [if_neg hf]
      unfold fieldN at hf
      cases l with
      | nil => exact absurd rfl hf
      | cons c r =>
        dsimp only at hf
        split at hf
        · rename_i hc
          exact ⟨c, rfl, hc⟩
        · exact absurd rfl hf
  · unfold fVar at h ⊢
    have hp := lead_pre l
    cases hl : lead l with
    | nil => rw [hl] at h; simp [no] at h
    | cons c r =>
      rw [hl] at h hp
      dsimp only at h ⊢
      split at h
      · rename_i hc
        rw [if_pos hc]
        exact begins_of (k := 3) (by decide) (by decide) (both hp (by simp))
      · simp [no] at h
  · unfold fAny at h ⊢
    have hp := lead_pre l
    split at h
    · rename_i hc
      rw [if_pos hc]
      rw [hc] at hp
      exact begins_of (k := 4) (by decide) (by decide) (both hp (by simp))
    · simp [no] at h
  · unfold fNum at h ⊢
    split at h
    · rename_i hc
      rw [if_pos hc]
      have hpt : Lib.trimSuffix (lead l) [98] <+: l := by
        refine List.IsPrefix.trans ?_ (lead_pre l)
        unfold Lib.trimSuffix
        split
        · exact List.take_prefix _ _
        · exact List.prefix_refl _
      have hne : Lib.trimSuffix (lead l) [98] ≠ [] := by
        intro e
        rw [e] at hc
        exact absurd hc (by decide)
      have hb := both hpt hne
      dsimp only
      split
      · exact begins_of (by decide) (by decide) hb
      · exact begins_of (by decide) (by decide) hb
    · simp [no] at h
  · unfold fQuote at h ⊢
    cases l with
    | nil => simp [no] at h
    | cons c r =>
      dsimp only at h ⊢
      split at h
      · rename_i hc
        rw [if_pos hc]
        cases hq : qGo (r.length + 1) r [] 1 with
        | none => rw [hq] at h; simp [fdOf, no] at h
        | some x => exact ⟨c, rfl, hc⟩
      · simp [no] at h
  · unfold fSign at h ⊢
    cases hs : signs.find? (fun g => Lib.hasPrefix l g) with
    | none => rw [hs] at h; simp [no] at h
    | some g =>
      rw [hs] at h
      have hm := List.find?_some hs
      have hp : g <+: l := List.isPrefixOf_iff_prefix.1 hm
      dsimp only at h ⊢
      refine begins_of (k := 8) (by decide) (by decide) (both hp fun e => ?_)
      rw [e] at h; simp at h
theorem first_begins (l : List UInt8) (h : (fFirst l).2 = 0) : ∃ c, l.head? = some c ∧ Begins (fFirst l).1.1 (fFirst l).1.2.1 c := by
  unfold fFirst at h ⊢
  split
  · rename_i k hk
    have := List.find?_some hk
    exact fd_begins k l (by simpa using this)
  · rename_i hk
    rw [hk] at h
    simp at h
/-- Tokens lie in a text, from so far on. -/
def Lies (s : List UInt8) : Nat → List T → Prop
  | _, [] => True
  | o, t :: l => ∃ i c, o ≤ i ∧ s[i]? = some c ∧ t.line = ((adv (1, 1) (s.take i)).1 : Int) ∧ t.col = ((adv (1, 1) (s.take i)).2 : Int) ∧ Begins t.kind t.text.data.toList c ∧ Lies s (i + 1) l
theorem Lies.mono {s : List UInt8} {o o' : Nat} {l : List T} (h : Lies s o l) (ho : o' ≤ o) : Lies s o' l := by
  cases l with
  | nil => trivial
  | cons t l =>
    obtain ⟨i, c, h1, h2⟩ := h
    exact ⟨i, c, by omega, h2⟩
theorem skipQ_at (s : List UInt8) (o n : Nat) (q : Nat × Nat) (hq : q = adv (1, 1) (s.take o)) : ∃ o', o + n ≤ o' ∧ skipQ (adv q ((s.drop o).take n)) ((s.drop o).drop n) = (adv (1, 1) (s.take o'), s.drop o') := by
  have hs := suf_drop (skip_suf (((s.drop o).drop n).length + 1) ((s.drop o).drop n))
  unfold skipQ
  generalize ((s.drop o).drop n).length - (skipL (((s.drop o).drop n).length + 1) ((s.drop o).drop n)).length = m at hs ⊢
  refine ⟨o + n + m, by omega, Prod.ext ?_ ?_⟩
  · show adv (adv q ((s.drop o).take n)) (((s.drop o).drop n).take m) = _
    rw [hq, List.take_add, List.take_add, adv_app, adv_app, List.drop_drop]
  · show skipL _ _ = s.drop (o + n + m)
    rw [← hs, List.drop_drop, List.drop_drop, Nat.add_assoc]
theorem lexR_lies (s : List UInt8) : ∀ (f o : Nat) (q : Nat × Nat) (r : List UInt8) (acc : List T), q = adv (1, 1) (s.take o) → r = s.drop o → (lexR f q r acc).2.2 = 0 → ∃ l, (lexR f q r acc).1 = acc ++ l ∧ Lies s o l
  | 0, _, _, _, _, _, _, _ => ⟨[], by simp [lexR], trivial⟩
  | f + 1, o, q, r, acc, hq, hr, h => by
    rw [lexR] at h ⊢
    split
    · exact ⟨[], by simp, trivial⟩
    · rename_i hne
      rw [if_neg hne] at h
      split
      · rename_i he
        rw [if_pos he] at h
        exact absurd h he
      · rename_i he
        rw [if_neg he] at h
        have he0 : (fFirst r).2 = 0 := by omega
        obtain ⟨o', ho', hsk⟩ := skipQ_at s o (fFirst r).1.2.2 q hq
        rw [← hr] at hsk
        rw [hsk] at h ⊢
        obtain ⟨l, hl, hll⟩ := lexR_lies s f o' _ _ _ rfl rfl h
        have hn := (first_size r).2.1 he0
        obtain ⟨c, hc, hb⟩ := first_begins r he0
        refine ⟨⟨q.1, q.2, (fFirst r).1.1, ⟨(fFirst r).1.2.1.toArray⟩⟩ :: l, by rw [hl]; simp, o, c, Nat.le_refl _, ?_, by rw [hq], by rw [hq], hb, hll.mono (by omega)⟩
        rw [hr, List.head?_drop] at hc
        exact hc
theorem toks_lies (s : List UInt8) (h : (toks s).2.2 = 0) : Lies s 0 (toks s).1 := by
  unfold toks at h ⊢
  split
  · rename_i hb
    rw [if_pos hb] at h
    simp at h
  · rename_i hb
    rw [if_neg hb] at h
    obtain ⟨o', _, hsk⟩ := skipQ_at s 0 0 (1, 1) rfl
    have e : skipQ (adv (1, 1) ((s.drop 0).take 0)) ((s.drop 0).drop 0) = skipQ (1, 1) s := by simp [adv]
    rw [e] at hsk
    rw [hsk] at h ⊢
    obtain ⟨l, hl, hll⟩ := lexR_lies s _ o' _ _ _ rfl rfl h
    rw [hl]
    exact Lies.mono hll (Nat.zero_le _)
theorem adv_one (q : Nat × Nat) (c : UInt8) : adv q [c] = if c = 10 then (q.1 + 1, 1) else (q.1, q.2 + 1) := rfl
theorem adv_take (s : List UInt8) (i : Nat) (c : UInt8) (hc : s[i]? = some c) : adv (1, 1) (s.take (i + 1)) = if c = 10 then ((adv (1, 1) (s.take i)).1 + 1, 1) else ((adv (1, 1) (s.take i)).1, (adv (1, 1) (s.take i)).2 + 1) := by
  obtain ⟨hi, rfl⟩ := List.getElem?_eq_some_iff.1 hc
  rw [List.take_succ_eq_append_getElem hi, adv_app, adv_one]
/-- Places rise. -/
theorem adv_lt (s : List UInt8) (i : Nat) : ∀ d, i + d + 1 ≤ s.length → (adv (1, 1) (s.take i)).1 < (adv (1, 1) (s.take (i + d + 1))).1 ∨ (adv (1, 1) (s.take i)).1 = (adv (1, 1) (s.take (i + d + 1))).1 ∧ (adv (1, 1) (s.take i)).2 < (adv (1, 1) (s.take (i + d + 1))).2
  | 0, h => by
    rw [adv_take s (i + 0) s[i] (List.getElem?_eq_getElem (by omega))]
    split
    · left; simp
    · right; simp
  | d + 1, h => by
    have ih := adv_lt s i d (by omega)
    rw [show i + (d + 1) + 1 = (i + d + 1) + 1 by omega, adv_take s (i + d + 1) s[i + d + 1] (List.getElem?_eq_getElem (by omega))]
    split
    · left; dsimp only; omega
    · dsimp only; omega
theorem adv_inj (s : List UInt8) (i j : Nat) (h : i ≤ j) (hj : j ≤ s.length) (h1 : (adv (1, 1) (s.take i)).1 = (adv (1, 1) (s.take j)).1) (h2 : (adv (1, 1) (s.take i)).2 = (adv (1, 1) (s.take j)).2) : i = j := by
  rcases Nat.eq_or_lt_of_le h with h | h
  · exact h
  · obtain ⟨d, rfl⟩ : ∃ d, j = i + d + 1 := ⟨j - i - 1, by omega⟩
    have := adv_lt s i d hj
    omega
/-- At a place in the text: the next token begins here, or further on. -/
theorem lies_yes {s : List UInt8} {i : Nat} {c : UInt8} {t : T} {l : List T} (h : Lies s i (t :: l)) (hc : s[i]? = some c) (h1 : ((adv (1, 1) (s.take i)).1 : Int) = t.line) (h2 : ((adv (1, 1) (s.take i)).2 : Int) = t.col) : Begins t.kind t.text.data.toList c ∧ Lies s (i + 1) l := by
  obtain ⟨j, d, hj, hd, e1, e2, hb, hl⟩ := h
  have hjl : j < s.length := (List.getElem?_eq_some_iff.1 hd).1
  obtain rfl := adv_inj s i j hj (by omega) (by omega) (by omega)
  rw [hc] at hd
  injection hd with hd
  subst hd
  exact ⟨hb, hl⟩
theorem lies_no {s : List UInt8} {i : Nat} {t : T} {l : List T} (h : Lies s i (t :: l)) (hn : ¬(((adv (1, 1) (s.take i)).1 : Int) = t.line ∧ ((adv (1, 1) (s.take i)).2 : Int) = t.col)) : Lies s (i + 1) (t :: l) := by
  obtain ⟨j, d, hj, hd, e1, e2, hb, hl⟩ := h
  refine ⟨j, d, ?_, hd, e1, e2, hb, hl⟩
  rcases Nat.eq_or_lt_of_le hj with h | h
  · subst h
    exact absurd ⟨e1.symm, e2.symm⟩ hn
  · exact h
theorem lies_end {s : List UInt8} {l : List T} (h : Lies s s.length l) : l = [] := by
  cases l with
  | nil => rfl
  | cons t l =>
    obtain ⟨j, d, hj, hd, _⟩ := h
    rw [List.getElem?_eq_none hj] at hd
    cases hd
end Lx
end Go.Proofs.YteppdnlchjpekaaDoor
