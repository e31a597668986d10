/- Package lex: the tokens of a text: what is told, plain. -/
import Derived.Test.YteppdnlchjpekaaDoorEr
import Derived.Test.YteppdnlchjpekaaDoorEp
namespace Go.Proofs.YteppdnlchjpekaaDoor
open Go.RowKit Lx
open Go

namespace Lx
theorem field_len1 {l : List UInt8} (h : fieldN l ≠ []) : 1 + (fieldN l).length ≤ l.length := by
  unfold fieldN at h ⊢
  cases l with
  | nil => simp at h
  | cons c r =>
    have := plain_len r
    dsimp only at h ⊢
    split at h
    · rename_i hc
      rw [if_pos hc, List.length_cons]; omega
    · simp at h
theorem q_size : ∀ (f : Nat) (l out : List UInt8) (k : Nat) (x : List UInt8 × Nat), qGo f l out k = some x → x.2 ≤ k + l.length
  | 0, _, _, _, _, h => by simp [qGo] at h
  | _ + 1, [], _, _, _, h => by simp [qGo] at h
  | f + 1, c :: r, out, k, x, h => by
    rw [qGo] at h
    split at h
    · injection h with h; subst h; simp
    · split at h
      · cases h
      · have ih := q_size f _ _ _ x h
        rw [List.length_drop] at ih
        have := mark_le (c :: r)
        omega
theorem fd_size (k : Nat) (l : List UInt8) : (fd k l).2.2 ≤ l.length := by
  have h1 := lead_len l
  have h2 := plain_len l
  unfold fd
  split
  · unfold fWord; split
    · exact h1
    · simp [no]
  · unfold fName nameOf; split
    · simp [no]
    · split
      · exact h2
      · rename_i h
        have := field_len1 h
        rw [List.length_drop] at this
        dsimp only; omega
  · unfold fField fieldOf; split
    · simp [no]
    · rename_i h
      exact field_len1 h
  · unfold fVar
    cases h : lead l with
    | nil => simp [no]
    | cons c r =>
      rw [h] at h1
      dsimp only
      split
      · exact h1
      · simp [no]
  · unfold fAny; split
    · rename_i h
      rw [h] at h1; exact h1
    · simp [no]
  · unfold fNum; split
    · exact h1
    · simp [no]
  · unfold fQuote
    cases l with
    | nil => simp [no]
    | cons c r =>
      dsimp only
      split
      · cases h : qGo (r.length + 1) r [] 1 with
        | none => simp [fdOf, no]
        | some x =>
          have := q_size _ _ _ _ _ h
          simp only [fdOf, List.length_cons]; omega
      · simp [no]
  · unfold fSign
    cases h : signs.find? (fun g => Lib.hasPrefix l g) with
    | none => simp [no]
    | some g =>
      have hm := List.find?_some h
      dsimp only
      have hp : g <+: l := List.isPrefixOf_iff_prefix.1 hm
      exact hp.length_le
theorem first_size (l : List UInt8) : (fFirst l).1.2.2 ≤ l.length ∧ ((fFirst l).2 = 0 → 0 < (fFirst l).1.2.2) ∧ (fFirst l).1.2.1.length ≤ l.length + 2 ∧ (fFirst l).2 < 100 := by
  unfold fFirst
  split
  · rename_i k h
    refine ⟨fd_size _ _, fun _ => ?_, fd_len _ _, ?_⟩
    · have := List.find?_some h
      simpa using this
    · dsimp only
      unfold exc
      (repeat' split) <;> omega
  · exact ⟨by simp [no], fun h => by simp at h, by simp [no], by simp⟩
theorem adv_le (l : List UInt8) : ∀ q : Nat × Nat, 1 ≤ q.2 → (adv q l).1 ≤ q.1 + l.length ∧ (adv q l).2 ≤ q.2 + l.length ∧ 1 ≤ (adv q l).2 := by
  induction l with
  | nil => intro q h; exact ⟨Nat.le_refl _, Nat.le_refl _, h⟩
  | cons c l ih =>
    intro q h
    unfold adv at ih ⊢
    rw [List.foldl_cons, List.length_cons]
    by_cases hc : c = 10
    · rw [if_pos hc]
      have := ih (q.1 + 1, 1) (Nat.le_refl _)
      dsimp only at this
      omega
    · rw [if_neg hc]
      have := ih (q.1, q.2 + 1) (by dsimp only; omega)
      dsimp only at this
      omega
/-- What is skipped ahead of a token: the place behind it, and the rest. -/
def skipQ (q : Nat × Nat) (l : List UInt8) : (Nat × Nat) × List UInt8 := (adv q (l.take (l.length - (skipL (l.length + 1) l).length)), skipL (l.length + 1) l)
/-- The tokens of a rest that begins with one, or is empty, behind those that were found. -/
def lexR : Nat → (Nat × Nat) → List UInt8 → List T → List T × (Nat × Nat) × Nat
  | 0, _, _, acc => (acc, (0, 0), 0)
  | f + 1, q, r, acc =>
    if r = [] then (acc, (0, 0), 0)
    else if (fFirst r).2 ≠ 0 then ([], q, (fFirst r).2)
    else lexR f (skipQ (adv q (r.take (fFirst r).1.2.2)) (r.drop (fFirst r).1.2.2)).1 (skipQ (adv q (r.take (fFirst r).1.2.2)) (r.drop (fFirst r).1.2.2)).2
      (acc ++ [⟨q.1, q.2, (fFirst r).1.1, ⟨(fFirst r).1.2.1.toArray⟩⟩])
/-- The tokens of a text, or a place and an error. -/
def toks (l : List UInt8) : List T × (Nat × Nat) × Nat :=
  if 65536 < l.length then ([], (1, 1), 40) else lexR (l.length + 1) (skipQ (1, 1) l).1 (skipQ (1, 1) l).2 []
theorem skipQ_len (q : Nat × Nat) (l : List UInt8) (h : 1 ≤ q.2) : (skipQ q l).2.length ≤ l.length ∧ (skipQ q l).1.1 + (skipQ q l).2.length ≤ q.1 + l.length ∧ (skipQ q l).1.2 + (skipQ q l).2.length ≤ q.2 + l.length ∧ 1 ≤ (skipQ q l).1.2 := by
  have h1 := (skip_suf (l.length + 1) l).length_le
  have h2 := adv_le (l.take (l.length - (skipL (l.length + 1) l).length)) q h
  rw [List.length_take] at h2
  unfold skipQ
  dsimp only
  omega
end Lx
end Go.Proofs.YteppdnlchjpekaaDoor
