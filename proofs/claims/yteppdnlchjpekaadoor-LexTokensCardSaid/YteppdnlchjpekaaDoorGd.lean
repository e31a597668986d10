/- Tokens of a text: how much they are; what fails tells none. -/
import Derived.Test.YteppdnlchjpekaaDoorGa
namespace Go.Proofs.YteppdnlchjpekaaDoor
open Go.RowKit Lx
open Go
namespace Lx
theorem q_tx : ∀ (f : Nat) (l out : List UInt8) (k : Nat) (x : List UInt8 × Nat), qGo f l out k = some x → x.1.length + k ≤ x.2 + out.length
  | 0, _, _, _, _, h => by simp [qGo] at h
  | _ + 1, [], _, _, _, h => by simp [qGo] at h
  | f + 1, c :: r, out, k, x, h => by
    rw [qGo] at h
    split at h
    · injection h with h; subst h; dsimp only; omega
    · split at h
      · cases h
      · have ih := q_tx f _ _ _ x h
        rw [List.length_append, List.length_singleton] at ih
        omega
theorem fd_tx (k : Nat) (l : List UInt8) : (fd k l).2.1.length ≤ (fd k l).2.2 := by
  unfold fd
  split
  · unfold fWord; split <;> simp [no]
  · unfold fName nameOf; (repeat' split) <;> simp [no] <;> omega
  · unfold fField fieldOf; split
    · simp [no]
    · dsimp only; omega
  · unfold fVar; (repeat' split) <;> simp [no]
  · unfold fAny; split <;> simp [no]
  · unfold fNum; split
    · dsimp only
      unfold Lib.trimSuffix
      split
      · rw [List.length_take]; omega
      · exact Nat.le_refl _
    · simp [no]
  · unfold fQuote
    split
    · simp [no]
    · split
      · rename_i r _
        cases h : qGo (r.length + 1) r [] 1 with
        | none => simp [fdOf, no]
        | some x =>
          have := q_tx _ _ _ _ _ h
          simp only [fdOf, List.length_nil] at this ⊢
          omega
      · simp [no]
  · unfold fSign; split <;> simp [no]
theorem first_tx (l : List UInt8) : (fFirst l).1.2.1.length ≤ (fFirst l).1.2.2 := by
  unfold fFirst
  split
  · exact fd_tx _ _
  · simp [no]
theorem skipQ_le (q : Nat × Nat) (l : List UInt8) : (skipQ q l).2.length ≤ l.length := (skip_suf (l.length + 1) l).length_le
theorem lexR_bulk : ∀ (f : Nat) (q : Nat × Nat) (r : List UInt8) (acc : List T), bulk (lexR f q r acc).1 ≤ bulk acc + 2 * r.length
  | 0, _, _, _ => by simp [lexR]
  | f + 1, q, r, acc => by
    rw [lexR]
    split
    · dsimp only; omega
    · split
      · have : bulk [] = 0 := rfl
        dsimp only; omega
      · rename_i he
        have hn := first_size r
        have h0 := hn.2.1 (by omega)
        have ht := first_tx r
        refine Nat.le_trans (lexR_bulk f _ _ _) ?_
        rw [bulk_snoc]
        have hs := skipQ_le (adv q (r.take (fFirst r).1.2.2)) (r.drop (fFirst r).1.2.2)
        rw [List.length_drop] at hs
        have e : (⟨(fFirst r).1.2.1.toArray⟩ : ByteArray).size = (fFirst r).1.2.1.length := by rw [size_list]
        dsimp only
        rw [e]
        omega
theorem toks_bulk (s : List UInt8) : bulk (toks s).1 ≤ 2 * s.length := by
  unfold toks
  split
  · exact Nat.zero_le _
  · refine Nat.le_trans (lexR_bulk _ _ _ _) ?_
    have := skipQ_le (1, 1) s
    have h0 : bulk [] = 0 := rfl
    omega
theorem lexR_fail : ∀ (f : Nat) (q : Nat × Nat) (r : List UInt8) (acc : List T), (lexR f q r acc).2.2 ≠ 0 → (lexR f q r acc).1 = []
  | 0, _, _, _, h => by simp [lexR] at h
  | f + 1, q, r, acc, h => by
    rw [lexR] at h ⊢
    split
    · rename_i hr
      rw [if_pos hr] at h
      exact absurd rfl h
    · rename_i hr
      rw [if_neg hr] at h
      split
      · rfl
      · rename_i he
        rw [if_neg he] at h
        exact lexR_fail f _ _ _ h
theorem toks_fail (s : List UInt8) (h : (toks s).2.2 ≠ 0) : (toks s).1 = [] := by
  unfold toks at h ⊢
  split
  · rfl
  · rename_i hb
    rw [if_neg hb] at h
    exact lexR_fail _ _ _ _ h
/-- The text of a text's tokens is read as the same kinds and texts. -/
def Back (s : List UInt8) : Prop := (toks s).2.2 = 0 → (toks (show_ (toks s).1)).2.2 = 0 ∧ (toks s).1.length = (toks (show_ (toks s).1)).1.length ∧
  ∀ j (h : j < (toks s).1.length) (h' : j < (toks (show_ (toks s).1)).1.length), (toks (show_ (toks s).1)).1[j].kind = (toks s).1[j].kind ∧ (toks (show_ (toks s).1)).1[j].text = (toks s).1[j].text
end Lx
end Go.Proofs.YteppdnlchjpekaaDoor
