/- The document's own tokens of a text. -/
import Derived.Test.YteppdnlchjpekaaDoorRh
import Derived.Test.YteppdnlchjpekaaDoorGc
import Derived.Test.YteppdnlchjpekaaDoorGj
namespace Go.Proofs.YteppdnlchjpekaaDoor
open Go.RowKit Lx
open Go
attribute [local go_sem] Oper.semAt_some

namespace Lx
theorem skipQ_app (q : Nat × Nat) (a l : List UInt8) (h : sk (a ++ l) = sk l) : skipQ q (a ++ l) = skipQ (adv q a) l := by
  have hle := sk_le l
  refine Prod.ext ?_ h
  show adv q ((a ++ l).take ((a ++ l).length - (sk (a ++ l)).length)) = adv (adv q a) (l.take (l.length - (sk l).length))
  rw [h, List.length_append, show a.length + l.length - (sk l).length = a.length + (l.length - (sk l).length) by omega, List.take_append, List.take_of_length_le (Nat.le_add_right _ _), Nat.add_sub_cancel_left, adv_app]
theorem skipQ_fix (q : Nat × Nat) (l : List UInt8) (h : sk l = l) : skipQ q l = (q, l) := by
  refine Prod.ext ?_ h
  show adv q (l.take (l.length - (sk l).length)) = q
  rw [h, Nat.sub_self, List.take_zero]; rfl
/-- Reading goes on from a place on. -/
def Goes (L : List UInt8) (X : List T × (Nat × Nat) × Nat) (i : Nat) (acc : List T) : Prop := ∃ f, L.length + 1 - i ≤ f ∧ X = lexR f (skipQ (adv (1, 1) (L.take i)) (L.drop i)).1 (skipQ (adv (1, 1) (L.take i)) (L.drop i)).2 acc
theorem goes_start (L : List UInt8) (h : L.length ≤ 65536) : Goes L (toks L) 0 [] := ⟨L.length + 1, by omega, by unfold toks; rw [if_neg (by omega)]; rfl⟩
theorem goes_skip {L : List UInt8} {X : List T × (Nat × Nat) × Nat} {i m : Nat} {acc : List T} (h : Goes L X i acc) (him : i ≤ m) (hm : m ≤ L.length) (hs : sk (L.drop i) = sk (L.drop m)) : Goes L X m acc := by
  obtain ⟨f, hf, hx⟩ := h
  have hd : L.drop i = (L.drop i).take (m - i) ++ L.drop m := by
    rw [show L.drop m = (L.drop i).drop (m - i) by rw [List.drop_drop, show i + (m - i) = m by omega], List.take_append_drop]
  have ht : L.take m = L.take i ++ (L.drop i).take (m - i) := by
    rw [← List.take_add, show i + (m - i) = m by omega]
  refine ⟨f, by omega, ?_⟩
  have hq : skipQ (adv (1, 1) (L.take i)) (L.drop i) = skipQ (adv (1, 1) (L.take m)) (L.drop m) := by
    conv => lhs; rw [hd]
    rw [skipQ_app _ _ _ (by rw [← hd]; exact hs), ← adv_app, ← ht]
  rw [← hq]; exact hx
theorem goes_blank {L : List UInt8} {X : List T × (Nat × Nat) × Nat} {i : Nat} {acc : List T} {c : UInt8} (h : Goes L X i acc) (hi : i < L.length) (hd : L.drop i = c :: L.drop (i + 1)) (hb : blanks.contains c = true) : Goes L X (i + 1) acc :=
  goes_skip h (Nat.le_succ i) hi (by rw [hd]; exact sk_gap (Gap.blank c [] hb .nil) (L.drop (i + 1)))
theorem goes_rem {L : List UInt8} {X : List T × (Nat × Nat) × Nat} {i m : Nat} {acc : List T} (h : Goes L X i acc) (him : i < m) (hm : m ≤ L.length) (h35 : L[i]? = some 35) (hn : (10 : UInt8) ∉ (L.drop i).take (m - i)) (he : L.drop m = [] ∨ ∃ Y, L.drop m = 10 :: Y) : Goes L X m acc := by
  refine goes_skip h (Nat.le_of_lt him) hm ?_
  have hd : L.drop i = (L.drop i).take (m - i) ++ L.drop m := by
    rw [show L.drop m = (L.drop i).drop (m - i) by rw [List.drop_drop, show i + (m - i) = m by omega], List.take_append_drop]
  obtain ⟨b, hb⟩ : ∃ b, (L.drop i).take (m - i) = 35 :: b := by
    have h0 : (L.drop i)[0]? = some 35 := by rw [List.getElem?_drop]; exact h35
    match hl : L.drop i, h0 with
    | x :: t, h0 =>
      obtain ⟨n, hn⟩ : ∃ n, m - i = n + 1 := ⟨m - i - 1, by omega⟩
      rw [hn, List.take_succ_cons]
      injection h0 with h0
      exact ⟨_, by rw [h0]⟩
  rw [hb] at hn hd
  have hnb : (10 : UInt8) ∉ b := fun hh => hn (by simp [hh])
  rw [hd]
  rcases he with he | ⟨Y, he⟩
  · rw [he, List.append_nil, sk_eq, trim_not (by decide), List.head?_cons, if_pos rfl, cut_no]
    exact hn
  · rw [he]
    have e1 : (35 :: b ++ 10 :: Y : List UInt8) = (35 :: (b ++ 10 :: [])) ++ Y := by simp
    rw [e1, sk_gap (Gap.rem b [] hnb .nil)]
    exact (sk_gap (Gap.blank 10 [] (by decide) .nil) Y).symm
theorem goes_tok {L : List UInt8} {X : List T × (Nat × Nat) × Nat} {i : Nat} {acc : List T} {c : UInt8} (h : Goes L X i acc) (hi : i < L.length) (hd : L.drop i = c :: L.drop (i + 1)) (hb : blanks.contains c = false) (h35 : c ≠ 35) :
    ((fFirst (L.drop i)).2 ≠ 0 → X = ([], adv (1, 1) (L.take i), (fFirst (L.drop i)).2)) ∧
    ((fFirst (L.drop i)).2 = 0 → Goes L X (i + (fFirst (L.drop i)).1.2.2) (acc ++ [⟨(adv (1, 1) (L.take i)).1, (adv (1, 1) (L.take i)).2, (fFirst (L.drop i)).1.1, ⟨(fFirst (L.drop i)).1.2.1.toArray⟩⟩])) := by
  obtain ⟨f, hf, hx⟩ := h
  obtain ⟨f', rfl⟩ : ∃ n, f = n + 1 := ⟨f - 1, by omega⟩
  rw [skipQ_fix _ _ (by rw [hd]; exact sk_fine hb h35)] at hx
  dsimp only at hx
  have hne : L.drop i ≠ [] := by rw [hd]; simp
  rw [lexR, if_neg hne] at hx
  refine ⟨fun he => by rw [if_pos he] at hx; exact hx, fun he => ?_⟩
  rw [if_neg (by omega)] at hx
  have hsz := first_size (L.drop i)
  have hn := hsz.2.1 he
  refine ⟨f', by omega, ?_⟩
  rw [List.take_add, adv_app, ← List.drop_drop]
  exact hx
theorem goes_end {L : List UInt8} {X : List T × (Nat × Nat) × Nat} {acc : List T} (h : Goes L X L.length acc) : X = (acc, (0, 0), 0) := by
  obtain ⟨f, _, hx⟩ := h
  rw [List.drop_length, skipQ_fix _ _ rfl] at hx
  rw [hx]
  cases f with
  | zero => rfl
  | succ f => rw [lexR, if_pos rfl]
end Lx
end Go.Proofs.YteppdnlchjpekaaDoor
