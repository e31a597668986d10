/- Package value: how two values stand; plain. -/
import Derived.Test.YtibpebhepoeikaaDoorVm
namespace Go.Proofs.YtibpebhepoeikaaDoor
namespace Vp

def cmpI (a b : Int) : Int := if a < b then -1 else if b < a then 1 else 0
mutual
/-- How two values stand, with an order of numbers' texts. -/
def cmpV (zc : List UInt8 → List UInt8 → Int) : V → V → Int
  | .mk k n s l, .mk k' n' s' l' =>
    if k ≠ k' then cmpI k k' else if k = 1 ∨ k = 2 then cmpI n n' else if k = 3 then zc s.data.toList s'.data.toList
    else if Lib.compareBytes s.data.toList s'.data.toList ≠ 0 then Lib.compareBytes s.data.toList s'.data.toList else cmpL zc l l'
def cmpL (zc : List UInt8 → List UInt8 → Int) : List V → List V → Int
  | [], [] => 0
  | [], _ :: _ => -1
  | _ :: _, [] => 1
  | x :: xs, y :: ys => if cmpV zc x y ≠ 0 then cmpV zc x y else cmpL zc xs ys
end
def invL (l : List V) : Bool := l.any fun t => decide (chkV t ≠ 0)
/-- How two rows stand, whatever they hold. -/
def cmpR (zc : List UInt8 → List UInt8 → Int) (a b : List V) : Int :=
  if invL a ∧ invL b then 0 else if invL a then 1 else if invL b then -1 else cmpL zc a b
/-- The numbers' texts in a value are numbers' texts. -/
def bigOk (t : V) : Bool := !some_ (fun v => decide (v.kind = 3) && decide (Pl.chk v.txt.data.toList ≠ 0)) t
end Vp
open Vp
theorem chk_three (l : List UInt8) : Pl.chk l = 0 ∨ Pl.chk l = 4 ∨ Pl.chk l = 80 := by
  unfold Pl.chk
  split
  · exact .inr (.inl rfl)
  · split
    · exact .inr (.inl rfl)
    · split
      · exact .inr (.inl rfl)
      · split
        · exact .inr (.inr rfl)
        · exact .inl rfl
theorem some_mono {p q : V → Bool} (h : ∀ v, p v = true → q v = true) : ∀ t, some_ p t = true → some_ q t = true := by
  intro t
  induction t using V.ind with
  | h k n s l ih =>
    rw [some_eq, some_eq, Bool.or_eq_true, Bool.or_eq_true]
    rintro (h1 | h1)
    · exact .inl (h _ h1)
    · refine .inr ?_
      obtain ⟨x, hx, hp⟩ := List.any_eq_true.1 h1
      exact List.any_eq_true.2 ⟨x, hx, ih x hx hp⟩
theorem valid_parts {t : V} (h : chkV t = 0) : deeper 64 t = false ∧ some_ (bad Pl.chk) t = false ∧ some_ (long Pl.chk) t = false := by
  unfold chkV at h
  cases h1 : deeper 64 t <;> cases h2 : some_ (bad Pl.chk) t <;> cases h3 : some_ (long Pl.chk) t <;> simp_all
theorem valid_big {t : V} (h : chkV t = 0) : bigOk t = true := by
  obtain ⟨_, h2, h3⟩ := valid_parts h
  unfold bigOk
  cases hb : some_ (fun v => decide (v.kind = 3) && decide (Pl.chk v.txt.data.toList ≠ 0)) t with
  | false => rfl
  | true =>
    have := some_mono (p := fun v => decide (v.kind = 3) && decide (Pl.chk v.txt.data.toList ≠ 0)) (q := fun v => bad Pl.chk v || long Pl.chk v) (fun v hv => by
      obtain ⟨k, n, s, l⟩ := v
      rw [Bool.and_eq_true, decide_eq_true_eq, decide_eq_true_eq] at hv
      obtain ⟨hk, hc⟩ := hv
      replace hk : k = 3 := hk
      replace hc : Pl.chk s.data.toList ≠ 0 := hc
      subst hk
      rcases chk_three s.data.toList with h | h | h
      · exact absurd h hc
      · simp [bad, h]
      · simp [long, h]) t hb
    rw [some_or, h2, h3] at this
    exact absurd this (by simp)
theorem bigOk_parts {k : Nat} {n : Int} {s : ByteArray} {l : List V} (h : bigOk (.mk k n s l) = true) : (k = 3 → Pl.chk s.data.toList = 0) ∧ ∀ t ∈ l, bigOk t = true := by
  unfold bigOk at h
  rw [some_eq, Bool.not_or, Bool.and_eq_true] at h
  obtain ⟨h1, h2⟩ := h
  refine ⟨fun hk => ?_, fun t ht => ?_⟩
  · rw [Bool.not_eq_true', Bool.and_eq_false_iff, decide_eq_false_iff_not, decide_eq_false_iff_not] at h1
    rcases h1 with h1 | h1
    · exact absurd hk h1
    · exact Decidable.not_not.1 h1
  · have h3 : l.any (some_ fun v => decide (v.kind = 3) && decide (Pl.chk v.txt.data.toList ≠ 0)) = false := by
      rw [Bool.not_eq_true'] at h2; exact h2
    rw [List.any_eq_false] at h3
    unfold bigOk
    simpa using h3 t ht
end Go.Proofs.YtibpebhepoeikaaDoor
