/- Terms that lead up one another: roots. Plain. -/
import Derived.Test.YtfhjfhbfgndheaaDoorNc
import Derived.Test.YtfhjfhbfgndheaaDoorDc
namespace Go.Proofs.YtfhjfhbfgndheaaDoor
open Go.RowKit
open Go
namespace Un

/-- up leads each of its numbers up its root ρ, ever lower in rk. -/
structure Forest (ρ rk : Nat → Nat) (up : List Nat) : Prop where
  lt : ∀ n (h : n < up.length), up[n] < up.length
  st : ∀ n (h : n < up.length), ρ up[n] = ρ n
  fix : ∀ n (h : n < up.length), up[n] = n → ρ n = n
  dec : ∀ n (h : n < up.length), up[n] ≠ n → rk up[n] < rk n
  out : ∀ n, up.length ≤ n → ρ n = n
theorem Forest.root {ρ rk : Nat → Nat} {up : List Nat} (F : Forest ρ rk up) : ∀ (k n : Nat) (_ : n < up.length), rk n < k → ∃ h' : ρ n < up.length, up[ρ n] = ρ n ∧ ρ (ρ n) = ρ n
  | 0, _, _, h => by omega
  | k + 1, n, h, hk => by
    by_cases e : up[n] = n
    · have := F.fix n h e
      exact ⟨by rw [this]; exact h, by simp only [this]; exact e, by rw [this, this]⟩
    · have h1 := F.dec n h e
      obtain ⟨a, b, c⟩ := F.root k _ (F.lt n h) (by omega)
      have h2 := F.st n h
      simp only [h2] at a b c
      exact ⟨a, b, c⟩
theorem Forest.rlt {ρ rk : Nat → Nat} {up : List Nat} (F : Forest ρ rk up) {n : Nat} (h : n < up.length) : ρ n < up.length := (F.root _ n h (Nat.lt_succ_self _)).1
theorem Forest.rto {ρ rk : Nat → Nat} {up : List Nat} (F : Forest ρ rk up) {n : Nat} (h : n < up.length) : up[ρ n]'(F.rlt h) = ρ n := (F.root _ n h (Nat.lt_succ_self _)).2.1
theorem Forest.rr {ρ rk : Nat → Nat} {up : List Nat} (F : Forest ρ rk up) (n : Nat) : ρ (ρ n) = ρ n := by
  rcases Nat.lt_or_ge n up.length with h | h
  · exact (F.root _ n h (Nat.lt_succ_self _)).2.2
  · rw [F.out n h, F.out n h]
theorem Forest.halve {ρ rk : Nat → Nat} {up : List Nat} (F : Forest ρ rk up) {n : Nat} (h : n < up.length) (hn : up[n] ≠ n) : Forest ρ rk (up.set n (up[up[n]]'(F.lt n h))) := by
  have key : ∀ m (hm : m < up.length), (up.set n (up[up[n]]'(F.lt n h)))[m]'(by simpa using hm) = if m = n then up[up[n]]'(F.lt n h) else up[m] := fun m hm => by
    rw [List.getElem_set]
    by_cases e : n = m
    · subst e; simp
    · rw [if_neg e, if_neg (fun e' => e e'.symm)]
  have h1 := F.dec n h hn
  have h2 : rk (up[up[n]]'(F.lt n h)) < rk n := by
    by_cases e : up[up[n]]'(F.lt n h) = up[n]
    · rw [e]; exact h1
    · have := F.dec _ (F.lt n h) e; omega
  refine ⟨fun m hm => ?_, fun m hm => ?_, fun m hm e => ?_, fun m hm e => ?_, fun m hm => F.out m (by simpa using hm)⟩
  all_goals (try rw [List.length_set] at hm)
  all_goals (try rw [key m hm] at e)
  all_goals (try rw [key m hm])
  · rw [List.length_set]
    by_cases e : m = n
    · rw [if_pos e]; exact F.lt _ _
    · rw [if_neg e]; exact F.lt _ _
  · by_cases e : m = n
    · rw [if_pos e, e, F.st _ (F.lt n h), F.st n h]
    · rw [if_neg e]; exact F.st m hm
  · by_cases e' : m = n
    · rw [if_pos e', e'] at e
      rw [e] at h2
      omega
    · rw [if_neg e'] at e; exact F.fix m hm e
  · by_cases e' : m = n
    · rw [if_pos e', e']; exact h2
    · rw [if_neg e'] at e ⊢; exact F.dec m hm e
/-- One root leads up another. -/
def leadR (ρ : Nat → Nat) (from_ t : Nat) : Nat → Nat := fun m => bif ρ m == from_ then t else ρ m
theorem leadR_of {ρ : Nat → Nat} {f t m : Nat} (h : ρ m = f) : leadR ρ f t m = t := by simp [leadR, h]
theorem leadR_ne {ρ : Nat → Nat} {f t m : Nat} (h : ρ m ≠ f) : leadR ρ f t m = ρ m := by
  unfold leadR
  rw [show (ρ m == f) = false by simpa using h]
  rfl
theorem Forest.lead {ρ rk : Nat → Nat} {up : List Nat} (F : Forest ρ rk up) {f t : Nat} (hf : f < up.length) (ht : t < up.length) (rf : ρ f = f) (rt : ρ t = t) (hne : f ≠ t) : ∃ rk', Forest (leadR ρ f t) rk' (up.set f t) := by
  have key : ∀ m (hm : m < up.length), (up.set f t)[m]'(by simpa using hm) = if m = f then t else up[m] := fun m hm => by
    rw [List.getElem_set]
    by_cases e : f = m
    · subst e; simp
    · rw [if_neg e, if_neg (fun e' => e e'.symm)]
  have hff : up[f] = f := by have := F.rto hf; simp only [rf] at this; exact this
  have htt : up[t] = t := by have := F.rto ht; simp only [rt] at this; exact this
  have hoff : ∀ m (hm : m < up.length), m ≠ f → (ρ m = f ↔ ρ up[m] = f) := fun m hm _ => by rw [F.st m hm]
  refine ⟨fun m => if ρ m = f then rk m + rk t + 1 else rk m, fun m hm => ?_, fun m hm => ?_, fun m hm e => ?_, fun m hm e => ?_, fun m hm => ?_⟩
  all_goals (try rw [List.length_set] at hm)
  all_goals (try rw [key m hm] at e)
  all_goals (try rw [key m hm])
  · rw [List.length_set]
    by_cases e : m = f
    · rw [if_pos e]; exact ht
    · rw [if_neg e]; exact F.lt _ _
  · by_cases e : m = f
    · rw [if_pos e, leadR_of (m := m) (by rw [e, rf]), leadR_ne (by rw [rt]; exact fun e => hne e.symm), rt]
    · rw [if_neg e]
      unfold leadR
      rw [F.st m hm]
  · by_cases e' : m = f
    · rw [if_pos e'] at e
      omega
    · rw [if_neg e'] at e
      have := F.fix m hm e
      rw [leadR_ne (by rw [this]; exact e'), this]
  · by_cases e' : m = f
    · rw [if_pos e', if_neg (by rw [rt]; exact fun e => hne e.symm), if_pos (by rw [e', rf])]
      omega
    · rw [if_neg e'] at e ⊢
      have := F.dec m hm e
      have h3 := F.st m hm
      by_cases e2 : ρ m = f
      · rw [if_pos (by rw [h3]; exact e2), if_pos e2]; omega
      · rw [if_neg (by rw [h3]; exact e2), if_neg e2]; exact this
  · have := F.out m hm
    rw [leadR_ne (by rw [this]; omega), this]
theorem Forest.push {ρ rk : Nat → Nat} {up : List Nat} (F : Forest ρ rk up) : Forest ρ rk (up ++ [up.length]) := by
  have key : ∀ m (hm : m < (up ++ [up.length]).length), ((up ++ [up.length])[m] = up.length ∧ m = up.length) ∨ ∃ h : m < up.length, (up ++ [up.length])[m] = up[m] := fun m hm => by
    rw [List.length_append, List.length_singleton] at hm
    rcases Nat.lt_or_ge m up.length with h | h
    · exact .inr ⟨h, List.getElem_append_left h⟩
    · have : m = up.length := by omega
      subst this
      exact .inl ⟨by simp, rfl⟩
  refine ⟨fun m hm => ?_, fun m hm => ?_, fun m hm e => ?_, fun m hm e => ?_, fun m hm => F.out m (by simp at hm; omega)⟩
  · rcases key m hm with ⟨h, _⟩ | ⟨h, h'⟩
    · rw [h]; simp
    · rw [h']; have := F.lt m h; simp; omega
  · rcases key m hm with ⟨h, h'⟩ | ⟨h, h'⟩
    · rw [h, h']
    · rw [h']; exact F.st m h
  · rcases key m hm with ⟨h, h'⟩ | ⟨h, h'⟩
    · exact F.out m (by omega)
    · rw [h'] at e; exact F.fix m h e
  · rcases key m hm with ⟨h, h'⟩ | ⟨h, h'⟩
    · exact absurd (by rw [h, h']) e
    · rw [h'] at e ⊢; exact F.dec m h e
theorem Forest.take {ρ rk : Nat → Nat} {up : List Nat} (F : Forest ρ rk up) {k : Nat} (hk : k ≤ up.length) (ho : ∀ n, k ≤ n → ρ n = n) (hi : ∀ n, n < k → ρ n < k) : Forest ρ rk (up.take k) := by
  have hl : (up.take k).length = k := by simp; omega
  refine ⟨fun m hm => ?_, fun m hm => ?_, fun m hm e => ?_, fun m hm e => ?_, fun m hm => ho m (by omega)⟩
  all_goals rw [hl] at hm
  all_goals (try simp only [List.getElem_take] at e)
  all_goals (try simp only [List.getElem_take])
  · refine Nat.lt_of_lt_of_eq ?_ hl.symm
    rcases Nat.lt_or_ge (up[m]'(by omega)) k with h | h
    · exact h
    · have h1 := ho _ h
      have h2 := F.st m (by omega)
      have h3 := hi m hm
      omega
  · exact F.st m (by omega)
  · exact F.fix m (by omega) e
  · exact F.dec m (by omega) e

/-! ### Terms -/
abbrev Tm := ByteArray × List Nat
structure WF (ts : List Tm) : Prop where
  low : ∀ i (h : i < ts.length), ∀ a ∈ ts[i].2, a < i
  many : ∀ i (h : i < ts.length), ts[i].2.length ≤ 2048
  name : ∀ i (h : i < ts.length), ts[i].1.size ≤ maxLen
  var : ∀ i (h : i < ts.length), pfx ts[i].1 = true → ts[i].2 = []
  one : ∀ i j (h : i < ts.length) (h' : j < ts.length), pfx ts[i].1 = true → ts[i].1 = ts[j].1 → i = j
/-- The number of a variable. -/
def vidx (ts : List Tm) (s : ByteArray) : Option Nat := ts.findIdx? fun t => pfx t.1 && decide (t.1 = s)
theorem vidx_some {ts : List Tm} {s : ByteArray} {i : Nat} (h : vidx ts s = some i) : ∃ hi : i < ts.length, pfx ts[i].1 = true ∧ ts[i].1 = s := by
  obtain ⟨hi, he, _⟩ := List.findIdx?_eq_some_iff_getElem.1 h
  simp at he
  exact ⟨hi, he.1, he.2⟩
theorem vidx_none {ts : List Tm} {s : ByteArray} (h : vidx ts s = none) (i : Nat) (hi : i < ts.length) : pfx ts[i].1 = true → ts[i].1 ≠ s := fun hp => by
  have := List.findIdx?_eq_none_iff.1 h ts[i] (List.getElem_mem hi)
  simp [hp] at this
  exact this
theorem vidx_of {ts : List Tm} (hw : WF ts) {i : Nat} (hi : i < ts.length) (hp : pfx ts[i].1 = true) : vidx ts ts[i].1 = some i := by
  cases h : vidx ts ts[i].1 with
  | none => exact absurd rfl (vidx_none h i hi hp)
  | some j =>
    obtain ⟨hj, h1, h2⟩ := vidx_some h
    rw [hw.one j i hj hi h1 h2]
/-- A mark that nothing contains what a term leads up: where it is not set. -/
def InsOk (ρ : Nat → Nat) (ts : List Tm) (ins : List Bool) : Prop := ins.length = ts.length ∧ ∀ i (h : i < ts.length), ∀ a ∈ ts[i].2, ins[ρ a]? = some true
end Un
end Go.Proofs.YtfhjfhbfgndheaaDoor
