/- Skw: an operation that all from place m on wait for: reckoned once for each operation. -/
import Derived.Test.YtfhjfhbfgndheaaDoorYm
namespace Go.Proofs.YtfhjfhbfgndheaaDoor
open Go.RowKit Go.Shelf
open Go
theorem op_guard {P : Program} {dst : Option Tmp} {op : Op} {ty : TypeId} {pos : String} {after : Array Edge} {g : Option (Tmp × Bool)} {a : Act} {w : World} {K : Act → World → Prop} {Q : Exit → Act → World → Prop}
    (h : Oper.wp P { dst, op, type := ty, pos, after, guard := none } a w K Q) : Oper.wp P { dst, op, type := ty, pos, after, guard := g } a w K Q := h
/-- Which of the first k operations wait for i, as the bits of a number. -/
def maskR (md : Region.Mode) (ops : Array Oper) (i : Nat) : Nat → Nat
  | 0 => 0
  | k + 1 => bif (k == i || (match ops[k]? with | some ok => ok.after.any fun e => Region.binds md e && (maskR md ops i k).testBit e.on | none => false)) then maskR md ops i k ||| 2 ^ k else maskR md ops i k
def waitsD (md : Region.Mode) (ops : Array Oper) (m i : Nat) : Bool := decide (m ≤ ops.size) && (maskR md ops i ops.size >>> m == 2 ^ (ops.size - m) - 1)
theorem maskR_reach {md : Region.Mode} {ops : Array Oper} {i : Nat} : ∀ (k j : Nat), (maskR md ops i k).testBit j = true → j < k ∧ ∀ f, j ≤ f → reachB md ops i f j = true
  | 0, j, h => by simp [maskR] at h
  | k + 1, j, h => by
    unfold maskR at h
    cases hc : (k == i || (match ops[k]? with | some ok => ok.after.any fun e => Region.binds md e && (maskR md ops i k).testBit e.on | none => false)) with
    | false =>
      rw [hc, cond_false] at h
      have := maskR_reach k j h
      exact ⟨by omega, this.2⟩
    | true =>
      rw [hc, cond_true, Nat.testBit_or, Bool.or_eq_true] at h
      rcases h with h | h
      · have := maskR_reach k j h
        exact ⟨by omega, this.2⟩
      · rw [Nat.testBit_two_pow, decide_eq_true_eq] at h
        subst h
        refine ⟨by omega, fun f hf => ?_⟩
        rw [Bool.or_eq_true] at hc
        rcases hc with hc | hc
        · rw [beq_iff_eq] at hc
          subst hc
          cases f <;> simp [reachB]
        · cases ho : ops[k]? with
          | none => simp [ho] at hc
          | some ok =>
            simp only [ho] at hc
            obtain ⟨e, he, hb⟩ := Array.any_eq_true'.1 hc
            rw [Bool.and_eq_true] at hb
            have hr := maskR_reach k e.on hb.2
            cases f with
            | zero => omega
            | succ f =>
              unfold reachB
              rw [Bool.or_eq_true]
              refine .inr ?_
              simp only [ho]
              exact Array.any_eq_true'.2 ⟨e, he, by rw [hb.1, hr.2 f (by omega)]; rfl⟩
theorem waits_of_D {md : Region.Mode} {ops : Array Oper} {m i : Nat} (h : waitsD md ops m i = true) : waitsT md ops m i = true := by
  unfold waitsD at h
  rw [Bool.and_eq_true, decide_eq_true_eq, beq_iff_eq] at h
  unfold waitsT
  rw [List.all_eq_true]
  intro j hj
  have hj' := List.mem_range.1 hj
  rw [Bool.or_eq_true, decide_eq_true_eq]
  rcases Nat.lt_or_ge j m with hm | hm
  · exact .inl hm
  · refine .inr ?_
    have hb : (maskR md ops i ops.size).testBit j = true := by
      have h1 : (maskR md ops i ops.size >>> m).testBit (j - m) = true := by
        rw [h.2, Nat.testBit_two_pow_sub_one, decide_eq_true_eq]
        omega
      rw [Nat.testBit_shiftRight] at h1
      rwa [show m + (j - m) = j by omega] at h1
    exact (maskR_reach _ _ hb).2 _ (by omega)
theorem T_takeD {P : Program} {ops : Array Oper} {Q : Exit → Act → World → Prop} {md : Region.Mode} {S : World → Prop} {m : Nat} {i : Nat} {oi : Oper} {v : Value} {fuel : Nat} {listed : Array Bool} {a : Act} {w : World} (hi : ops[i]? = some oi)
    (hB : (decide (i < m) && Region.noSelect ops && Region.free md ops listed i && (Region.ready md ops listed).contains i && waitsD md ops m i && closedB md ops listed) = true)
    (hQ : ∀ c a w, Q (.panic c) (a.put oi.dst v) w → Q (.panic c) a w) (hw : Region.wanted oi (yielded ops a.tmps) = true) (hy : ∀ w, S w → (execOp a.eval oi).run P w = .ok (.value v) w) (hS : S w)
    (h : wpAnyT P md ops Q S m fuel (listed.setIfInBounds i true) (a.put oi.dst v) w) : wpAnyT P md ops Q S m (fuel + 1) listed a w := by
  refine T_take hi ?_ hQ hw hy hS h
  simp only [Bool.and_eq_true] at hB ⊢
  exact ⟨⟨hB.1.1, waits_of_D hB.1.2⟩, hB.2⟩
end Go.Proofs.YtfhjfhbfgndheaaDoor
