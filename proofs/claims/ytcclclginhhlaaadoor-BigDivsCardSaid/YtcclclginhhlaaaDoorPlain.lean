/- Plain facts on texts of digits: no program is spoken of. -/
import Derived.Lib.Hide
namespace Go.Proofs.YtcclclginhhlaaaDoor
namespace Pl

def isDig (c : UInt8) : Bool := decide (48 ≤ c.toNat ∧ c.toNat ≤ 57)
def mag (l : List UInt8) : List UInt8 := if l.head? = some 45 then l.tail else l
def chk (l : List UInt8) : Int :=
  if mag l = [] then 4 else if (mag l).head? = some 48 ∧ l ≠ [48] then 4 else if (mag l).all isDig = false then 4 else if 200 < (mag l).length then 80 else 0

theorem chk_nil {l : List UInt8} (h : mag l = []) : chk l = 4 := by simp [chk, h]
theorem chk_zero {l : List UInt8} (h : (mag l).head? = some 48) (h2 : l ≠ [48]) : chk l = 4 := by
  unfold chk; split
  · rfl
  · rw [if_pos ⟨h, h2⟩]
theorem chk_bad {l : List UInt8} (h : (mag l).all isDig = false) : chk l = 4 := by
  unfold chk; simp [h]
theorem chk_end {l : List UInt8} (h1 : mag l ≠ []) (h2 : ¬ ((mag l).head? = some 48 ∧ l ≠ [48])) (h3 : (mag l).all isDig = true) :
    chk l = if 200 < (mag l).length then 80 else 0 := by
  unfold chk; rw [if_neg h1, if_neg h2, if_neg (by simp [h3])]
theorem all_take_snoc {p : UInt8 → Bool} {l : List UInt8} {k : Nat} (hk : k < l.length) (h : (l.take k).all p = true) (hc : p l[k] = true) : (l.take (k + 1)).all p = true := by
  rw [List.take_succ_eq_append_getElem hk, List.all_append, h]; simp [hc]
theorem all_bad {p : UInt8 → Bool} {l : List UInt8} {k : Nat} (hk : k < l.length) (hc : p l[k] = false) : l.all p = false := by
  rw [List.all_eq_false]; exact ⟨l[k], List.getElem_mem hk, by simp [hc]⟩
end Pl
end Go.Proofs.YtcclclginhhlaaaDoor
