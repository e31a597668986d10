/- Package unify: names of numbers. -/
import Derived.Test.YtfhjfhbfgndheaaDoorOa
import Derived.Test.YtfhjfhbfgndheaaDoorFa
namespace Go.Proofs.YtfhjfhbfgndheaaDoor
open Go
/-! ### Names of numbers -/
theorem parse_dec : ∀ (u acc : Nat), acc * 10 ^ (Lib.nDigits u) + u < 18446744073709551616 → ∀ r, Lib.parseUint10 acc (Lib.decDigits u ++ r) = Lib.parseUint10 (acc * 10 ^ (Lib.nDigits u) + u) r := by
  intro u
  induction u using Nat.strongRecOn with
  | ind u ih =>
    intro acc hlt r
    rw [Lib.decDigits]
    by_cases h : u < 10
    · rw [dif_pos h]
      rw [Lib.nDigits_small h] at hlt ⊢
      rw [List.singleton_append, Lib.parseUint10]
      have hb : (UInt8.ofNat (48 + u)).toNat = 48 + u := by
        rw [UInt8.toNat_ofNat']
        omega
      rw [hb, if_pos (by omega), if_neg (by omega), if_neg (by omega), show 48 + u - 48 = u by omega]
    · rw [dif_neg h]
      rw [Lib.nDigits_big h] at hlt ⊢
      have e : acc * 10 ^ (Lib.nDigits (u / 10) + 1) = acc * 10 ^ Lib.nDigits (u / 10) * 10 := by rw [Nat.pow_succ, Nat.mul_assoc]
      rw [e] at hlt ⊢
      rw [List.append_assoc, ih (u / 10) (by omega) acc (by omega), List.singleton_append, Lib.parseUint10]
      have hb : (UInt8.ofNat (48 + u % 10)).toNat = 48 + u % 10 := by
        rw [UInt8.toNat_ofNat']
        omega
      rw [hb, if_pos (by omega), if_neg (by omega), if_neg (by omega)]
      congr 1
      omega
theorem dec_head (u : Nat) : ∃ c r, Lib.decDigits u = c :: r ∧ 48 ≤ c.toNat ∧ c.toNat ≤ 57 := by
  induction u using Nat.strongRecOn with
  | ind u ih =>
    rw [Lib.decDigits]
    by_cases h : u < 10
    · rw [dif_pos h]
      refine ⟨_, [], rfl, ?_⟩
      rw [UInt8.toNat_ofNat']
      omega
    · rw [dif_neg h]
      obtain ⟨c, r, e, h1⟩ := ih (u / 10) (by omega)
      rw [e]
      exact ⟨c, _, rfl, h1⟩
theorem atoi_itoa (k : Int) (h0 : 0 ≤ k) (h1 : k < 9223372036854775808) : Lib.atoiAll (Lib.itoa k) = .ok k := by
  obtain ⟨u, rfl⟩ := Int.eq_ofNat_of_zero_le h0
  unfold Lib.itoa
  rw [if_neg (by omega)]
  rw [Int.toNat_natCast]
  obtain ⟨c, r, e, h2⟩ := dec_head u
  have hp := parse_dec u 0 (by omega) []
  rw [List.append_nil, e] at hp
  rw [e]
  unfold Lib.atoiAll
  have n1 : ¬ (c.toNat = 43 ∨ c.toNat = 45) := by omega
  have n2 : ¬ c.toNat = 45 := by omega
  simp only [if_neg n1]
  unfold Lib.parseMag
  rw [if_neg (by simp), hp]
  simp only [Lib.parseUint10, Nat.zero_mul, Nat.zero_add]
  rw [if_neg (by omega), if_neg (by simp [n2]), if_neg n2]
theorem newNm_drop (k : Int) : (newNm k).data.toList = 39 :: Lib.itoa k := by
  unfold newNm
  simp [ByteArray.data_append]
theorem atoiN_newNm (k : Int) (h0 : 0 ≤ k) (h1 : k < 9223372036854775808) : atoiN (newNm k) = k := by
  unfold atoiN
  rw [newNm_drop, List.drop_succ_cons, List.drop_zero, atoi_itoa k h0 h1]
end Go.Proofs.YtfhjfhbfgndheaaDoor
