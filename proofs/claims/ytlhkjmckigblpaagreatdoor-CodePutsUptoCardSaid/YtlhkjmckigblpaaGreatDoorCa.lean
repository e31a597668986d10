/- Plain: numbers, counts, texts as bytes. No program is spoken of. -/
import Derived.Lib.BitFns
import Derived.Lib.Hide
namespace Go.Proofs.YtlhkjmckigblpaaGreatDoor
namespace Cp

/-! ### Own bytes -/
/-- How many own bytes a number has. -/
def osz (n : Nat) : Nat := (Lib.bitLen n + 7) / 8
/-- The last k bytes of a number, the greatest first. -/
def be : Nat → Nat → List UInt8
  | 0, _ => []
  | k + 1, n => UInt8.ofNat (n / 256 ^ k) :: be k n
theorem be_len : ∀ k n, (be k n).length = k
  | 0, _ => rfl
  | k + 1, n => by rw [be, List.length_cons, be_len k n]
/-- How many own bytes, added to a base, and these. -/
def own (base n : Nat) : List UInt8 := UInt8.ofNat (base + osz n) :: be (osz n) n
theorem bl_fin : ∀ n : Fin 256, n.val ≠ 0 → 1 ≤ Lib.bitLen n.val ∧ Lib.bitLen n.val ≤ 8 := by decide +kernel
theorem osz_zero : osz 0 = 0 := by decide +kernel
theorem osz_step {n : Nat} (h0 : n ≠ 0) (h : n < 18446744073709551616) : osz n = 1 + osz (n / 256) := by
  unfold osz
  by_cases h2 : 256 ≤ n
  · rw [Lib.bitLen_shift8 n h2 h]; omega
  · have h3 := bl_fin ⟨n, by omega⟩ h0
    simp only at h3
    have h4 : n / 256 = 0 := by omega
    have h5 : Lib.bitLen 0 = 0 := by decide +kernel
    rw [h4, h5]; omega
theorem mul_key1 {n p : Nat} (hp : n / 256 < p) : n < p * 256 := by omega
theorem mul_key2 {n p : Nat} (hp : p ≤ n / 256) : p * 256 ≤ n := by omega
theorem osz_bd : ∀ (k n : Nat), n < 256 ^ k → n < 18446744073709551616 → osz n ≤ k ∧ n < 256 ^ osz n ∧ (n ≠ 0 → 256 ^ (osz n - 1) ≤ n)
  | 0, n, h, _ => by
    obtain rfl : n = 0 := by simpa using h
    rw [osz_zero]; exact ⟨Nat.le_refl _, by decide, fun h => absurd rfl h⟩
  | k + 1, n, h, hn => by
    by_cases h0 : n = 0
    · subst h0; rw [osz_zero]; exact ⟨by omega, by decide, fun h => absurd rfl h⟩
    · rw [Nat.pow_succ] at h
      obtain ⟨i1, i2, i3⟩ := osz_bd k (n / 256) (by omega) (by omega)
      rw [osz_step h0 hn]
      clear hn
      refine ⟨by omega, ?_, fun _ => ?_⟩
      · rw [Nat.add_comm, Nat.pow_succ]; exact mul_key1 i2
      · rw [Nat.add_sub_cancel_left]
        by_cases h1 : n / 256 = 0
        · rw [h1, osz_zero]; simp; omega
        · have := i3 h1
          have h3 : osz (n / 256) = (osz (n / 256) - 1) + 1 := by
            have : osz (n / 256) ≠ 0 := fun e => by rw [e] at i2; simp at i2; omega
            omega
          rw [h3, Nat.pow_succ]; exact mul_key2 this
theorem pow8 : (256 : Nat) ^ 8 = 18446744073709551616 := by decide +kernel
theorem osz_le {n : Nat} (h : n < 18446744073709551616) : osz n ≤ 8 := (osz_bd 8 n (by rw [pow8]; exact h) h).1
theorem osz_lt {n : Nat} (h : n < 18446744073709551616) : n < 256 ^ osz n := (osz_bd 8 n (by rw [pow8]; exact h) h).2.1
theorem osz_ge {n : Nat} (h : n < 18446744073709551616) (h0 : n ≠ 0) : 256 ^ (osz n - 1) ≤ n := (osz_bd 8 n (by rw [pow8]; exact h) h).2.2 h0
theorem own_len (base n : Nat) : (own base n).length = osz n + 1 := by rw [own, List.length_cons, be_len]
/-- The other bytes. -/
def comp (l : List UInt8) : List UInt8 := l.map fun c => c ^^^ 255
/-- A number's bytes. -/
def numB (n : Int) : List UInt8 := if 0 ≤ n then own 128 n.toNat else comp (own 128 (-1 - n).toNat)
/-- A count's bytes. -/
def cntB (n : Int) : List UInt8 := if 0 ≤ n ∧ n ≤ 2147483647 then own 0 n.toNat else []
/-- A text's bytes. -/
def esc : List UInt8 → List UInt8
  | [] => []
  | c :: l => if c = 0 then 0 :: 255 :: esc l else c :: esc l
def strB (s : List UInt8) : List UInt8 := esc s ++ [0, 0]
end Cp
end Go.Proofs.YtlhkjmckigblpaaGreatDoor
