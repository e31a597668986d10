/- Plain: how bytes stand; of unlike numbers, counts, texts the lesser one has the lesser bytes. No program is spoken of. -/
import Derived.Test.YtlhkjmckigblpaaGreatDoorCa
namespace Go.Proofs.YtlhkjmckigblpaaGreatDoor
namespace Cp

/-- Does one list of bytes come ahead of another? -/
def ltB : List UInt8 → List UInt8 → Bool
  | [], [] => false
  | [], _ :: _ => true
  | _ :: _, [] => false
  | x :: a, y :: b => if x.toNat < y.toNat then true else if y.toNat < x.toNat then false else ltB a b
theorem ltB_self : ∀ a : List UInt8, ltB a a = false
  | [] => rfl
  | x :: a => by rw [ltB, if_neg (by omega), if_neg (by omega), ltB_self a]
theorem ltB_app : ∀ (c a b : List UInt8), ltB (c ++ a) (c ++ b) = ltB a b
  | [], _, _ => rfl
  | x :: c, a, b => by rw [List.cons_append, List.cons_append, ltB, if_neg (by omega), if_neg (by omega), ltB_app c a b]
/-- They part at a byte; the first one is the lesser there, or not. -/
def Diff (a b : List UInt8) (r : Bool) : Prop := ∃ c x y a' b', a = c ++ x :: a' ∧ b = c ++ y :: b' ∧ x.toNat ≠ y.toNat ∧ r = decide (x.toNat < y.toNat)
theorem Diff.lt {a b : List UInt8} {r : Bool} (h : Diff a b r) (u v : List UInt8) : ltB (a ++ u) (b ++ v) = r := by
  obtain ⟨c, x, y, a', b', rfl, rfl, hne, rfl⟩ := h
  rw [List.append_assoc, List.append_assoc, ltB_app, List.cons_append, List.cons_append, ltB]
  by_cases h1 : x.toNat < y.toNat
  · rw [if_pos h1]; simp [h1]
  · rw [if_neg h1, if_pos (by omega)]; simp [h1]
theorem Diff.symm {a b : List UInt8} {r : Bool} (h : Diff a b r) : Diff b a (!r) := by
  obtain ⟨c, x, y, a', b', rfl, rfl, hne, rfl⟩ := h
  refine ⟨c, y, x, b', a', rfl, rfl, fun e => hne e.symm, ?_⟩
  by_cases h1 : x.toNat < y.toNat
  · rw [decide_eq_true h1, decide_eq_false (by omega)]; rfl
  · rw [decide_eq_false h1, decide_eq_true (by omega)]; rfl
theorem Diff.cons {a b : List UInt8} {r : Bool} (h : Diff a b r) (z : UInt8) : Diff (z :: a) (z :: b) r := by
  obtain ⟨c, x, y, a', b', rfl, rfl, hne, hr⟩ := h
  exact ⟨z :: c, x, y, a', b', rfl, rfl, hne, hr⟩
theorem Diff.head {x y : UInt8} (a b : List UInt8) (h : x.toNat ≠ y.toNat) : Diff (x :: a) (y :: b) (decide (x.toNat < y.toNat)) := ⟨[], x, y, a, b, rfl, rfl, h, rfl⟩
theorem flip_fin : ∀ n : Fin 256, (UInt8.ofNat n.val ^^^ 255).toNat = 255 - n.val := by decide +kernel
theorem flip_of (x : UInt8) : (x ^^^ 255).toNat = 255 - x.toNat := by
  have := flip_fin ⟨x.toNat, x.toNat_lt⟩
  simpa using this
theorem Diff.comp {a b : List UInt8} {r : Bool} (h : Diff a b r) : Diff (comp a) (comp b) (!r) := by
  obtain ⟨c, x, y, a', b', rfl, rfl, hne, rfl⟩ := h
  have hx := x.toNat_lt; have hy := y.toNat_lt
  refine ⟨Cp.comp c, x ^^^ 255, y ^^^ 255, Cp.comp a', Cp.comp b', by simp [Cp.comp], by simp [Cp.comp], ?_, ?_⟩
  · rw [flip_of, flip_of]; omega
  · rw [flip_of, flip_of]
    by_cases h1 : x.toNat < y.toNat
    · rw [decide_eq_true h1, decide_eq_false (by omega)]; rfl
    · rw [decide_eq_false h1, decide_eq_true (by omega)]; rfl

theorem be_diff : ∀ (k n m : Nat), n % 256 ^ k < m % 256 ^ k → Diff (be k n) (be k m) true
  | 0, n, m, h => by rw [Nat.pow_zero, Nat.mod_one, Nat.mod_one] at h; omega
  | k + 1, n, m, h => by
    have hp : 0 < 256 ^ k := Nat.pow_pos (by decide)
    rw [Nat.pow_succ, Nat.mod_mul, Nat.mod_mul] at h
    rw [be, be]
    have e1 : (UInt8.ofNat (n / 256 ^ k)).toNat = n / 256 ^ k % 256 := UInt8.toNat_ofNat'
    have e2 : (UInt8.ofNat (m / 256 ^ k)).toNat = m / 256 ^ k % 256 := UInt8.toNat_ofNat'
    have l1 : n % 256 ^ k < 256 ^ k := Nat.mod_lt _ hp
    have l2 : m % 256 ^ k < 256 ^ k := Nat.mod_lt _ hp
    by_cases hd : n / 256 ^ k % 256 = m / 256 ^ k % 256
    · have hu : UInt8.ofNat (n / 256 ^ k) = UInt8.ofNat (m / 256 ^ k) := UInt8.toNat_inj.1 (by rw [e1, e2, hd])
      rw [hu]
      rw [hd] at h
      exact (be_diff k n m (by omega)).cons _
    · have hlt : n / 256 ^ k % 256 < m / 256 ^ k % 256 := by
        rcases Nat.lt_or_ge (n / 256 ^ k % 256) (m / 256 ^ k % 256) with h1 | h1
        · exact h1
        · exfalso
          have h2 : m / 256 ^ k % 256 + 1 ≤ n / 256 ^ k % 256 := by omega
          have h3 := Nat.mul_le_mul_left (256 ^ k) h2
          rw [Nat.mul_add, Nat.mul_one] at h3
          omega
      have := Diff.head (be k n) (be k m) (x := UInt8.ofNat (n / 256 ^ k)) (y := UInt8.ofNat (m / 256 ^ k)) (by rw [e1, e2]; exact hd)
      rw [e1, e2, decide_eq_true hlt] at this
      exact this
theorem pow_mono2 {a b : Nat} (h : a ≤ b) : (256 : Nat) ^ a ≤ 256 ^ b := Nat.pow_le_pow_right (by decide) h
theorem osz_mono2 {a b : Nat} (h : a ≤ b) (hb : b < 18446744073709551616) : osz a ≤ osz b := by
  by_cases h0 : a = 0
  · subst h0; rw [osz_zero]; omega
  · have h1 := osz_ge (n := a) (by omega) h0
    have h2 := osz_lt (n := b) hb
    rcases Nat.lt_or_ge (osz b) (osz a) with h3 | h3
    · exfalso
      have := pow_mono2 (show osz b ≤ osz a - 1 by omega)
      omega
    · exact h3
theorem own_diff {base n m : Nat} (hb : base ≤ 128) (h : n < m) (hm : m < 18446744073709551616) : Diff (own base n) (own base m) true := by
  have h1 := osz_mono2 (Nat.le_of_lt h) hm
  have h8 := osz_le hm
  rw [own, own]
  by_cases he : osz n = osz m
  · rw [he]
    have l1 := osz_lt (n := n) (by omega)
    have l2 := osz_lt hm
    rw [he] at l1
    exact (be_diff _ n m (by rw [Nat.mod_eq_of_lt l1, Nat.mod_eq_of_lt l2]; exact h)).cons _
  · have e1 : (UInt8.ofNat (base + osz n)).toNat = base + osz n := by rw [UInt8.toNat_ofNat']; omega
    have e2 : (UInt8.ofNat (base + osz m)).toNat = base + osz m := by rw [UInt8.toNat_ofNat']; omega
    have := Diff.head (be (osz n) n) (be (osz m) m) (x := UInt8.ofNat (base + osz n)) (y := UInt8.ofNat (base + osz m)) (by rw [e1, e2]; omega)
    rw [e1, e2, decide_eq_true (by omega)] at this
    exact this
theorem num_less {n m : Int} (h : n < m) (h0 : -9223372036854775808 ≤ n) (h1 : m ≤ 9223372036854775807) : Diff (numB n) (numB m) true := by
  unfold numB
  by_cases hn : 0 ≤ n
  · rw [if_pos hn, if_pos (by omega)]
    exact own_diff (by decide) (by omega) (by omega)
  · rw [if_neg hn]
    by_cases hm : 0 ≤ m
    · rw [if_pos hm, own, own]
      have k1 := osz_le (n := (-1 - n).toNat) (by omega)
      have k2 := osz_le (n := m.toNat) (by omega)
      have e1 : (UInt8.ofNat (128 + osz (-1 - n).toNat) ^^^ 255).toNat = 127 - osz (-1 - n).toNat := by
        rw [flip_of, UInt8.toNat_ofNat']; omega
      have e2 : (UInt8.ofNat (128 + osz m.toNat)).toNat = 128 + osz m.toNat := by rw [UInt8.toNat_ofNat']; omega
      have := Diff.head (comp (be (osz (-1 - n).toNat) (-1 - n).toNat)) (be (osz m.toNat) m.toNat) (x := UInt8.ofNat (128 + osz (-1 - n).toNat) ^^^ 255) (y := UInt8.ofNat (128 + osz m.toNat)) (by rw [e1, e2]; omega)
      rw [e1, e2, decide_eq_true (by omega)] at this
      exact this
    · rw [if_neg hm]
      exact (own_diff (base := 128) (n := (-1 - m).toNat) (m := (-1 - n).toNat) (by decide) (by omega) (by omega)).symm.comp
theorem num_diff {n m : Int} (h : n ≠ m) (hn : -9223372036854775808 ≤ n ∧ n ≤ 9223372036854775807) (hm : -9223372036854775808 ≤ m ∧ m ≤ 9223372036854775807) : Diff (numB n) (numB m) (decide (n < m)) := by
  by_cases hl : n < m
  · rw [decide_eq_true hl]; exact num_less hl hn.1 hm.2
  · rw [decide_eq_false hl]; exact (num_less (show m < n by omega) hm.1 hn.2).symm
theorem cnt_diff {n m : Nat} (h : n ≠ m) (hn : n ≤ 2147483647) (hm : m ≤ 2147483647) : Diff (cntB (n : Int)) (cntB (m : Int)) (decide ((n : Int) < (m : Int))) := by
  unfold cntB
  rw [if_pos ⟨by omega, by omega⟩, if_pos ⟨by omega, by omega⟩, Int.toNat_natCast, Int.toNat_natCast]
  by_cases hl : n < m
  · rw [decide_eq_true (by omega)]; exact own_diff (by decide) hl (by omega)
  · rw [decide_eq_false (by omega)]; exact (own_diff (by decide) (show m < n by omega) (by omega)).symm
theorem u8_ne {x : UInt8} (h : x ≠ 0) : x.toNat ≠ 0 := fun e => h (UInt8.toNat_inj.1 (by rw [e]; rfl))
theorem str_diff : ∀ (s t : List UInt8), s ≠ t → Diff (strB s) (strB t) (ltB s t)
  | [], [], h => absurd rfl h
  | [], y :: t, _ => by
    unfold strB
    rw [esc, esc, ltB]
    by_cases hy : y = 0
    · rw [if_pos hy]
      exact ⟨[0], 0, 255, [], esc t ++ [0, 0], rfl, rfl, by decide, by decide⟩
    · rw [if_neg hy]
      exact ⟨[], 0, y, [0], esc t ++ [0, 0], rfl, rfl, fun e => u8_ne hy e.symm, by rw [decide_eq_true]; show 0 < y.toNat; have := u8_ne hy; omega⟩
  | x :: s, [], _ => by
    have h : Diff (strB []) (strB (x :: s)) true := by
      unfold strB
      rw [esc, esc]
      by_cases hx : x = 0
      · rw [if_pos hx]
        exact ⟨[0], 0, 255, [], esc s ++ [0, 0], rfl, rfl, by decide, by decide⟩
      · rw [if_neg hx]
        exact ⟨[], 0, x, [0], esc s ++ [0, 0], rfl, rfl, fun e => u8_ne hx e.symm, by rw [decide_eq_true]; show 0 < x.toNat; have := u8_ne hx; omega⟩
    exact h.symm
  | x :: s, y :: t, h => by
    by_cases hxy : x = y
    · subst hxy
      have hst : s ≠ t := fun e => h (by rw [e])
      have ih := str_diff s t hst
      unfold strB at ih ⊢
      rw [ltB, if_neg (by omega), if_neg (by omega), esc, esc]
      by_cases hx : x = 0
      · rw [if_pos hx, if_pos hx]
        exact (ih.cons 255).cons 0
      · rw [if_neg hx, if_neg hx]
        exact ih.cons x
    · have hne : x.toNat ≠ y.toNat := fun e => hxy (UInt8.toNat_inj.1 e)
      have hl : ltB (x :: s) (y :: t) = decide (x.toNat < y.toNat) := by
        rw [ltB]
        by_cases h1 : x.toNat < y.toNat
        · rw [if_pos h1, decide_eq_true h1]
        · rw [if_neg h1, if_pos (by omega), decide_eq_false h1]
      rw [hl]
      have hd : ∀ (z : UInt8) (r : List UInt8), ∃ q, strB (z :: r) = z :: q := fun z r => by
        unfold strB
        rw [esc]
        by_cases hz : z = 0
        · rw [if_pos hz]; exact ⟨255 :: (esc r ++ [0, 0]), by rw [hz]; rfl⟩
        · rw [if_neg hz]; exact ⟨_, rfl⟩
      obtain ⟨q1, e1⟩ := hd x s
      obtain ⟨q2, e2⟩ := hd y t
      rw [e1, e2]
      exact Diff.head q1 q2 hne
end Cp
end Go.Proofs.YtlhkjmckigblpaaGreatDoor
