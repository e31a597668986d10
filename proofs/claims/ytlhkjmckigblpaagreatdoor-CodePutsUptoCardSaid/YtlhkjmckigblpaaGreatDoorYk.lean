/- Plain: the bytes of two numbers' texts stand as the numbers do. No program is spoken of. -/
import Derived.Test.YtlhkjmckigblpaaGreatDoorVo
import Derived.Test.YtlhkjmckigblpaaGreatDoorYa
import Derived.Test.YtlhkjmckigblpaaGreatDoorCn
namespace Go.Proofs.YtlhkjmckigblpaaGreatDoor
open Vp
namespace Cp

theorem Diff.app {a b : List UInt8} {r : Bool} (h : Diff a b r) (u v : List UInt8) : Diff (a ++ u) (b ++ v) r := by
  obtain ⟨c, x, y, a', b', rfl, rfl, hne, hr⟩ := h
  exact ⟨c, x, y, a' ++ u, b' ++ v, by simp, by simp, hne, hr⟩
theorem Diff.pre {a b : List UInt8} {r : Bool} (h : Diff a b r) (d : List UInt8) : Diff (d ++ a) (d ++ b) r := by
  obtain ⟨c, x, y, a', b', rfl, rfl, hne, hr⟩ := h
  exact ⟨d ++ c, x, y, a', b', by simp, by simp, hne, hr⟩
theorem cb_lt : ∀ a b : List UInt8, (Lib.compareBytes a b = 0 → a = b) ∧ decide (Lib.compareBytes a b < 0) = ltB a b
  | [], [] => ⟨fun _ => rfl, rfl⟩
  | [], _ :: _ => ⟨fun h => absurd h (by simp [Lib.compareBytes]), rfl⟩
  | _ :: _, [] => ⟨fun h => absurd h (by simp [Lib.compareBytes]), rfl⟩
  | x :: a, y :: b => by
    obtain ⟨i1, i2⟩ := cb_lt a b
    rw [Lib.compareBytes, ltB]
    simp only [UInt8.lt_iff_toNat_lt]
    by_cases h1 : x.toNat < y.toNat
    · rw [if_pos h1, if_pos h1]; exact ⟨fun h => absurd h (by decide), rfl⟩
    · rw [if_neg h1, if_neg h1]
      by_cases h2 : y.toNat < x.toNat
      · rw [if_pos h2, if_pos h2]; exact ⟨fun h => absurd h (by decide), rfl⟩
      · rw [if_neg h2, if_neg h2]
        have : x = y := UInt8.toNat_inj.1 (by omega)
        exact ⟨fun h => by rw [this, i1 h], i2⟩
theorem cb_self : ∀ a : List UInt8, Lib.compareBytes a a = 0
  | [] => rfl
  | x :: a => by rw [Lib.compareBytes, if_neg (UInt8.lt_irrefl x), if_neg (UInt8.lt_irrefl x), cb_self a]
/-- What an order of numbers' texts must be, that the bytes stand so. -/
def BigDiff (zc : List UInt8 → List UInt8 → Int) : Prop := ∀ a b, Pl.chk a = 0 → Pl.chk b = 0 → (zc a b = 0 → a = b) ∧ (zc a b ≠ 0 → Diff (bigB a) (bigB b) (decide (zc a b < 0)))
/-- A value that may be. -/
inductive OkE : V → Prop
  | mk {k : Nat} {n : Int} {s : ByteArray} {l : List V} (h1 : 1 ≤ k) (h2 : k ≤ 6) (hn : -9223372036854775808 ≤ n ∧ n ≤ 9223372036854775807) (h3 : k = 1 → n = 0 ∨ n = 1) (h4 : k = 3 → Pl.chk s.data.toList = 0) (h5 : k = 4 → l = []) (h6 : k = 5 → s.data.toList = [])
      (hl : ∀ x ∈ l, OkE x) : OkE (.mk k n s l)
theorem cmpI_zero {a b : Int} (h : cmpI a b = 0) : a = b := by
  unfold cmpI at h
  split at h
  · cases h
  · split at h
    · cases h
    · omega
theorem cmpI_lt (a b : Int) : decide (cmpI a b < 0) = decide (a < b) := by
  unfold cmpI
  by_cases h1 : a < b
  · rw [if_pos h1, decide_eq_true h1]; rfl
  · rw [if_neg h1, decide_eq_false h1]; split <;> rfl
/-- The bytes of two values, and of two lists. -/
def Agree (zc : List UInt8 → List UInt8 → Int) (a b : V) : Prop := (cmpV zc a b = 0 → encV a = encV b) ∧ (cmpV zc a b ≠ 0 → Diff (encV a) (encV b) (decide (cmpV zc a b < 0)))
theorem tup_diff (zc : List UInt8 → List UInt8 → Int) : ∀ l l' : List V, (∀ x ∈ l, ∀ y ∈ l', Agree zc x y) →
    (cmpL zc l l' = 0 → tupB l = tupB l') ∧ (cmpL zc l l' ≠ 0 → Diff (tupB l) (tupB l') (decide (cmpL zc l l' < 0)))
  | [], [], _ => ⟨fun _ => rfl, fun h => absurd (by rw [cmpL]) h⟩
  | [], y :: ys, _ => by
    rw [cmpL, tupB, tupB]
    exact ⟨fun h => absurd h (by decide), fun _ => Diff.head (x := 0) (y := 1) [] _ (by decide)⟩
  | x :: xs, [], _ => by
    rw [cmpL, tupB, tupB]
    exact ⟨fun h => absurd h (by decide), fun _ => Diff.head (x := 1) (y := 0) _ [] (by decide)⟩
  | x :: xs, y :: ys, h => by
    obtain ⟨a1, a2⟩ := h x (by simp) y (by simp)
    obtain ⟨b1, b2⟩ := tup_diff zc xs ys fun u hu v hv => h u (by simp [hu]) v (by simp [hv])
    rw [cmpL, tupB, tupB]
    by_cases hz : cmpV zc x y = 0
    · rw [if_neg (by simpa using hz), a1 hz]
      exact ⟨fun h => by rw [b1 h], fun h => ((b2 h).pre _).cons 1⟩
    · rw [if_pos hz]
      exact ⟨fun h => absurd h hz, fun _ => ((a2 hz).app _ _).cons 1⟩
theorem flag_diff {n n' : Int} (h : n = 0 ∨ n = 1) (h' : n' = 0 ∨ n' = 1) (hne : n ≠ n') (u v : List UInt8) : Diff ((if n = 1 then (1 : UInt8) else 0) :: u) ((if n' = 1 then (1 : UInt8) else 0) :: v) (decide (n < n')) := by
  rcases h with rfl | rfl <;> rcases h' with rfl | rfl
  · exact absurd rfl hne
  · exact Diff.head u v (by decide)
  · exact Diff.head u v (by decide)
  · exact absurd rfl hne
theorem enc_diff (zc : List UInt8 → List UInt8 → Int) (hz : BigDiff zc) : ∀ a, OkE a → ∀ b, OkE b → Agree zc a b := by
  intro a
  induction a using V.ind with
  | h k n s l ih =>
    intro ha b hb
    cases ha with
    | mk h1 h2 hn h3 h4 h5 h6 hl =>
    cases hb with
    | @mk k' n' s' l' h1' h2' hn' h3' h4' h5' h6' hl' =>
    have hls := tup_diff zc l l' fun x hx y hy => ih x hx (hl x hx) y (hl' y hy)
    obtain ⟨c1, c2⟩ := cb_lt s.data.toList s'.data.toList
    unfold Agree
    rw [cmpV, enc_eq, enc_eq]
    by_cases hk : k = k'
    · subst hk
      rw [if_neg (by simp)]
      have hcases : k = 1 ∨ k = 2 ∨ k = 3 ∨ k = 4 ∨ k = 5 ∨ k = 6 := by omega
      rcases hcases with rfl | rfl | rfl | rfl | rfl | rfl
      · simp only [true_or, if_true]
        refine ⟨fun h => by rw [cmpI_zero h], fun h => ?_⟩
        rw [cmpI_lt]
        refine Diff.cons ?_ _
        exact flag_diff (h3 rfl) (h3' rfl) (fun e => h (by rw [e]; unfold cmpI; rw [if_neg (by omega), if_neg (by omega)])) [] []
      · simp only [or_true, if_true, if_neg (show ¬ (2 : Nat) = 1 by decide)]
        refine ⟨fun h => by rw [cmpI_zero h], fun h => ?_⟩
        rw [cmpI_lt]
        exact (num_diff (fun e => h (by rw [e]; unfold cmpI; rw [if_neg (by omega), if_neg (by omega)])) hn hn').cons _
      · simp only [if_true, if_neg (show ¬ ((3 : Nat) = 1 ∨ (3 : Nat) = 2) by decide), if_neg (show ¬ (3 : Nat) = 1 by decide), if_neg (show ¬ (3 : Nat) = 2 by decide)]
        obtain ⟨z1, z2⟩ := hz _ _ (h4 rfl) (h4' rfl)
        exact ⟨fun h => by rw [z1 h], fun h => (z2 h).cons _⟩
      · simp only [if_true, if_neg (show ¬ ((4 : Nat) = 1 ∨ (4 : Nat) = 2) by decide), if_neg (show ¬ (4 : Nat) = 1 by decide), if_neg (show ¬ (4 : Nat) = 2 by decide), if_neg (show ¬ (4 : Nat) = 3 by decide)]
        have e1 := h5 rfl; have e2 := h5' rfl
        subst e1; subst e2
        rw [cmpL]
        by_cases hc : Lib.compareBytes s.data.toList s'.data.toList = 0
        · rw [if_neg (by simpa using hc), c1 hc]
          exact ⟨fun _ => rfl, fun h => absurd rfl h⟩
        · rw [if_pos hc, c2]
          exact ⟨fun h => absurd h hc, fun _ => (str_diff _ _ (fun e => hc (by rw [e]; exact cb_self _))).cons _⟩
      · simp only [if_true, if_neg (show ¬ ((5 : Nat) = 1 ∨ (5 : Nat) = 2) by decide), if_neg (show ¬ (5 : Nat) = 1 by decide), if_neg (show ¬ (5 : Nat) = 2 by decide), if_neg (show ¬ (5 : Nat) = 3 by decide), if_neg (show ¬ (5 : Nat) = 4 by decide)]
        rw [h6 rfl, h6' rfl]
        have e : Lib.compareBytes [] [] = 0 := rfl
        rw [e, if_neg (by simp)]
        exact ⟨fun h => by rw [hls.1 h], fun h => (hls.2 h).cons _⟩
      · simp only [if_true, if_neg (show ¬ ((6 : Nat) = 1 ∨ (6 : Nat) = 2) by decide), if_neg (show ¬ (6 : Nat) = 1 by decide), if_neg (show ¬ (6 : Nat) = 2 by decide), if_neg (show ¬ (6 : Nat) = 3 by decide), if_neg (show ¬ (6 : Nat) = 4 by decide), if_neg (show ¬ (6 : Nat) = 5 by decide)]
        by_cases hc : Lib.compareBytes s.data.toList s'.data.toList = 0
        · rw [if_neg (by simpa using hc), c1 hc]
          exact ⟨fun h => by rw [hls.1 h], fun h => ((hls.2 h).pre _).cons _⟩
        · rw [if_pos hc, c2]
          exact ⟨fun h => absurd h hc, fun _ => ((str_diff _ _ (fun e => hc (by rw [e]; exact cb_self _))).app _ _).cons _⟩
    · rw [if_pos hk]
      have e1 : (UInt8.ofNat k).toNat = k := by rw [UInt8.toNat_ofNat']; omega
      have e2 : (UInt8.ofNat k').toNat = k' := by rw [UInt8.toNat_ofNat']; omega
      refine ⟨fun h => absurd (cmpI_zero h) (by omega), fun _ => ?_⟩
      rw [cmpI_lt]
      have := Diff.head (x := UInt8.ofNat k) (y := UInt8.ofNat k') (if k = 1 then [if n = 1 then 1 else 0] else if k = 2 then numB n else if k = 3 then bigB s.data.toList else if k = 4 then strB s.data.toList else if k = 5 then tupB l else if k = 6 then strB s.data.toList ++ tupB l else []) (if k' = 1 then [if n' = 1 then 1 else 0] else if k' = 2 then numB n' else if k' = 3 then bigB s'.data.toList else if k' = 4 then strB s'.data.toList else if k' = 5 then tupB l' else if k' = 6 then strB s'.data.toList ++ tupB l' else []) (by rw [e1, e2]; exact hk)
      rw [e1, e2] at this
      have e3 : decide ((k : Int) < (k' : Int)) = decide (k < k') := by by_cases h : k < k' <;> simp [h]
      rw [e3]; exact this
end Cp
end Go.Proofs.YtlhkjmckigblpaaGreatDoor
namespace Go.Proofs.YtlhkjmckigblpaaGreatDoor
open Vp
namespace Cp

/-- A text of digits as a number. -/
def dM : List UInt8 → Nat
  | [] => 0
  | c :: r => (c.toNat - 48) * 10 ^ r.length + dM r
/-- A number's text as a number. -/
def zV (l : List UInt8) : Int := if l.head? = some 45 then -(dM l.tail : Int) else (dM l : Int)
/-- How two numbers' texts stand. -/
def zE (a b : List UInt8) : Int := cmpI (zV a) (zV b)
def AllD (l : List UInt8) : Prop := ∀ c ∈ l, 48 ≤ c.toNat ∧ c.toNat ≤ 57
theorem dM_lt : ∀ l : List UInt8, AllD l → dM l < 10 ^ l.length
  | [], _ => by simp [dM]
  | c :: r, h => by
    have ih := dM_lt r fun x hx => h x (by simp [hx])
    have hc := h c (by simp)
    rw [dM, List.length_cons, Nat.pow_succ]
    generalize 10 ^ r.length = t at ih ⊢
    have h9 : (c.toNat - 48) * t ≤ 9 * t := Nat.mul_le_mul_right _ (by omega)
    omega
theorem dM_ge (c : UInt8) (r : List UInt8) (h : AllD (c :: r)) (hc : c ≠ 48) : 10 ^ r.length ≤ dM (c :: r) := by
  have h1 := h c (by simp)
  have h2 : c.toNat ≠ 48 := fun e => hc (UInt8.toNat_inj.1 (by rw [e]; rfl))
  rw [dM]
  have h3 : 1 * 10 ^ r.length ≤ (c.toNat - 48) * 10 ^ r.length := Nat.mul_le_mul_right _ (by omega)
  omega
theorem dig_diff : ∀ l k : List UInt8, l.length = k.length → AllD l → AllD k → (dM l = dM k → l = k) ∧ (dM l < dM k → Diff l k true)
  | [], [], _, _, _ => ⟨fun _ => rfl, fun h => absurd h (by simp)⟩
  | c :: r, d :: s, hl, h1, h2 => by
    have hl' : r.length = s.length := by simpa using hl
    obtain ⟨i1, i2⟩ := dig_diff r s hl' (fun x hx => h1 x (by simp [hx])) (fun x hx => h2 x (by simp [hx]))
    have hr := dM_lt r fun x hx => h1 x (by simp [hx])
    have hs := dM_lt s fun x hx => h2 x (by simp [hx])
    have hc := h1 c (by simp); have hd := h2 d (by simp)
    rw [dM, dM, hl']
    rw [hl'] at hr
    generalize 10 ^ s.length = t at hr hs
    rcases Nat.lt_trichotomy c.toNat d.toNat with h | h | h
    · have := Nat.mul_le_mul_right t (show c.toNat - 48 + 1 ≤ d.toNat - 48 by omega)
      rw [Nat.add_mul, Nat.one_mul] at this
      refine ⟨fun e => by omega, fun _ => ?_⟩
      have h3 := Diff.head (x := c) (y := d) r s (by omega)
      rw [decide_eq_true h] at h3
      exact h3
    · have hcd : c = d := UInt8.toNat_inj.1 h
      subst hcd
      exact ⟨fun e => by rw [i1 (by omega)], fun e => (i2 (by omega)).cons _⟩
    · have := Nat.mul_le_mul_right t (show d.toNat - 48 + 1 ≤ c.toNat - 48 by omega)
      rw [Nat.add_mul, Nat.one_mul] at this
      exact ⟨fun e => by omega, fun e => by omega⟩
/-- The bytes of a number that is not below 0. -/
def posB (m : List UInt8) : List UInt8 := 128 :: (own 0 m.length ++ m)
/-- Digits, at least one, and no 0 ahead. -/
def Plainly (m : List UInt8) : Prop := AllD m ∧ m ≠ [] ∧ m.length ≤ 1000 ∧ (m.head? = some 48 → m = [48])
theorem pos_less {m k : List UInt8} (hm : Plainly m) (hk : Plainly k) (h : m.length < k.length) : dM m < dM k := by
  obtain ⟨m1, m2, _, _⟩ := hm
  obtain ⟨k1, k2, _, k4⟩ := hk
  have a := dM_lt m m1
  match k, k1, k2, k4, h with
  | c :: r, k1, _, k4, h =>
    have hml : m.length ≠ 0 := fun e => m2 (List.length_eq_zero_iff.1 e)
    have hc : c ≠ 48 := fun e => by
      have := k4 (by rw [e]; rfl)
      have h1 := congrArg List.length this
      have h2 : [(48 : UInt8)].length = 1 := rfl
      omega
    have b := dM_ge c r k1 hc
    have p : 10 ^ m.length ≤ 10 ^ r.length := Nat.pow_le_pow_right (by decide) (by have h2 : (c :: r).length = r.length + 1 := rfl; omega)
    omega
theorem pos_diff {m k : List UInt8} (hm : Plainly m) (hk : Plainly k) : (dM m = dM k → m = k) ∧ (dM m < dM k → Diff (posB m) (posB k) true) := by
  rcases Nat.lt_trichotomy m.length k.length with h | h | h
  · have := pos_less hm hk h
    refine ⟨fun e => by omega, fun _ => ?_⟩
    have hk3 := hk.2.2.1
    exact ((own_diff (base := 0) (by decide) h (by omega)).app m k).cons _
  · obtain ⟨i1, i2⟩ := dig_diff m k h hm.1 hk.1
    refine ⟨i1, fun e => ?_⟩
    unfold posB
    rw [h]
    exact ((i2 e).pre _).cons _
  · have := pos_less hk hm h
    exact ⟨fun e => by omega, fun e => by omega⟩
theorem good_text {l : List UInt8} (h : Pl.chk l = 0) : Plainly (Pl.mag l) ∧ ((Pl.mag l).head? = some 48 → l = [48]) := by
  unfold Pl.chk at h
  split at h
  · cases h
  · rename_i g1
    split at h
    · cases h
    · rename_i g2
      split at h
      · cases h
      · rename_i g3
        split at h
        · cases h
        · rename_i g4
          have hh : (Pl.mag l).head? = some 48 → l = [48] := fun e => Classical.byContradiction fun c => g2 ⟨e, c⟩
          refine ⟨⟨fun c hc => ?_, g1, by omega, fun e => ?_⟩, hh⟩
          · have h3 : (Pl.mag l).all Pl.isDig = true := by simpa using g3
            rw [List.all_eq_true] at h3
            exact of_decide_eq_true (h3 c hc)
          · rw [hh e]; rfl
theorem zE_diff : BigDiff zE := by
  intro a b ha hb
  obtain ⟨pa, qa⟩ := good_text ha
  obtain ⟨pb, qb⟩ := good_text hb
  unfold zE
  have key : ∀ (l : List UInt8), Plainly (Pl.mag l) → ((Pl.mag l).head? = some 48 → l = [48]) → l.head? = some 45 → Pl.mag l = l.tail ∧ 0 < dM l.tail ∧ l = 45 :: l.tail ∧ Plainly l.tail := by
    intro l p q h
    have e : Pl.mag l = l.tail := by unfold Pl.mag; rw [if_pos h]
    rw [e] at p q
    have hl : l = 45 :: l.tail := by
      cases l with
      | nil => cases h
      | cons c r => injection h with h; rw [h]; rfl
    refine ⟨e, ?_, hl, p⟩
    have hne : l.tail.head? ≠ some 48 := fun k => by
      have := q k
      rw [this] at h; simp at h
    match hr : l.tail, p, hne with
    | [], p, _ => exact absurd rfl p.2.1
    | c :: r, p, hne =>
      have := dM_ge c r p.1 (fun e => hne (by rw [e]; rfl))
      have : 0 < 10 ^ r.length := Nat.pow_pos (by decide)
      omega
  have key2 : ∀ (l : List UInt8), Plainly (Pl.mag l) → ¬ l.head? = some 45 → Plainly l := fun l p h => by unfold Pl.mag at p; rw [if_neg h] at p; exact p
  rw [cmpI_lt]
  unfold bigB zV
  by_cases h1 : a.head? = some 45
  · obtain ⟨e1, z1, l1, p1⟩ := key a pa qa h1
    rw [if_pos h1, if_pos h1]
    have la : a.length - 1 = a.tail.length := by rw [List.length_tail]
    rw [la]
    by_cases h2 : b.head? = some 45
    · obtain ⟨e2, z2, l2, p2⟩ := key b pb qb h2
      rw [if_pos h2, if_pos h2]
      have lb : b.length - 1 = b.tail.length := by rw [List.length_tail]
      rw [lb]
      obtain ⟨i1, i2⟩ := pos_diff p1 p2
      obtain ⟨_, j2⟩ := pos_diff p2 p1
      refine ⟨fun h => ?_, fun h => ?_⟩
      · have := cmpI_zero h
        rw [l1, l2, i1 (by omega)]
      · rcases Nat.lt_trichotomy (dM a.tail) (dM b.tail) with g | g | g
        · rw [decide_eq_false (by omega)]; exact (i2 g).comp
        · exact absurd (by rw [g]; unfold cmpI; rw [if_neg (by omega), if_neg (by omega)]) h
        · rw [decide_eq_true (by omega)]; exact (j2 g).symm.comp
    · have p2 := key2 b pb h2
      rw [if_neg h2, if_neg h2]
      refine ⟨fun h => by have := cmpI_zero h; omega, fun _ => ?_⟩
      rw [decide_eq_true (by omega)]
      exact Diff.head (x := 128 ^^^ 255) (y := 128) _ _ (by decide)
  · have p1 := key2 a pa h1
    rw [if_neg h1, if_neg h1]
    by_cases h2 : b.head? = some 45
    · obtain ⟨e2, z2, l2, p2⟩ := key b pb qb h2
      rw [if_pos h2, if_pos h2]
      refine ⟨fun h => by have := cmpI_zero h; omega, fun _ => ?_⟩
      rw [decide_eq_false (by omega)]
      exact Diff.head (x := 128) (y := 128 ^^^ 255) _ _ (by decide)
    · have p2 := key2 b pb h2
      rw [if_neg h2, if_neg h2]
      obtain ⟨i1, i2⟩ := pos_diff p1 p2
      obtain ⟨_, j2⟩ := pos_diff p2 p1
      refine ⟨fun h => i1 (by have := cmpI_zero h; omega), fun h => ?_⟩
      rcases Nat.lt_trichotomy (dM a) (dM b) with g | g | g
      · rw [decide_eq_true (by omega)]; exact i2 g
      · exact absurd (by rw [g]; unfold cmpI; rw [if_neg (by omega), if_neg (by omega)]) h
      · rw [decide_eq_false (by omega)]; exact (j2 g).symm
end Cp
end Go.Proofs.YtlhkjmckigblpaaGreatDoor
