/- Plain facts: numbers' texts stand as their numbers; Bigs tells it. -/
import Derived.Test.YtddmegbhefmloaaGreatDoorQWn
namespace Go.Proofs.YtddmegbhefmloaaGreatDoor
open Go.RowKit Vp Pl Dig
open Go

/-- The number of some digits. -/
def numL (l : List UInt8) : Nat := vl 10 (l.reverse.map dig)
theorem numL_cons (x : UInt8) (xs : List UInt8) : numL (x :: xs) = numL xs + 10 ^ xs.length * dig x := by
  unfold numL; rw [List.reverse_cons, List.map_append, List.map_cons, List.map_nil, vl_snoc]; simp
theorem numL_lt (l : List UInt8) (h : l.all isDig = true) : numL l < 10 ^ l.length := by
  have := vl_lt 10 (l.reverse.map dig) fun d hd => by
    obtain ⟨c, hc, rfl⟩ := List.mem_map.1 hd
    have h1 := List.all_eq_true.1 h c (List.mem_reverse.1 hc)
    unfold isDig at h1; have := of_decide_eq_true h1; unfold dig; omega
  simpa [numL] using this
theorem numL_cmp : ∀ (a b : List UInt8), a.length = b.length → a.all isDig = true → b.all isDig = true → Lib.compareBytes a b = cmpI (numL a : Int) (numL b : Int)
  | [], [], _, _, _ => by simp [Lib.compareBytes, cmpI]
  | [], _ :: _, h, _, _ => absurd h (by simp)
  | _ :: _, [], h, _, _ => absurd h (by simp)
  | x :: xs, y :: ys, h, ha, hb => by
    rw [List.all_cons, Bool.and_eq_true] at ha hb
    have hl : xs.length = ys.length := by simpa using h
    have hx := of_decide_eq_true (show decide (48 ≤ x.toNat ∧ x.toNat ≤ 57) = true from ha.1)
    have hy := of_decide_eq_true (show decide (48 ≤ y.toNat ∧ y.toNat ≤ 57) = true from hb.1)
    have ih := numL_cmp xs ys hl ha.2 hb.2
    have l1 := numL_lt xs ha.2
    have l2 := numL_lt ys hb.2
    rw [cb_cons, ih, numL_cons, numL_cons, hl]
    rw [hl] at l1
    generalize 10 ^ ys.length = P at *
    have ex : dig x = x.toNat - 48 := rfl
    have ey : dig y = y.toNat - 48 := rfl
    rcases Nat.lt_trichotomy x.toNat y.toNat with hxy | hxy | hxy
    · have m := Nat.mul_le_mul_left P (show dig x + 1 ≤ dig y by omega)
      rw [Nat.mul_add, Nat.mul_one] at m
      rw [lx, if_pos (by unfold cmpI; rw [if_pos (by omega)]; decide)]
      unfold cmpI; rw [if_pos (by omega), if_pos (by omega)]
    · have e : dig x = dig y := by omega
      rw [e, lx, if_neg (by unfold cmpI; rw [if_neg (by omega), if_neg (by omega)]; decide)]
      unfold cmpI
      repeat' split
      all_goals omega
    · have m := Nat.mul_le_mul_left P (show dig y + 1 ≤ dig x by omega)
      rw [Nat.mul_add, Nat.mul_one] at m
      rw [lx, if_pos (by unfold cmpI; rw [if_neg (by omega), if_pos (by omega)]; decide)]
      unfold cmpI; rw [if_neg (by omega), if_pos (by omega), if_neg (by omega), if_pos (by omega)]
theorem numL_ge {l : List UInt8} (h : l.all isDig = true) (hne : l ≠ []) (h0 : l.head? ≠ some 48) : 10 ^ (l.length - 1) ≤ numL l := by
  cases l with
  | nil => exact absurd rfl hne
  | cons x xs =>
    rw [List.all_cons, Bool.and_eq_true] at h
    have hx := of_decide_eq_true (show decide (48 ≤ x.toNat ∧ x.toNat ≤ 57) = true from h.1)
    have hx0 : x.toNat ≠ 48 := fun e => h0 (by rw [List.head?_cons]; exact congrArg some (UInt8.toNat_inj.1 (by rw [e]; rfl)))
    rw [numL_cons]
    have ex : dig x = x.toNat - 48 := rfl
    have m := Nat.mul_le_mul_left (10 ^ xs.length) (show 1 ≤ dig x by omega)
    rw [Nat.mul_one] at m
    have : (x :: xs).length - 1 = xs.length := by simp
    rw [this]; omega
/-- Digits as a number has them. -/
def Dgs (l : List UInt8) : Prop := l.all isDig = true ∧ l ≠ [] ∧ (l.head? = some 48 → l = [48])
theorem dgs_len {a b : List UInt8} (ha : Dgs a) (hb : Dgs b) (h : a.length < b.length) : numL a < numL b := by
  have h1 := numL_lt a ha.1
  have hp : 0 < a.length := List.length_pos_iff.2 ha.2.1
  have h2 := numL_ge hb.1 hb.2.1 fun e => by have h4 := congrArg List.length (hb.2.2 e); rw [List.length_singleton] at h4; omega
  have h3 : 10 ^ a.length ≤ 10 ^ (b.length - 1) := Nat.pow_le_pow_right (by decide) (by omega)
  omega
theorem byLen_num {s s' : ByteArray} (h : Dgs s.data.toList) (h' : Dgs s'.data.toList) : byLen s s' = cmpI (numL s.data.toList : Int) (numL s'.data.toList : Int) := by
  unfold byLen
  rw [size_len s, size_len s']
  split
  · rename_i e; exact numL_cmp _ _ e h.1 h'.1
  · rename_i e
    rcases Nat.lt_or_ge s.data.toList.length s'.data.toList.length with hl | hl
    · have := dgs_len h h' hl
      unfold cmpI; rw [if_pos (by omega), if_pos (by omega)]
    · have := dgs_len h' h (by omega)
      unfold cmpI; rw [if_neg (by omega), if_pos (by omega), if_neg (by omega), if_pos (by omega)]
theorem dgs_mag {l : List UInt8} (h : chk l = 0) : Dgs (mag l) := by
  obtain ⟨h1, h2, h3, _⟩ := chk_good h
  refine ⟨h3, h1, fun e => ?_⟩
  have : l = [48] := by
    rcases Classical.em (l = [48]) with h | h
    · exact h
    · exact absurd ⟨e, h⟩ h2
  rw [this]; rfl
theorem mag_pos {l : List UInt8} (h : chk l = 0) (hn : l.head? = some 45) : 0 < numL (mag l) := by
  obtain ⟨h1, h2, h3, _⟩ := chk_good h
  have := numL_ge h3 h1 fun e => h2 ⟨e, fun e' => by rw [e'] at hn; simp at hn⟩
  have hp : 0 < 10 ^ ((mag l).length - 1) := Nat.pow_pos (by decide)
  omega
theorem val_neg {s : ByteArray} (h : negB s = true) : valL s.data.toList = -(numL (mag s.data.toList) : Int) := by
  unfold valL; unfold negB at h; rw [h]; rfl
theorem val_pos {s : ByteArray} (h : negB s = false) : valL s.data.toList = (numL (mag s.data.toList) : Int) := by
  unfold valL; unfold negB at h; rw [h]; rfl
theorem bySign_z {s s' : ByteArray} (hc : chk s.data.toList = 0) (hc' : chk s'.data.toList = 0) : bySign s s' = zcmp s.data.toList s'.data.toList := by
  unfold bySign zcmp
  cases hn : negB s with
  | false =>
    cases hn' : negB s' with
    | false =>
      rw [if_pos rfl, if_neg (by simp), val_pos hn, val_pos hn', ← self_data hn, ← self_data hn']
      exact byLen_num (by rw [self_data hn]; exact dgs_mag hc) (by rw [self_data hn']; exact dgs_mag hc')
    | true =>
      have := mag_pos hc' (of_decide_eq_true hn')
      rw [if_neg (by simp), if_neg (by simp), val_pos hn, val_neg hn']
      unfold cmpI; rw [if_neg (by omega), if_pos (by omega)]
  | true =>
    have := mag_pos hc (of_decide_eq_true hn)
    cases hn' : negB s' with
    | false =>
      rw [if_neg (by simp), if_pos rfl, val_neg hn, val_pos hn']
      unfold cmpI; rw [if_pos (by omega)]
    | true =>
      rw [if_pos rfl, if_pos rfl, val_neg hn, val_neg hn', byLen_num (by rw [ext_data hn']; exact dgs_mag hc') (by rw [ext_data hn]; exact dgs_mag hc), ext_data hn, ext_data hn']
      unfold cmpI
      repeat' split
      all_goals omega
theorem bigs_ok : BigsOk := fun s s' w hc hc' => by
  have := bigs_any s s' hc hc' w
  rwa [bySign_z hc hc'] at this
end Go.Proofs.YtddmegbhefmloaaGreatDoor
