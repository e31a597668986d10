/- Plain facts on numbers' texts. -/
import Derived.Test.YtaapppieipfinaaGreatDoorPBase
namespace Go.Proofs.YtaapppieipfinaaGreatDoor
open Go.RowKit
open Pl Dig

def dig (c : UInt8) : Nat := c.toNat - 48
def frm (s : ByteArray) : Nat := if negB s then 1 else 0
def digs (s : ByteArray) (j : Nat) : List Nat := (s.data.toList.drop j).reverse.map dig


theorem digs_len (s : ByteArray) (j : Nat) : (digs s j).length = s.size - j := by rw [size_len]; simp [digs]
theorem digs_step {s : ByteArray} {k : Nat} (hk : k < s.size) : digs s k = digs s (k + 1) ++ [dig s[k]] := by
  unfold digs
  rw [List.drop_eq_getElem_cons (by rw [← size_len]; exact hk)]
  simp; rfl
theorem digs_lt {s : ByteArray} {f : Nat} (h : ∀ j, (hj : j < s.size) → f ≤ j → isDig s[j] = true) {d : Nat} (hd : d ∈ digs s f) : d < 10 := by
  unfold digs at hd
  rw [List.mem_map] at hd
  obtain ⟨c, hc, rfl⟩ := hd
  rw [List.mem_reverse] at hc
  obtain ⟨i, hi⟩ := List.mem_iff_getElem?.1 hc
  rw [List.getElem?_drop] at hi
  obtain ⟨hlt, he⟩ := List.getElem?_eq_some_iff.1 hi
  have := h (f + i) (by rw [size_len]; exact hlt) (by omega)
  have e : s[f + i]'(by rw [size_len]; exact hlt) = c := he
  rw [e] at this
  unfold isDig at this; unfold dig
  have := of_decide_eq_true this; omega

def valL (l : List UInt8) : Int := sgn (decide (l.head? = some 45)) (vl 10 ((mag l).reverse.map dig))

theorem chk_good {l : List UInt8} (h : chk l = 0) : mag l ≠ [] ∧ ¬ ((mag l).head? = some 48 ∧ l ≠ [48]) ∧ (mag l).all isDig = true ∧ (mag l).length ≤ 200 := by
  unfold chk at h
  split at h
  · cases h
  · split at h
    · cases h
    · split at h
      · cases h
      · split at h
        · cases h
        · rename_i h1 h2 h3 h4
          exact ⟨h1, h2, by simpa using h3, by omega⟩
theorem mag_drop (s : ByteArray) : mag s.data.toList = s.data.toList.drop (frm s) := by
  unfold mag frm negB
  by_cases h : s.data.toList.head? = some 45 <;> simp [h]
theorem val_digs (s : ByteArray) : sgn (negB s) (vl 10 (digs s (frm s))) = valL s.data.toList := by
  unfold valL negB digs; rw [mag_drop]
theorem mag_len_le (l : List UInt8) : l.length ≤ (mag l).length + 1 := by unfold mag; split <;> simp; omega
theorem good_size {s : ByteArray} (h : chk s.data.toList = 0) : s.size ≤ 201 ∧ 0 < s.size := by
  obtain ⟨h1, _, _, h4⟩ := chk_good h
  have := mag_len_le s.data.toList
  rw [← size_len] at this
  refine ⟨by omega, ?_⟩
  rw [size_len]
  rcases Nat.eq_zero_or_pos s.data.toList.length with h0 | h0
  · have := List.eq_nil_of_length_eq_zero h0
    rw [this] at h1; exact absurd rfl h1
  · exact h0
theorem good_digs {s : ByteArray} (h : chk s.data.toList = 0) : ∀ j, (hj : j < s.size) → frm s ≤ j → isDig s[j] = true := by
  intro j hj hf
  obtain ⟨_, _, h3, _⟩ := chk_good h
  rw [mag_drop, List.all_eq_true] at h3
  refine h3 _ ?_
  rw [List.mem_iff_getElem?]
  refine ⟨j - frm s, ?_⟩
  rw [List.getElem?_drop, show frm s + (j - frm s) = j from by omega, List.getElem?_eq_getElem (by rw [← size_len]; exact hj)]
  rfl
theorem val_len {l : List UInt8} (h : chk l = 0) : (dg 10 (valL l).natAbs).length ≤ 200 := by
  obtain ⟨_, _, h3, h4⟩ := chk_good h
  unfold valL; rw [sgn_abs, dg_len (by decide)]
  have := vl_lt 10 ((mag l).reverse.map dig) (fun d hd => by
    rw [List.mem_map] at hd
    obtain ⟨c, hc, rfl⟩ := hd
    rw [List.all_eq_true] at h3
    have := h3 c (by simpa using hc)
    unfold isDig at this; unfold dig; have := of_decide_eq_true this; omega)
  exact Nat.lt_of_lt_of_le this (Nat.pow_le_pow_right (by decide) (by simpa using h4))

theorem vl_drop_step (b : Nat) {ds : List Nat} {k : Nat} (hk : k < ds.length) : vl b (ds.drop k) = ds[k] + b * vl b (ds.drop (k + 1)) := by
  rw [List.drop_eq_getElem_cons hk]; rfl
theorem vl_drop_le {b : Nat} (hb : 2 ≤ b) (ds : List Nat) (k : Nat) : vl b (ds.drop k) ≤ vl b ds := by
  conv => rhs; rw [← List.take_append_drop k ds, vl_append]
  have : 1 * vl b (ds.drop k) ≤ b ^ (ds.take k).length * vl b (ds.drop k) := Nat.mul_le_mul_right _ (Nat.pow_pos (by omega))
  omega
def horStep (a : Nat) (c : UInt8) : Nat := a * 10 + dig c
def hor (acc : Nat) (l : List UInt8) : Nat := l.foldl horStep acc
theorem hor_nil (acc : Nat) : hor acc [] = acc := by unfold hor; rw [List.foldl_nil]
theorem hor_cons (acc : Nat) (c : UInt8) (r : List UInt8) : hor acc (c :: r) = hor (acc * 10 + dig c) r := by unfold hor; rw [List.foldl_cons]; rfl
theorem hor_ge : ∀ (l : List UInt8) (acc : Nat), acc ≤ hor acc l
  | [], acc => by rw [hor_nil]; exact Nat.le_refl _
  | c :: r, acc => by
    rw [hor_cons]
    have := hor_ge r (acc * 10 + dig c)
    omega
theorem hor_snoc (acc : Nat) (l : List UInt8) (c : UInt8) : hor acc (l ++ [c]) = hor acc l * 10 + dig c := by
  unfold hor; rw [List.foldl_append, List.foldl_cons, List.foldl_nil]; rfl
theorem hor_vl (l : List UInt8) : vl 10 (l.reverse.map dig) = hor 0 l := by
  obtain ⟨m, rfl⟩ : ∃ m, l = m.reverse := ⟨l.reverse, by simp⟩
  induction m with
  | nil => rfl
  | cons c r ih =>
    rw [List.reverse_reverse] at ih ⊢
    rw [List.map_cons, List.reverse_cons, hor_snoc, ← ih]
    simp only [vl]; omega
def pairE (a b : List UInt8) : Int := if chk a ≠ 0 then chk a else chk b

theorem pairE_zero {a b : List UInt8} : pairE a b = 0 ↔ chk a = 0 ∧ chk b = 0 := by
  unfold pairE; split
  · rename_i h; constructor
    · intro h2; exact absurd h2 h
    · intro h2; exact absurd h2.1 h
  · rename_i h
    have h' : chk a = 0 := by simpa using h
    simp [h']
def cmpI (x y : Int) : Int := if x < y then -1 else if y < x then 1 else 0

end Go.Proofs.YtaapppieipfinaaGreatDoor
