/- The walk over package big: the int of a text. -/
import Derived.Test.YtcclclginhhlaaaDoorBigA
import Derived.Lib.ParseIntBTie
import Derived.Lib.ItoaNum
namespace Go.Proofs.YtcclclginhhlaaaDoor
open Go.RowKit
open Pl Dig

theorem decD (u : Nat) : 0 < u → Lib.decDigits u = (dg 10 u).reverse.map chr := by
  induction u using Nat.strongRecOn with
  | _ u ih =>
    intro h
    rw [Lib.decDigits, dg_step (by decide) (by omega)]
    by_cases h10 : u < 10
    · rw [dif_pos h10, Nat.div_eq_of_lt h10, Nat.mod_eq_of_lt h10]; rfl
    · rw [dif_neg h10, ih (u / 10) (by omega) (by omega)]
      rw [List.reverse_cons, List.map_append]; rfl
theorem itoa_txt (n : Int) : Lib.itoa n = txt n := by
  unfold Lib.itoa txt
  by_cases h0 : n = 0
  · subst h0; rw [if_neg (by decide), if_pos rfl]; simp [Lib.decDigits]
  · rw [if_neg h0]
    by_cases h : n < 0
    · rw [if_pos h, if_pos h, decD _ (by omega)]; rfl
    · rw [if_neg h, if_neg h, show n.toNat = n.natAbs from by omega, decD _ (by omega)]; rfl

def horStep (a : Nat) (c : UInt8) : Nat := a * 10 + dig c
def hor (acc : Nat) (l : List UInt8) : Nat := l.foldl horStep acc
theorem hor_nil (acc : Nat) : hor acc [] = acc := by unfold hor; rw [List.foldl_nil]
theorem hor_cons (acc : Nat) (c : UInt8) (r : List UInt8) : hor acc (c :: r) = hor (acc * 10 + dig c) r := by unfold hor; rw [List.foldl_cons]; rfl
theorem hor_ge : ∀ (l : List UInt8) (acc : Nat), acc ≤ hor acc l
  | [], acc => by rw [hor_nil]; exact Nat.le_refl _
  | c :: r, acc => by
    rw [hor_cons]
    have := hor_ge r (acc * 10 + dig c)
    omega
theorem hor_snoc (acc : Nat) (l : List UInt8) (c : UInt8) : hor acc (l ++ [c]) = hor acc l * 10 + dig c := by
  unfold hor; rw [List.foldl_append, List.foldl_cons, List.foldl_nil]; rfl
theorem hor_vl (l : List UInt8) : vl 10 (l.reverse.map dig) = hor 0 l := by
  obtain ⟨m, rfl⟩ : ∃ m, l = m.reverse := ⟨l.reverse, by simp⟩
  induction m with
  | nil => rfl
  | cons c r ih =>
    rw [List.reverse_reverse] at ih ⊢
    rw [List.map_cons, List.reverse_cons, hor_snoc, ← ih]
    simp only [vl]; omega
theorem parse10 : ∀ (l : List UInt8) (acc : Nat), l.all isDig = true → acc < 18446744073709551616 →
    Lib.parseUint10 acc l = if hor acc l < 18446744073709551616 then .ok (hor acc l) else .range
  | [], acc, _, ha => by simp only [Lib.parseUint10, hor_nil, if_pos ha]
  | c :: r, acc, h, ha => by
    rw [List.all_cons, Bool.and_eq_true] at h
    have hc : 48 ≤ c.toNat ∧ c.toNat ≤ 57 := by have := h.1; unfold isDig at this; exact of_decide_eq_true this
    have hg := hor_ge r (acc * 10 + dig c)
    have hd : c.toNat - 48 = dig c := rfl
    simp only [Lib.parseUint10, hor_cons, if_pos hc, hd]
    split
    · rename_i h1
      have h2 : ¬ hor (acc * 10 + dig c) r < 18446744073709551616 := by omega
      rw [if_neg h2]
    · split
      · rename_i h1 h2
        have h3 : ¬ hor (acc * 10 + dig c) r < 18446744073709551616 := by omega
        rw [if_neg h3]
      · rename_i h1 h2
        exact parse10 r _ h.2 (by omega)
theorem parseM {l : List UInt8} (h : l.all isDig = true) (hne : l ≠ []) : Lib.parseMag l = if hor 0 l < 18446744073709551616 then .ok (hor 0 l) else .range := by
  unfold Lib.parseMag; rw [if_neg hne]; exact parse10 l 0 h (by omega)

/-- The last step of a parse. -/
def fin (neg : Bool) (u : Nat) : Lib.NumEnd Int :=
  if sgn neg u < -9223372036854775808 ∨ 9223372036854775807 < sgn neg u then .range else .ok (sgn neg u)
theorem fin_pos (u : Nat) : Lib.signless (if u < 18446744073709551616 then .ok u else .range) = fin false u := by
  have e : sgn false u = u := rfl
  unfold fin; rw [e]
  by_cases h1 : u ≤ 9223372036854775807
  · have h2 : ¬ ((u : Int) < -9223372036854775808 ∨ 9223372036854775807 < (u : Int)) := by omega
    have h3 : u < 18446744073709551616 := by omega
    have h4 : ¬ 9223372036854775808 ≤ u := by omega
    rw [if_neg h2, if_pos h3]; simp only [Lib.signless, if_neg h4]
  · have h2 : ((u : Int) < -9223372036854775808 ∨ 9223372036854775807 < (u : Int)) := by omega
    rw [if_pos h2]
    by_cases h3 : u < 18446744073709551616
    · have h4 : 9223372036854775808 ≤ u := by omega
      rw [if_pos h3]; simp only [Lib.signless, if_pos h4]
    · rw [if_neg h3]; rfl
theorem fin_neg (u : Nat) : Lib.signed (if u < 18446744073709551616 then .ok u else .range) = fin true u := by
  have e : sgn true u = -u := rfl
  unfold fin; rw [e]
  by_cases h1 : u ≤ 9223372036854775808
  · have h2 : ¬ (-(u : Int) < -9223372036854775808 ∨ 9223372036854775807 < -(u : Int)) := by omega
    have h3 : u < 18446744073709551616 := by omega
    have h4 : ¬ 9223372036854775808 < u := by omega
    rw [if_neg h2, if_pos h3]; simp only [Lib.signed, if_neg h4]
  · have h2 : (-(u : Int) < -9223372036854775808 ∨ 9223372036854775807 < -(u : Int)) := by omega
    rw [if_pos h2]
    by_cases h3 : u < 18446744073709551616
    · have h4 : 9223372036854775808 < u := by omega
      rw [if_pos h3]; simp only [Lib.signed, if_pos h4]
    · rw [if_neg h3]; rfl

theorem parse_val {l : List UInt8} (h : chk l = 0) : Lib.parseIntB 64 l = fin (decide (l.head? = some 45)) (vl 10 ((mag l).reverse.map dig)) := by
  obtain ⟨h1, h2, h3, h4⟩ := chk_good h
  rw [hor_vl, Lib.parseIntB_64]
  cases l with
  | nil => exact absurd rfl h1
  | cons c r =>
    by_cases h45 : c = 45
    · subst h45
      have em : mag (45 :: r) = r := by simp [mag]
      rw [em] at h1 h3 ⊢
      have e1 : decide ((45 :: r).head? = some (45 : UInt8)) = true := by simp
      rw [e1, Lib.atoiAll_minus, parseM h3 h1, fin_neg]
    · have em : mag (c :: r) = c :: r := by simp [mag, h45]
      rw [em] at h1 h3 ⊢
      have e1 : decide ((c :: r).head? = some (45 : UInt8)) = false := by simp [h45]
      have hc : 48 ≤ c.toNat := by rw [List.all_cons, Bool.and_eq_true] at h3; have := h3.1; unfold isDig at this; exact (of_decide_eq_true this).1
      rw [e1, Lib.atoiAll_plain c r (by omega) (by omega), parseM h3 h1, fin_pos]

set_option maxRecDepth 100000 in
set_option maxHeartbeats 400000 in
theorem big_int (s : ByteArray) (w : World) (hs : s.size ≤ 1000) (tp : TypeId) (p : Value) (hv : ∀ W, Below w.heap.size w W → W.var? Tryd.prog "strconv.ErrRange" = some #[.iface tp p]) :
    Calls Tryd.prog 19 #[.string s] w fun e w' => e = .returned (.tuple #[.int .i64 (intOut s.data.toList).1, .int .i64 (intOut s.data.toList).2]) ∧ Below w.heap.size w w' := by
  by_cases hc : chk s.data.toList = 0
  · have hp := parse_val hc
    rw [show fin _ _ = (if valL s.data.toList < -9223372036854775808 ∨ 9223372036854775807 < valL s.data.toList then .range else .ok (valL s.data.toList)) from rfl] at hp
    by_cases hover : valL s.data.toList < -9223372036854775808 ∨ 9223372036854775807 < valL s.data.toList
    · rw [if_pos hover] at hp
      have hout : intOut s.data.toList = (0, 80) := by unfold intOut; rw [if_neg (by rw [hc]; simp), if_pos hover]
      have HO := Lib.hid hout; have HC := Lib.hid hc; have HP := Lib.hid hp; have HV := Lib.hid hv; clear hout hc hp hv hover
      go_enter Tryd.func19, Tryd.ntmps19
      go_wp2_with (first
        | (go_at_call 13; refine (big_check s _ (by unfold maxLen; omega)).mono ?_; rw [HC.out]; rintro e w1 ⟨rfl, hB1⟩; have HB1 := Lib.hid hB1; clear hB1)
        | (go_at_call 41; refine (Tryd.strconv_ParseInt_10_at64_range_var s (by omega) HP.out tp p _ (HV.out _ HB1.out)).mono ?_; rintro e w2 ⟨N, rfl, hN, hw2, hB2⟩; have HB2 := Lib.hid hB2; have HW2 := Lib.hid hw2; clear hB2 hw2))
      go_ret2
      exact ⟨by rw [HO.out]; rfl, HB1.out.trans (HB2.out.mono HB1.out.size)⟩
    · rw [if_neg hover] at hp
      have hout : intOut s.data.toList = (valL s.data.toList, 0) := by unfold intOut; rw [if_neg (by rw [hc]; simp), if_neg hover]
      generalize valL s.data.toList = z at hp hout hover
      have HO := Lib.hid hout; have HC := Lib.hid hc; have HP := Lib.hid hp; clear hout hc hp hover hv
      go_enter Tryd.func19, Tryd.ntmps19
      go_wp2_with (first
        | (go_at_call 13; refine (big_check s _ (by unfold maxLen; omega)).mono ?_; rw [HC.out]; rintro e w1 ⟨rfl, hB1⟩; have HB1 := Lib.hid hB1; clear hB1)
        | (go_at_call 41; refine (Tryd.strconv_ParseInt_10_at64_ok s (by omega) z HP.out _).mono ?_; rintro e w2 ⟨rfl, hw2⟩; have HW2 := Lib.hid hw2; clear hw2))
      go_ret2
      refine ⟨by rw [HO.out]; rfl, ?_⟩
      rcases HW2.out with rfl | ⟨t, rfl⟩
      · exact HB1.out
      · exact HB1.out.trans ((Lib.bytesWorld_below _ _ _).mono HB1.out.size)
  · generalize hk : chk s.data.toList = k at hc
    have hne : (k != 0) = true := by simpa using hc
    have hout : intOut s.data.toList = (0, k) := by unfold intOut; rw [hk, if_pos hc]
    have HK := Lib.hid hk; have HO := Lib.hid hout; clear hk hout hv
    go_enter Tryd.func19, Tryd.ntmps19
    go_wp2_with (go_at_call 13; refine (big_check s _ (by unfold maxLen; omega)).mono ?_; rw [HK.out]; rintro e w1 ⟨rfl, hB1⟩; have HB1 := Lib.hid hB1; clear hB1)
    go_ret2
    exact ⟨by rw [HO.out]; rfl, HB1.out⟩
end Go.Proofs.YtcclclginhhlaaaDoor
