/- Plain: a value that may be is read as it was written. No program is spoken of. -/
import Derived.Test.YtlcfokejoikaaaaGreatDoorUb
import Derived.Test.YtlcfokejoikaaaaGreatDoorYn
namespace Go.Proofs.YtlcfokejoikaaaaGreatDoor
open Vp Cp
namespace Rm

theorem chk_shape {s : List UInt8} (h : Pl.chk s = 0) : s.head? = some 45 ∧ (∀ c ∈ s.tail, digB c) ∧ s.length ≤ 201 ∨ s.head? ≠ some 45 ∧ (∀ c ∈ s, digB c) ∧ s.length ≤ 200 := by
  unfold Pl.chk at h
  split at h
  · cases h
  split at h
  · cases h
  split at h
  · cases h
  rename_i g3
  split at h
  · cases h
  rename_i g4
  have hd : ∀ c ∈ Pl.mag s, digB c := fun c hc => by
    cases hb : (Pl.mag s).all Pl.isDig with
    | false => exact absurd hb g3
    | true =>
      have := List.all_eq_true.1 hb c hc
      unfold Pl.isDig at this
      rw [decide_eq_true_iff] at this
      exact this
  unfold Pl.mag at hd g4
  by_cases h1 : s.head? = some 45
  · rw [if_pos h1] at hd g4
    left
    exact ⟨h1, hd, by rw [List.length_tail] at g4; omega⟩
  · rw [if_neg h1] at hd g4
    right
    exact ⟨h1, hd, by omega⟩
theorem size_zero {s : ByteArray} (h : s.size = 0) : s = bytes [] := by
  rw [← bytes_of s]
  congr 1
  exact List.eq_nil_of_length_eq_zero (by rw [← size_len]; exact h)
theorem depthL_le {l : List V} {n : Nat} (h : depthL l ≤ n) : ∀ x ∈ l, depth x ≤ n := by
  induction l with
  | nil => intro x hx; cases hx
  | cons y l ih =>
    rw [depthL] at h
    intro x hx
    rcases List.mem_cons.1 hx with rfl | hx
    · omega
    · exact ih (by omega) x hx
theorem value_back : ∀ (n : Nat) (t : V), some_ (bad Pl.chk) t = false → some_ (long Pl.chk) t = false → OkE t → depth t ≤ n → ∀ tail, valueG n (encV t ++ tail) = some (t, tail)
  | 0, .mk k z s l, _, _, _, hd, _ => by rw [depth] at hd; omega
  | n + 1, .mk k z s l, h1, h2, ho, hd, tail => by
    rw [depth] at hd
    rw [some_eq, Bool.or_eq_false_iff] at h1 h2
    obtain ⟨b1, b2⟩ := h1
    obtain ⟨c1, c2⟩ := h2
    have hall : ∀ x ∈ l, ∀ t, valueG n (encV x ++ t) = some (x, t) := fun x hx => by
      have hox : OkE x := by cases ho with | mk _ _ _ _ _ _ _ hl => exact hl x hx
      exact value_back n x (by have := List.any_eq_false.1 b2 x hx; simpa using this) (by have := List.any_eq_false.1 c2 x hx; simpa using this) hox (depthL_le (by omega) x hx)
    have hn : -9223372036854775808 ≤ z ∧ z ≤ 9223372036854775807 := by cases ho with | mk _ _ hn => exact hn
    have hk : k = 1 ∨ k = 2 ∨ k = 3 ∨ k = 4 ∨ k = 5 ∨ k = 6 ∨ (k ≠ 1 ∧ k ≠ 2 ∧ k ≠ 3 ∧ k ≠ 4 ∧ k ≠ 5 ∧ k ≠ 6) := by omega
    rw [enc_eq]
    clear ho
    rcases hk with rfl | rfl | rfl | rfl | rfl | rfl | hne
    · simp only [bad, Bool.or_eq_false_iff, Bool.and_eq_false_iff, decide_eq_false_iff_not, Bool.not_eq_false', List.isEmpty_iff] at b1
      obtain ⟨⟨g1, g2⟩, rfl⟩ := b1
      rw [if_pos rfl]
      unfold valueG
      rw [size_zero (s := s) (by omega)]
      have hz : z = 0 ∨ z = 1 := by omega
      rcases hz with rfl | rfl <;> rfl
    · simp only [bad, Bool.or_eq_false_iff, decide_eq_false_iff_not, Bool.not_eq_false', List.isEmpty_iff] at b1
      obtain ⟨g1, rfl⟩ := b1
      rw [if_neg (by decide), if_pos rfl, List.cons_append]
      unfold valueG
      rw [bindG_of (a := 2) (s := numB z ++ tail) rfl, if_neg (by decide), if_pos rfl, bindG_of (num_back hn tail), size_zero (s := s) (by omega)]
    · simp only [bad, Bool.or_eq_false_iff, decide_eq_false_iff_not, Bool.not_eq_false', List.isEmpty_iff] at b1
      obtain ⟨⟨g1, rfl⟩, g3⟩ := b1
      simp only [long, decide_eq_false_iff_not] at c1
      have hc : Pl.chk s.data.toList = 0 := by
        unfold Pl.chk at g3 c1 ⊢
        split at g3
        · exact absurd rfl g3
        rename_i q1
        rw [if_neg q1] at c1 ⊢
        split at g3
        · exact absurd rfl g3
        rename_i q2
        rw [if_neg q2] at c1 ⊢
        split at g3
        · exact absurd rfl g3
        rename_i q3
        rw [if_neg q3] at c1 ⊢
        split at c1
        · exact absurd rfl c1
        rename_i q4
        rw [if_neg q4]
      obtain rfl : z = 0 := by omega
      rw [if_neg (by decide), if_neg (by decide), if_pos rfl, List.cons_append]
      unfold valueG
      rw [bindG_of (a := 3) (s := bigB s.data.toList ++ tail) rfl, if_neg (by decide), if_neg (by decide), if_pos rfl, bindG_of (big_back (chk_shape hc) tail), bytes_of]
    · simp only [bad, Bool.or_eq_false_iff, decide_eq_false_iff_not, Bool.not_eq_false', List.isEmpty_iff] at b1
      obtain ⟨g1, rfl⟩ := b1
      simp only [long, decide_eq_false_iff_not] at c1
      obtain rfl : z = 0 := by omega
      rw [if_neg (by decide), if_neg (by decide), if_neg (by decide), if_pos rfl, List.cons_append]
      unfold valueG
      rw [bindG_of (a := 4) (s := strB s.data.toList ++ tail) rfl, if_neg (by decide), if_neg (by decide), if_neg (by decide), if_pos rfl, bindG_of (str_back (most := 4096) s.data.toList [] tail (by rw [← size_len]; simp only [List.length_nil]; omega)), List.nil_append, bytes_of]
    · simp only [bad, Bool.or_eq_false_iff, decide_eq_false_iff_not] at b1
      obtain ⟨⟨g1, g2⟩, g3⟩ := b1
      simp only [long, decide_eq_false_iff_not] at c1
      obtain rfl : z = 0 := by omega
      rw [if_neg (by decide), if_neg (by decide), if_neg (by decide), if_neg (by decide), if_pos rfl, List.cons_append]
      unfold valueG
      rw [bindG_of (a := 5) (s := tupB l ++ tail) rfl, if_neg (by decide), if_neg (by decide), if_neg (by decide), if_neg (by decide), if_pos rfl, bindG_of (list_back l 16 [] tail hall (by omega)), List.nil_append, size_zero (s := s) (by omega)]
    · simp only [bad, Bool.or_eq_false_iff, decide_eq_false_iff_not, Bool.not_eq_false'] at b1
      obtain ⟨g1, g2⟩ := b1
      simp only [long, decide_eq_false_iff_not] at c1
      obtain rfl : z = 0 := by omega
      have hc := cons_len g2
      rw [if_neg (by decide), if_neg (by decide), if_neg (by decide), if_neg (by decide), if_neg (by decide), if_pos rfl, List.cons_append, List.append_assoc]
      unfold valueG
      rw [bindG_of (a := 6) (s := strB s.data.toList ++ (tupB l ++ tail)) rfl, if_neg (by decide), if_neg (by decide), if_neg (by decide), if_neg (by decide), if_neg (by decide), if_pos rfl, bindG_of (str_back (most := 65) s.data.toList [] _ (by simp only [List.length_nil]; omega)), bindG_of (list_back l 8 [] tail hall (by omega)), List.nil_append, List.nil_append, bytes_of]
    · exfalso
      unfold bad at b1; split at b1 <;> simp_all
/-- What is read of bytes and may be. -/
def checkedG : Rd_ V := fun l => match valueG 64 l with
  | none => none
  | some (t, r) => if chkV t = 0 then some (t, r) else none
theorem checked_is : checkedG = bindG (valueG 64) fun t => whenG (chkV t = 0) t := by
  funext l
  unfold checkedG bindG whenG
  cases valueG 64 l <;> rfl
theorem Loc.checked : Loc checkedG := by rw [checked_is]; exact Loc.bind (Loc.value 64) fun _ => Loc.when _ _
theorem checked_back {t : V} (h : chkV t = 0) (ho : OkE t) (tail : List UInt8) : checkedG (encV t ++ tail) = some (t, tail) := by
  obtain ⟨h1, h2, h3⟩ := valid_parts h
  rw [deeper_depth] at h1
  have hd : depth t ≤ 64 := by simpa using h1
  unfold checkedG
  rw [value_back 64 t h2 h3 ho hd tail]
  exact if_pos h
theorem checked_canon {l : List UInt8} {t : V} {r : List UInt8} (h : checkedG l = some (t, r)) : l = encV t ++ r ∧ chkV t = 0 := by
  rw [checked_is] at h
  obtain ⟨u, s, h1, h⟩ := bindG_some h
  obtain ⟨h2, rfl, rfl⟩ := when_some h
  exact ⟨value_canon _ _ _ _ h1, h2⟩
end Rm
end Go.Proofs.YtlcfokejoikaaaaGreatDoor
