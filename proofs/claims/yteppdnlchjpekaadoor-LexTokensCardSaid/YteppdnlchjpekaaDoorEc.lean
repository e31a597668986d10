/- Package lex: bytes, the beginning of a rest. -/
import Derived.Test.YteppdnlchjpekaaDoorLw
namespace Go.Proofs.YteppdnlchjpekaaDoor
open Go.RowKit Lx
open Go
attribute [local go_sem] Oper.semAt_some

namespace Lx
def digB (c : UInt8) : Bool := decide (48 ≤ c.toNat ∧ c.toNat ≤ 57)
def partB (c : UInt8) : Bool := decide (97 ≤ c.toNat ∧ c.toNat ≤ 122 ∨ 65 ≤ c.toNat ∧ c.toNat ≤ 90 ∨ 48 ≤ c.toNat ∧ c.toNat ≤ 57 ∨ c.toNat = 95)
/-- The letters, digits and _ at the beginning. -/
def lead (l : List UInt8) : List UInt8 := l.takeWhile partB
end Lx
theorem ba_eq {a : ByteArray} {l : List UInt8} (h : a.data.toList = l) : a = ⟨l.toArray⟩ := by subst h; exact arr_self a
theorem digit_c (c : UInt8) (w : World) : Calls Tryd.prog 80 #[.int .u8 (c.toNat : Int)] w fun e w' => e = .returned (.bool (digB c)) ∧ w = w' := by
  obtain ⟨q, hq⟩ : ∃ q, q = digB c := ⟨_, rfl⟩
  rw [← hq]
  unfold digB at hq
  obtain ⟨z, hz⟩ : ∃ z, c.toNat = z := ⟨_, rfl⟩
  rw [hz] at hq ⊢
  have HQ := Lib.hid hq
  clear hq hz
  by_cases h1 : (48 : Int) ≤ (z : Int)
  · by_cases h2 : (z : Int) ≤ 57
    · go_enter Tryd.func80, Tryd.ntmps80
      go_wp2_with fail
      go_ret
      exact ⟨by rw [HQ.out, decide_eq_true (by omega)]; rfl, rfl⟩
    · go_enter Tryd.func80, Tryd.ntmps80
      go_wp2_with fail
      go_ret
      exact ⟨by rw [HQ.out, decide_eq_false (by omega)]; rfl, rfl⟩
  · go_enter Tryd.func80, Tryd.ntmps80
    go_wp2_with fail
    go_ret
    exact ⟨by rw [HQ.out, decide_eq_false (by omega)]; rfl, rfl⟩
set_option maxHeartbeats 2000000 in
theorem part_c (c : UInt8) (w : World) : Calls Tryd.prog 61 #[.int .u8 (c.toNat : Int)] w fun e w' => e = .returned (.bool (partB c)) ∧ w = w' := by
  have hd := fun W => digit_c c W
  obtain ⟨q, hq⟩ : ∃ q, q = partB c := ⟨_, rfl⟩
  rw [← hq]
  unfold partB at hq
  unfold digB at hd
  have h256 : c.toNat < 256 := c.toNat_lt
  obtain ⟨z, hz⟩ : ∃ z, c.toNat = z := ⟨_, rfl⟩
  rw [hz] at hq hd h256 ⊢
  have HQ := Lib.hid hq; have HD := Lib.hid hd
  clear hq hz hd
  have hcl : z < 48 ∨ 48 ≤ z ∧ z ≤ 57 ∨ 58 ≤ z ∧ z ≤ 64 ∨ 65 ≤ z ∧ z ≤ 90 ∨ 91 ≤ z ∧ z ≤ 94 ∨ z = 95 ∨ z = 96 ∨ 97 ≤ z ∧ z ≤ 122 ∨ 123 ≤ z := by omega
  rcases hcl with hc | hc | hc | hc | hc | hc | hc | hc | hc
  · have a1 : ¬ (97 : Int) ≤ (z : Int) := by omega
    have a2 : (z : Int) ≤ 122 := by omega
    have a3 : ¬ (65 : Int) ≤ (z : Int) := by omega
    have a4 : (z : Int) ≤ 90 := by omega
    have a5 : ((z : Int) == 95) = false := by rw [beq_eq_false_iff_ne]; omega
    rw [decide_eq_false (by omega)] at HD
    have HC := Lib.hid hc
    clear hc
    go_enter Tryd.func61, Tryd.ntmps61
    go_wp2_with fail
    refine (HD.out _).mono ?_
    rintro e w1 ⟨rfl, rfl⟩
    go_wp2_with fail
    go_ret
    exact ⟨by have := HC.out; rw [HQ.out, decide_eq_false (by omega)]; rfl, rfl⟩
  · have a1 : ¬ (97 : Int) ≤ (z : Int) := by omega
    have a2 : (z : Int) ≤ 122 := by omega
    have a3 : ¬ (65 : Int) ≤ (z : Int) := by omega
    have a4 : (z : Int) ≤ 90 := by omega
    have a5 : ((z : Int) == 95) = false := by rw [beq_eq_false_iff_ne]; omega
    rw [decide_eq_true (by omega)] at HD
    have HC := Lib.hid hc
    clear hc
    go_enter Tryd.func61, Tryd.ntmps61
    go_wp2_with fail
    refine (HD.out _).mono ?_
    rintro e w1 ⟨rfl, rfl⟩
    go_wp2_with fail
    go_ret
    exact ⟨by have := HC.out; rw [HQ.out, decide_eq_true (by omega)]; rfl, rfl⟩
  · have a1 : ¬ (97 : Int) ≤ (z : Int) := by omega
    have a2 : (z : Int) ≤ 122 := by omega
    have a3 : ¬ (65 : Int) ≤ (z : Int) := by omega
    have a4 : (z : Int) ≤ 90 := by omega
    have a5 : ((z : Int) == 95) = false := by rw [beq_eq_false_iff_ne]; omega
    rw [decide_eq_false (by omega)] at HD
    have HC := Lib.hid hc
    clear hc
    go_enter Tryd.func61, Tryd.ntmps61
    go_wp2_with fail
    refine (HD.out _).mono ?_
    rintro e w1 ⟨rfl, rfl⟩
    go_wp2_with fail
    go_ret
    exact ⟨by have := HC.out; rw [HQ.out, decide_eq_false (by omega)]; rfl, rfl⟩
  · have a1 : ¬ (97 : Int) ≤ (z : Int) := by omega
    have a2 : (z : Int) ≤ 122 := by omega
    have a3 : (65 : Int) ≤ (z : Int) := by omega
    have a4 : (z : Int) ≤ 90 := by omega
    have a5 : ((z : Int) == 95) = false := by rw [beq_eq_false_iff_ne]; omega
    have HC := Lib.hid hc
    clear hc
    go_enter Tryd.func61, Tryd.ntmps61
    go_wp2_with fail
    go_ret
    exact ⟨by have := HC.out; rw [HQ.out, decide_eq_true (by omega)]; rfl, rfl⟩
  · have a1 : ¬ (97 : Int) ≤ (z : Int) := by omega
    have a2 : (z : Int) ≤ 122 := by omega
    have a3 : (65 : Int) ≤ (z : Int) := by omega
    have a4 : ¬ (z : Int) ≤ 90 := by omega
    have a5 : ((z : Int) == 95) = false := by rw [beq_eq_false_iff_ne]; omega
    rw [decide_eq_false (by omega)] at HD
    have HC := Lib.hid hc
    clear hc
    go_enter Tryd.func61, Tryd.ntmps61
    go_wp2_with fail
    refine (HD.out _).mono ?_
    rintro e w1 ⟨rfl, rfl⟩
    go_wp2_with fail
    go_ret
    exact ⟨by have := HC.out; rw [HQ.out, decide_eq_false (by omega)]; rfl, rfl⟩
  · have a1 : ¬ (97 : Int) ≤ (z : Int) := by omega
    have a2 : (z : Int) ≤ 122 := by omega
    have a3 : (65 : Int) ≤ (z : Int) := by omega
    have a4 : ¬ (z : Int) ≤ 90 := by omega
    have a5 : ((z : Int) == 95) = true := by rw [beq_iff_eq]; omega
    rw [decide_eq_false (by omega)] at HD
    have HC := Lib.hid hc
    clear hc
    go_enter Tryd.func61, Tryd.ntmps61
    go_wp2_with fail
    refine (HD.out _).mono ?_
    rintro e w1 ⟨rfl, rfl⟩
    go_wp2_with fail
    go_ret
    exact ⟨by have := HC.out; rw [HQ.out, decide_eq_true (by omega)]; rfl, rfl⟩
  · have a1 : ¬ (97 : Int) ≤ (z : Int) := by omega
    have a2 : (z : Int) ≤ 122 := by omega
    have a3 : (65 : Int) ≤ (z : Int) := by omega
    have a4 : ¬ (z : Int) ≤ 90 := by omega
    have a5 : ((z : Int) == 95) = false := by rw [beq_eq_false_iff_ne]; omega
    rw [decide_eq_false (by omega)] at HD
    have HC := Lib.hid hc
    clear hc
    go_enter Tryd.func61, Tryd.ntmps61
    go_wp2_with fail
    refine (HD.out _).mono ?_
    rintro e w1 ⟨rfl, rfl⟩
    go_wp2_with fail
    go_ret
    exact ⟨by have := HC.out; rw [HQ.out, decide_eq_false (by omega)]; rfl, rfl⟩
  · have a1 : (97 : Int) ≤ (z : Int) := by omega
    have a2 : (z : Int) ≤ 122 := by omega
    have a3 : (65 : Int) ≤ (z : Int) := by omega
    have a4 : ¬ (z : Int) ≤ 90 := by omega
    have a5 : ((z : Int) == 95) = false := by rw [beq_eq_false_iff_ne]; omega
    have HC := Lib.hid hc
    clear hc
    go_enter Tryd.func61, Tryd.ntmps61
    go_wp2_with fail
    go_ret
    exact ⟨by have := HC.out; rw [HQ.out, decide_eq_true (by omega)]; rfl, rfl⟩
  · have a1 : (97 : Int) ≤ (z : Int) := by omega
    have a2 : ¬ (z : Int) ≤ 122 := by omega
    have a3 : (65 : Int) ≤ (z : Int) := by omega
    have a4 : ¬ (z : Int) ≤ 90 := by omega
    have a5 : ((z : Int) == 95) = false := by rw [beq_eq_false_iff_ne]; omega
    rw [decide_eq_false (by omega)] at HD
    have HC := Lib.hid hc
    clear hc
    go_enter Tryd.func61, Tryd.ntmps61
    go_wp2_with fail
    refine (HD.out _).mono ?_
    rintro e w1 ⟨rfl, rfl⟩
    go_wp2_with fail
    go_ret
    exact ⟨by have := HC.out; rw [HQ.out, decide_eq_false (by omega)]; rfl, rfl⟩

theorem ex_take (s : ByteArray) (k : Nat) : s.extract 0 k = ⟨(s.data.toList.take k).toArray⟩ := by
  refine ba_eq ?_
  simp
theorem ex_drop (s : ByteArray) (k : Nat) : s.extract k s.size = ⟨(s.data.toList.drop k).toArray⟩ := by
  refine ba_eq ?_
  rw [ByteArray.data_extract, Array.toList_extract]
  simp
  exact List.take_of_length_le (by rw [List.length_drop, ← size_list]; exact Nat.le_refl _)
theorem lead_stop : ∀ (l : List UInt8) (k : Nat) (hk : k < l.length), (∀ x ∈ l.take k, partB x = true) → partB l[k] = false → lead l = l.take k
  | c :: l, 0, _, _, h => by
    show (c :: l).takeWhile partB = []
    rw [List.takeWhile_cons, show partB c = false from h]; rfl
  | c :: l, k + 1, hk, ha, h => by
    have hc := ha c (by simp)
    show (c :: l).takeWhile partB = _
    rw [List.takeWhile_cons, hc, List.take_succ_cons]
    have := lead_stop l k (by simpa using hk) (fun x hx => ha x (by simp [hx])) (by simpa using h)
    unfold lead at this
    rw [← this]; rfl
theorem lead_all : ∀ (l : List UInt8), (∀ x ∈ l, partB x = true) → lead l = l
  | [], _ => rfl
  | c :: l, h => by
    have := lead_all l fun x hx => h x (by simp [hx])
    unfold lead at this ⊢
    rw [List.takeWhile_cons, h c (by simp), if_pos rfl, this]
set_option maxRecDepth 100000 in
set_option maxHeartbeats 2000000 in
theorem leading_c (s : ByteArray) (hs : s.size ≤ maxLen) (w : World) : Calls Tryd.prog 32 #[.string s] w fun e w' => e = .returned (.string ⟨(lead s.data.toList).toArray⟩) ∧ w = w' := by
  have hmax : maxLen = 9223372036854775807 := rfl
  go_enter Tryd.func32, Tryd.ntmps32
  go_wp2_with fail
  go_loopg [6] (s.size + 1) (fun gg s6 wr => ∃ k : Nat, k ≤ s.size ∧ gg = s.size + 1 - k ∧ s6 = .int .i64 (k : Int) ∧ (∀ x ∈ s.data.toList.take k, partB x = true) ∧ w = wr)
  case atStart => exact ⟨0, Nat.zero_le _, by omega, rfl, by simp, rfl⟩
  case round =>
    obtain ⟨k, hk, hg, rfl, ha, rfl⟩ := hrel
    have HG := Lib.hid hg; have HA := Lib.hid ha
    clear hg ha
    by_cases hlt : k < s.size
    · have hltz : (k : Int) < (s.size : Int) := by omega
      have hkl : k < s.data.toList.length := by rw [← size_list]; exact hlt
      obtain ⟨q, hq⟩ : ∃ q, partB s[k] = q := ⟨_, rfl⟩
      have hp := part_c s[k] w
      rw [hq] at hp
      have HP := Lib.hid hp; have HQ := Lib.hid hq; have HKL := Lib.hid hkl
      clear hp hq
      cases q
      · go_wp2_with fail
        refine HP.out.mono ?_
        rintro e w1 ⟨rfl, rfl⟩
        go_wp2_with fail
        go_ret
        have := lead_stop s.data.toList k HKL.out HA.out HQ.out
        exact ⟨by rw [this, ← ex_take]; rfl, rfl⟩
      · go_wp2_with fail
        refine HP.out.mono ?_
        rintro e w1 ⟨rfl, rfl⟩
        go_wp2_with fail
        go_roundg (s.size + 1 - (k + 1))
        case measure => have := HG.out; omega
        case rel =>
          refine ⟨k + 1, by omega, rfl, by go_num, fun x hx => ?_, rfl⟩
          rw [List.take_succ_eq_append_getElem HKL.out] at hx
          rcases List.mem_append.1 hx with h | h
          · exact HA.out x h
          · have hx : x = s.data.toList[k]'HKL.out := List.mem_singleton.1 h
            rw [hx]; exact HQ.out
    · have hltz : ¬ (k : Int) < (s.size : Int) := by omega
      obtain rfl : k = s.size := by omega
      go_wp2_with fail
      go_ret
      have h := HA.out
      rw [size_list, List.take_length] at h
      exact ⟨by rw [lead_all _ h, ← arr_self]; rfl, rfl⟩
end Go.Proofs.YteppdnlchjpekaaDoor
