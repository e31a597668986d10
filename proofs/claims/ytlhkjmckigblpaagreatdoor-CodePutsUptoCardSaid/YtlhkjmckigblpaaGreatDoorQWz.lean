/- QWa, QWb, QWd, QWe, QWf, QWg, QWi in one text. -/
import Derived.Test.YtlhkjmckigblpaaGreatDoorQVx
import Derived.Test.YtlhkjmckigblpaaGreatDoorKb
import Derived.Test.YtlhkjmckigblpaaGreatDoorVs
import Derived.Deep.RegionHeld3
/- QWa: The document's own answers of layer 2: numbers and texts in their order. -/
namespace Go.Proofs.YtlhkjmckigblpaaGreatDoor
open Go.RowKit Vp
open Go
attribute [local go_sem] Oper.semAt_some

theorem ints_c (a b : Int) (w : World) : Calls Tryz.prog 101 #[.int .i64 a, .int .i64 b] w fun e w' => e = .returned (.int .i64 (cmpI a b)) ∧ Below w.heap.size w w' := by
  obtain ⟨q, hq⟩ : ∃ q, q = cmpI a b := ⟨_, rfl⟩
  rw [← hq]
  unfold cmpI at hq
  have HQ := Lib.hid hq
  clear hq
  by_cases h1 : a < b
  · go_enter Tryz.func101, Tryz.ntmps101
    go_wp2_with fail
    go_ret
    exact ⟨by rw [HQ.out, if_pos h1]; rfl, Below.refl _ _⟩
  · by_cases h2 : b < a
    · go_enter Tryz.func101, Tryz.ntmps101
      go_wp2_with fail
      go_ret
      exact ⟨by rw [HQ.out, if_neg (by omega), if_pos h2]; rfl, Below.refl _ _⟩
    · go_enter Tryz.func101, Tryz.ntmps101
      go_wp2_with fail
      go_ret
      exact ⟨by rw [HQ.out, if_neg (by omega), if_neg (by omega)]; rfl, Below.refl _ _⟩
/-- How two of which one at least may not be stand. -/
def lastI (a b : Bool) : Int := if a = b then 0 else if a then -1 else 1
theorem last_c (a b : Bool) (w : World) : Calls Tryz.prog 78 #[.bool a, .bool b] w fun e w' => e = .returned (.int .i64 (lastI a b)) ∧ Below w.heap.size w w' := by
  cases a <;> cases b
  all_goals
    go_enter Tryz.func78, Tryz.ntmps78
    go_wp2_with fail
    go_ret
    exact ⟨rfl, Below.refl _ _⟩

theorem drop_at (s : ByteArray) {k : Nat} (h : k < s.size) : s.data.toList.drop k = s[k] :: s.data.toList.drop (k + 1) := by
  rw [List.drop_eq_getElem_cons (by simpa using h)]; rfl
theorem drop_end (s : ByteArray) : s.data.toList.drop s.size = [] := List.drop_eq_nil_of_le (by simp)

set_option maxHeartbeats 1000000 in
theorem texts_c (s t : ByteArray) (hs : s.size ≤ maxLen) (_ht : t.size ≤ maxLen) (w : World) :
    Calls Tryz.prog 103 #[.string s, .string t] w fun e w' => e = .returned (.int .i64 (Lib.compareBytes s.data.toList t.data.toList)) ∧ Below w.heap.size w w' := by
  have hmax : maxLen = 9223372036854775807 := rfl
  obtain ⟨q, hq⟩ : ∃ q, q = Lib.compareBytes s.data.toList t.data.toList := ⟨_, rfl⟩
  rw [← hq]
  have HQ := Lib.hid hq
  clear hq
  go_enter Tryz.func103, Tryz.ntmps103
  go_wp2_with fail
  go_loopg [5] (s.size + 1) (fun gg s6 wr => ∃ (kk : Nat), kk ≤ s.size ∧ kk ≤ t.size ∧ gg = s.size + 1 - kk ∧ s6 = .int .i64 (kk : Int) ∧ Below w.heap.size w wr ∧ Lib.compareBytes s.data.toList t.data.toList = Lib.compareBytes (s.data.toList.drop kk) (t.data.toList.drop kk))
  case atStart => exact ⟨0, Nat.zero_le _, Nat.zero_le _, by omega, rfl, Below.refl _ w, by simp⟩
  case round =>
    obtain ⟨kk, hk1, hk2, hg, rfl, hB, hA⟩ := hrel
    have HB := Lib.hid hB; have HG := Lib.hid hg; have HA := Lib.hid hA
    clear hB hg hA
    by_cases h1 : kk < s.size
    · have h1z : (kk : Int) < (s.size : Int) := by omega
      by_cases h2 : kk < t.size
      · have h2z : (kk : Int) < (t.size : Int) := by omega
        by_cases he : (s[kk].toNat : Int) = (t[kk].toNat : Int)
        · have hst : s[kk] = t[kk] := UInt8.toNat_inj.1 (by omega)
          have HE := Lib.hid hst
          clear hst
          go_upto_region 4 with fail
          go_region
          go_wp2_with fail
          go_roundg (s.size + 1 - (kk + 1))
          case measure => have := HG.out; omega
          case rel =>
            refine ⟨kk + 1, by omega, by omega, rfl, by go_num, HB.out.drew, ?_⟩
            rw [HA.out, drop_at s h1, drop_at t h2, cb_cons, HE.out]
            unfold lx cmpI; simp
        · have hne : Lib.compareBytes s.data.toList t.data.toList = cmpI (s[kk].toNat : Int) (t[kk].toNat : Int) := by
            rw [HA.out, drop_at s h1, drop_at t h2, cb_cons, lx, if_pos (fun e => he (cmpI_zero e))]
          have HC := Lib.hid (fun W => ints_c (s[kk].toNat : Int) (t[kk].toNat : Int) W)
          rw [← hne, ← HQ.out] at HC
          have v1 : IntKind.i64.wrap (s[kk].toNat : Int) = (s[kk].toNat : Int) := IntWalk.i64_in _ (by have := s[kk].toNat_lt; omega)
          have v2 : IntKind.i64.wrap (t[kk].toNat : Int) = (t[kk].toNat : Int) := IntWalk.i64_in _ (by have := t[kk].toNat_lt; omega)
          clear hne
          obtain ⟨wo, hwo⟩ : ∃ wo, wo = wr := ⟨_, rfl⟩
          subst hwo
          go_upto_region 4 with fail
          go_region
          go_upto_region 5 with fail
          go_region_held3 (fun _ => True) (trivial)
            (first
              | (go_at_call 101; refine (HC.out _).mono ?_; rintro e w1 ⟨rfl, hb1⟩; have HB1 := Lib.hid (HB.out.drew.drew.trans (hb1.mono HB.out.drew.drew.size)); clear hb1))
          all_goals
            go_wp2_with fail
            go_ret
            exact ⟨rfl, HB1.out⟩
      · have h2z : ¬ (kk : Int) < (t.size : Int) := by omega
        obtain rfl : kk = t.size := by omega
        have hne : Lib.compareBytes s.data.toList t.data.toList = cmpI (s.size : Int) (t.size : Int) := by
          rw [HA.out, drop_end t, drop_at s h1, Lib.compareBytes]
          unfold cmpI; rw [if_neg (by omega), if_pos (by omega)]
        have HC := Lib.hid (fun W => ints_c (s.size : Int) (t.size : Int) W)
        rw [← hne, ← HQ.out] at HC
        clear hne
        go_wp2_with (go_at_call 101; refine (HC.out _).mono ?_; rintro e w1 ⟨rfl, hb1⟩; have HB1 := Lib.hid (HB.out.trans (hb1.mono HB.out.size)); clear hb1)
        go_ret
        exact ⟨rfl, HB1.out⟩
    · have h1z : ¬ (kk : Int) < (s.size : Int) := by omega
      obtain rfl : kk = s.size := by omega
      have hne : Lib.compareBytes s.data.toList t.data.toList = cmpI (s.size : Int) (t.size : Int) := by
        rw [HA.out, drop_end s]
        by_cases h2 : s.size < t.size
        · rw [drop_at t h2, Lib.compareBytes]
          unfold cmpI; rw [if_pos (by omega)]
        · have e : t.size = s.size := by omega
          rw [← e, drop_end t, Lib.compareBytes]
          unfold cmpI; simp
      have HC := Lib.hid (fun W => ints_c (s.size : Int) (t.size : Int) W)
      rw [← hne, ← HQ.out] at HC
      clear hne
      go_wp2_with (go_at_call 101; refine (HC.out _).mono ?_; rintro e w1 ⟨rfl, hb1⟩; have HB1 := Lib.hid (HB.out.trans (hb1.mono HB.out.size)); clear hb1)
      go_ret
      exact ⟨rfl, HB1.out⟩
end Go.Proofs.YtlhkjmckigblpaaGreatDoor
/- QWb: The document's own answers of layer 2: names. -/
namespace Go.Proofs.YtlhkjmckigblpaaGreatDoor
open Go.RowKit Vp
open Go
attribute [local go_sem] Oper.semAt_some

theorem letter_c (c : UInt8) (w : World) : Calls Tryz.prog 139 #[.int .u8 (c.toNat : Int)] w fun e w' => e = .returned (.bool (small c)) ∧ Below w.heap.size w w' := by
  obtain ⟨q, hq⟩ : ∃ q, q = small c := ⟨_, rfl⟩
  rw [← hq]
  unfold small at hq
  obtain ⟨z, hz⟩ : ∃ z, c.toNat = z := ⟨_, rfl⟩
  rw [hz] at hq ⊢
  have HQ := Lib.hid hq
  clear hq hz
  by_cases h1 : (97 : Int) ≤ (z : Int)
  · by_cases h2 : (z : Int) ≤ 122
    · go_enter Tryz.func139, Tryz.ntmps139
      go_wp2_with fail
      go_ret
      exact ⟨by rw [HQ.out, decide_eq_true (by omega)]; rfl, Below.refl _ _⟩
    · go_enter Tryz.func139, Tryz.ntmps139
      go_wp2_with fail
      go_ret
      exact ⟨by rw [HQ.out, decide_eq_false (by omega)]; rfl, Below.refl _ _⟩
  · go_enter Tryz.func139, Tryz.ntmps139
    go_wp2_with fail
    go_ret
    exact ⟨by rw [HQ.out, decide_eq_false (by omega)]; rfl, Below.refl _ _⟩
theorem lpart_eq (c : UInt8) : partB c = decide (97 ≤ c.toNat ∧ c.toNat ≤ 122 ∨ 65 ≤ c.toNat ∧ c.toNat ≤ 90 ∨ 48 ≤ c.toNat ∧ c.toNat ≤ 57 ∨ c.toNat = 95) := rfl
theorem small_part {c : UInt8} (h : small c = true) : partB c = true := by
  unfold small at h; have := of_decide_eq_true h; rw [lpart_eq]; exact decide_eq_true (by omega)
theorem all_snoc (s : ByteArray) {k : Nat} (h : k < s.size) (ha : (s.data.toList.take k).all partB = true) (hp : partB s[k] = true) : (s.data.toList.take (k + 1)).all partB = true := by
  rw [List.take_add_one, List.all_append, ha, List.getElem?_eq_getElem (by simpa using h)]
  show (true && (partB s[k] && true)) = true
  rw [hp]; rfl
theorem all_no (s : ByteArray) {k : Nat} (h : k < s.size) (hp : partB s[k] = false) : s.data.toList.all partB = false := by
  rw [List.all_eq_false]
  exact ⟨s[k], List.mem_iff_getElem.2 ⟨k, by simpa using h, rfl⟩, by rw [hp]; simp⟩
set_option maxHeartbeats 1000000 in
theorem name_c (s : ByteArray) (hs : s.size ≤ maxLen) (w : World) :
    Calls Tryz.prog 125 #[.string s] w fun e w' => e = .returned (.bool (name s.data.toList)) ∧ Below w.heap.size w w' := by
  have hmax : maxLen = 9223372036854775807 := rfl
  obtain ⟨q, hq⟩ : ∃ q, q = name s.data.toList := ⟨_, rfl⟩
  rw [← hq]
  have HQ := Lib.hid hq
  clear hq
  by_cases hpos : 0 < s.size
  · have hne : (s.toList == []) = false := by
      rw [Lib.toList_data, beq_eq_false_iff_ne]; intro e
      have h0 : s.data.toList.length = 0 := by rw [e]; rfl
      rw [← size_len] at h0; omega
    have hem : s.toList.isEmpty = false := by
      rw [Lib.toList_data]; cases h : s.data.toList with
      | nil =>
        have h0 : s.data.toList.length = 0 := by rw [h]; rfl
        rw [← size_len] at h0; omega
      | cons _ _ => rfl
    by_cases hlen : (32 : Int) < (s.size : Int)
    · go_enter Tryz.func125, Tryz.ntmps125
      go_wp2_with fail
      go_ret
      exact ⟨by rw [HQ.out, name_eq s hpos, decide_eq_false (by omega)]; simp, Below.refl _ _⟩
    · have HC0 := Lib.hid (fun W => letter_c s[0] W)
      obtain ⟨z, hz⟩ : ∃ z, small s[0] = z := ⟨_, rfl⟩
      rw [hz] at HC0
      have HZ := Lib.hid hz
      clear hz
      cases z
      · go_enter Tryz.func125, Tryz.ntmps125
        go_wp2_with (go_at_call 139; refine (HC0.out _).mono ?_; rintro e w1 ⟨rfl, hb1⟩; have HB1 := Lib.hid hb1; clear hb1)
        go_ret
        exact ⟨by rw [HQ.out, name_eq s hpos, HZ.out]; simp, HB1.out⟩
      · go_enter Tryz.func125, Tryz.ntmps125
        go_wp2_with (go_at_call 139; refine (HC0.out _).mono ?_; rintro e w1 ⟨rfl, hb1⟩; have HB1 := Lib.hid hb1; clear hb1)
        go_loopg [3] (s.size + 1) (fun gg s6 wr => ∃ (kk : Nat), kk ≤ s.size ∧ gg = s.size + 1 - kk ∧ s6 = .int .i64 (kk : Int) ∧ Below w.heap.size w wr ∧ (s.data.toList.take kk).all partB = true)
        case atStart => exact ⟨0, Nat.zero_le _, by omega, rfl, HB1.out, by simp⟩
        case round =>
        clear HB1 HC0
        obtain ⟨kk, hk1, hg, rfl, hB, hA⟩ := hrel
        have HB := Lib.hid hB; have HG := Lib.hid hg; have HA := Lib.hid hA
        clear hB hg hA
        by_cases h1 : kk < s.size
        · have h1z : (kk : Int) < (s.size : Int) := by omega
          have HC := Lib.hid (fun W => letter_c s[kk] W)
          obtain ⟨z, hz⟩ : ∃ z, small s[kk] = z := ⟨_, rfl⟩
          rw [hz] at HC
          have HZ' := Lib.hid hz
          cases z
          case true =>
            clear hz
            go_wp2_with (go_at_call 139; refine (HC.out _).mono ?_; rintro e w1 ⟨rfl, hb1⟩; have HB1 := Lib.hid (HB.out.trans (hb1.mono HB.out.size)); clear hb1)
            go_roundg (s.size + 1 - (kk + 1))
            case measure => have := HG.out; omega
            case rel => exact ⟨kk + 1, by omega, rfl, by go_num, HB1.out, all_snoc s h1 HA.out (small_part HZ'.out)⟩
          have hns : ¬ (97 ≤ s[kk].toNat ∧ s[kk].toNat ≤ 122) := by unfold small at hz; exact of_decide_eq_false hz
          clear hz
          have hiv : s[kk].toNat < 48 ∨ (48 ≤ s[kk].toNat ∧ s[kk].toNat ≤ 57) ∨ (57 < s[kk].toNat ∧ s[kk].toNat < 65) ∨ (65 ≤ s[kk].toNat ∧ s[kk].toNat ≤ 90) ∨ (90 < s[kk].toNat ∧ s[kk].toNat ≠ 95) ∨ s[kk].toNat = 95 := by omega
          rcases hiv with hiv | hiv | hiv | hiv | hiv | hiv
          · have h65 : ¬ (65 : Int) ≤ s[kk].toNat := by omega
            have h90 : (s[kk].toNat : Int) ≤ 90 := by omega
            have h48 : ¬ (48 : Int) ≤ s[kk].toNat := by omega
            have h57 : (s[kk].toNat : Int) ≤ 57 := by omega
            have h95 : ¬ (s[kk].toNat : Int) = 95 := by omega
            have HP := Lib.hid (show partB s[kk] = false by rw [lpart_eq]; exact decide_eq_false (by omega))
            clear hiv hns
            go_wp2_with (go_at_call 139; refine (HC.out _).mono ?_; rintro e w1 ⟨rfl, hb1⟩; have HB1 := Lib.hid (HB.out.trans (hb1.mono HB.out.size)); clear hb1)
            all_goals first
              | (exfalso; omega)
              | (exfalso; rename_i hh _; simp at hh; omega)
              | (exfalso; rename_i hh; simp at hh; omega)
              | (go_ret; exact ⟨by rw [HQ.out, name_eq s hpos, all_no s h1 HP.out]; simp, HB1.out⟩)
          · have h65 : ¬ (65 : Int) ≤ s[kk].toNat := by omega
            have h90 : (s[kk].toNat : Int) ≤ 90 := by omega
            have h48 : (48 : Int) ≤ s[kk].toNat := by omega
            have h57 : (s[kk].toNat : Int) ≤ 57 := by omega
            have h95 : ¬ (s[kk].toNat : Int) = 95 := by omega
            have HP := Lib.hid (show partB s[kk] = true by rw [lpart_eq]; exact decide_eq_true (by omega))
            clear hiv hns
            go_wp2_with (go_at_call 139; refine (HC.out _).mono ?_; rintro e w1 ⟨rfl, hb1⟩; have HB1 := Lib.hid (HB.out.trans (hb1.mono HB.out.size)); clear hb1)
            go_roundg (s.size + 1 - (kk + 1))
            case measure => have := HG.out; omega
            case rel => exact ⟨kk + 1, by omega, rfl, by go_num, HB1.out, all_snoc s h1 HA.out HP.out⟩
          · have h65 : ¬ (65 : Int) ≤ s[kk].toNat := by omega
            have h90 : (s[kk].toNat : Int) ≤ 90 := by omega
            have h48 : (48 : Int) ≤ s[kk].toNat := by omega
            have h57 : ¬ (s[kk].toNat : Int) ≤ 57 := by omega
            have h95 : ¬ (s[kk].toNat : Int) = 95 := by omega
            have HP := Lib.hid (show partB s[kk] = false by rw [lpart_eq]; exact decide_eq_false (by omega))
            clear hiv hns
            go_wp2_with (go_at_call 139; refine (HC.out _).mono ?_; rintro e w1 ⟨rfl, hb1⟩; have HB1 := Lib.hid (HB.out.trans (hb1.mono HB.out.size)); clear hb1)
            all_goals first
              | (exfalso; omega)
              | (exfalso; rename_i hh _; simp at hh; omega)
              | (exfalso; rename_i hh; simp at hh; omega)
              | (go_ret; exact ⟨by rw [HQ.out, name_eq s hpos, all_no s h1 HP.out]; simp, HB1.out⟩)
          · have h65 : (65 : Int) ≤ s[kk].toNat := by omega
            have h90 : (s[kk].toNat : Int) ≤ 90 := by omega
            have h48 : (48 : Int) ≤ s[kk].toNat := by omega
            have h57 : ¬ (s[kk].toNat : Int) ≤ 57 := by omega
            have h95 : ¬ (s[kk].toNat : Int) = 95 := by omega
            have HP := Lib.hid (show partB s[kk] = true by rw [lpart_eq]; exact decide_eq_true (by omega))
            clear hiv hns
            go_wp2_with (go_at_call 139; refine (HC.out _).mono ?_; rintro e w1 ⟨rfl, hb1⟩; have HB1 := Lib.hid (HB.out.trans (hb1.mono HB.out.size)); clear hb1)
            go_roundg (s.size + 1 - (kk + 1))
            case measure => have := HG.out; omega
            case rel => exact ⟨kk + 1, by omega, rfl, by go_num, HB1.out, all_snoc s h1 HA.out HP.out⟩
          · have h65 : (65 : Int) ≤ s[kk].toNat := by omega
            have h90 : ¬ (s[kk].toNat : Int) ≤ 90 := by omega
            have h48 : (48 : Int) ≤ s[kk].toNat := by omega
            have h57 : ¬ (s[kk].toNat : Int) ≤ 57 := by omega
            have h95 : ¬ (s[kk].toNat : Int) = 95 := by omega
            have HP := Lib.hid (show partB s[kk] = false by rw [lpart_eq]; exact decide_eq_false (by omega))
            clear hiv hns
            go_wp2_with (go_at_call 139; refine (HC.out _).mono ?_; rintro e w1 ⟨rfl, hb1⟩; have HB1 := Lib.hid (HB.out.trans (hb1.mono HB.out.size)); clear hb1)
            all_goals first
              | (exfalso; omega)
              | (exfalso; rename_i hh _; simp at hh; omega)
              | (exfalso; rename_i hh; simp at hh; omega)
              | (go_ret; exact ⟨by rw [HQ.out, name_eq s hpos, all_no s h1 HP.out]; simp, HB1.out⟩)
          · have h65 : (65 : Int) ≤ s[kk].toNat := by omega
            have h90 : ¬ (s[kk].toNat : Int) ≤ 90 := by omega
            have h48 : (48 : Int) ≤ s[kk].toNat := by omega
            have h57 : ¬ (s[kk].toNat : Int) ≤ 57 := by omega
            have h95 : (s[kk].toNat : Int) = 95 := by omega
            have HP := Lib.hid (show partB s[kk] = true by rw [lpart_eq]; exact decide_eq_true (by omega))
            rw [h95] at HC
            have HN := Lib.hid h95
            clear hiv hns
            go_wp2_with (go_at_call 139; refine (HC.out _).mono ?_; rintro e w1 ⟨rfl, hb1⟩; have HB1 := Lib.hid (HB.out.trans (hb1.mono HB.out.size)); clear hb1)
            go_roundg (s.size + 1 - (kk + 1))
            case measure => have := HG.out; omega
            case rel => exact ⟨kk + 1, by omega, rfl, by go_num, HB1.out, all_snoc s h1 HA.out HP.out⟩
        · have h1z : ¬ (kk : Int) < (s.size : Int) := by omega
          obtain rfl : kk = s.size := by omega
          go_wp2_with fail
          go_ret
          have hall : s.data.toList.all partB = true := by have := HA.out; rwa [List.take_of_length_le (by simp)] at this
          exact ⟨by rw [HQ.out, name_eq s hpos, HZ.out, hall, decide_eq_true (by omega)]; rfl, HB.out⟩
  · have hnil : s.data.toList = [] := size_zero (by omega)
    obtain rfl : s = ⟨#[]⟩ := data_inj hnil
    have hq0 : q = false := by rw [HQ.out]; rfl
    subst hq0
    clear hpos hs hnil
    go_enter Tryz.func125, Tryz.ntmps125
    go_wp2_with fail
    go_ret
    exact ⟨rfl, Below.refl _ _⟩
end Go.Proofs.YtlhkjmckigblpaaGreatDoor
/- QWd: The document's own answers of layer 2: how deep a value is. -/
namespace Go.Proofs.YtlhkjmckigblpaaGreatDoor
open Go.RowKit Vp
open Go
attribute [local go_sem] Oper.semAt_some

theorem depthL_snoc : ∀ (l : List V) (v : V), depthL (l ++ [v]) = max (depthL l) (depth v)
  | [], v => by simp [depthL]
  | x :: xs, v => by rw [List.cons_append, depthL, depthL, depthL_snoc xs v]; omega
theorem depthL_take (l : List V) {k : Nat} (h : k < l.length) : depthL (l.take (k + 1)) = max (depthL (l.take k)) (depth l[k]) := by
  rw [List.take_add_one, List.getElem?_eq_getElem h, ← depthL_snoc]; rfl
theorem depthL_mem (l : List V) : ∀ t ∈ l, depth t ≤ depthL l := by
  induction l with
  | nil => intro t ht; cases ht
  | cons v vs ih =>
    intro t ht
    rw [depthL]
    rcases List.mem_cons.1 ht with rfl | ht
    · omega
    · have := ih t ht; omega

set_option maxHeartbeats 1000000 in
theorem depth_c (t : V) : ∀ (u : Value) (w : World), depth t < 100000000 → VRep w w.heap.size t u → Calls Tryz.prog 75 #[u] w fun e w' => e = .returned (.int .i64 (depth t : Int)) ∧ Below w.heap.size w w' := by
  induction t using V.ind with
  | h k n s l ih =>
  intro u w hd h
  obtain ⟨k', n', s', l', A, c, ht, rfl, hk, hn, hs, hR⟩ := h.open_
  obtain ⟨rfl, rfl, rfl, rfl⟩ : k = k' ∧ n = n' ∧ s = s' ∧ l = l' := by cases ht; exact ⟨rfl, rfl, rfl, rfl⟩
  have hl := hR.1; have hm := hR.2.1
  have hmax : maxLen = 9223372036854775807 := rfl
  rw [depth] at hd ⊢
  obtain ⟨q, hq⟩ : ∃ q : Int, q = ((depthL l + 1 : Nat) : Int) := ⟨_, rfl⟩
  rw [← hq]
  have HQ := Lib.hid hq; have HD := Lib.hid hd
  clear hq hd
  obtain ⟨W, hW⟩ : ∃ W, W = w.alloc (.cells #[.int .u8 (k : Int), .int .i64 n, .string s, .slice A l.length c] 34) := ⟨_, rfl⟩
  have hBW : Below w.heap.size w W := hW ▸ (Below.refl _ _).alloc (Nat.le_refl _) _
  have hsz : W.heap.size = w.heap.size + 1 := by rw [hW]; simp
  have hblk : Blk W w.heap.size 34 #[.int .u8 (k : Int), .int .i64 n, .string s, .slice A l.length c] := hW ▸ Blk.new _ _ _
  have hRW := (hR.under hBW).more hBW.size
  have HW := Lib.hid hW; have HBW := Lib.hid hBW; have HK := Lib.hid hblk; have HR := Lib.hid hRW; have IH := Lib.hid ih; have HSZ := Lib.hid hsz
  clear hW hBW hblk hRW hR h ih ht hsz
  go_enter Tryz.func75, Tryz.ntmps75
  go_wp2_with fail
  rw [← HW.out]
  go_loopg [3, 4] (l.length + 1) (fun gg s5 s6 wr => ∃ (kk : Nat) (nn : Int), kk ≤ l.length ∧ gg = l.length + 1 - kk ∧ s5 = .int .i64 nn ∧ s6 = .int .i64 (kk : Int) ∧ Below W.heap.size W wr ∧ nn = (depthL (l.take kk) : Int))
  case atStart => exact ⟨0, 0, Nat.zero_le _, by omega, rfl, rfl, Below.refl _ W, by simp [depthL]⟩
  case round =>
    obtain ⟨kk, nn, hkk, hg, rfl, rfl, hB, hS⟩ := hrel
    have HB := Lib.hid hB; have HG := Lib.hid hg; have HS := Lib.hid hS
    clear hB hg hS
    have x3 := (HK.out.below HB.out (by rw [HSZ.out]; omega)).cell 3
    simp at x3
    by_cases hlt : kk < l.length
    · have hltz : (kk : Int) < (l.length : Int) := by omega
      obtain ⟨b, off, rfl, hb, k', n', s', l', A', c', ht, hv, c0, c1, c2, c3⟩ := (HR.out.under HB.out).at_ hlt
      have hcall := IH.out _ (List.getElem_mem hlt) _ wr (by have := depthL_mem l _ (List.getElem_mem hlt); have := HD.out; omega) (hv.more HB.out.size)
      obtain ⟨z, hz⟩ : ∃ z, (depth l[kk] : Int) = z := ⟨_, rfl⟩
      rw [hz] at hcall
      have HC := Lib.hid hcall; have HZ := Lib.hid hz
      clear hcall hv ht hz
      go_wp2_with (go_at_call 75; refine HC.out.mono ?_; rintro e w' ⟨rfl, hb'⟩; have HB' := Lib.hid hb'; clear hb')
      go_roundg (l.length + 1 - (kk + 1))
      case measure => have := HG.out; omega
      case rel => exact ⟨kk + 1, _, by omega, rfl, rfl, by go_num, HB.out.trans (HB'.out.mono HB.out.size), by rw [HS.out, ← HZ.out, depthL_take l hlt]; omega⟩
    · have hltz : ¬ (kk : Int) < (l.length : Int) := by omega
      obtain rfl : kk = l.length := by omega
      have hn1 : nn + 1 = q := by rw [HS.out, HQ.out, List.take_length]; rfl
      have hw1 : IntKind.i64.wrap (nn + 1) = nn + 1 := IntWalk.i64_in _ (by have := HD.out; have := HQ.out; omega)
      have HN := Lib.hid hn1
      clear hn1
      go_wp2_with fail
      go_ret
      exact ⟨by rw [← HN.out]; rfl, HBW.out.trans (HB.out.mono HBW.out.size)⟩
end Go.Proofs.YtlhkjmckigblpaaGreatDoor
/- QWe: The document's own answers of layer 2: whole numbers. -/
namespace Go.Proofs.YtlhkjmckigblpaaGreatDoor
open Go.RowKit Vp Pl
open Go
attribute [local go_sem] Oper.semAt_some

theorem neg_byte {s : ByteArray} (h : 0 < s.size) : negB s = decide ((s[0].toNat : Int) = 45) := by
  rw [← neg_yes h]; by_cases e : (s[0].toNat : Int) = 45 <;> simp [e]
theorem ext_size (s : ByteArray) : (s.extract 1 s.size).size = s.size - 1 := by simp
theorem ext_data {s : ByteArray} (h : negB s = true) : (s.extract 1 s.size).data.toList = mag s.data.toList := by
  rw [Lib.extract_data, mag_drop, frm, if_pos h, List.take_of_length_le]; rw [size_len]; simp
theorem self_data {s : ByteArray} (h : negB s = false) : s.data.toList = mag s.data.toList := by
  rw [mag_drop, frm, h]; simp

set_option maxHeartbeats 1000000 in
theorem number_c (s : ByteArray) (hs : s.size ≤ maxLen) (w : World) :
    Calls Tryz.prog 98 #[.string s] w fun e w' => e = .returned (.bool (decide (chk s.data.toList ≠ 4))) ∧ Below w.heap.size w w' := by
  have hmax : maxLen = 9223372036854775807 := rfl
  obtain ⟨q, hq⟩ : ∃ q, q = decide (chk s.data.toList ≠ 4) := ⟨_, rfl⟩
  rw [← hq]
  have HQ := Lib.hid hq
  clear hq
  by_cases hpos : 0 < s.size
  · by_cases hone : (1 : Int) < (s.size : Int)
    · by_cases hneg : (s[0].toNat : Int) = 45
      · have hnb : negB s = true := by rw [neg_byte hpos]; exact decide_eq_true hneg
        obtain ⟨d, hd⟩ : ∃ d, s.extract 1 s.size = d := ⟨_, rfl⟩
        have hds : d.size = s.size - 1 := by rw [← hd]; exact ext_size s
        have hdd : d.data.toList = mag s.data.toList := by rw [← hd]; exact ext_data hnb
        have HD := Lib.hid hdd; have HS := Lib.hid hds
        have hdpos : 0 < d.size := by omega
        have hdm : d.size ≤ maxLen := by omega
        have hne : s.data.toList ≠ [48] := fun e => by have := congrArg List.length e; rw [← size_len] at this; simp at this; omega
        have hem : d.toList.isEmpty = false := by
          rw [Lib.toList_data]; cases h : d.data.toList with
          | nil =>
            have h0 : d.data.toList.length = 0 := by rw [h]; rfl
            rw [← size_len] at h0; omega
          | cons _ _ => rfl
        clear hdd hds
        by_cases h48 : (d[0].toNat : Int) = 48
        · have hq0 : q = false := by
            rw [HQ.out, chk_zero (by rw [← HD.out, head_of hdpos, show d[0] = 48 from UInt8.toNat_inj.1 (by show _ = 48; omega)]) hne]; rfl
          subst hq0
          go_enter Tryz.func98, Tryz.ntmps98
          go_wp2_with fail
          go_ret
          exact ⟨rfl, Below.refl _ _⟩
        · have HBAD := Lib.hid (bad_other (s := s) hdpos h48)
          have h48b : ((d[0].toNat : Int) == 48) = false := by simpa using h48
          clear h48
          by_cases hd1 : (1 : Int) < (d.size : Int)
          all_goals
            go_enter Tryz.func98, Tryz.ntmps98
            go_wp2_with fail
            go_loopg [3] (d.size + 1) (fun gg s6 wr => ∃ (kk : Nat), kk ≤ d.size ∧ gg = d.size + 1 - kk ∧ s6 = .int .i64 (kk : Int) ∧ Below w.heap.size w wr ∧ (d.data.toList.take kk).all isDig = true)
            case atStart => exact ⟨0, Nat.zero_le _, by omega, rfl, Below.refl _ _, by simp⟩
            case round =>
              obtain ⟨kk, hk1, hg, rfl, hB, hA⟩ := hrel
              have HB := Lib.hid hB; have HG := Lib.hid hg; have HA := Lib.hid hA
              clear hB hg hA
              by_cases h1 : kk < d.size
              · have h1z : (kk : Int) < (d.size : Int) := by omega
                by_cases hc : isDig d[kk] = true
                · have hc1 : (48 : Int) ≤ d[kk].toNat ∧ (d[kk].toNat : Int) ≤ 57 := by
                    unfold isDig at hc; have := of_decide_eq_true hc; omega
                  obtain ⟨hc1, hc2⟩ := hc1
                  have HC := Lib.hid hc; clear hc
                  go_wp2_with fail
                  go_roundg (d.size + 1 - (kk + 1))
                  case measure => have := HG.out; omega
                  case rel => exact ⟨kk + 1, by omega, rfl, by go_num, HB.out, all_take_snoc (by rw [← size_len]; exact h1) HA.out HC.out⟩
                · have hc1 : (d[kk].toNat : Int) < 48 ∨ 57 < (d[kk].toNat : Int) := by
                    unfold isDig at hc; simp at hc; omega
                  have HC := Lib.hid hc; clear hc
                  have hq0 : q = false := by
                    rw [HQ.out, bad_dig HD.out h1 HC.out]; rfl
                  subst hq0
                  rcases hc1 with hc1 | hc1
                  all_goals
                    go_wp2_with fail
                    go_ret
                    exact ⟨rfl, HB.out⟩
              · have h1z : ¬ (kk : Int) < (d.size : Int) := by omega
                obtain rfl : kk = d.size := by omega
                have hq1 : q = true := by
                  rw [HQ.out, good_of HD.out HBAD.out HA.out]; split <;> rfl
                subst hq1
                go_wp2_with fail
                go_ret
                exact ⟨rfl, HB.out⟩
      · have hnb : negB s = false := by rw [neg_byte hpos]; exact decide_eq_false hneg
        have HD := Lib.hid (self_data hnb)
        have hne : s.data.toList ≠ [48] := fun e => by have := congrArg List.length e; rw [← size_len] at this; simp at this; omega
        have hem : s.toList.isEmpty = false := by
          rw [Lib.toList_data]; cases h : s.data.toList with
          | nil =>
            have h0 : s.data.toList.length = 0 := by rw [h]; rfl
            rw [← size_len] at h0; omega
          | cons _ _ => rfl
        by_cases h48 : (s[0].toNat : Int) = 48
        · have hq0 : q = false := by
            rw [HQ.out, chk_zero (by rw [← HD.out, head_of hpos, show s[0] = 48 from UInt8.toNat_inj.1 (by show _ = 48; omega)]) hne]; rfl
          subst hq0
          clear hne
          go_enter Tryz.func98, Tryz.ntmps98
          go_wp2_with fail
          go_ret
          exact ⟨rfl, Below.refl _ _⟩
        · have HBAD := Lib.hid (bad_other (s := s) hpos h48)
          have h48b : ((s[0].toNat : Int) == 48) = false := by simpa using h48
          have h45b : ((s[0].toNat : Int) == 45) = false := by simpa using hneg
          clear h48 hneg
          clear hne
          go_enter Tryz.func98, Tryz.ntmps98
          go_wp2_with fail
          go_loopg [3] (s.size + 1) (fun gg s6 wr => ∃ (kk : Nat), kk ≤ s.size ∧ gg = s.size + 1 - kk ∧ s6 = .int .i64 (kk : Int) ∧ Below w.heap.size w wr ∧ (s.data.toList.take kk).all isDig = true)
          case atStart => exact ⟨0, Nat.zero_le _, by omega, rfl, Below.refl _ _, by simp⟩
          case round =>
            obtain ⟨kk, hk1, hg, rfl, hB, hA⟩ := hrel
            have HB := Lib.hid hB; have HG := Lib.hid hg; have HA := Lib.hid hA
            clear hB hg hA
            by_cases h1 : kk < s.size
            · have h1z : (kk : Int) < (s.size : Int) := by omega
              by_cases hc : isDig s[kk] = true
              · have hc1 : (48 : Int) ≤ s[kk].toNat ∧ (s[kk].toNat : Int) ≤ 57 := by
                  unfold isDig at hc; have := of_decide_eq_true hc; omega
                obtain ⟨hc1, hc2⟩ := hc1
                have HC := Lib.hid hc; clear hc
                go_wp2_with fail
                go_roundg (s.size + 1 - (kk + 1))
                case measure => have := HG.out; omega
                case rel => exact ⟨kk + 1, by omega, rfl, by go_num, HB.out, all_take_snoc (by rw [← size_len]; exact h1) HA.out HC.out⟩
              · have hc1 : (s[kk].toNat : Int) < 48 ∨ 57 < (s[kk].toNat : Int) := by
                  unfold isDig at hc; simp at hc; omega
                have HC := Lib.hid hc; clear hc
                have hq0 : q = false := by
                  rw [HQ.out, bad_dig HD.out h1 HC.out]; rfl
                subst hq0
                rcases hc1 with hc1 | hc1
                all_goals
                  go_wp2_with fail
                  go_ret
                  exact ⟨rfl, HB.out⟩
            · have h1z : ¬ (kk : Int) < (s.size : Int) := by omega
              obtain rfl : kk = s.size := by omega
              have hq1 : q = true := by
                rw [HQ.out, good_of HD.out HBAD.out HA.out]; split <;> rfl
              subst hq1
              go_wp2_with fail
              go_ret
              exact ⟨rfl, HB.out⟩
    · have hs1 : s.size = 1 := by omega
      have hnb0 : negB s = true → mag s.data.toList = [] := fun h => by
        rw [mag_drop, frm, if_pos h]; exact List.drop_eq_nil_of_le (by rw [← size_len]; omega)
      have hem : s.toList.isEmpty = false := by
        rw [Lib.toList_data]; cases h : s.data.toList with
        | nil =>
          have h0 : s.data.toList.length = 0 := by rw [h]; rfl
          rw [← size_len] at h0; omega
        | cons _ _ => rfl
      cases hnb : negB s with
      | true =>
        have hq0 : q = false := by rw [HQ.out, chk_nil (hnb0 hnb)]; rfl
        subst hq0
        have h45 : (s[0].toNat : Int) = 45 := by rw [neg_byte hpos] at hnb; exact of_decide_eq_true hnb
        have HN := Lib.hid h45; have HS1 := Lib.hid hs1
        clear hnb0 hnb h45 hs1
        go_enter Tryz.func98, Tryz.ntmps98
        go_wp2_with fail
        go_loopg [3] (s.size + 1) (fun gg s6 wr => gg = s.size + 1 ∧ s6 = .int .i64 0 ∧ Below w.heap.size w wr)
        case atStart => exact ⟨rfl, rfl, Below.refl _ _⟩
        case round =>
          obtain ⟨hg, rfl, hB⟩ := hrel
          have HB := Lib.hid hB
          clear hB hg
          have hlt0 : (0 : Int) < (s.size : Int) := by omega
          have hlt48 : (s[0].toNat : Int) < 48 := by rw [HN.out]; decide
          go_wp2_with fail
          go_ret
          exact ⟨rfl, HB.out⟩
      | false =>
        have HD := Lib.hid (self_data hnb)
        have hbad : badB s s = false := by
          have n0 := toList_ne hpos; rw [Lib.toList_data] at n0
          obtain ⟨c, hc⟩ := List.length_eq_one_iff.1 (show s.data.toList.length = 1 by rw [← size_len]; exact hs1)
          unfold badB; rw [hc]
          by_cases h : c = 48 <;> simp [h]
        have HBAD := Lib.hid hbad
        clear hbad
        clear hnb hnb0
        go_enter Tryz.func98, Tryz.ntmps98
        go_wp2_with fail
        go_loopg [3] (s.size + 1) (fun gg s6 wr => ∃ (kk : Nat), kk ≤ s.size ∧ gg = s.size + 1 - kk ∧ s6 = .int .i64 (kk : Int) ∧ Below w.heap.size w wr ∧ (s.data.toList.take kk).all isDig = true)
        case atStart => exact ⟨0, Nat.zero_le _, by omega, rfl, Below.refl _ _, by simp⟩
        case round =>
          obtain ⟨kk, hk1, hg, rfl, hB, hA⟩ := hrel
          have HB := Lib.hid hB; have HG := Lib.hid hg; have HA := Lib.hid hA
          clear hB hg hA
          by_cases h1 : kk < s.size
          · have h1z : (kk : Int) < (s.size : Int) := by omega
            by_cases hc : isDig s[kk] = true
            · have hc1 : (48 : Int) ≤ s[kk].toNat ∧ (s[kk].toNat : Int) ≤ 57 := by
                unfold isDig at hc; have := of_decide_eq_true hc; omega
              obtain ⟨hc1, hc2⟩ := hc1
              have HC := Lib.hid hc; clear hc
              go_wp2_with fail
              go_roundg (s.size + 1 - (kk + 1))
              case measure => have := HG.out; omega
              case rel => exact ⟨kk + 1, by omega, rfl, by go_num, HB.out, all_take_snoc (by rw [← size_len]; exact h1) HA.out HC.out⟩
            · have hc1 : (s[kk].toNat : Int) < 48 ∨ 57 < (s[kk].toNat : Int) := by
                unfold isDig at hc; simp at hc; omega
              have HC := Lib.hid hc; clear hc
              have hq0 : q = false := by
                rw [HQ.out, bad_dig HD.out h1 HC.out]; rfl
              subst hq0
              rcases hc1 with hc1 | hc1
              all_goals
                go_wp2_with fail
                go_ret
                exact ⟨rfl, HB.out⟩
          · have h1z : ¬ (kk : Int) < (s.size : Int) := by omega
            obtain rfl : kk = s.size := by omega
            have hq1 : q = true := by
              rw [HQ.out, good_of HD.out HBAD.out HA.out]; split <;> rfl
            subst hq1
            go_wp2_with fail
            go_ret
            exact ⟨rfl, HB.out⟩
  · obtain rfl : s = ⟨#[]⟩ := data_inj (size_zero (by omega))
    have hq0 : q = false := by rw [HQ.out]; rfl
    subst hq0
    clear hpos hs
    go_enter Tryz.func98, Tryz.ntmps98
    go_wp2_with fail
    go_ret
    exact ⟨rfl, Below.refl _ _⟩
end Go.Proofs.YtlhkjmckigblpaaGreatDoor
/- QWf: The document's own answers of layer 2: constructors' names. -/
namespace Go.Proofs.YtlhkjmckigblpaaGreatDoor
open Go.RowKit Vp Pl
open Go
attribute [local go_sem] Oper.semAt_some

def noDot (c : UInt8) : Bool := decide (c ≠ 46)
theorem cut_append : ∀ (a b : List UInt8), a.all noDot = true → Vp.cut (a ++ 46 :: b) = some (a, b)
  | [], b, _ => by simp [Vp.cut]
  | c :: a, b, h => by
    rw [List.all_cons, Bool.and_eq_true] at h
    have hc : c ≠ 46 := of_decide_eq_true h.1
    rw [List.cons_append, Vp.cut, if_neg hc, cut_append a b h.2]; rfl
theorem cut_none : ∀ a : List UInt8, a.all noDot = true → Vp.cut a = none
  | [], _ => rfl
  | c :: a, h => by
    rw [List.all_cons, Bool.and_eq_true] at h
    have hc : c ≠ 46 := of_decide_eq_true h.1
    rw [Vp.cut, if_neg hc, cut_none a h.2]; rfl
theorem cut_at (s : ByteArray) {k : Nat} (hk : k < s.size) (h : (s.data.toList.take k).all noDot = true) (hc : s[k] = 46) : Vp.cut s.data.toList = some (s.data.toList.take k, s.data.toList.drop (k + 1)) := by
  have e : s.data.toList = s.data.toList.take k ++ 46 :: s.data.toList.drop (k + 1) := by
    rw [← hc, ← drop_at s hk, List.take_append_drop]
  have := cut_append _ (s.data.toList.drop (k + 1)) h
  rw [← e] at this; exact this
theorem names_true : cons tTrue = false := by decide
theorem names_false : cons tFalse = false := by decide

set_option maxHeartbeats 1000000 in
theorem names_c (s : ByteArray) (hs : s.size ≤ maxLen) (w : World) :
    Calls Tryz.prog 99 #[.string s] w fun e w' => e = .returned (.bool (cons s.data.toList)) ∧ Below w.heap.size w w' := by
  have hmax : maxLen = 9223372036854775807 := rfl
  obtain ⟨q, hq⟩ : ∃ q, q = cons s.data.toList := ⟨_, rfl⟩
  rw [← hq]
  have HQ := Lib.hid hq
  clear hq
  by_cases ht : s.data.toList = tTrue
  · obtain rfl : s = ⟨#[116, 114, 117, 101]⟩ := data_inj ht
    have hq0 : q = false := by rw [HQ.out]; decide
    subst hq0
    clear ht hs
    go_enter Tryz.func99, Tryz.ntmps99
    go_wp2_with fail
    go_ret
    exact ⟨rfl, Below.refl _ _⟩
  by_cases hf : s.data.toList = tFalse
  · obtain rfl : s = ⟨#[102, 97, 108, 115, 101]⟩ := data_inj hf
    have hq0 : q = false := by rw [HQ.out]; decide
    subst hq0
    clear ht hs hf
    go_enter Tryz.func99, Tryz.ntmps99
    go_wp2_with fail
    go_ret
    exact ⟨rfl, Below.refl _ _⟩
  have ht' : (s.toList == [116, 114, 117, 101]) = false := by rw [Lib.toList_data, beq_eq_false_iff_ne]; exact ht
  have hf' : (s.toList == [102, 97, 108, 115, 101]) = false := by rw [Lib.toList_data, beq_eq_false_iff_ne]; exact hf
  have HT := Lib.hid ht; have HF := Lib.hid hf
  clear ht hf
  go_enter Tryz.func99, Tryz.ntmps99
  go_wp2_with fail
  go_loopg [3] (s.size + 1) (fun gg s6 wr => ∃ (kk : Nat), kk ≤ s.size ∧ gg = s.size + 1 - kk ∧ s6 = .int .i64 (kk : Int) ∧ Below w.heap.size w wr ∧ (s.data.toList.take kk).all noDot = true)
  case atStart => exact ⟨0, Nat.zero_le _, by omega, rfl, Below.refl _ _, by simp⟩
  case round =>
    obtain ⟨kk, hk1, hg, rfl, hB, hA⟩ := hrel
    have HB := Lib.hid hB; have HG := Lib.hid hg; have HA := Lib.hid hA
    clear hB hg hA
    by_cases h1 : kk < s.size
    · have h1z : (kk : Int) < (s.size : Int) := by omega
      by_cases hd : (s[kk].toNat : Int) = 46
      · have hdot : s[kk] = 46 := UInt8.toNat_inj.1 (by show _ = 46; omega)
        have hcut := cut_at s h1 HA.out hdot
        obtain ⟨m, hm⟩ : ∃ m, s.extract 0 kk = m := ⟨_, rfl⟩
        obtain ⟨o, ho⟩ : ∃ o, s.extract (kk + 1) s.size = o := ⟨_, rfl⟩
        have hm2 : m.data.toList = s.data.toList.take kk := by rw [← hm, Lib.extract_data]; simp
        have ho2 : o.data.toList = s.data.toList.drop (kk + 1) := by
          rw [← ho, Lib.extract_data, List.take_of_length_le]; rw [size_len]; simp
        have hms : m.size ≤ maxLen := by rw [size_len, hm2]; simp; omega
        have hos : o.size ≤ maxLen := by rw [size_len, ho2]; simp; omega
        have hcons : cons s.data.toList = (name m.data.toList && name o.data.toList) := by unfold cons; rw [hcut, hm2, ho2]
        have HM := Lib.hid (fun W => name_c m hms W); have HO := Lib.hid (fun W => name_c o hos W)
        obtain ⟨z1, hz1⟩ : ∃ z, name m.data.toList = z := ⟨_, rfl⟩
        obtain ⟨z2, hz2⟩ : ∃ z, name o.data.toList = z := ⟨_, rfl⟩
        rw [hz1] at HM hcons
        rw [hz2] at HO hcons
        rw [hcons] at HQ
        clear hm2 ho2 hms hos hcons hcut hz1 hz2 hdot
        cases z1 with
        | false =>
          have hq0 : q = false := HQ.out
          subst hq0
          go_wp2_with (go_at_call 125; refine (HM.out _).mono ?_; rintro e w1 ⟨rfl, hb1⟩; have HB1 := Lib.hid (HB.out.trans (hb1.mono HB.out.size)); clear hb1)
          go_ret
          exact ⟨rfl, HB1.out⟩
        | true =>
          have hq0 : q = z2 := HQ.out
          subst hq0
          go_wp2_with (first
            | (have hx := HB1; clear hx; go_at_call 125; refine (HO.out _).mono ?_; rintro e w2 ⟨rfl, hb1⟩; have HB2 := Lib.hid (HB1.out.trans (hb1.mono HB1.out.size)); clear hb1)
            | (go_at_call 125; refine (HM.out _).mono ?_; rintro e w1 ⟨rfl, hb1⟩; have HB1 := Lib.hid (HB.out.trans (hb1.mono HB.out.size)); clear hb1))
          go_ret
          exact ⟨rfl, HB2.out⟩
      · have hnd : noDot s[kk] = true := decide_eq_true fun e => hd (by rw [e]; rfl)
        have HN := Lib.hid hnd
        clear hnd
        go_wp2_with fail
        go_roundg (s.size + 1 - (kk + 1))
        case measure => have := HG.out; omega
        case rel => exact ⟨kk + 1, by omega, rfl, by go_num, HB.out, all_take_snoc (by rw [← size_len]; exact h1) HA.out HN.out⟩
    · have h1z : ¬ (kk : Int) < (s.size : Int) := by omega
      obtain rfl : kk = s.size := by omega
      have hcut : Vp.cut s.data.toList = none := cut_none _ (by have := HA.out; rwa [List.take_of_length_le (by simp)] at this)
      have hcons : cons s.data.toList = name s.data.toList := by
        unfold cons; rw [hcut]; simp only
        rw [decide_eq_true HT.out, decide_eq_true HF.out]; simp
      have HM := Lib.hid (fun W => name_c s hs W)
      rw [← hcons, ← HQ.out] at HM
      clear hcut hcons
      go_wp2_with (go_at_call 125; refine (HM.out _).mono ?_; rintro e w1 ⟨rfl, hb1⟩; have HB1 := Lib.hid (HB.out.trans (hb1.mono HB.out.size)); clear hb1)
      go_ret
      exact ⟨rfl, HB1.out⟩

theorem digits_c (s : ByteArray) (hs : s.size ≤ maxLen) (hpos : 0 < s.size) (w : World) :
    Calls Tryz.prog 100 #[.string s] w fun e w' => e = .returned (.int .i64 ((mag s.data.toList).length : Int)) ∧ Below w.heap.size w w' := by
  have hmax : maxLen = 9223372036854775807 := rfl
  obtain ⟨q, hq⟩ : ∃ q : Int, q = ((mag s.data.toList).length : Int) := ⟨_, rfl⟩
  rw [← hq]
  have hlen : ((mag s.data.toList).length : Int) = (s.size : Int) - (if negB s then 1 else 0) := by
    rw [mag_drop, List.length_drop, ← size_len]; unfold frm; split <;> omega
  rw [hlen] at hq
  clear hlen
  by_cases hneg : (s[0].toNat : Int) = 45
  · have hnb : negB s = true := by rw [neg_byte hpos]; exact decide_eq_true hneg
    rw [hnb] at hq
    have hw0 : IntKind.i64.wrap ((s.size : Int) - 1) = q := by rw [IntWalk.i64_in _ (by omega), hq]; rfl
    clear hnb hq
    go_enter Tryz.func100, Tryz.ntmps100
    go_wp2_with fail
    go_ret
    exact ⟨rfl, Below.refl _ _⟩
  · have hnb : negB s = false := by rw [neg_byte hpos]; exact decide_eq_false hneg
    rw [hnb] at hq
    have HQ := Lib.hid (show q = (s.size : Int) by rw [hq]; simp)
    clear hnb hq
    go_enter Tryz.func100, Tryz.ntmps100
    go_wp2_with fail
    go_ret
    exact ⟨by rw [HQ.out]; rfl, Below.refl _ _⟩
end Go.Proofs.YtlhkjmckigblpaaGreatDoor
/- QWg: The document's own answers of layer 2: which values have the right form, and fit. -/
namespace Go.Proofs.YtlhkjmckigblpaaGreatDoor
open Go.RowKit Vp Pl
open Go
attribute [local go_sem] Oper.semAt_some

theorem take_false {p : Bool} {f : V → Bool} {l : List V} {k : Nat} (h : false = (p && (l.take k).all f)) : (p && l.all f) = false := by
  cases p with
  | false => rfl
  | true =>
    rw [Bool.true_and] at h ⊢
    cases hl : l.all f with
    | false => rfl
    | true =>
      have : (l.take k).all f = true := by
        rw [List.all_eq_true] at hl ⊢
        exact fun x hx => hl x (List.mem_of_mem_take hx)
      rw [this] at h; cases h
theorem take_step {p z : Bool} {f : V → Bool} {l : List V} {k : Nat} (hk : k < l.length) (h : true = (p && (l.take k).all f)) (hz : f l[k] = z) : z = (p && (l.take (k + 1)).all f) := by
  rw [List.take_add_one, List.getElem?_eq_getElem hk, List.all_append, ← Bool.and_assoc, ← h]
  simp [hz]
theorem form_eq (p : V → Bool) (k : Nat) (n : Int) (s : ByteArray) (l : List V) : (!some_ p (.mk k n s l)) = ((!p (.mk k n s l)) && l.all fun c => !some_ p c) := by
  rw [some_eq, Bool.not_or]
  congr 1
  induction l with
  | nil => rfl
  | cons x xs ih => rw [List.all_cons, ← ih]; simp [V.lst]
theorem empty_iff (s : ByteArray) : s.toList.isEmpty = decide (s.size = 0) := by
  rw [Lib.toList_data, size_len]; cases s.data.toList <;> simp

set_option maxHeartbeats 8000000 in
theorem form_c (t : V) : ∀ (u : Value) (w : World), VRep w w.heap.size t u → Calls Tryz.prog 76 #[u] w fun e w' => e = .returned (.bool (!some_ (bad chk) t)) ∧ Below w.heap.size w w' := by
  induction t using V.ind with
  | h k n s l ih =>
  intro u w h
  obtain ⟨k', n', s', l', A, c, ht, rfl, hk, hn, hs, hR⟩ := h.open_
  obtain ⟨rfl, rfl, rfl, rfl⟩ : k = k' ∧ n = n' ∧ s = s' ∧ l = l' := by cases ht; exact ⟨rfl, rfl, rfl, rfl⟩
  have hl := hR.1; have hm := hR.2.1
  have hmax : maxLen = 9223372036854775807 := rfl
  obtain ⟨q, hq⟩ : ∃ q, q = !some_ (bad chk) (.mk k n s l) := ⟨_, rfl⟩
  rw [← hq]
  rw [form_eq] at hq
  have HQ := Lib.hid hq
  clear hq
  obtain ⟨W, hW⟩ : ∃ W, W = w.alloc (.cells #[.int .u8 (k : Int), .int .i64 n, .string s, .slice A l.length c] 34) := ⟨_, rfl⟩
  have hBW : Below w.heap.size w W := hW ▸ (Below.refl _ _).alloc (Nat.le_refl _) _
  have hsz : W.heap.size = w.heap.size + 1 := by rw [hW]; simp
  have hblk : Blk W w.heap.size 34 #[.int .u8 (k : Int), .int .i64 n, .string s, .slice A l.length c] := hW ▸ Blk.new _ _ _
  have hRW := (hR.under hBW).more hBW.size
  have HW := Lib.hid hW; have HBW := Lib.hid hBW; have HK := Lib.hid hblk; have HR := Lib.hid hRW; have IH := Lib.hid ih; have HSZ := Lib.hid hsz; have HSS := Lib.hid hs
  clear hW hBW hblk hRW hR h ih ht hsz
  have hcases : k = 1 ∨ k = 2 ∨ k = 3 ∨ k = 4 ∨ k = 5 ∨ k = 6 ∨ (k ≠ 1 ∧ k ≠ 2 ∧ k ≠ 3 ∧ k ≠ 4 ∧ k ≠ 5 ∧ k ≠ 6) := by omega
  rcases hcases with rfl | rfl | rfl | rfl | rfl | rfl | hne
  · obtain ⟨b1, h1⟩ : ∃ b, (n == 0) = b := ⟨_, rfl⟩
    have e1 : decide (n ≠ 0) = !b1 := by rw [← h1]; by_cases h : n = 0 <;> simp [h]
    obtain ⟨b2, h2⟩ : ∃ b, (n == 1) = b := ⟨_, rfl⟩
    have e2 : decide (n ≠ 1) = !b2 := by rw [← h2]; by_cases h : n = 1 <;> simp [h]
    obtain ⟨b3, h3⟩ : ∃ b, s.toList.isEmpty = b := ⟨_, rfl⟩
    have e3 : decide (s.size ≠ 0) = !b3 := by rw [← h3, empty_iff]; by_cases h : s.size = 0 <;> simp [h]
    obtain ⟨b4, h4⟩ : ∃ b, ((l.length : Int) == 0) = b := ⟨_, rfl⟩
    have e4 : l.isEmpty = b4 := by rw [← h4]; cases l <;> simp; omega
    have hbad : (bad chk) (.mk 1 n s l) = ((!b1 && !b2) || !b3 || !b4) := by simp only [bad, e1, e2, e3, e4]
    have HBAD := Lib.hid hbad
    clear hbad e1 e2 e3 e4
    have hsp : (b1 = true ∧ b3 = false) ∨ (b1 = true ∧ b3 = true ∧ b4 = false) ∨ (b1 = true ∧ b3 = true ∧ b4 = true) ∨ (b1 = false ∧ b2 = false) ∨ (b1 = false ∧ b2 = true ∧ b3 = false) ∨ (b1 = false ∧ b2 = true ∧ b3 = true ∧ b4 = false) ∨ (b1 = false ∧ b2 = true ∧ b3 = true ∧ b4 = true) := by cases b1 <;> cases b2 <;> cases b3 <;> cases b4 <;> simp
    rcases hsp with ⟨rfl, rfl⟩ | ⟨rfl, rfl, rfl⟩ | ⟨rfl, rfl, rfl⟩ | ⟨rfl, rfl⟩ | ⟨rfl, rfl, rfl⟩ | ⟨rfl, rfl, rfl, rfl⟩ | ⟨rfl, rfl, rfl, rfl⟩
    all_goals
      go_enter Tryz.func76, Tryz.ntmps76
      go_upto_region 15 with (fail)
    all_goals
      go_wp2_with fail
      go_loopg [3, 4] (l.length + 1) (fun gg s5 s6 wr => ∃ (kk : Nat) (b : Bool), kk ≤ l.length ∧ gg = l.length + 1 - kk ∧ s5 = .bool b ∧ s6 = .int .i64 (kk : Int) ∧ Below W.heap.size W wr ∧ b = ((!(bad chk) (.mk _ n s l)) && (l.take kk).all fun c => !some_ (bad chk) c))
      case atStart => exact ⟨0, _, Nat.zero_le _, by omega, rfl, rfl, (by first | exact HB1.out | (have h := Below.refl W.heap.size W; rw [HW.out] at h ⊢; exact h)), by rw [HBAD.out]; rfl⟩
      case round =>
        obtain ⟨kk, b, hkk, hg, rfl, rfl, hB, hS⟩ := hrel
        have HB := Lib.hid hB; have HG := Lib.hid hg; have HS := Lib.hid hS
        clear hB hg hS
        have x3 := (HK.out.below HB.out (by rw [HSZ.out]; omega)).cell 3
        simp at x3
        cases b with
        | false =>
          have hq0 : q = false := by rw [HQ.out]; exact take_false HS.out
          subst hq0
          by_cases hlt : kk < l.length
          · have hltz : (kk : Int) < (l.length : Int) := by omega
            go_wp2_with fail
            go_ret
            exact ⟨rfl, HBW.out.trans (HB.out.mono HBW.out.size)⟩
          · have hltz : ¬ (kk : Int) < (l.length : Int) := by omega
            go_wp2_with fail
            go_ret
            exact ⟨rfl, HBW.out.trans (HB.out.mono HBW.out.size)⟩
        | true =>
          by_cases hlt : kk < l.length
          · have hltz : (kk : Int) < (l.length : Int) := by omega
            obtain ⟨bb, off, rfl, hb, k', n', s', l', A', c', ht, hv, c0, c1, c2, c3⟩ := (HR.out.under HB.out).at_ hlt
            have hcall := IH.out _ (List.getElem_mem hlt) _ wr (hv.more HB.out.size)
            obtain ⟨z, hz⟩ : ∃ z, (!some_ (bad chk) l[kk]) = z := ⟨_, rfl⟩
            rw [hz] at hcall
            have HC := Lib.hid hcall; have HZ := Lib.hid (take_step hlt HS.out hz)
            clear hcall hv ht hz
            go_wp2_with (go_at_call 76; refine HC.out.mono ?_; rintro e w' ⟨rfl, hb'⟩; have HB' := Lib.hid hb'; clear hb')
            go_roundg (l.length + 1 - (kk + 1))
            case measure => have := HG.out; omega
            case rel => exact ⟨kk + 1, _, by omega, rfl, rfl, by go_num, HB.out.trans (HB'.out.mono HB.out.size), HZ.out⟩
          · have hltz : ¬ (kk : Int) < (l.length : Int) := by omega
            obtain rfl : kk = l.length := by omega
            have hq0 : q = true := by
              rw [HQ.out]; have := HS.out; rw [List.take_length] at this; exact this.symm
            subst hq0
            go_wp2_with fail
            go_ret
            exact ⟨rfl, HBW.out.trans (HB.out.mono HBW.out.size)⟩
  · obtain ⟨b3, h3⟩ : ∃ b, s.toList.isEmpty = b := ⟨_, rfl⟩
    have e3 : decide (s.size ≠ 0) = !b3 := by rw [← h3, empty_iff]; by_cases h : s.size = 0 <;> simp [h]
    obtain ⟨b4, h4⟩ : ∃ b, ((l.length : Int) == 0) = b := ⟨_, rfl⟩
    have e4 : l.isEmpty = b4 := by rw [← h4]; cases l <;> simp; omega
    have hbad : (bad chk) (.mk 2 n s l) = (!b3 || !b4) := by simp only [bad, e3, e4]
    have HBAD := Lib.hid hbad
    clear hbad e3 e4
    have hsp : (b3 = false) ∨ (b3 = true ∧ b4 = false) ∨ (b3 = true ∧ b4 = true) := by cases b3 <;> cases b4 <;> simp
    rcases hsp with rfl | ⟨rfl, rfl⟩ | ⟨rfl, rfl⟩
    all_goals
      go_enter Tryz.func76, Tryz.ntmps76
      go_upto_region 15 with (fail)
    all_goals
      go_wp2_with fail
      go_loopg [3, 4] (l.length + 1) (fun gg s5 s6 wr => ∃ (kk : Nat) (b : Bool), kk ≤ l.length ∧ gg = l.length + 1 - kk ∧ s5 = .bool b ∧ s6 = .int .i64 (kk : Int) ∧ Below W.heap.size W wr ∧ b = ((!(bad chk) (.mk _ n s l)) && (l.take kk).all fun c => !some_ (bad chk) c))
      case atStart => exact ⟨0, _, Nat.zero_le _, by omega, rfl, rfl, (by first | exact HB1.out | (have h := Below.refl W.heap.size W; rw [HW.out] at h ⊢; exact h)), by rw [HBAD.out]; rfl⟩
      case round =>
        obtain ⟨kk, b, hkk, hg, rfl, rfl, hB, hS⟩ := hrel
        have HB := Lib.hid hB; have HG := Lib.hid hg; have HS := Lib.hid hS
        clear hB hg hS
        have x3 := (HK.out.below HB.out (by rw [HSZ.out]; omega)).cell 3
        simp at x3
        cases b with
        | false =>
          have hq0 : q = false := by rw [HQ.out]; exact take_false HS.out
          subst hq0
          by_cases hlt : kk < l.length
          · have hltz : (kk : Int) < (l.length : Int) := by omega
            go_wp2_with fail
            go_ret
            exact ⟨rfl, HBW.out.trans (HB.out.mono HBW.out.size)⟩
          · have hltz : ¬ (kk : Int) < (l.length : Int) := by omega
            go_wp2_with fail
            go_ret
            exact ⟨rfl, HBW.out.trans (HB.out.mono HBW.out.size)⟩
        | true =>
          by_cases hlt : kk < l.length
          · have hltz : (kk : Int) < (l.length : Int) := by omega
            obtain ⟨bb, off, rfl, hb, k', n', s', l', A', c', ht, hv, c0, c1, c2, c3⟩ := (HR.out.under HB.out).at_ hlt
            have hcall := IH.out _ (List.getElem_mem hlt) _ wr (hv.more HB.out.size)
            obtain ⟨z, hz⟩ : ∃ z, (!some_ (bad chk) l[kk]) = z := ⟨_, rfl⟩
            rw [hz] at hcall
            have HC := Lib.hid hcall; have HZ := Lib.hid (take_step hlt HS.out hz)
            clear hcall hv ht hz
            go_wp2_with (go_at_call 76; refine HC.out.mono ?_; rintro e w' ⟨rfl, hb'⟩; have HB' := Lib.hid hb'; clear hb')
            go_roundg (l.length + 1 - (kk + 1))
            case measure => have := HG.out; omega
            case rel => exact ⟨kk + 1, _, by omega, rfl, rfl, by go_num, HB.out.trans (HB'.out.mono HB.out.size), HZ.out⟩
          · have hltz : ¬ (kk : Int) < (l.length : Int) := by omega
            obtain rfl : kk = l.length := by omega
            have hq0 : q = true := by
              rw [HQ.out]; have := HS.out; rw [List.take_length] at this; exact this.symm
            subst hq0
            go_wp2_with fail
            go_ret
            exact ⟨rfl, HBW.out.trans (HB.out.mono HBW.out.size)⟩
  · obtain ⟨b1, h1⟩ : ∃ b, (n == 0) = b := ⟨_, rfl⟩
    have e1 : decide (n ≠ 0) = !b1 := by rw [← h1]; by_cases h : n = 0 <;> simp [h]
    obtain ⟨b4, h4⟩ : ∃ b, ((l.length : Int) == 0) = b := ⟨_, rfl⟩
    have e4 : l.isEmpty = b4 := by rw [← h4]; cases l <;> simp; omega
    obtain ⟨b5, h5⟩ : ∃ b, decide (chk s.data.toList ≠ 4) = b := ⟨_, rfl⟩
    have e5 : decide (chk s.data.toList = 4) = !b5 := by rw [← h5]; by_cases h : chk s.data.toList = 4 <;> simp [h]
    have HN := Lib.hid (fun W => number_c s hs W)
    rw [h5] at HN
    have hbad : (bad chk) (.mk 3 n s l) = (!b1 || !b4 || !b5) := by simp only [bad, e1, e4, e5]
    have HBAD := Lib.hid hbad
    clear hbad e1 e4 e5 h5
    have hsp : (b1 = false) ∨ (b1 = true ∧ b4 = false) ∨ (b1 = true ∧ b4 = true ∧ b5 = false) ∨ (b1 = true ∧ b4 = true ∧ b5 = true) := by cases b1 <;> cases b4 <;> cases b5 <;> simp
    rcases hsp with rfl | ⟨rfl, rfl⟩ | ⟨rfl, rfl, rfl⟩ | ⟨rfl, rfl, rfl⟩
    all_goals
      go_enter Tryz.func76, Tryz.ntmps76
      go_upto_region 15 with (go_at_call 98; refine (HN.out _).mono ?_; rintro e w1 ⟨rfl, hb1⟩; have HB1 := Lib.hid (show Below W.heap.size W w1 by have h := hb1; rw [HW.out]; exact h); clear hb1)
    all_goals
      go_wp2_with fail
      go_loopg [3, 4] (l.length + 1) (fun gg s5 s6 wr => ∃ (kk : Nat) (b : Bool), kk ≤ l.length ∧ gg = l.length + 1 - kk ∧ s5 = .bool b ∧ s6 = .int .i64 (kk : Int) ∧ Below W.heap.size W wr ∧ b = ((!(bad chk) (.mk _ n s l)) && (l.take kk).all fun c => !some_ (bad chk) c))
      case atStart => exact ⟨0, _, Nat.zero_le _, by omega, rfl, rfl, (by first | exact HB1.out | (have h := Below.refl W.heap.size W; rw [HW.out] at h ⊢; exact h)), by rw [HBAD.out]; rfl⟩
      case round =>
        obtain ⟨kk, b, hkk, hg, rfl, rfl, hB, hS⟩ := hrel
        have HB := Lib.hid hB; have HG := Lib.hid hg; have HS := Lib.hid hS
        clear hB hg hS
        have x3 := (HK.out.below HB.out (by rw [HSZ.out]; omega)).cell 3
        simp at x3
        cases b with
        | false =>
          have hq0 : q = false := by rw [HQ.out]; exact take_false HS.out
          subst hq0
          by_cases hlt : kk < l.length
          · have hltz : (kk : Int) < (l.length : Int) := by omega
            go_wp2_with fail
            go_ret
            exact ⟨rfl, HBW.out.trans (HB.out.mono HBW.out.size)⟩
          · have hltz : ¬ (kk : Int) < (l.length : Int) := by omega
            go_wp2_with fail
            go_ret
            exact ⟨rfl, HBW.out.trans (HB.out.mono HBW.out.size)⟩
        | true =>
          by_cases hlt : kk < l.length
          · have hltz : (kk : Int) < (l.length : Int) := by omega
            obtain ⟨bb, off, rfl, hb, k', n', s', l', A', c', ht, hv, c0, c1, c2, c3⟩ := (HR.out.under HB.out).at_ hlt
            have hcall := IH.out _ (List.getElem_mem hlt) _ wr (hv.more HB.out.size)
            obtain ⟨z, hz⟩ : ∃ z, (!some_ (bad chk) l[kk]) = z := ⟨_, rfl⟩
            rw [hz] at hcall
            have HC := Lib.hid hcall; have HZ := Lib.hid (take_step hlt HS.out hz)
            clear hcall hv ht hz
            go_wp2_with (go_at_call 76; refine HC.out.mono ?_; rintro e w' ⟨rfl, hb'⟩; have HB' := Lib.hid hb'; clear hb')
            go_roundg (l.length + 1 - (kk + 1))
            case measure => have := HG.out; omega
            case rel => exact ⟨kk + 1, _, by omega, rfl, rfl, by go_num, HB.out.trans (HB'.out.mono HB.out.size), HZ.out⟩
          · have hltz : ¬ (kk : Int) < (l.length : Int) := by omega
            obtain rfl : kk = l.length := by omega
            have hq0 : q = true := by
              rw [HQ.out]; have := HS.out; rw [List.take_length] at this; exact this.symm
            subst hq0
            go_wp2_with fail
            go_ret
            exact ⟨rfl, HBW.out.trans (HB.out.mono HBW.out.size)⟩
  · obtain ⟨b1, h1⟩ : ∃ b, (n == 0) = b := ⟨_, rfl⟩
    have e1 : decide (n ≠ 0) = !b1 := by rw [← h1]; by_cases h : n = 0 <;> simp [h]
    obtain ⟨b4, h4⟩ : ∃ b, ((l.length : Int) == 0) = b := ⟨_, rfl⟩
    have e4 : l.isEmpty = b4 := by rw [← h4]; cases l <;> simp; omega
    have hbad : (bad chk) (.mk 4 n s l) = (!b1 || !b4) := by simp only [bad, e1, e4]
    have HBAD := Lib.hid hbad
    clear hbad e1 e4
    have hsp : (b1 = false) ∨ (b1 = true ∧ b4 = false) ∨ (b1 = true ∧ b4 = true) := by cases b1 <;> cases b4 <;> simp
    rcases hsp with rfl | ⟨rfl, rfl⟩ | ⟨rfl, rfl⟩
    all_goals
      go_enter Tryz.func76, Tryz.ntmps76
      go_upto_region 15 with (fail)
    all_goals
      go_wp2_with fail
      go_loopg [3, 4] (l.length + 1) (fun gg s5 s6 wr => ∃ (kk : Nat) (b : Bool), kk ≤ l.length ∧ gg = l.length + 1 - kk ∧ s5 = .bool b ∧ s6 = .int .i64 (kk : Int) ∧ Below W.heap.size W wr ∧ b = ((!(bad chk) (.mk _ n s l)) && (l.take kk).all fun c => !some_ (bad chk) c))
      case atStart => exact ⟨0, _, Nat.zero_le _, by omega, rfl, rfl, (by first | exact HB1.out | (have h := Below.refl W.heap.size W; rw [HW.out] at h ⊢; exact h)), by rw [HBAD.out]; rfl⟩
      case round =>
        obtain ⟨kk, b, hkk, hg, rfl, rfl, hB, hS⟩ := hrel
        have HB := Lib.hid hB; have HG := Lib.hid hg; have HS := Lib.hid hS
        clear hB hg hS
        have x3 := (HK.out.below HB.out (by rw [HSZ.out]; omega)).cell 3
        simp at x3
        cases b with
        | false =>
          have hq0 : q = false := by rw [HQ.out]; exact take_false HS.out
          subst hq0
          by_cases hlt : kk < l.length
          · have hltz : (kk : Int) < (l.length : Int) := by omega
            go_wp2_with fail
            go_ret
            exact ⟨rfl, HBW.out.trans (HB.out.mono HBW.out.size)⟩
          · have hltz : ¬ (kk : Int) < (l.length : Int) := by omega
            go_wp2_with fail
            go_ret
            exact ⟨rfl, HBW.out.trans (HB.out.mono HBW.out.size)⟩
        | true =>
          by_cases hlt : kk < l.length
          · have hltz : (kk : Int) < (l.length : Int) := by omega
            obtain ⟨bb, off, rfl, hb, k', n', s', l', A', c', ht, hv, c0, c1, c2, c3⟩ := (HR.out.under HB.out).at_ hlt
            have hcall := IH.out _ (List.getElem_mem hlt) _ wr (hv.more HB.out.size)
            obtain ⟨z, hz⟩ : ∃ z, (!some_ (bad chk) l[kk]) = z := ⟨_, rfl⟩
            rw [hz] at hcall
            have HC := Lib.hid hcall; have HZ := Lib.hid (take_step hlt HS.out hz)
            clear hcall hv ht hz
            go_wp2_with (go_at_call 76; refine HC.out.mono ?_; rintro e w' ⟨rfl, hb'⟩; have HB' := Lib.hid hb'; clear hb')
            go_roundg (l.length + 1 - (kk + 1))
            case measure => have := HG.out; omega
            case rel => exact ⟨kk + 1, _, by omega, rfl, rfl, by go_num, HB.out.trans (HB'.out.mono HB.out.size), HZ.out⟩
          · have hltz : ¬ (kk : Int) < (l.length : Int) := by omega
            obtain rfl : kk = l.length := by omega
            have hq0 : q = true := by
              rw [HQ.out]; have := HS.out; rw [List.take_length] at this; exact this.symm
            subst hq0
            go_wp2_with fail
            go_ret
            exact ⟨rfl, HBW.out.trans (HB.out.mono HBW.out.size)⟩
  · obtain ⟨b1, h1⟩ : ∃ b, (n == 0) = b := ⟨_, rfl⟩
    have e1 : decide (n ≠ 0) = !b1 := by rw [← h1]; by_cases h : n = 0 <;> simp [h]
    obtain ⟨b3, h3⟩ : ∃ b, s.toList.isEmpty = b := ⟨_, rfl⟩
    have e3 : decide (s.size ≠ 0) = !b3 := by rw [← h3, empty_iff]; by_cases h : s.size = 0 <;> simp [h]
    obtain ⟨b7, h7⟩ : ∃ b, ((l.length : Int) == 1) = b := ⟨_, rfl⟩
    have e7 : decide (l.length = 1) = b7 := by rw [← h7]; by_cases h : l.length = 1 <;> simp [h]; omega
    have h7n : ((l.length : Int) != 1) = !b7 := by rw [← h7]; rfl
    have hbad : (bad chk) (.mk 5 n s l) = (!b1 || !b3 || b7) := by simp only [bad, e1, e3, e7]
    have HBAD := Lib.hid hbad
    clear hbad e1 e3 e7
    have hsp : (b1 = false) ∨ (b1 = true ∧ b3 = false) ∨ (b1 = true ∧ b3 = true ∧ b7 = false) ∨ (b1 = true ∧ b3 = true ∧ b7 = true) := by cases b1 <;> cases b3 <;> cases b7 <;> simp
    rcases hsp with rfl | ⟨rfl, rfl⟩ | ⟨rfl, rfl, rfl⟩ | ⟨rfl, rfl, rfl⟩
    all_goals
      go_enter Tryz.func76, Tryz.ntmps76
      go_upto_region 15 with (fail)
    all_goals
      go_wp2_with fail
      go_loopg [3, 4] (l.length + 1) (fun gg s5 s6 wr => ∃ (kk : Nat) (b : Bool), kk ≤ l.length ∧ gg = l.length + 1 - kk ∧ s5 = .bool b ∧ s6 = .int .i64 (kk : Int) ∧ Below W.heap.size W wr ∧ b = ((!(bad chk) (.mk _ n s l)) && (l.take kk).all fun c => !some_ (bad chk) c))
      case atStart => exact ⟨0, _, Nat.zero_le _, by omega, rfl, rfl, (by first | exact HB1.out | (have h := Below.refl W.heap.size W; rw [HW.out] at h ⊢; exact h)), by rw [HBAD.out]; rfl⟩
      case round =>
        obtain ⟨kk, b, hkk, hg, rfl, rfl, hB, hS⟩ := hrel
        have HB := Lib.hid hB; have HG := Lib.hid hg; have HS := Lib.hid hS
        clear hB hg hS
        have x3 := (HK.out.below HB.out (by rw [HSZ.out]; omega)).cell 3
        simp at x3
        cases b with
        | false =>
          have hq0 : q = false := by rw [HQ.out]; exact take_false HS.out
          subst hq0
          by_cases hlt : kk < l.length
          · have hltz : (kk : Int) < (l.length : Int) := by omega
            go_wp2_with fail
            go_ret
            exact ⟨rfl, HBW.out.trans (HB.out.mono HBW.out.size)⟩
          · have hltz : ¬ (kk : Int) < (l.length : Int) := by omega
            go_wp2_with fail
            go_ret
            exact ⟨rfl, HBW.out.trans (HB.out.mono HBW.out.size)⟩
        | true =>
          by_cases hlt : kk < l.length
          · have hltz : (kk : Int) < (l.length : Int) := by omega
            obtain ⟨bb, off, rfl, hb, k', n', s', l', A', c', ht, hv, c0, c1, c2, c3⟩ := (HR.out.under HB.out).at_ hlt
            have hcall := IH.out _ (List.getElem_mem hlt) _ wr (hv.more HB.out.size)
            obtain ⟨z, hz⟩ : ∃ z, (!some_ (bad chk) l[kk]) = z := ⟨_, rfl⟩
            rw [hz] at hcall
            have HC := Lib.hid hcall; have HZ := Lib.hid (take_step hlt HS.out hz)
            clear hcall hv ht hz
            go_wp2_with (go_at_call 76; refine HC.out.mono ?_; rintro e w' ⟨rfl, hb'⟩; have HB' := Lib.hid hb'; clear hb')
            go_roundg (l.length + 1 - (kk + 1))
            case measure => have := HG.out; omega
            case rel => exact ⟨kk + 1, _, by omega, rfl, rfl, by go_num, HB.out.trans (HB'.out.mono HB.out.size), HZ.out⟩
          · have hltz : ¬ (kk : Int) < (l.length : Int) := by omega
            obtain rfl : kk = l.length := by omega
            have hq0 : q = true := by
              rw [HQ.out]; have := HS.out; rw [List.take_length] at this; exact this.symm
            subst hq0
            go_wp2_with fail
            go_ret
            exact ⟨rfl, HBW.out.trans (HB.out.mono HBW.out.size)⟩
  · obtain ⟨b1, h1⟩ : ∃ b, (n == 0) = b := ⟨_, rfl⟩
    have e1 : decide (n ≠ 0) = !b1 := by rw [← h1]; by_cases h : n = 0 <;> simp [h]
    obtain ⟨b6, h6⟩ : ∃ b, cons s.data.toList = b := ⟨_, rfl⟩
    have HN := Lib.hid (fun W => names_c s hs W)
    rw [h6] at HN
    have hbad : (bad chk) (.mk 6 n s l) = (!b1 || !b6) := by simp only [bad, e1, h6]
    have HBAD := Lib.hid hbad
    clear hbad e1 h6
    have hsp : (b1 = false) ∨ (b1 = true ∧ b6 = false) ∨ (b1 = true ∧ b6 = true) := by cases b1 <;> cases b6 <;> simp
    rcases hsp with rfl | ⟨rfl, rfl⟩ | ⟨rfl, rfl⟩
    all_goals
      go_enter Tryz.func76, Tryz.ntmps76
      go_upto_region 15 with (go_at_call 99; refine (HN.out _).mono ?_; rintro e w1 ⟨rfl, hb1⟩; have HB1 := Lib.hid (show Below W.heap.size W w1 by have h := hb1; rw [HW.out]; exact h); clear hb1)
    all_goals
      go_wp2_with fail
      go_loopg [3, 4] (l.length + 1) (fun gg s5 s6 wr => ∃ (kk : Nat) (b : Bool), kk ≤ l.length ∧ gg = l.length + 1 - kk ∧ s5 = .bool b ∧ s6 = .int .i64 (kk : Int) ∧ Below W.heap.size W wr ∧ b = ((!(bad chk) (.mk _ n s l)) && (l.take kk).all fun c => !some_ (bad chk) c))
      case atStart => exact ⟨0, _, Nat.zero_le _, by omega, rfl, rfl, (by first | exact HB1.out | (have h := Below.refl W.heap.size W; rw [HW.out] at h ⊢; exact h)), by rw [HBAD.out]; rfl⟩
      case round =>
        obtain ⟨kk, b, hkk, hg, rfl, rfl, hB, hS⟩ := hrel
        have HB := Lib.hid hB; have HG := Lib.hid hg; have HS := Lib.hid hS
        clear hB hg hS
        have x3 := (HK.out.below HB.out (by rw [HSZ.out]; omega)).cell 3
        simp at x3
        cases b with
        | false =>
          have hq0 : q = false := by rw [HQ.out]; exact take_false HS.out
          subst hq0
          by_cases hlt : kk < l.length
          · have hltz : (kk : Int) < (l.length : Int) := by omega
            go_wp2_with fail
            go_ret
            exact ⟨rfl, HBW.out.trans (HB.out.mono HBW.out.size)⟩
          · have hltz : ¬ (kk : Int) < (l.length : Int) := by omega
            go_wp2_with fail
            go_ret
            exact ⟨rfl, HBW.out.trans (HB.out.mono HBW.out.size)⟩
        | true =>
          by_cases hlt : kk < l.length
          · have hltz : (kk : Int) < (l.length : Int) := by omega
            obtain ⟨bb, off, rfl, hb, k', n', s', l', A', c', ht, hv, c0, c1, c2, c3⟩ := (HR.out.under HB.out).at_ hlt
            have hcall := IH.out _ (List.getElem_mem hlt) _ wr (hv.more HB.out.size)
            obtain ⟨z, hz⟩ : ∃ z, (!some_ (bad chk) l[kk]) = z := ⟨_, rfl⟩
            rw [hz] at hcall
            have HC := Lib.hid hcall; have HZ := Lib.hid (take_step hlt HS.out hz)
            clear hcall hv ht hz
            go_wp2_with (go_at_call 76; refine HC.out.mono ?_; rintro e w' ⟨rfl, hb'⟩; have HB' := Lib.hid hb'; clear hb')
            go_roundg (l.length + 1 - (kk + 1))
            case measure => have := HG.out; omega
            case rel => exact ⟨kk + 1, _, by omega, rfl, rfl, by go_num, HB.out.trans (HB'.out.mono HB.out.size), HZ.out⟩
          · have hltz : ¬ (kk : Int) < (l.length : Int) := by omega
            obtain rfl : kk = l.length := by omega
            have hq0 : q = true := by
              rw [HQ.out]; have := HS.out; rw [List.take_length] at this; exact this.symm
            subst hq0
            go_wp2_with fail
            go_ret
            exact ⟨rfl, HBW.out.trans (HB.out.mono HBW.out.size)⟩
  · have hbad : (bad chk) (.mk k n s l) = true := by unfold bad; split <;> simp_all
    have HBAD := Lib.hid hbad
    clear hbad
    have g1 : ((k : Int) == 1) = false := by rw [beq_eq_false_iff_ne]; omega
    have g2 : ((k : Int) == 2) = false := by rw [beq_eq_false_iff_ne]; omega
    have g3 : ((k : Int) == 3) = false := by rw [beq_eq_false_iff_ne]; omega
    have g4 : ((k : Int) == 4) = false := by rw [beq_eq_false_iff_ne]; omega
    have g5 : ((k : Int) == 5) = false := by rw [beq_eq_false_iff_ne]; omega
    have g6 : ((k : Int) == 6) = false := by rw [beq_eq_false_iff_ne]; omega
    all_goals
      go_enter Tryz.func76, Tryz.ntmps76
      go_upto_region 15 with (fail)
    all_goals
      go_wp2_with fail
      go_loopg [3, 4] (l.length + 1) (fun gg s5 s6 wr => ∃ (kk : Nat) (b : Bool), kk ≤ l.length ∧ gg = l.length + 1 - kk ∧ s5 = .bool b ∧ s6 = .int .i64 (kk : Int) ∧ Below W.heap.size W wr ∧ b = ((!(bad chk) (.mk _ n s l)) && (l.take kk).all fun c => !some_ (bad chk) c))
      case atStart => exact ⟨0, _, Nat.zero_le _, by omega, rfl, rfl, (by first | exact HB1.out | (have h := Below.refl W.heap.size W; rw [HW.out] at h ⊢; exact h)), by rw [HBAD.out]; rfl⟩
      case round =>
        obtain ⟨kk, b, hkk, hg, rfl, rfl, hB, hS⟩ := hrel
        have HB := Lib.hid hB; have HG := Lib.hid hg; have HS := Lib.hid hS
        clear hB hg hS
        have x3 := (HK.out.below HB.out (by rw [HSZ.out]; omega)).cell 3
        simp at x3
        cases b with
        | false =>
          have hq0 : q = false := by rw [HQ.out]; exact take_false HS.out
          subst hq0
          by_cases hlt : kk < l.length
          · have hltz : (kk : Int) < (l.length : Int) := by omega
            go_wp2_with fail
            go_ret
            exact ⟨rfl, HBW.out.trans (HB.out.mono HBW.out.size)⟩
          · have hltz : ¬ (kk : Int) < (l.length : Int) := by omega
            go_wp2_with fail
            go_ret
            exact ⟨rfl, HBW.out.trans (HB.out.mono HBW.out.size)⟩
        | true =>
          by_cases hlt : kk < l.length
          · have hltz : (kk : Int) < (l.length : Int) := by omega
            obtain ⟨bb, off, rfl, hb, k', n', s', l', A', c', ht, hv, c0, c1, c2, c3⟩ := (HR.out.under HB.out).at_ hlt
            have hcall := IH.out _ (List.getElem_mem hlt) _ wr (hv.more HB.out.size)
            obtain ⟨z, hz⟩ : ∃ z, (!some_ (bad chk) l[kk]) = z := ⟨_, rfl⟩
            rw [hz] at hcall
            have HC := Lib.hid hcall; have HZ := Lib.hid (take_step hlt HS.out hz)
            clear hcall hv ht hz
            go_wp2_with (go_at_call 76; refine HC.out.mono ?_; rintro e w' ⟨rfl, hb'⟩; have HB' := Lib.hid hb'; clear hb')
            go_roundg (l.length + 1 - (kk + 1))
            case measure => have := HG.out; omega
            case rel => exact ⟨kk + 1, _, by omega, rfl, rfl, by go_num, HB.out.trans (HB'.out.mono HB.out.size), HZ.out⟩
          · have hltz : ¬ (kk : Int) < (l.length : Int) := by omega
            obtain rfl : kk = l.length := by omega
            have hq0 : q = true := by
              rw [HQ.out]; have := HS.out; rw [List.take_length] at this; exact this.symm
            subst hq0
            go_wp2_with fail
            go_ret
            exact ⟨rfl, HBW.out.trans (HB.out.mono HBW.out.size)⟩
end Go.Proofs.YtlhkjmckigblpaaGreatDoor
/- QWi: The document's own answers of layer 2: which values fit. -/
namespace Go.Proofs.YtlhkjmckigblpaaGreatDoor
open Go.RowKit Vp Pl
open Go
attribute [local go_sem] Oper.semAt_some

theorem chk_big {l : List UInt8} (h : chk l ≠ 4) : decide (chk l = 80) = !decide (((mag l).length : Int) ≤ 200) := by
  unfold chk at h ⊢
  split at h
  · exact absurd rfl h
  · rename_i h1; rw [if_neg h1]
    split at h
    · exact absurd rfl h
    · rename_i h2; rw [if_neg h2]
      split at h
      · exact absurd rfl h
      · rename_i h3; rw [if_neg h3]
        by_cases h4 : 200 < (mag l).length
        · rw [if_pos h4, decide_eq_true rfl, decide_eq_false (by omega)]; rfl
        · rw [if_neg h4, decide_eq_false (by decide), decide_eq_true (by omega)]; rfl
theorem chk_pos {s : ByteArray} (h : chk s.data.toList ≠ 4) : 0 < s.size := by
  rcases Nat.eq_zero_or_pos s.size with h0 | h0
  · rw [size_zero h0] at h; exact absurd (by decide) h
  · exact h0

set_option maxHeartbeats 8000000 in
theorem fits_c (t : V) : ∀ (u : Value) (w : World), some_ (bad chk) t = false → VRep w w.heap.size t u → Calls Tryz.prog 77 #[u] w fun e w' => e = .returned (.bool (!some_ (long chk) t)) ∧ Below w.heap.size w w' := by
  induction t using V.ind with
  | h k n s l ih =>
  intro u w hbd h
  obtain ⟨k', n', s', l', A, c, ht, rfl, hk, hn, hs, hR⟩ := h.open_
  obtain ⟨rfl, rfl, rfl, rfl⟩ : k = k' ∧ n = n' ∧ s = s' ∧ l = l' := by cases ht; exact ⟨rfl, rfl, rfl, rfl⟩
  have hl := hR.1; have hm := hR.2.1
  have hmax : maxLen = 9223372036854775807 := rfl
  obtain ⟨q, hq⟩ : ∃ q, q = !some_ (long chk) (.mk k n s l) := ⟨_, rfl⟩
  rw [← hq]
  rw [form_eq] at hq
  have HQ := Lib.hid hq
  clear hq
  obtain ⟨W, hW⟩ : ∃ W, W = w.alloc (.cells #[.int .u8 (k : Int), .int .i64 n, .string s, .slice A l.length c] 34) := ⟨_, rfl⟩
  have hBW : Below w.heap.size w W := hW ▸ (Below.refl _ _).alloc (Nat.le_refl _) _
  have hsz : W.heap.size = w.heap.size + 1 := by rw [hW]; simp
  have hblk : Blk W w.heap.size 34 #[.int .u8 (k : Int), .int .i64 n, .string s, .slice A l.length c] := hW ▸ Blk.new _ _ _
  have hRW := (hR.under hBW).more hBW.size
  have hbd0 := hbd
  rw [some_eq, Bool.or_eq_false_iff] at hbd0
  have hch : ∀ t ∈ l, some_ (bad chk) t = false := fun t ht => by
    have h3 := hbd0.2; rw [List.any_eq_false] at h3; exact Bool.eq_false_iff.2 (h3 t ht)
  have HCH := Lib.hid hch; have HB0 := Lib.hid hbd0.1
  clear hch hbd0 hbd
  have HW := Lib.hid hW; have HBW := Lib.hid hBW; have HK := Lib.hid hblk; have HR := Lib.hid hRW; have IH := Lib.hid ih; have HSZ := Lib.hid hsz; have HSS := Lib.hid hs
  clear hW hBW hblk hRW hR h ih ht hsz
  have hcases : k = 1 ∨ k = 2 ∨ k = 3 ∨ k = 4 ∨ k = 5 ∨ k = 6 ∨ (k ≠ 1 ∧ k ≠ 2 ∧ k ≠ 3 ∧ k ≠ 4 ∧ k ≠ 5 ∧ k ≠ 6) := by omega
  rcases hcases with rfl | rfl | rfl | rfl | rfl | rfl | hne
  · have hbad : (long chk) (.mk 1 n s l) = false := rfl
    have HBAD := Lib.hid hbad
    clear hbad
    all_goals
      go_enter Tryz.func77, Tryz.ntmps77
      go_upto_region 11 with (fail)
    all_goals
      go_wp2_with fail
      go_loopg [3, 4] (l.length + 1) (fun gg s5 s6 wr => ∃ (kk : Nat) (b : Bool), kk ≤ l.length ∧ gg = l.length + 1 - kk ∧ s5 = .bool b ∧ s6 = .int .i64 (kk : Int) ∧ Below W.heap.size W wr ∧ b = ((!(long chk) (.mk _ n s l)) && (l.take kk).all fun c => !some_ (long chk) c))
      case atStart => exact ⟨0, _, Nat.zero_le _, by omega, rfl, rfl, (by first | exact HB1.out | (have h := Below.refl W.heap.size W; rw [HW.out] at h ⊢; exact h)), by rw [HBAD.out]; rfl⟩
      case round =>
        obtain ⟨kk, b, hkk, hg, rfl, rfl, hB, hS⟩ := hrel
        have HB := Lib.hid hB; have HG := Lib.hid hg; have HS := Lib.hid hS
        clear hB hg hS
        have x3 := (HK.out.below HB.out (by rw [HSZ.out]; omega)).cell 3
        simp at x3
        cases b with
        | false =>
          have hq0 : q = false := by rw [HQ.out]; exact take_false HS.out
          subst hq0
          by_cases hlt : kk < l.length
          · have hltz : (kk : Int) < (l.length : Int) := by omega
            go_wp2_with fail
            go_ret
            exact ⟨rfl, HBW.out.trans (HB.out.mono HBW.out.size)⟩
          · have hltz : ¬ (kk : Int) < (l.length : Int) := by omega
            go_wp2_with fail
            go_ret
            exact ⟨rfl, HBW.out.trans (HB.out.mono HBW.out.size)⟩
        | true =>
          by_cases hlt : kk < l.length
          · have hltz : (kk : Int) < (l.length : Int) := by omega
            obtain ⟨bb, off, rfl, hb, k', n', s', l', A', c', ht, hv, c0, c1, c2, c3⟩ := (HR.out.under HB.out).at_ hlt
            have hcall := IH.out _ (List.getElem_mem hlt) _ wr (HCH.out _ (List.getElem_mem hlt)) (hv.more HB.out.size)
            obtain ⟨z, hz⟩ : ∃ z, (!some_ (long chk) l[kk]) = z := ⟨_, rfl⟩
            rw [hz] at hcall
            have HC := Lib.hid hcall; have HZ := Lib.hid (take_step hlt HS.out hz)
            clear hcall hv ht hz
            go_wp2_with (go_at_call 77; refine HC.out.mono ?_; rintro e w' ⟨rfl, hb'⟩; have HB' := Lib.hid hb'; clear hb')
            go_roundg (l.length + 1 - (kk + 1))
            case measure => have := HG.out; omega
            case rel => exact ⟨kk + 1, _, by omega, rfl, rfl, by go_num, HB.out.trans (HB'.out.mono HB.out.size), HZ.out⟩
          · have hltz : ¬ (kk : Int) < (l.length : Int) := by omega
            obtain rfl : kk = l.length := by omega
            have hq0 : q = true := by
              rw [HQ.out]; have := HS.out; rw [List.take_length] at this; exact this.symm
            subst hq0
            go_wp2_with fail
            go_ret
            exact ⟨rfl, HBW.out.trans (HB.out.mono HBW.out.size)⟩
  · have hbad : (long chk) (.mk 2 n s l) = false := rfl
    have HBAD := Lib.hid hbad
    clear hbad
    all_goals
      go_enter Tryz.func77, Tryz.ntmps77
      go_upto_region 11 with (fail)
    all_goals
      go_wp2_with fail
      go_loopg [3, 4] (l.length + 1) (fun gg s5 s6 wr => ∃ (kk : Nat) (b : Bool), kk ≤ l.length ∧ gg = l.length + 1 - kk ∧ s5 = .bool b ∧ s6 = .int .i64 (kk : Int) ∧ Below W.heap.size W wr ∧ b = ((!(long chk) (.mk _ n s l)) && (l.take kk).all fun c => !some_ (long chk) c))
      case atStart => exact ⟨0, _, Nat.zero_le _, by omega, rfl, rfl, (by first | exact HB1.out | (have h := Below.refl W.heap.size W; rw [HW.out] at h ⊢; exact h)), by rw [HBAD.out]; rfl⟩
      case round =>
        obtain ⟨kk, b, hkk, hg, rfl, rfl, hB, hS⟩ := hrel
        have HB := Lib.hid hB; have HG := Lib.hid hg; have HS := Lib.hid hS
        clear hB hg hS
        have x3 := (HK.out.below HB.out (by rw [HSZ.out]; omega)).cell 3
        simp at x3
        cases b with
        | false =>
          have hq0 : q = false := by rw [HQ.out]; exact take_false HS.out
          subst hq0
          by_cases hlt : kk < l.length
          · have hltz : (kk : Int) < (l.length : Int) := by omega
            go_wp2_with fail
            go_ret
            exact ⟨rfl, HBW.out.trans (HB.out.mono HBW.out.size)⟩
          · have hltz : ¬ (kk : Int) < (l.length : Int) := by omega
            go_wp2_with fail
            go_ret
            exact ⟨rfl, HBW.out.trans (HB.out.mono HBW.out.size)⟩
        | true =>
          by_cases hlt : kk < l.length
          · have hltz : (kk : Int) < (l.length : Int) := by omega
            obtain ⟨bb, off, rfl, hb, k', n', s', l', A', c', ht, hv, c0, c1, c2, c3⟩ := (HR.out.under HB.out).at_ hlt
            have hcall := IH.out _ (List.getElem_mem hlt) _ wr (HCH.out _ (List.getElem_mem hlt)) (hv.more HB.out.size)
            obtain ⟨z, hz⟩ : ∃ z, (!some_ (long chk) l[kk]) = z := ⟨_, rfl⟩
            rw [hz] at hcall
            have HC := Lib.hid hcall; have HZ := Lib.hid (take_step hlt HS.out hz)
            clear hcall hv ht hz
            go_wp2_with (go_at_call 77; refine HC.out.mono ?_; rintro e w' ⟨rfl, hb'⟩; have HB' := Lib.hid hb'; clear hb')
            go_roundg (l.length + 1 - (kk + 1))
            case measure => have := HG.out; omega
            case rel => exact ⟨kk + 1, _, by omega, rfl, rfl, by go_num, HB.out.trans (HB'.out.mono HB.out.size), HZ.out⟩
          · have hltz : ¬ (kk : Int) < (l.length : Int) := by omega
            obtain rfl : kk = l.length := by omega
            have hq0 : q = true := by
              rw [HQ.out]; have := HS.out; rw [List.take_length] at this; exact this.symm
            subst hq0
            go_wp2_with fail
            go_ret
            exact ⟨rfl, HBW.out.trans (HB.out.mono HBW.out.size)⟩
  · have hck : chk s.data.toList ≠ 4 := by
      have h := HB0.out; simp only [bad, Bool.or_eq_false_iff, decide_eq_false_iff_not] at h; exact h.2
    have HN := Lib.hid (fun W => digits_c s hs (chk_pos hck) W)
    have hbig := chk_big hck
    obtain ⟨D, hD⟩ : ∃ D : Int, ((mag s.data.toList).length : Int) = D := ⟨_, rfl⟩
    rw [hD] at HN hbig
    obtain ⟨b5, h5⟩ : ∃ b, decide (D ≤ 200) = b := ⟨_, rfl⟩
    rw [h5] at hbig
    have hbad : (long chk) (.mk 3 n s l) = (!b5) := by simp only [long]; exact hbig
    have HBAD := Lib.hid hbad
    clear hbad hbig hD hck
    cases b5
    all_goals
      go_enter Tryz.func77, Tryz.ntmps77
      go_upto_region 11 with (go_at_call 100; refine (HN.out _).mono ?_; rintro e w1 ⟨rfl, hb1⟩; have HB1 := Lib.hid (show Below W.heap.size W w1 by have h := hb1; rw [HW.out]; exact h); clear hb1)
    all_goals
      go_wp2_with fail
      go_loopg [3, 4] (l.length + 1) (fun gg s5 s6 wr => ∃ (kk : Nat) (b : Bool), kk ≤ l.length ∧ gg = l.length + 1 - kk ∧ s5 = .bool b ∧ s6 = .int .i64 (kk : Int) ∧ Below W.heap.size W wr ∧ b = ((!(long chk) (.mk _ n s l)) && (l.take kk).all fun c => !some_ (long chk) c))
      case atStart => exact ⟨0, _, Nat.zero_le _, by omega, rfl, rfl, (by first | exact HB1.out | (have h := Below.refl W.heap.size W; rw [HW.out] at h ⊢; exact h)), by rw [HBAD.out]; rfl⟩
      case round =>
        obtain ⟨kk, b, hkk, hg, rfl, rfl, hB, hS⟩ := hrel
        have HB := Lib.hid hB; have HG := Lib.hid hg; have HS := Lib.hid hS
        clear hB hg hS
        have x3 := (HK.out.below HB.out (by rw [HSZ.out]; omega)).cell 3
        simp at x3
        cases b with
        | false =>
          have hq0 : q = false := by rw [HQ.out]; exact take_false HS.out
          subst hq0
          by_cases hlt : kk < l.length
          · have hltz : (kk : Int) < (l.length : Int) := by omega
            go_wp2_with fail
            go_ret
            exact ⟨rfl, HBW.out.trans (HB.out.mono HBW.out.size)⟩
          · have hltz : ¬ (kk : Int) < (l.length : Int) := by omega
            go_wp2_with fail
            go_ret
            exact ⟨rfl, HBW.out.trans (HB.out.mono HBW.out.size)⟩
        | true =>
          by_cases hlt : kk < l.length
          · have hltz : (kk : Int) < (l.length : Int) := by omega
            obtain ⟨bb, off, rfl, hb, k', n', s', l', A', c', ht, hv, c0, c1, c2, c3⟩ := (HR.out.under HB.out).at_ hlt
            have hcall := IH.out _ (List.getElem_mem hlt) _ wr (HCH.out _ (List.getElem_mem hlt)) (hv.more HB.out.size)
            obtain ⟨z, hz⟩ : ∃ z, (!some_ (long chk) l[kk]) = z := ⟨_, rfl⟩
            rw [hz] at hcall
            have HC := Lib.hid hcall; have HZ := Lib.hid (take_step hlt HS.out hz)
            clear hcall hv ht hz
            go_wp2_with (go_at_call 77; refine HC.out.mono ?_; rintro e w' ⟨rfl, hb'⟩; have HB' := Lib.hid hb'; clear hb')
            go_roundg (l.length + 1 - (kk + 1))
            case measure => have := HG.out; omega
            case rel => exact ⟨kk + 1, _, by omega, rfl, rfl, by go_num, HB.out.trans (HB'.out.mono HB.out.size), HZ.out⟩
          · have hltz : ¬ (kk : Int) < (l.length : Int) := by omega
            obtain rfl : kk = l.length := by omega
            have hq0 : q = true := by
              rw [HQ.out]; have := HS.out; rw [List.take_length] at this; exact this.symm
            subst hq0
            go_wp2_with fail
            go_ret
            exact ⟨rfl, HBW.out.trans (HB.out.mono HBW.out.size)⟩
  · obtain ⟨b5, h5⟩ : ∃ b, decide ((s.size : Int) ≤ 4096) = b := ⟨_, rfl⟩
    have hbad : (long chk) (.mk 4 n s l) = (!b5) := by
      simp only [long]; rw [← h5]; by_cases h : s.size ≤ 4096
      · rw [decide_eq_false (by omega), decide_eq_true (by omega)]; rfl
      · rw [decide_eq_true (by omega), decide_eq_false (by omega)]; rfl
    have HBAD := Lib.hid hbad
    clear hbad
    cases b5
    all_goals
      go_enter Tryz.func77, Tryz.ntmps77
      go_upto_region 11 with (fail)
    all_goals
      go_wp2_with fail
      go_loopg [3, 4] (l.length + 1) (fun gg s5 s6 wr => ∃ (kk : Nat) (b : Bool), kk ≤ l.length ∧ gg = l.length + 1 - kk ∧ s5 = .bool b ∧ s6 = .int .i64 (kk : Int) ∧ Below W.heap.size W wr ∧ b = ((!(long chk) (.mk _ n s l)) && (l.take kk).all fun c => !some_ (long chk) c))
      case atStart => exact ⟨0, _, Nat.zero_le _, by omega, rfl, rfl, (by first | exact HB1.out | (have h := Below.refl W.heap.size W; rw [HW.out] at h ⊢; exact h)), by rw [HBAD.out]; rfl⟩
      case round =>
        obtain ⟨kk, b, hkk, hg, rfl, rfl, hB, hS⟩ := hrel
        have HB := Lib.hid hB; have HG := Lib.hid hg; have HS := Lib.hid hS
        clear hB hg hS
        have x3 := (HK.out.below HB.out (by rw [HSZ.out]; omega)).cell 3
        simp at x3
        cases b with
        | false =>
          have hq0 : q = false := by rw [HQ.out]; exact take_false HS.out
          subst hq0
          by_cases hlt : kk < l.length
          · have hltz : (kk : Int) < (l.length : Int) := by omega
            go_wp2_with fail
            go_ret
            exact ⟨rfl, HBW.out.trans (HB.out.mono HBW.out.size)⟩
          · have hltz : ¬ (kk : Int) < (l.length : Int) := by omega
            go_wp2_with fail
            go_ret
            exact ⟨rfl, HBW.out.trans (HB.out.mono HBW.out.size)⟩
        | true =>
          by_cases hlt : kk < l.length
          · have hltz : (kk : Int) < (l.length : Int) := by omega
            obtain ⟨bb, off, rfl, hb, k', n', s', l', A', c', ht, hv, c0, c1, c2, c3⟩ := (HR.out.under HB.out).at_ hlt
            have hcall := IH.out _ (List.getElem_mem hlt) _ wr (HCH.out _ (List.getElem_mem hlt)) (hv.more HB.out.size)
            obtain ⟨z, hz⟩ : ∃ z, (!some_ (long chk) l[kk]) = z := ⟨_, rfl⟩
            rw [hz] at hcall
            have HC := Lib.hid hcall; have HZ := Lib.hid (take_step hlt HS.out hz)
            clear hcall hv ht hz
            go_wp2_with (go_at_call 77; refine HC.out.mono ?_; rintro e w' ⟨rfl, hb'⟩; have HB' := Lib.hid hb'; clear hb')
            go_roundg (l.length + 1 - (kk + 1))
            case measure => have := HG.out; omega
            case rel => exact ⟨kk + 1, _, by omega, rfl, rfl, by go_num, HB.out.trans (HB'.out.mono HB.out.size), HZ.out⟩
          · have hltz : ¬ (kk : Int) < (l.length : Int) := by omega
            obtain rfl : kk = l.length := by omega
            have hq0 : q = true := by
              rw [HQ.out]; have := HS.out; rw [List.take_length] at this; exact this.symm
            subst hq0
            go_wp2_with fail
            go_ret
            exact ⟨rfl, HBW.out.trans (HB.out.mono HBW.out.size)⟩
  · obtain ⟨b5, h5⟩ : ∃ b, decide ((l.length : Int) ≤ 16) = b := ⟨_, rfl⟩
    have hbad : (long chk) (.mk 5 n s l) = (!b5) := by
      simp only [long]; rw [← h5]; by_cases h : l.length ≤ 16
      · rw [decide_eq_false (by omega), decide_eq_true (by omega)]; rfl
      · rw [decide_eq_true (by omega), decide_eq_false (by omega)]; rfl
    have HBAD := Lib.hid hbad
    clear hbad
    cases b5
    all_goals
      go_enter Tryz.func77, Tryz.ntmps77
      go_upto_region 11 with (fail)
    all_goals
      go_wp2_with fail
      go_loopg [3, 4] (l.length + 1) (fun gg s5 s6 wr => ∃ (kk : Nat) (b : Bool), kk ≤ l.length ∧ gg = l.length + 1 - kk ∧ s5 = .bool b ∧ s6 = .int .i64 (kk : Int) ∧ Below W.heap.size W wr ∧ b = ((!(long chk) (.mk _ n s l)) && (l.take kk).all fun c => !some_ (long chk) c))
      case atStart => exact ⟨0, _, Nat.zero_le _, by omega, rfl, rfl, (by first | exact HB1.out | (have h := Below.refl W.heap.size W; rw [HW.out] at h ⊢; exact h)), by rw [HBAD.out]; rfl⟩
      case round =>
        obtain ⟨kk, b, hkk, hg, rfl, rfl, hB, hS⟩ := hrel
        have HB := Lib.hid hB; have HG := Lib.hid hg; have HS := Lib.hid hS
        clear hB hg hS
        have x3 := (HK.out.below HB.out (by rw [HSZ.out]; omega)).cell 3
        simp at x3
        cases b with
        | false =>
          have hq0 : q = false := by rw [HQ.out]; exact take_false HS.out
          subst hq0
          by_cases hlt : kk < l.length
          · have hltz : (kk : Int) < (l.length : Int) := by omega
            go_wp2_with fail
            go_ret
            exact ⟨rfl, HBW.out.trans (HB.out.mono HBW.out.size)⟩
          · have hltz : ¬ (kk : Int) < (l.length : Int) := by omega
            go_wp2_with fail
            go_ret
            exact ⟨rfl, HBW.out.trans (HB.out.mono HBW.out.size)⟩
        | true =>
          by_cases hlt : kk < l.length
          · have hltz : (kk : Int) < (l.length : Int) := by omega
            obtain ⟨bb, off, rfl, hb, k', n', s', l', A', c', ht, hv, c0, c1, c2, c3⟩ := (HR.out.under HB.out).at_ hlt
            have hcall := IH.out _ (List.getElem_mem hlt) _ wr (HCH.out _ (List.getElem_mem hlt)) (hv.more HB.out.size)
            obtain ⟨z, hz⟩ : ∃ z, (!some_ (long chk) l[kk]) = z := ⟨_, rfl⟩
            rw [hz] at hcall
            have HC := Lib.hid hcall; have HZ := Lib.hid (take_step hlt HS.out hz)
            clear hcall hv ht hz
            go_wp2_with (go_at_call 77; refine HC.out.mono ?_; rintro e w' ⟨rfl, hb'⟩; have HB' := Lib.hid hb'; clear hb')
            go_roundg (l.length + 1 - (kk + 1))
            case measure => have := HG.out; omega
            case rel => exact ⟨kk + 1, _, by omega, rfl, rfl, by go_num, HB.out.trans (HB'.out.mono HB.out.size), HZ.out⟩
          · have hltz : ¬ (kk : Int) < (l.length : Int) := by omega
            obtain rfl : kk = l.length := by omega
            have hq0 : q = true := by
              rw [HQ.out]; have := HS.out; rw [List.take_length] at this; exact this.symm
            subst hq0
            go_wp2_with fail
            go_ret
            exact ⟨rfl, HBW.out.trans (HB.out.mono HBW.out.size)⟩
  · obtain ⟨b5, h5⟩ : ∃ b, decide ((l.length : Int) ≤ 8) = b := ⟨_, rfl⟩
    have hbad : (long chk) (.mk 6 n s l) = (!b5) := by
      simp only [long]; rw [← h5]; by_cases h : l.length ≤ 8
      · rw [decide_eq_false (by omega), decide_eq_true (by omega)]; rfl
      · rw [decide_eq_true (by omega), decide_eq_false (by omega)]; rfl
    have HBAD := Lib.hid hbad
    clear hbad
    cases b5
    all_goals
      go_enter Tryz.func77, Tryz.ntmps77
      go_upto_region 11 with (fail)
    all_goals
      go_wp2_with fail
      go_loopg [3, 4] (l.length + 1) (fun gg s5 s6 wr => ∃ (kk : Nat) (b : Bool), kk ≤ l.length ∧ gg = l.length + 1 - kk ∧ s5 = .bool b ∧ s6 = .int .i64 (kk : Int) ∧ Below W.heap.size W wr ∧ b = ((!(long chk) (.mk _ n s l)) && (l.take kk).all fun c => !some_ (long chk) c))
      case atStart => exact ⟨0, _, Nat.zero_le _, by omega, rfl, rfl, (by first | exact HB1.out | (have h := Below.refl W.heap.size W; rw [HW.out] at h ⊢; exact h)), by rw [HBAD.out]; rfl⟩
      case round =>
        obtain ⟨kk, b, hkk, hg, rfl, rfl, hB, hS⟩ := hrel
        have HB := Lib.hid hB; have HG := Lib.hid hg; have HS := Lib.hid hS
        clear hB hg hS
        have x3 := (HK.out.below HB.out (by rw [HSZ.out]; omega)).cell 3
        simp at x3
        cases b with
        | false =>
          have hq0 : q = false := by rw [HQ.out]; exact take_false HS.out
          subst hq0
          by_cases hlt : kk < l.length
          · have hltz : (kk : Int) < (l.length : Int) := by omega
            go_wp2_with fail
            go_ret
            exact ⟨rfl, HBW.out.trans (HB.out.mono HBW.out.size)⟩
          · have hltz : ¬ (kk : Int) < (l.length : Int) := by omega
            go_wp2_with fail
            go_ret
            exact ⟨rfl, HBW.out.trans (HB.out.mono HBW.out.size)⟩
        | true =>
          by_cases hlt : kk < l.length
          · have hltz : (kk : Int) < (l.length : Int) := by omega
            obtain ⟨bb, off, rfl, hb, k', n', s', l', A', c', ht, hv, c0, c1, c2, c3⟩ := (HR.out.under HB.out).at_ hlt
            have hcall := IH.out _ (List.getElem_mem hlt) _ wr (HCH.out _ (List.getElem_mem hlt)) (hv.more HB.out.size)
            obtain ⟨z, hz⟩ : ∃ z, (!some_ (long chk) l[kk]) = z := ⟨_, rfl⟩
            rw [hz] at hcall
            have HC := Lib.hid hcall; have HZ := Lib.hid (take_step hlt HS.out hz)
            clear hcall hv ht hz
            go_wp2_with (go_at_call 77; refine HC.out.mono ?_; rintro e w' ⟨rfl, hb'⟩; have HB' := Lib.hid hb'; clear hb')
            go_roundg (l.length + 1 - (kk + 1))
            case measure => have := HG.out; omega
            case rel => exact ⟨kk + 1, _, by omega, rfl, rfl, by go_num, HB.out.trans (HB'.out.mono HB.out.size), HZ.out⟩
          · have hltz : ¬ (kk : Int) < (l.length : Int) := by omega
            obtain rfl : kk = l.length := by omega
            have hq0 : q = true := by
              rw [HQ.out]; have := HS.out; rw [List.take_length] at this; exact this.symm
            subst hq0
            go_wp2_with fail
            go_ret
            exact ⟨rfl, HBW.out.trans (HB.out.mono HBW.out.size)⟩
  · have hbad : (long chk) (.mk k n s l) = false := by unfold long; split <;> simp_all
    have HBAD := Lib.hid hbad
    clear hbad
    have g1 : ((k : Int) == 1) = false := by rw [beq_eq_false_iff_ne]; omega
    have g2 : ((k : Int) == 2) = false := by rw [beq_eq_false_iff_ne]; omega
    have g3 : ((k : Int) == 3) = false := by rw [beq_eq_false_iff_ne]; omega
    have g4 : ((k : Int) == 4) = false := by rw [beq_eq_false_iff_ne]; omega
    have g5 : ((k : Int) == 5) = false := by rw [beq_eq_false_iff_ne]; omega
    have g6 : ((k : Int) == 6) = false := by rw [beq_eq_false_iff_ne]; omega
    all_goals
      go_enter Tryz.func77, Tryz.ntmps77
      go_upto_region 11 with (fail)
    all_goals
      go_wp2_with fail
      go_loopg [3, 4] (l.length + 1) (fun gg s5 s6 wr => ∃ (kk : Nat) (b : Bool), kk ≤ l.length ∧ gg = l.length + 1 - kk ∧ s5 = .bool b ∧ s6 = .int .i64 (kk : Int) ∧ Below W.heap.size W wr ∧ b = ((!(long chk) (.mk _ n s l)) && (l.take kk).all fun c => !some_ (long chk) c))
      case atStart => exact ⟨0, _, Nat.zero_le _, by omega, rfl, rfl, (by first | exact HB1.out | (have h := Below.refl W.heap.size W; rw [HW.out] at h ⊢; exact h)), by rw [HBAD.out]; rfl⟩
      case round =>
        obtain ⟨kk, b, hkk, hg, rfl, rfl, hB, hS⟩ := hrel
        have HB := Lib.hid hB; have HG := Lib.hid hg; have HS := Lib.hid hS
        clear hB hg hS
        have x3 := (HK.out.below HB.out (by rw [HSZ.out]; omega)).cell 3
        simp at x3
        cases b with
        | false =>
          have hq0 : q = false := by rw [HQ.out]; exact take_false HS.out
          subst hq0
          by_cases hlt : kk < l.length
          · have hltz : (kk : Int) < (l.length : Int) := by omega
            go_wp2_with fail
            go_ret
            exact ⟨rfl, HBW.out.trans (HB.out.mono HBW.out.size)⟩
          · have hltz : ¬ (kk : Int) < (l.length : Int) := by omega
            go_wp2_with fail
            go_ret
            exact ⟨rfl, HBW.out.trans (HB.out.mono HBW.out.size)⟩
        | true =>
          by_cases hlt : kk < l.length
          · have hltz : (kk : Int) < (l.length : Int) := by omega
            obtain ⟨bb, off, rfl, hb, k', n', s', l', A', c', ht, hv, c0, c1, c2, c3⟩ := (HR.out.under HB.out).at_ hlt
            have hcall := IH.out _ (List.getElem_mem hlt) _ wr (HCH.out _ (List.getElem_mem hlt)) (hv.more HB.out.size)
            obtain ⟨z, hz⟩ : ∃ z, (!some_ (long chk) l[kk]) = z := ⟨_, rfl⟩
            rw [hz] at hcall
            have HC := Lib.hid hcall; have HZ := Lib.hid (take_step hlt HS.out hz)
            clear hcall hv ht hz
            go_wp2_with (go_at_call 77; refine HC.out.mono ?_; rintro e w' ⟨rfl, hb'⟩; have HB' := Lib.hid hb'; clear hb')
            go_roundg (l.length + 1 - (kk + 1))
            case measure => have := HG.out; omega
            case rel => exact ⟨kk + 1, _, by omega, rfl, rfl, by go_num, HB.out.trans (HB'.out.mono HB.out.size), HZ.out⟩
          · have hltz : ¬ (kk : Int) < (l.length : Int) := by omega
            obtain rfl : kk = l.length := by omega
            have hq0 : q = true := by
              rw [HQ.out]; have := HS.out; rw [List.take_length] at this; exact this.symm
            subst hq0
            go_wp2_with fail
            go_ret
            exact ⟨rfl, HBW.out.trans (HB.out.mono HBW.out.size)⟩
end Go.Proofs.YtlhkjmckigblpaaGreatDoor
