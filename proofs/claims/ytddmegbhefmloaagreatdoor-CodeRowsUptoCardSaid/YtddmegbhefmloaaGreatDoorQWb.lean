/- The document's own answers of layer 2: names. -/
import Derived.Test.YtddmegbhefmloaaGreatDoorQWa
namespace Go.Proofs.YtddmegbhefmloaaGreatDoor
open Go.RowKit Vp
open Go
attribute [local go_sem] Oper.semAt_some

theorem letter_c (c : UInt8) (w : World) : Calls Tryz.prog 143 #[.int .u8 (c.toNat : Int)] w fun e w' => e = .returned (.bool (small c)) ∧ Below w.heap.size w w' := by
  obtain ⟨q, hq⟩ : ∃ q, q = small c := ⟨_, rfl⟩
  rw [← hq]
  unfold small at hq
  obtain ⟨z, hz⟩ : ∃ z, c.toNat = z := ⟨_, rfl⟩
  rw [hz] at hq ⊢
  have HQ := Lib.hid hq
  clear hq hz
  by_cases h1 : (97 : Int) ≤ (z : Int)
  · by_cases h2 : (z : Int) ≤ 122
    · go_enter Tryz.func143, Tryz.ntmps143
      go_wp2_with fail
      go_ret
      exact ⟨by rw [HQ.out, decide_eq_true (by omega)]; rfl, Below.refl _ _⟩
    · go_enter Tryz.func143, Tryz.ntmps143
      go_wp2_with fail
      go_ret
      exact ⟨by rw [HQ.out, decide_eq_false (by omega)]; rfl, Below.refl _ _⟩
  · go_enter Tryz.func143, Tryz.ntmps143
    go_wp2_with fail
    go_ret
    exact ⟨by rw [HQ.out, decide_eq_false (by omega)]; rfl, Below.refl _ _⟩
theorem lpart_eq (c : UInt8) : partB c = decide (97 ≤ c.toNat ∧ c.toNat ≤ 122 ∨ 65 ≤ c.toNat ∧ c.toNat ≤ 90 ∨ 48 ≤ c.toNat ∧ c.toNat ≤ 57 ∨ c.toNat = 95) := rfl
theorem small_part {c : UInt8} (h : small c = true) : partB c = true := by
  unfold small at h; have := of_decide_eq_true h; rw [lpart_eq]; exact decide_eq_true (by omega)
theorem all_snoc (s : ByteArray) {k : Nat} (h : k < s.size) (ha : (s.data.toList.take k).all partB = true) (hp : partB s[k] = true) : (s.data.toList.take (k + 1)).all partB = true := by
  rw [List.take_add_one, List.all_append, ha, List.getElem?_eq_getElem (by simpa using h)]
  show (true && (partB s[k] && true)) = true
  rw [hp]; rfl
theorem all_no (s : ByteArray) {k : Nat} (h : k < s.size) (hp : partB s[k] = false) : s.data.toList.all partB = false := by
  rw [List.all_eq_false]
  exact ⟨s[k], List.mem_iff_getElem.2 ⟨k, by simpa using h, rfl⟩, by rw [hp]; simp⟩
set_option maxHeartbeats 1000000 in
theorem name_c (s : ByteArray) (hs : s.size ≤ maxLen) (w : World) :
    Calls Tryz.prog 129 #[.string s] w fun e w' => e = .returned (.bool (name s.data.toList)) ∧ Below w.heap.size w w' := by
  have hmax : maxLen = 9223372036854775807 := rfl
  obtain ⟨q, hq⟩ : ∃ q, q = name s.data.toList := ⟨_, rfl⟩
  rw [← hq]
  have HQ := Lib.hid hq
  clear hq
  by_cases hpos : 0 < s.size
  · have hne : (s.toList == []) = false := by
      rw [Lib.toList_data, beq_eq_false_iff_ne]; intro e
      have h0 : s.data.toList.length = 0 := by rw [e]; rfl
      rw [← size_len] at h0; omega
    have hem : s.toList.isEmpty = false := by
      rw [Lib.toList_data]; cases h : s.data.toList with
      | nil =>
        have h0 : s.data.toList.length = 0 := by rw [h]; rfl
        rw [← size_len] at h0; omega
      | cons _ _ => rfl
    by_cases hlen : (32 : Int) < (s.size : Int)
    · go_enter Tryz.func129, Tryz.ntmps129
      go_wp2_with fail
      go_ret
      exact ⟨by rw [HQ.out, name_eq s hpos, decide_eq_false (by omega)]; simp, Below.refl _ _⟩
    · have HC0 := Lib.hid (fun W => letter_c s[0] W)
      obtain ⟨z, hz⟩ : ∃ z, small s[0] = z := ⟨_, rfl⟩
      rw [hz] at HC0
      have HZ := Lib.hid hz
      clear hz
      cases z
      · go_enter Tryz.func129, Tryz.ntmps129
        go_wp2_with (go_at_call 143; refine (HC0.out _).mono ?_; rintro e w1 ⟨rfl, hb1⟩; have HB1 := Lib.hid hb1; clear hb1)
        go_ret
        exact ⟨by rw [HQ.out, name_eq s hpos, HZ.out]; simp, HB1.out⟩
      · go_enter Tryz.func129, Tryz.ntmps129
        go_wp2_with (go_at_call 143; refine (HC0.out _).mono ?_; rintro e w1 ⟨rfl, hb1⟩; have HB1 := Lib.hid hb1; clear hb1)
        go_loopg [3] (s.size + 1) (fun gg s6 wr => ∃ (kk : Nat), kk ≤ s.size ∧ gg = s.size + 1 - kk ∧ s6 = .int .i64 (kk : Int) ∧ Below w.heap.size w wr ∧ (s.data.toList.take kk).all partB = true)
        case atStart => exact ⟨0, Nat.zero_le _, by omega, rfl, HB1.out, by simp⟩
        case round =>
        clear HB1 HC0
        obtain ⟨kk, hk1, hg, rfl, hB, hA⟩ := hrel
        have HB := Lib.hid hB; have HG := Lib.hid hg; have HA := Lib.hid hA
        clear hB hg hA
        by_cases h1 : kk < s.size
        · have h1z : (kk : Int) < (s.size : Int) := by omega
          have HC := Lib.hid (fun W => letter_c s[kk] W)
          obtain ⟨z, hz⟩ : ∃ z, small s[kk] = z := ⟨_, rfl⟩
          rw [hz] at HC
          have HZ' := Lib.hid hz
          cases z
          case true =>
            clear hz
            go_wp2_with (go_at_call 143; refine (HC.out _).mono ?_; rintro e w1 ⟨rfl, hb1⟩; have HB1 := Lib.hid (HB.out.trans (hb1.mono HB.out.size)); clear hb1)
            go_roundg (s.size + 1 - (kk + 1))
            case measure => have := HG.out; omega
            case rel => exact ⟨kk + 1, by omega, rfl, by go_num, HB1.out, all_snoc s h1 HA.out (small_part HZ'.out)⟩
          have hns : ¬ (97 ≤ s[kk].toNat ∧ s[kk].toNat ≤ 122) := by unfold small at hz; exact of_decide_eq_false hz
          clear hz
          have hiv : s[kk].toNat < 48 ∨ (48 ≤ s[kk].toNat ∧ s[kk].toNat ≤ 57) ∨ (57 < s[kk].toNat ∧ s[kk].toNat < 65) ∨ (65 ≤ s[kk].toNat ∧ s[kk].toNat ≤ 90) ∨ (90 < s[kk].toNat ∧ s[kk].toNat ≠ 95) ∨ s[kk].toNat = 95 := by omega
          rcases hiv with hiv | hiv | hiv | hiv | hiv | hiv
          · have h65 : ¬ (65 : Int) ≤ s[kk].toNat := by omega
            have h90 : (s[kk].toNat : Int) ≤ 90 := by omega
            have h48 : ¬ (48 : Int) ≤ s[kk].toNat := by omega
            have h57 : (s[kk].toNat : Int) ≤ 57 := by omega
            have h95 : ¬ (s[kk].toNat : Int) = 95 := by omega
            have HP := Lib.hid (show partB s[kk] = false by rw [lpart_eq]; exact decide_eq_false (by omega))
            clear hiv hns
            go_wp2_with (go_at_call 143; refine (HC.out _).mono ?_; rintro e w1 ⟨rfl, hb1⟩; have HB1 := Lib.hid (HB.out.trans (hb1.mono HB.out.size)); clear hb1)
            all_goals first
              | (exfalso; omega)
              | (exfalso; rename_i hh _; simp at hh; omega)
              | (exfalso; rename_i hh; simp at hh; omega)
              | (go_ret; exact ⟨by rw [HQ.out, name_eq s hpos, all_no s h1 HP.out]; simp, HB1.out⟩)
          · have h65 : ¬ (65 : Int) ≤ s[kk].toNat := by omega
            have h90 : (s[kk].toNat : Int) ≤ 90 := by omega
            have h48 : (48 : Int) ≤ s[kk].toNat := by omega
            have h57 : (s[kk].toNat : Int) ≤ 57 := by omega
            have h95 : ¬ (s[kk].toNat : Int) = 95 := by omega
            have HP := Lib.hid (show partB s[kk] = true by rw [lpart_eq]; exact decide_eq_true (by omega))
            clear hiv hns
            go_wp2_with (go_at_call 143; refine (HC.out _).mono ?_; rintro e w1 ⟨rfl, hb1⟩; have HB1 := Lib.hid (HB.out.trans (hb1.mono HB.out.size)); clear hb1)
            go_roundg (s.size + 1 - (kk + 1))
            case measure => have := HG.out; omega
            case rel => exact ⟨kk + 1, by omega, rfl, by go_num, HB1.out, all_snoc s h1 HA.out HP.out⟩
          · have h65 : ¬ (65 : Int) ≤ s[kk].toNat := by omega
            have h90 : (s[kk].toNat : Int) ≤ 90 := by omega
            have h48 : (48 : Int) ≤ s[kk].toNat := by omega
            have h57 : ¬ (s[kk].toNat : Int) ≤ 57 := by omega
            have h95 : ¬ (s[kk].toNat : Int) = 95 := by omega
            have HP := Lib.hid (show partB s[kk] = false by rw [lpart_eq]; exact decide_eq_false (by omega))
            clear hiv hns
            go_wp2_with (go_at_call 143; refine (HC.out _).mono ?_; rintro e w1 ⟨rfl, hb1⟩; have HB1 := Lib.hid (HB.out.trans (hb1.mono HB.out.size)); clear hb1)
            all_goals first
              | (exfalso; omega)
              | (exfalso; rename_i hh _; simp at hh; omega)
              | (exfalso; rename_i hh; simp at hh; omega)
              | (go_ret; exact ⟨by rw [HQ.out, name_eq s hpos, all_no s h1 HP.out]; simp, HB1.out⟩)
          · have h65 : (65 : Int) ≤ s[kk].toNat := by omega
            have h90 : (s[kk].toNat : Int) ≤ 90 := by omega
            have h48 : (48 : Int) ≤ s[kk].toNat := by omega
            have h57 : ¬ (s[kk].toNat : Int) ≤ 57 := by omega
            have h95 : ¬ (s[kk].toNat : Int) = 95 := by omega
            have HP := Lib.hid (show partB s[kk] = true by rw [lpart_eq]; exact decide_eq_true (by omega))
            clear hiv hns
            go_wp2_with (go_at_call 143; refine (HC.out _).mono ?_; rintro e w1 ⟨rfl, hb1⟩; have HB1 := Lib.hid (HB.out.trans (hb1.mono HB.out.size)); clear hb1)
            go_roundg (s.size + 1 - (kk + 1))
            case measure => have := HG.out; omega
            case rel => exact ⟨kk + 1, by omega, rfl, by go_num, HB1.out, all_snoc s h1 HA.out HP.out⟩
          · have h65 : (65 : Int) ≤ s[kk].toNat := by omega
            have h90 : ¬ (s[kk].toNat : Int) ≤ 90 := by omega
            have h48 : (48 : Int) ≤ s[kk].toNat := by omega
            have h57 : ¬ (s[kk].toNat : Int) ≤ 57 := by omega
            have h95 : ¬ (s[kk].toNat : Int) = 95 := by omega
            have HP := Lib.hid (show partB s[kk] = false by rw [lpart_eq]; exact decide_eq_false (by omega))
            clear hiv hns
            go_wp2_with (go_at_call 143; refine (HC.out _).mono ?_; rintro e w1 ⟨rfl, hb1⟩; have HB1 := Lib.hid (HB.out.trans (hb1.mono HB.out.size)); clear hb1)
            all_goals first
              | (exfalso; omega)
              | (exfalso; rename_i hh _; simp at hh; omega)
              | (exfalso; rename_i hh; simp at hh; omega)
              | (go_ret; exact ⟨by rw [HQ.out, name_eq s hpos, all_no s h1 HP.out]; simp, HB1.out⟩)
          · have h65 : (65 : Int) ≤ s[kk].toNat := by omega
            have h90 : ¬ (s[kk].toNat : Int) ≤ 90 := by omega
            have h48 : (48 : Int) ≤ s[kk].toNat := by omega
            have h57 : ¬ (s[kk].toNat : Int) ≤ 57 := by omega
            have h95 : (s[kk].toNat : Int) = 95 := by omega
            have HP := Lib.hid (show partB s[kk] = true by rw [lpart_eq]; exact decide_eq_true (by omega))
            rw [h95] at HC
            have HN := Lib.hid h95
            clear hiv hns
            go_wp2_with (go_at_call 143; refine (HC.out _).mono ?_; rintro e w1 ⟨rfl, hb1⟩; have HB1 := Lib.hid (HB.out.trans (hb1.mono HB.out.size)); clear hb1)
            go_roundg (s.size + 1 - (kk + 1))
            case measure => have := HG.out; omega
            case rel => exact ⟨kk + 1, by omega, rfl, by go_num, HB1.out, all_snoc s h1 HA.out HP.out⟩
        · have h1z : ¬ (kk : Int) < (s.size : Int) := by omega
          obtain rfl : kk = s.size := by omega
          go_wp2_with fail
          go_ret
          have hall : s.data.toList.all partB = true := by have := HA.out; rwa [List.take_of_length_le (by simp)] at this
          exact ⟨by rw [HQ.out, name_eq s hpos, HZ.out, hall, decide_eq_true (by omega)]; rfl, HB.out⟩
  · have hnil : s.data.toList = [] := size_zero (by omega)
    obtain rfl : s = ⟨#[]⟩ := data_inj hnil
    have hq0 : q = false := by rw [HQ.out]; rfl
    subst hq0
    clear hpos hs hnil
    go_enter Tryz.func129, Tryz.ntmps129
    go_wp2_with fail
    go_ret
    exact ⟨rfl, Below.refl _ _⟩
end Go.Proofs.YtddmegbhefmloaaGreatDoor
