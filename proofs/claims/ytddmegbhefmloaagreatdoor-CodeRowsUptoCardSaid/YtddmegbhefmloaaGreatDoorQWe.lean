/- The document's own answers of layer 2: whole numbers. -/
import Derived.Test.YtddmegbhefmloaaGreatDoorQWd
namespace Go.Proofs.YtddmegbhefmloaaGreatDoor
open Go.RowKit Vp Pl
open Go
attribute [local go_sem] Oper.semAt_some

theorem neg_byte {s : ByteArray} (h : 0 < s.size) : negB s = decide ((s[0].toNat : Int) = 45) := by
  rw [← neg_yes h]; by_cases e : (s[0].toNat : Int) = 45 <;> simp [e]
theorem ext_size (s : ByteArray) : (s.extract 1 s.size).size = s.size - 1 := by simp
theorem ext_data {s : ByteArray} (h : negB s = true) : (s.extract 1 s.size).data.toList = mag s.data.toList := by
  rw [Lib.extract_data, mag_drop, frm, if_pos h, List.take_of_length_le]; rw [size_len]; simp
theorem self_data {s : ByteArray} (h : negB s = false) : s.data.toList = mag s.data.toList := by
  rw [mag_drop, frm, h]; simp

set_option maxHeartbeats 1000000 in
theorem number_c (s : ByteArray) (hs : s.size ≤ maxLen) (w : World) :
    Calls Tryz.prog 106 #[.string s] w fun e w' => e = .returned (.bool (decide (chk s.data.toList ≠ 4))) ∧ Below w.heap.size w w' := by
  have hmax : maxLen = 9223372036854775807 := rfl
  obtain ⟨q, hq⟩ : ∃ q, q = decide (chk s.data.toList ≠ 4) := ⟨_, rfl⟩
  rw [← hq]
  have HQ := Lib.hid hq
  clear hq
  by_cases hpos : 0 < s.size
  · by_cases hone : (1 : Int) < (s.size : Int)
    · by_cases hneg : (s[0].toNat : Int) = 45
      · have hnb : negB s = true := by rw [neg_byte hpos]; exact decide_eq_true hneg
        obtain ⟨d, hd⟩ : ∃ d, s.extract 1 s.size = d := ⟨_, rfl⟩
        have hds : d.size = s.size - 1 := by rw [← hd]; exact ext_size s
        have hdd : d.data.toList = mag s.data.toList := by rw [← hd]; exact ext_data hnb
        have HD := Lib.hid hdd; have HS := Lib.hid hds
        have hdpos : 0 < d.size := by omega
        have hdm : d.size ≤ maxLen := by omega
        have hne : s.data.toList ≠ [48] := fun e => by have := congrArg List.length e; rw [← size_len] at this; simp at this; omega
        have hem : d.toList.isEmpty = false := by
          rw [Lib.toList_data]; cases h : d.data.toList with
          | nil =>
            have h0 : d.data.toList.length = 0 := by rw [h]; rfl
            rw [← size_len] at h0; omega
          | cons _ _ => rfl
        clear hdd hds
        by_cases h48 : (d[0].toNat : Int) = 48
        · have hq0 : q = false := by
            rw [HQ.out, chk_zero (by rw [← HD.out, head_of hdpos, show d[0] = 48 from UInt8.toNat_inj.1 (by show _ = 48; omega)]) hne]; rfl
          subst hq0
          go_enter Tryz.func106, Tryz.ntmps106
          go_wp2_with fail
          go_ret
          exact ⟨rfl, Below.refl _ _⟩
        · have HBAD := Lib.hid (bad_other (s := s) hdpos h48)
          have h48b : ((d[0].toNat : Int) == 48) = false := by simpa using h48
          clear h48
          by_cases hd1 : (1 : Int) < (d.size : Int)
          all_goals
            go_enter Tryz.func106, Tryz.ntmps106
            go_wp2_with fail
            go_loopg [3] (d.size + 1) (fun gg s6 wr => ∃ (kk : Nat), kk ≤ d.size ∧ gg = d.size + 1 - kk ∧ s6 = .int .i64 (kk : Int) ∧ Below w.heap.size w wr ∧ (d.data.toList.take kk).all isDig = true)
            case atStart => exact ⟨0, Nat.zero_le _, by omega, rfl, Below.refl _ _, by simp⟩
            case round =>
              obtain ⟨kk, hk1, hg, rfl, hB, hA⟩ := hrel
              have HB := Lib.hid hB; have HG := Lib.hid hg; have HA := Lib.hid hA
              clear hB hg hA
              by_cases h1 : kk < d.size
              · have h1z : (kk : Int) < (d.size : Int) := by omega
                by_cases hc : isDig d[kk] = true
                · have hc1 : (48 : Int) ≤ d[kk].toNat ∧ (d[kk].toNat : Int) ≤ 57 := by
                    unfold isDig at hc; have := of_decide_eq_true hc; omega
                  obtain ⟨hc1, hc2⟩ := hc1
                  have HC := Lib.hid hc; clear hc
                  go_wp2_with fail
                  go_roundg (d.size + 1 - (kk + 1))
                  case measure => have := HG.out; omega
                  case rel => exact ⟨kk + 1, by omega, rfl, by go_num, HB.out, all_take_snoc (by rw [← size_len]; exact h1) HA.out HC.out⟩
                · have hc1 : (d[kk].toNat : Int) < 48 ∨ 57 < (d[kk].toNat : Int) := by
                    unfold isDig at hc; simp at hc; omega
                  have HC := Lib.hid hc; clear hc
                  have hq0 : q = false := by
                    rw [HQ.out, bad_dig HD.out h1 HC.out]; rfl
                  subst hq0
                  rcases hc1 with hc1 | hc1
                  all_goals
                    go_wp2_with fail
                    go_ret
                    exact ⟨rfl, HB.out⟩
              · have h1z : ¬ (kk : Int) < (d.size : Int) := by omega
                obtain rfl : kk = d.size := by omega
                have hq1 : q = true := by
                  rw [HQ.out, good_of HD.out HBAD.out HA.out]; split <;> rfl
                subst hq1
                go_wp2_with fail
                go_ret
                exact ⟨rfl, HB.out⟩
      · have hnb : negB s = false := by rw [neg_byte hpos]; exact decide_eq_false hneg
        have HD := Lib.hid (self_data hnb)
        have hne : s.data.toList ≠ [48] := fun e => by have := congrArg List.length e; rw [← size_len] at this; simp at this; omega
        have hem : s.toList.isEmpty = false := by
          rw [Lib.toList_data]; cases h : s.data.toList with
          | nil =>
            have h0 : s.data.toList.length = 0 := by rw [h]; rfl
            rw [← size_len] at h0; omega
          | cons _ _ => rfl
        by_cases h48 : (s[0].toNat : Int) = 48
        · have hq0 : q = false := by
            rw [HQ.out, chk_zero (by rw [← HD.out, head_of hpos, show s[0] = 48 from UInt8.toNat_inj.1 (by show _ = 48; omega)]) hne]; rfl
          subst hq0
          clear hne
          go_enter Tryz.func106, Tryz.ntmps106
          go_wp2_with fail
          go_ret
          exact ⟨rfl, Below.refl _ _⟩
        · have HBAD := Lib.hid (bad_other (s := s) hpos h48)
          have h48b : ((s[0].toNat : Int) == 48) = false := by simpa using h48
          have h45b : ((s[0].toNat : Int) == 45) = false := by simpa using hneg
          clear h48 hneg
          clear hne
          go_enter Tryz.func106, Tryz.ntmps106
          go_wp2_with fail
          go_loopg [3] (s.size + 1) (fun gg s6 wr => ∃ (kk : Nat), kk ≤ s.size ∧ gg = s.size + 1 - kk ∧ s6 = .int .i64 (kk : Int) ∧ Below w.heap.size w wr ∧ (s.data.toList.take kk).all isDig = true)
          case atStart => exact ⟨0, Nat.zero_le _, by omega, rfl, Below.refl _ _, by simp⟩
          case round =>
            obtain ⟨kk, hk1, hg, rfl, hB, hA⟩ := hrel
            have HB := Lib.hid hB; have HG := Lib.hid hg; have HA := Lib.hid hA
            clear hB hg hA
            by_cases h1 : kk < s.size
            · have h1z : (kk : Int) < (s.size : Int) := by omega
              by_cases hc : isDig s[kk] = true
              · have hc1 : (48 : Int) ≤ s[kk].toNat ∧ (s[kk].toNat : Int) ≤ 57 := by
                  unfold isDig at hc; have := of_decide_eq_true hc; omega
                obtain ⟨hc1, hc2⟩ := hc1
                have HC := Lib.hid hc; clear hc
                go_wp2_with fail
                go_roundg (s.size + 1 - (kk + 1))
                case measure => have := HG.out; omega
                case rel => exact ⟨kk + 1, by omega, rfl, by go_num, HB.out, all_take_snoc (by rw [← size_len]; exact h1) HA.out HC.out⟩
              · have hc1 : (s[kk].toNat : Int) < 48 ∨ 57 < (s[kk].toNat : Int) := by
                  unfold isDig at hc; simp at hc; omega
                have HC := Lib.hid hc; clear hc
                have hq0 : q = false := by
                  rw [HQ.out, bad_dig HD.out h1 HC.out]; rfl
                subst hq0
                rcases hc1 with hc1 | hc1
                all_goals
                  go_wp2_with fail
                  go_ret
                  exact ⟨rfl, HB.out⟩
            · have h1z : ¬ (kk : Int) < (s.size : Int) := by omega
              obtain rfl : kk = s.size := by omega
              have hq1 : q = true := by
                rw [HQ.out, good_of HD.out HBAD.out HA.out]; split <;> rfl
              subst hq1
              go_wp2_with fail
              go_ret
              exact ⟨rfl, HB.out⟩
    · have hs1 : s.size = 1 := by omega
      have hnb0 : negB s = true → mag s.data.toList = [] := fun h => by
        rw [mag_drop, frm, if_pos h]; exact List.drop_eq_nil_of_le (by rw [← size_len]; omega)
      have hem : s.toList.isEmpty = false := by
        rw [Lib.toList_data]; cases h : s.data.toList with
        | nil =>
          have h0 : s.data.toList.length = 0 := by rw [h]; rfl
          rw [← size_len] at h0; omega
        | cons _ _ => rfl
      cases hnb : negB s with
      | true =>
        have hq0 : q = false := by rw [HQ.out, chk_nil (hnb0 hnb)]; rfl
        subst hq0
        have h45 : (s[0].toNat : Int) = 45 := by rw [neg_byte hpos] at hnb; exact of_decide_eq_true hnb
        have HN := Lib.hid h45; have HS1 := Lib.hid hs1
        clear hnb0 hnb h45 hs1
        go_enter Tryz.func106, Tryz.ntmps106
        go_wp2_with fail
        go_loopg [3] (s.size + 1) (fun gg s6 wr => gg = s.size + 1 ∧ s6 = .int .i64 0 ∧ Below w.heap.size w wr)
        case atStart => exact ⟨rfl, rfl, Below.refl _ _⟩
        case round =>
          obtain ⟨hg, rfl, hB⟩ := hrel
          have HB := Lib.hid hB
          clear hB hg
          have hlt0 : (0 : Int) < (s.size : Int) := by omega
          have hlt48 : (s[0].toNat : Int) < 48 := by rw [HN.out]; decide
          go_wp2_with fail
          go_ret
          exact ⟨rfl, HB.out⟩
      | false =>
        have HD := Lib.hid (self_data hnb)
        have hbad : badB s s = false := by
          have n0 := toList_ne hpos; rw [Lib.toList_data] at n0
          obtain ⟨c, hc⟩ := List.length_eq_one_iff.1 (show s.data.toList.length = 1 by rw [← size_len]; exact hs1)
          unfold badB; rw [hc]
          by_cases h : c = 48 <;> simp [h]
        have HBAD := Lib.hid hbad
        clear hbad
        clear hnb hnb0
        go_enter Tryz.func106, Tryz.ntmps106
        go_wp2_with fail
        go_loopg [3] (s.size + 1) (fun gg s6 wr => ∃ (kk : Nat), kk ≤ s.size ∧ gg = s.size + 1 - kk ∧ s6 = .int .i64 (kk : Int) ∧ Below w.heap.size w wr ∧ (s.data.toList.take kk).all isDig = true)
        case atStart => exact ⟨0, Nat.zero_le _, by omega, rfl, Below.refl _ _, by simp⟩
        case round =>
          obtain ⟨kk, hk1, hg, rfl, hB, hA⟩ := hrel
          have HB := Lib.hid hB; have HG := Lib.hid hg; have HA := Lib.hid hA
          clear hB hg hA
          by_cases h1 : kk < s.size
          · have h1z : (kk : Int) < (s.size : Int) := by omega
            by_cases hc : isDig s[kk] = true
            · have hc1 : (48 : Int) ≤ s[kk].toNat ∧ (s[kk].toNat : Int) ≤ 57 := by
                unfold isDig at hc; have := of_decide_eq_true hc; omega
              obtain ⟨hc1, hc2⟩ := hc1
              have HC := Lib.hid hc; clear hc
              go_wp2_with fail
              go_roundg (s.size + 1 - (kk + 1))
              case measure => have := HG.out; omega
              case rel => exact ⟨kk + 1, by omega, rfl, by go_num, HB.out, all_take_snoc (by rw [← size_len]; exact h1) HA.out HC.out⟩
            · have hc1 : (s[kk].toNat : Int) < 48 ∨ 57 < (s[kk].toNat : Int) := by
                unfold isDig at hc; simp at hc; omega
              have HC := Lib.hid hc; clear hc
              have hq0 : q = false := by
                rw [HQ.out, bad_dig HD.out h1 HC.out]; rfl
              subst hq0
              rcases hc1 with hc1 | hc1
              all_goals
                go_wp2_with fail
                go_ret
                exact ⟨rfl, HB.out⟩
          · have h1z : ¬ (kk : Int) < (s.size : Int) := by omega
            obtain rfl : kk = s.size := by omega
            have hq1 : q = true := by
              rw [HQ.out, good_of HD.out HBAD.out HA.out]; split <;> rfl
            subst hq1
            go_wp2_with fail
            go_ret
            exact ⟨rfl, HB.out⟩
  · obtain rfl : s = ⟨#[]⟩ := data_inj (size_zero (by omega))
    have hq0 : q = false := by rw [HQ.out]; rfl
    subst hq0
    clear hpos hs
    go_enter Tryz.func106, Tryz.ntmps106
    go_wp2_with fail
    go_ret
    exact ⟨rfl, Below.refl _ _⟩
end Go.Proofs.YtddmegbhefmloaaGreatDoor
