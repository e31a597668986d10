/- The walk over package big: a text check. -/
import Derived.Test.YtcclclginhhlaaaDoorRefF
import Derived.Test.YtcclclginhhlaaaDoorShelf
import Derived.Lib.OthersKept
import Derived.Laws.RangeAny
namespace Go.Proofs.YtcclclginhhlaaaDoor
open Go.RowKit
open Pl Dig

theorem trim_mag (l : List UInt8) : Lib.trimPrefix l [45] = mag l := by
  unfold Lib.trimPrefix Lib.hasPrefix mag
  cases l with
  | nil => simp
  | cons x xs =>
    by_cases h : x = 45
    · subst h; simp [List.isPrefixOf]
    · have h' : ¬ (45 : UInt8) = x := fun e => h e.symm
      simp [List.isPrefixOf, h, h']

set_option maxRecDepth 100000 in
set_option maxHeartbeats 400000 in
theorem big_check (s : ByteArray) (w : World) (_hs : s.size ≤ maxLen) :
    Calls Tryd.prog 13 #[.string s] w fun e w' => e = .returned (.int .i64 (chk s.data.toList)) ∧ Below w.heap.size w w' := by

  obtain ⟨d, hd, hds, hdd⟩ : ∃ d : ByteArray, d.data.toList = mag s.data.toList ∧ d.size ≤ s.size ∧ (⟨(mag s.data.toList).toArray⟩ : ByteArray) = d := ⟨⟨(mag s.data.toList).toArray⟩, rfl, by
    show (mag s.data.toList).toArray.size ≤ s.data.size
    unfold mag; split <;> simp, rfl⟩
  have HD := Lib.hid hd; have HDD := Lib.hid hdd
  clear hd hdd
  go_enter Tryd.func13, Tryd.ntmps13
  go_wp2_with (go_at_call 34; refine (Tryd.strings_TrimPrefix s ⟨#[45]⟩ w).mono ?_; rw [show (⟨#[45]⟩ : ByteArray).data.toList = [45] from rfl, trim_mag, HDD.out]; rintro e w' ⟨rfl, hw⟩; obtain rfl := hw; refine Hid.out ?_)
  refine Lib.hid ?_
  go_upto_region 2 with fail
  go_cut [18] (fun b wx => b = .bool (badB s d) ∧ wx = w')
  case first =>
    by_cases h0 : 0 < d.size
    · have n0 := toList_ne h0
      by_cases h48 : ((d[0].toNat : Int)) = 48
      · have H := Lib.hid (bad_zero (s := s) h0 h48)
        go_wp2
        go_meet
        exact ⟨by rw [H.out]; simp [n0], rfl⟩
      · have H := Lib.hid (bad_other (s := s) h0 h48)
        go_wp2
        go_meet
        exact ⟨by rw [H.out]; simp [n0], rfl⟩
    · have n0 := toList_nil h0
      have H := Lib.hid (bad_nil (s := s) h0)
      go_wp2
      go_meet
      exact ⟨by rw [H.out], rfl⟩
  case rest =>
    obtain ⟨rfl, hw⟩ := hcut
    subst hw
    cases hb : badB s d with
    | true =>
      have HB := Lib.hid hb; clear hb
      go_wp2_with fail
      go_ret
      exact ⟨ret_int (bad_chk HD.out HB.out).symm, Below.refl _ _⟩
    | false =>
      have HB := Lib.hid hb; clear hb
      go_wp2_with fail
      obtain ⟨w, hw⟩ : ∃ w, w = wc := ⟨_, rfl⟩
      subst hw
      go_loopg [5] (d.size + 1) (fun g s5 wr => ∃ pos : Nat, g = d.size - pos + 1 ∧ pos ≤ d.size ∧ wr.heap[w.heap.size]? = some (.stringIter d pos) ∧ (d.data.toList.take pos).all isDig = true ∧ Below w.heap.size w wr)
      case atStart =>
        exact ⟨0, rfl, by omega, World.iter_heap _ _ _, rfl, (Below.refl _ w).alloc (Nat.le_refl _) _⟩
      case round =>
        obtain ⟨pos, hg, hp, hit, hA, hB⟩ := hrel
        have HG := Lib.hid hg; have HA := Lib.hid hA; have HB2 := Lib.hid hB; have HIT := Lib.hid hit
        clear hg hA hB
        by_cases hlt : pos < d.size
        · by_cases hc : isDig d[pos] = true
          · have hc1 : 48 ≤ d[pos].toNat ∧ d[pos].toNat ≤ 57 := by unfold isDig at hc; exact of_decide_eq_true hc
            have hnx := fun ty => Lib.run_next_ascii_at (P := Tryd.prog) wr w.heap.size d pos ty hit hlt (by omega)
            obtain ⟨hc1, hc2⟩ := hc1
            have hc3 : (48 : Int) ≤ (d[pos].toNat : Int) := by omega
            have hc4 : (d[pos].toNat : Int) ≤ 57 := by omega
            have HC := Lib.hid hc; clear hc
            clear hit
            go_wp2_with fail
            go_roundg (d.size - (pos + 1) + 1)
            case measure => have := HG.out; omega
            case rel => exact ⟨pos + 1, rfl, by omega, Lib.iterAt_heap _ _ _ _ _ HIT.out, all_take_snoc (by rw [← size_len]; exact hlt) HA.out HC.out, Lib.below_iterAt HB2.out (Nat.le_refl _) _ _⟩
          · have hc1 : d[pos].toNat < 48 ∨ 57 < d[pos].toNat := by unfold isDig at hc; simp at hc; omega
            have hr : ((Utf8.decode d pos).1 : Int) < 48 ∨ 57 < ((Utf8.decode d pos).1 : Int) := by
              by_cases h128 : d[pos].toNat < 128
              · rw [decode_ascii d pos hlt h128]; show (d[pos].toNat : Int) < 48 ∨ _; omega
              · have := (decode_high d pos hlt (by omega)).1; omega
            have hr2 : ((Utf8.decode d pos).1 : Int) ≤ 2147483647 := by have := decode_le d pos; omega
            have hnx := fun ty => Lib.run_next_any_at (P := Tryd.prog) wr w.heap.size d pos ty hit hlt
            have HC := Lib.hid hc; clear hc hc1
            generalize (Utf8.decode d pos).1 = r at hr hr2 hnx
            generalize (Utf8.decode d pos).2 = r2 at hnx
            clear hit
            rcases hr with hr | hr
            all_goals
              go_wp2_with fail
              go_ret
              exact ⟨ret_int (bad_dig HD.out hlt HC.out).symm, Lib.below_iterAt HB2.out (Nat.le_refl _) _ _⟩
        · have hnx := fun ty => Lib.run_next_end_at (P := Tryd.prog) wr w.heap.size d pos ty hit hlt
          obtain rfl : pos = d.size := by omega
          clear hit
          by_cases h200 : 200 < (d.size : Int)
          · go_wp2_with fail
            go_ret
            exact ⟨ret_int (good_chk_over HD.out HB.out HA.out (by omega)).symm, HB2.out⟩
          · go_wp2_with fail
            go_ret
            exact ⟨ret_int (good_chk HD.out HB.out HA.out (by omega)).symm, HB2.out⟩
end Go.Proofs.YtcclclginhhlaaaDoor
