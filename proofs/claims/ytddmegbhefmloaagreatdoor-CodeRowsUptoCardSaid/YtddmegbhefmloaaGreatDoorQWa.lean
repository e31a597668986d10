/- The document's own answers of layer 2: numbers and texts in their order. -/
import Derived.Test.YtddmegbhefmloaaGreatDoorQVx
import Derived.Test.YtddmegbhefmloaaGreatDoorKb
import Derived.Test.YtddmegbhefmloaaGreatDoorVs
import Derived.Deep.RegionHeld3
namespace Go.Proofs.YtddmegbhefmloaaGreatDoor
open Go.RowKit Vp
open Go
attribute [local go_sem] Oper.semAt_some

theorem ints_c (a b : Int) (w : World) : Calls Tryz.prog 103 #[.int .i64 a, .int .i64 b] w fun e w' => e = .returned (.int .i64 (cmpI a b)) ∧ Below w.heap.size w w' := by
  obtain ⟨q, hq⟩ : ∃ q, q = cmpI a b := ⟨_, rfl⟩
  rw [← hq]
  unfold cmpI at hq
  have HQ := Lib.hid hq
  clear hq
  by_cases h1 : a < b
  · go_enter Tryz.func103, Tryz.ntmps103
    go_wp2_with fail
    go_ret
    exact ⟨by rw [HQ.out, if_pos h1]; rfl, Below.refl _ _⟩
  · by_cases h2 : b < a
    · go_enter Tryz.func103, Tryz.ntmps103
      go_wp2_with fail
      go_ret
      exact ⟨by rw [HQ.out, if_neg (by omega), if_pos h2]; rfl, Below.refl _ _⟩
    · go_enter Tryz.func103, Tryz.ntmps103
      go_wp2_with fail
      go_ret
      exact ⟨by rw [HQ.out, if_neg (by omega), if_neg (by omega)]; rfl, Below.refl _ _⟩
/-- How two of which one at least may not be stand. -/
def lastI (a b : Bool) : Int := if a = b then 0 else if a then -1 else 1
theorem last_c (a b : Bool) (w : World) : Calls Tryz.prog 78 #[.bool a, .bool b] w fun e w' => e = .returned (.int .i64 (lastI a b)) ∧ Below w.heap.size w w' := by
  cases a <;> cases b
  all_goals
    go_enter Tryz.func78, Tryz.ntmps78
    go_wp2_with fail
    go_ret
    exact ⟨rfl, Below.refl _ _⟩

theorem drop_at (s : ByteArray) {k : Nat} (h : k < s.size) : s.data.toList.drop k = s[k] :: s.data.toList.drop (k + 1) := by
  rw [List.drop_eq_getElem_cons (by simpa using h)]; rfl
theorem drop_end (s : ByteArray) : s.data.toList.drop s.size = [] := List.drop_eq_nil_of_le (by simp)

set_option maxHeartbeats 1000000 in
theorem texts_c (s t : ByteArray) (hs : s.size ≤ maxLen) (_ht : t.size ≤ maxLen) (w : World) :
    Calls Tryz.prog 105 #[.string s, .string t] w fun e w' => e = .returned (.int .i64 (Lib.compareBytes s.data.toList t.data.toList)) ∧ Below w.heap.size w w' := by
  have hmax : maxLen = 9223372036854775807 := rfl
  obtain ⟨q, hq⟩ : ∃ q, q = Lib.compareBytes s.data.toList t.data.toList := ⟨_, rfl⟩
  rw [← hq]
  have HQ := Lib.hid hq
  clear hq
  go_enter Tryz.func105, Tryz.ntmps105
  go_wp2_with fail
  go_loopg [5] (s.size + 1) (fun gg s6 wr => ∃ (kk : Nat), kk ≤ s.size ∧ kk ≤ t.size ∧ gg = s.size + 1 - kk ∧ s6 = .int .i64 (kk : Int) ∧ Below w.heap.size w wr ∧ Lib.compareBytes s.data.toList t.data.toList = Lib.compareBytes (s.data.toList.drop kk) (t.data.toList.drop kk))
  case atStart => exact ⟨0, Nat.zero_le _, Nat.zero_le _, by omega, rfl, Below.refl _ w, by simp⟩
  case round =>
    obtain ⟨kk, hk1, hk2, hg, rfl, hB, hA⟩ := hrel
    have HB := Lib.hid hB; have HG := Lib.hid hg; have HA := Lib.hid hA
    clear hB hg hA
    by_cases h1 : kk < s.size
    · have h1z : (kk : Int) < (s.size : Int) := by omega
      by_cases h2 : kk < t.size
      · have h2z : (kk : Int) < (t.size : Int) := by omega
        by_cases he : (s[kk].toNat : Int) = (t[kk].toNat : Int)
        · have hst : s[kk] = t[kk] := UInt8.toNat_inj.1 (by omega)
          have HE := Lib.hid hst
          clear hst
          go_upto_region 4 with fail
          go_region
          go_wp2_with fail
          go_roundg (s.size + 1 - (kk + 1))
          case measure => have := HG.out; omega
          case rel =>
            refine ⟨kk + 1, by omega, by omega, rfl, by go_num, HB.out.drew, ?_⟩
            rw [HA.out, drop_at s h1, drop_at t h2, cb_cons, HE.out]
            unfold lx cmpI; simp
        · have hne : Lib.compareBytes s.data.toList t.data.toList = cmpI (s[kk].toNat : Int) (t[kk].toNat : Int) := by
            rw [HA.out, drop_at s h1, drop_at t h2, cb_cons, lx, if_pos (fun e => he (cmpI_zero e))]
          have HC := Lib.hid (fun W => ints_c (s[kk].toNat : Int) (t[kk].toNat : Int) W)
          rw [← hne, ← HQ.out] at HC
          have v1 : IntKind.i64.wrap (s[kk].toNat : Int) = (s[kk].toNat : Int) := IntWalk.i64_in _ (by have := s[kk].toNat_lt; omega)
          have v2 : IntKind.i64.wrap (t[kk].toNat : Int) = (t[kk].toNat : Int) := IntWalk.i64_in _ (by have := t[kk].toNat_lt; omega)
          clear hne
          obtain ⟨wo, hwo⟩ : ∃ wo, wo = wr := ⟨_, rfl⟩
          subst hwo
          go_upto_region 4 with fail
          go_region
          go_upto_region 5 with fail
          go_region_held3 (fun _ => True) (trivial)
            (first
              | (go_at_call 103; refine (HC.out _).mono ?_; rintro e w1 ⟨rfl, hb1⟩; have HB1 := Lib.hid (HB.out.drew.drew.trans (hb1.mono HB.out.drew.drew.size)); clear hb1))
          all_goals
            go_wp2_with fail
            go_ret
            exact ⟨rfl, HB1.out⟩
      · have h2z : ¬ (kk : Int) < (t.size : Int) := by omega
        obtain rfl : kk = t.size := by omega
        have hne : Lib.compareBytes s.data.toList t.data.toList = cmpI (s.size : Int) (t.size : Int) := by
          rw [HA.out, drop_end t, drop_at s h1, Lib.compareBytes]
          unfold cmpI; rw [if_neg (by omega), if_pos (by omega)]
        have HC := Lib.hid (fun W => ints_c (s.size : Int) (t.size : Int) W)
        rw [← hne, ← HQ.out] at HC
        clear hne
        go_wp2_with (go_at_call 103; refine (HC.out _).mono ?_; rintro e w1 ⟨rfl, hb1⟩; have HB1 := Lib.hid (HB.out.trans (hb1.mono HB.out.size)); clear hb1)
        go_ret
        exact ⟨rfl, HB1.out⟩
    · have h1z : ¬ (kk : Int) < (s.size : Int) := by omega
      obtain rfl : kk = s.size := by omega
      have hne : Lib.compareBytes s.data.toList t.data.toList = cmpI (s.size : Int) (t.size : Int) := by
        rw [HA.out, drop_end s]
        by_cases h2 : s.size < t.size
        · rw [drop_at t h2, Lib.compareBytes]
          unfold cmpI; rw [if_pos (by omega)]
        · have e : t.size = s.size := by omega
          rw [← e, drop_end t, Lib.compareBytes]
          unfold cmpI; simp
      have HC := Lib.hid (fun W => ints_c (s.size : Int) (t.size : Int) W)
      rw [← hne, ← HQ.out] at HC
      clear hne
      go_wp2_with (go_at_call 103; refine (HC.out _).mono ?_; rintro e w1 ⟨rfl, hb1⟩; have HB1 := Lib.hid (HB.out.trans (hb1.mono HB.out.size)); clear hb1)
      go_ret
      exact ⟨rfl, HB1.out⟩
end Go.Proofs.YtddmegbhefmloaaGreatDoor
