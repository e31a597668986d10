/- Package lex: numbers. -/
import Derived.Test.YteppdnlchjpekaaDoorEg
namespace Go.Proofs.YteppdnlchjpekaaDoor
open Go.RowKit Lx
open Go
attribute [local go_sem] Oper.semAt_some

theorem all_not {l : List UInt8} {k : Nat} (hk : k < l.length) (h : digB l[k] = false) : l.all digB = false := by
  rw [List.all_eq_false]
  exact ⟨l[k], List.getElem_mem hk, by simp [h]⟩
set_option maxRecDepth 100000 in
set_option maxHeartbeats 800000 in
theorem digits_c (s : ByteArray) (hs : s.size ≤ maxLen) (w : World) : Calls Tryd.prog 64 #[.string s] w fun e w' => e = .returned (.bool (numB s.data.toList)) ∧ w = w' := by
  have hmax : maxLen = 9223372036854775807 := rfl
  obtain ⟨Q, hQ⟩ : ∃ Q, Q = numB s.data.toList := ⟨_, rfl⟩
  rw [← hQ]
  have HQQ := Lib.hid hQ
  clear hQ
  have HSZ := Lib.hid (size_list s)
  go_enter Tryd.func64, Tryd.ntmps64
  go_wp2_with fail
  go_loopg [6] (s.size + 1) (fun gg s6 wr => ∃ k : Nat, k ≤ s.size ∧ gg = s.size + 1 - k ∧ s6 = .int .i64 (k : Int) ∧ (∀ x ∈ s.data.toList.take k, digB x = true) ∧ w = wr)
  case atStart => exact ⟨0, Nat.zero_le _, by omega, rfl, by simp, rfl⟩
  case round =>
    obtain ⟨k, hk, hg, rfl, ha, rfl⟩ := hrel
    have HG := Lib.hid hg; have HA := Lib.hid ha
    clear hg ha
    by_cases hlt : k < s.size
    · have hltz : (k : Int) < (s.size : Int) := by omega
      have hkl : k < s.data.toList.length := by rw [← size_list]; exact hlt
      obtain ⟨q, hq⟩ : ∃ q, digB s[k] = q := ⟨_, rfl⟩
      have hp := digit_c s[k] w
      rw [hq] at hp
      have HP := Lib.hid hp; have HQ := Lib.hid hq; have HKL := Lib.hid hkl
      clear hp hq
      cases q
      · go_wp2_with fail
        refine HP.out.mono ?_
        rintro e w1 ⟨rfl, rfl⟩
        go_wp2_with fail
        go_ret
        have hn : numB s.data.toList = false := by
          unfold numB
          rw [all_not HKL.out HQ.out]; rfl
        exact ⟨by rw [HQQ.out, hn]; rfl, rfl⟩
      · go_wp2_with fail
        refine HP.out.mono ?_
        rintro e w1 ⟨rfl, rfl⟩
        go_wp2_with fail
        go_roundg (s.size + 1 - (k + 1))
        case measure => have := HG.out; omega
        case rel =>
          refine ⟨k + 1, by omega, rfl, by go_num, fun x hx => ?_, rfl⟩
          rw [List.take_succ_eq_append_getElem HKL.out] at hx
          rcases List.mem_append.1 hx with h | h
          · exact HA.out x h
          · have hx : x = s.data.toList[k]'HKL.out := List.mem_singleton.1 h
            rw [hx]; exact HQ.out
    · have hltz : ¬ (k : Int) < (s.size : Int) := by omega
      obtain rfl : k = s.size := by omega
      have hsl := HSZ.out
      have h := HA.out
      rw [hsl, List.take_length] at h
      have hall : s.data.toList.all digB = true := by rw [List.all_eq_true]; exact h
      have hnq : Q = (s.data.toList == [48] || (s.data.toList != [] && s.data.toList.head? != some 48)) := by rw [HQQ.out]; unfold numB; rw [hall]; rfl
      have HNQ := Lib.hid hnq
      have hl0 : (s.toList == [48]) = (s.data.toList == [48]) := by rw [Lib.toList_data]
      have hem := emp_iff s
      clear h hall hnq HA
      cases hd : s.data.toList with
      | nil =>
        rw [hd] at hl0 hem HNQ
        replace hl0 : (s.toList == [48]) = false := hl0
        replace hem : s.toList.isEmpty = true := hem
        clear hsl hd
        go_wp2_with fail
        go_ret
        exact ⟨by rw [HNQ.out]; rfl, rfl⟩
      | cons c r =>
        rw [hd] at hl0 hem HNQ hsl
        replace hem : s.toList.isEmpty = false := hem
        have hpos : 0 < s.size := by rw [hsl, List.length_cons]; omega
        have hcn : (s[0].toNat : Int) = (c.toNat : Int) := by
          have h1 : s.data.toList[0]? = some c := by rw [hd]; rfl
          obtain ⟨_, h2⟩ := List.getElem?_eq_some_iff.1 h1
          have h3 : s[0] = c := h2
          rw [h3]
        clear hsl hd
        by_cases hc : c = 48
        · subst hc
          cases r with
          | nil =>
            replace hl0 : (s.toList == [48]) = true := hl0
            go_wp2_with fail
            go_ret
            exact ⟨by rw [HNQ.out]; rfl, rfl⟩
          | cons c2 r2 =>
            replace hl0 : (s.toList == [48]) = false := by rw [hl0]; simp
            replace hcn : (s[0].toNat : Int) = 48 := hcn
            go_wp2_with fail
            go_ret
            exact ⟨by rw [HNQ.out]; simp, rfl⟩
        · replace hl0 : (s.toList == [48]) = false := by rw [hl0, beq_eq_false_iff_ne]; intro e; injection e with e _; exact hc e
          have hc4 : ((c.toNat : Int) == 48) = false := by rw [beq_eq_false_iff_ne]; exact fun e => hc (UInt8.toNat_inj.1 (by show c.toNat = 48; omega))
          have hr : ((c :: r) == [48] || ((c :: r) != [] && (c :: r).head? != some 48)) = true := by
            have h1 : ((c :: r) == [(48 : UInt8)]) = false := by rw [beq_eq_false_iff_ne]; intro e; injection e with e _; exact hc e
            rw [h1]; simp [hc]
          have HR := Lib.hid hr
          clear hr
          go_wp2_with fail
          go_ret
          exact ⟨by rw [HNQ.out, HR.out]; simp; simpa using hc4, rfl⟩

set_option maxRecDepth 100000 in
set_option maxHeartbeats 800000 in
theorem fnum_c (s : ByteArray) (hs : s.size ≤ maxLen) (w : World) : Calls Tryd.prog 40 #[.string s] w fun e w' => e = .returned (fv (fNum s.data.toList)) ∧ Below w.heap.size w w' := by
  have hmax : maxLen = 9223372036854775807 := rfl
  obtain ⟨S, hS, hSs, hl⟩ := leading_s s hs
  obtain ⟨F0, hF0⟩ : ∃ F0, F0 = fNum s.data.toList := ⟨_, rfl⟩
  rw [← hF0]
  unfold fNum at hF0
  have hsl := size_list S
  rw [hS] at hsl
  have hcs := fun W => Tryd.strings_CutSuffix S ⟨#[98]⟩ W (by omega)
  rw [show (⟨#[98]⟩ : ByteArray).data.toList = [98] from rfl, hS] at hcs
  obtain ⟨D, hD⟩ : ∃ D : ByteArray, D = ⟨(Lib.trimSuffix (lead s.data.toList) [98]).toArray⟩ := ⟨_, rfl⟩
  have hD2 : D.data.toList = Lib.trimSuffix (lead s.data.toList) [98] := by rw [hD]
  rw [← hD] at hcs
  have hDs : D.size ≤ maxLen := by
    rw [size_list, hD2]
    have : (Lib.trimSuffix (lead s.data.toList) [98]).length ≤ (lead s.data.toList).length := by
      unfold Lib.trimSuffix
      split
      · rw [List.length_take]; omega
      · exact Nat.le_refl _
    omega
  have hdg := fun W => digits_c D hDs W
  rw [hD2] at hdg
  generalize Lib.trimSuffix (lead s.data.toList) [98] = R at hD2 hF0 hdg
  generalize Lib.hasSuffix (lead s.data.toList) [98] = lg at hF0 hcs
  obtain ⟨q, hq⟩ : ∃ q, numB R = q := ⟨_, rfl⟩
  rw [hq] at hF0 hdg
  have HL := Lib.hid hl; have HSL := Lib.hid hsl; have HF0 := Lib.hid hF0; have HCS := Lib.hid hcs; have HDG := Lib.hid hdg; have HD := Lib.hid hD2
  clear hl hS hsl hF0 hSs hcs hdg hD hD2 hDs hq
  cases q
  · go_enter Tryd.func40, Tryd.ntmps40
    go_wp2_with fail
    refine (HL.out _).mono ?_
    rintro e w1 ⟨rfl, rfl⟩
    go_wp2_with fail
    refine (HCS.out _).mono ?_
    rintro e w1 ⟨rfl, rfl⟩
    go_wp2_with fail
    refine (HDG.out _).mono ?_
    rintro e w1 ⟨rfl, rfl⟩
    go_wp2_with fail
    refine bodyPost_ret (retF Tryd.results40 rfl rfl (Blk.new _ _ _)) rfl ⟨by rw [HF0.out, if_neg (by decide)]; rfl, (by repeat (first | exact Below.refl _ _ | refine Below.setCell ?_ (by simp) _ | refine Below.alloc ?_ (by simp) _))⟩
  · cases lg
    · go_enter Tryd.func40, Tryd.ntmps40
      go_wp2_with fail
      refine (HL.out _).mono ?_
      rintro e w1 ⟨rfl, rfl⟩
      go_wp2_with fail
      refine (HCS.out _).mono ?_
      rintro e w1 ⟨rfl, rfl⟩
      go_wp2_with fail
      refine (HDG.out _).mono ?_
      rintro e w1 ⟨rfl, rfl⟩
      go_wp2_with fail
      refine bodyPost_ret (retF Tryd.results40 rfl rfl (Blk.new _ _ _)) rfl ⟨by rw [HF0.out, if_pos (by first | rfl | trivial), if_neg (by decide)]; exact congrArg Ending.returned (fv_i (k := 5) HD.out (by rw [HSL.out])), (by repeat (first | exact Below.refl _ _ | refine Below.setCell ?_ (by simp) _ | refine Below.alloc ?_ (by simp) _))⟩
    · go_enter Tryd.func40, Tryd.ntmps40
      go_wp2_with fail
      refine (HL.out _).mono ?_
      rintro e w1 ⟨rfl, rfl⟩
      go_wp2_with fail
      refine (HCS.out _).mono ?_
      rintro e w1 ⟨rfl, rfl⟩
      go_wp2_with fail
      refine (HDG.out _).mono ?_
      rintro e w1 ⟨rfl, rfl⟩
      go_wp2_with fail
      refine bodyPost_ret (retF Tryd.results40 rfl rfl (Blk.new _ _ _)) rfl ⟨by rw [HF0.out, if_pos (by first | rfl | trivial), if_pos (by first | rfl | trivial)]; exact congrArg Ending.returned (fv_i (k := 6) HD.out (by rw [HSL.out])), (by repeat (first | exact Below.refl _ _ | refine Below.setCell ?_ (by simp) _ | refine Below.alloc ?_ (by simp) _))⟩
end Go.Proofs.YteppdnlchjpekaaDoor
