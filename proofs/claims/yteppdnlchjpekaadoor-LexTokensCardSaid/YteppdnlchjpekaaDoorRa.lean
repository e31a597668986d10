/- The document's own kinds of bytes; where a name ends; what is a word. -/
import Derived.Test.YteppdnlchjpekaaDoorGk
import Derived.Laws.MakeOwn
namespace Go.Proofs.YteppdnlchjpekaaDoor
open Go.RowKit Lx
open Go
attribute [local go_sem] Oper.semAt_some

theorem rlow_c (c : UInt8) (w : World) : Calls Tryd.prog 53 #[.int .u8 (c.toNat : Int)] w fun e w' => e = .returned (.bool (lowB c)) ∧ w = w' := by
  obtain ⟨q, hq⟩ : ∃ q, q = lowB c := ⟨_, rfl⟩
  rw [← hq]
  unfold lowB at hq
  obtain ⟨z, hz⟩ : ∃ z, c.toNat = z := ⟨_, rfl⟩
  rw [hz] at hq ⊢
  have HQ := Lib.hid hq
  clear hq hz
  by_cases h1 : (97 : Int) ≤ (z : Int)
  · by_cases h2 : (z : Int) ≤ 122
    · go_enter Tryd.func53, Tryd.ntmps53
      go_wp2_with fail
      go_ret
      exact ⟨by rw [HQ.out, decide_eq_true (by omega)]; rfl, rfl⟩
    · go_enter Tryd.func53, Tryd.ntmps53
      go_wp2_with fail
      go_ret
      exact ⟨by rw [HQ.out, decide_eq_false (by omega)]; rfl, rfl⟩
  · go_enter Tryd.func53, Tryd.ntmps53
    go_wp2_with fail
    go_ret
    exact ⟨by rw [HQ.out, decide_eq_false (by omega)]; rfl, rfl⟩
theorem rhigh_c (c : UInt8) (w : World) : Calls Tryd.prog 58 #[.int .u8 (c.toNat : Int)] w fun e w' => e = .returned (.bool (uppB c)) ∧ w = w' := by
  obtain ⟨q, hq⟩ : ∃ q, q = uppB c := ⟨_, rfl⟩
  rw [← hq]
  unfold uppB at hq
  obtain ⟨z, hz⟩ : ∃ z, c.toNat = z := ⟨_, rfl⟩
  rw [hz] at hq ⊢
  have HQ := Lib.hid hq
  clear hq hz
  by_cases h1 : (65 : Int) ≤ (z : Int)
  · by_cases h2 : (z : Int) ≤ 90
    · go_enter Tryd.func58, Tryd.ntmps58
      go_wp2_with fail
      go_ret
      exact ⟨by rw [HQ.out, decide_eq_true (by omega)]; rfl, rfl⟩
    · go_enter Tryd.func58, Tryd.ntmps58
      go_wp2_with fail
      go_ret
      exact ⟨by rw [HQ.out, decide_eq_false (by omega)]; rfl, rfl⟩
  · go_enter Tryd.func58, Tryd.ntmps58
    go_wp2_with fail
    go_ret
    exact ⟨by rw [HQ.out, decide_eq_false (by omega)]; rfl, rfl⟩
theorem rdigit_c (c : UInt8) (w : World) : Calls Tryd.prog 55 #[.int .u8 (c.toNat : Int)] w fun e w' => e = .returned (.bool (digB c)) ∧ w = w' := by
  obtain ⟨q, hq⟩ : ∃ q, q = digB c := ⟨_, rfl⟩
  rw [← hq]
  unfold digB at hq
  obtain ⟨z, hz⟩ : ∃ z, c.toNat = z := ⟨_, rfl⟩
  rw [hz] at hq ⊢
  have HQ := Lib.hid hq
  clear hq hz
  by_cases h1 : (48 : Int) ≤ (z : Int)
  · by_cases h2 : (z : Int) ≤ 57
    · go_enter Tryd.func55, Tryd.ntmps55
      go_wp2_with fail
      go_ret
      exact ⟨by rw [HQ.out, decide_eq_true (by omega)]; rfl, rfl⟩
    · go_enter Tryd.func55, Tryd.ntmps55
      go_wp2_with fail
      go_ret
      exact ⟨by rw [HQ.out, decide_eq_false (by omega)]; rfl, rfl⟩
  · go_enter Tryd.func55, Tryd.ntmps55
    go_wp2_with fail
    go_ret
    exact ⟨by rw [HQ.out, decide_eq_false (by omega)]; rfl, rfl⟩
theorem part_or (c : UInt8) : partB c = (lowB c || (uppB c || (digB c || (c.toNat : Int) == 95))) := by
  have : ((c.toNat : Int) == 95) = decide (c.toNat = 95) := by
    by_cases h : c.toNat = 95
    · rw [h]; rfl
    · rw [decide_eq_false h, beq_eq_false_iff_ne]; omega
  rw [this]
  unfold partB lowB uppB digB
  by_cases h1 : 97 ≤ c.toNat ∧ c.toNat ≤ 122 <;> by_cases h2 : 65 ≤ c.toNat ∧ c.toNat ≤ 90 <;> by_cases h3 : 48 ≤ c.toNat ∧ c.toNat ≤ 57 <;> by_cases h4 : c.toNat = 95 <;> simp [h1, h2, h3, h4]
set_option maxRecDepth 100000 in
set_option maxHeartbeats 2000000 in
theorem rwithin_c (c : UInt8) (w : World) : Calls Tryd.prog 79 #[.int .u8 (c.toNat : Int)] w fun e w' => e = .returned (.bool (partB c)) ∧ w = w' := by
  have HL := Lib.hid (fun W => rlow_c c W); have HH := Lib.hid (fun W => rhigh_c c W); have HD := Lib.hid (fun W => rdigit_c c W)
  have hp := part_or c
  rw [hp]
  clear hp
  generalize lowB c = l at HL ⊢
  generalize uppB c = h at HH ⊢
  generalize digB c = d at HD ⊢
  obtain ⟨z, hz⟩ : ∃ z, c.toNat = z := ⟨_, rfl⟩
  rw [hz] at HL HH HD ⊢
  clear hz
  have hcs : (l = true) ∨ (l = false ∧ h = true) ∨ (l = false ∧ h = false ∧ d = true) ∨ (l = false ∧ h = false ∧ d = false ∧ ((z : Int) == 95) = true) ∨ (l = false ∧ h = false ∧ d = false ∧ ((z : Int) == 95) = false) := by
    cases l <;> cases h <;> cases d <;> cases ((z : Int) == 95) <;> simp
  rcases hcs with rfl | ⟨rfl, rfl⟩ | ⟨rfl, rfl, rfl⟩ | ⟨rfl, rfl, rfl, h95⟩ | ⟨rfl, rfl, rfl, h95⟩
  · go_enter Tryd.func79, Tryd.ntmps79
    go_wp2_with fail
    refine (HL.out _).mono ?_
    rintro e w1 ⟨rfl, rfl⟩
    go_wp2_with fail
    go_ret
    exact ⟨rfl, rfl⟩
  · go_enter Tryd.func79, Tryd.ntmps79
    go_wp2_with fail
    refine (HL.out _).mono ?_
    rintro e w1 ⟨rfl, rfl⟩
    go_wp2_with fail
    refine (HH.out _).mono ?_
    rintro e w1 ⟨rfl, rfl⟩
    go_wp2_with fail
    go_ret
    exact ⟨rfl, rfl⟩
  · go_enter Tryd.func79, Tryd.ntmps79
    go_wp2_with fail
    refine (HL.out _).mono ?_
    rintro e w1 ⟨rfl, rfl⟩
    go_wp2_with fail
    refine (HH.out _).mono ?_
    rintro e w1 ⟨rfl, rfl⟩
    go_wp2_with fail
    refine (HD.out _).mono ?_
    rintro e w1 ⟨rfl, rfl⟩
    go_wp2_with fail
    go_ret
    exact ⟨rfl, rfl⟩
  all_goals
    go_enter Tryd.func79, Tryd.ntmps79
    go_wp2_with fail
    refine (HL.out _).mono ?_
    rintro e w1 ⟨rfl, rfl⟩
    go_wp2_with fail
    refine (HH.out _).mono ?_
    rintro e w1 ⟨rfl, rfl⟩
    go_wp2_with fail
    refine (HD.out _).mono ?_
    rintro e w1 ⟨rfl, rfl⟩
    go_wp2_with fail
    go_ret
    exact ⟨by rw [h95]; rfl, rfl⟩
set_option maxRecDepth 100000 in
set_option maxHeartbeats 2000000 in
/-- Where a name ends. -/
theorem rend_c (s : ByteArray) (hs : s.size ≤ 100000) (i : Nat) (hi : i ≤ s.size) (w : World) : Calls Tryd.prog 59 #[.string s, .int .i64 (i : Int)] w fun e w' => e = .returned (.int .i64 ((i + (lead (s.data.toList.drop i)).length : Nat) : Int)) ∧ w = w' := by
  have hmax : maxLen = 9223372036854775807 := rfl
  obtain ⟨R, hR⟩ : ∃ R, R = lead (s.data.toList.drop i) := ⟨_, rfl⟩
  rw [← hR]
  have HR := Lib.hid hR
  clear hR
  go_enter Tryd.func59, Tryd.ntmps59
  go_wp2_with fail
  go_loopg [1] (s.size + 1 - i) (fun gg s1 wr => ∃ k : Nat, i ≤ k ∧ k ≤ s.size ∧ gg = s.size + 1 - k ∧ s1 = .int .i64 (k : Int) ∧ (∀ x ∈ (s.data.toList.drop i).take (k - i), partB x = true) ∧ w = wr)
  case atStart => exact ⟨i, Nat.le_refl _, hi, by omega, rfl, by simp, rfl⟩
  case round =>
    obtain ⟨k, hik, hk, hg, rfl, ha, rfl⟩ := hrel
    have HG := Lib.hid hg; have HA := Lib.hid ha
    clear hg ha
    by_cases hlt : k < s.size
    · have hltz : (k : Int) < (s.size : Int) := by omega
      have hkl : k - i < (s.data.toList.drop i).length := by rw [List.length_drop, ← size_list]; omega
      have hge : (s.data.toList.drop i)[k - i] = s[k] := by
        have hks : k < s.data.toList.length := by rw [← size_list]; exact hlt
        apply Option.some.inj
        rw [← List.getElem?_eq_getElem, List.getElem?_drop, show i + (k - i) = k by omega, List.getElem?_eq_getElem hks]; rfl
      obtain ⟨q, hq⟩ : ∃ q, partB s[k] = q := ⟨_, rfl⟩
      have hp := rwithin_c s[k] w
      rw [hq] at hp
      rw [← hge] at hq
      have HP := Lib.hid hp; have HQ := Lib.hid hq; have HKL := Lib.hid hkl
      clear hp hq hge
      cases q
      · go_wp2_with fail
        refine HP.out.mono ?_
        rintro e w1 ⟨rfl, rfl⟩
        go_wp2_with fail
        go_ret
        have h1 := Go.Proofs.YteppdnlchjpekaaDoor.lead_stop (s.data.toList.drop i) (k - i) HKL.out HA.out HQ.out
        have h2 := HKL.out
        refine ⟨?_, rfl⟩
        rw [HR.out, h1, List.length_take, Nat.min_eq_left (by omega), show i + (k - i) = k by omega]
        rfl
      · go_wp2_with fail
        refine HP.out.mono ?_
        rintro e w1 ⟨rfl, rfl⟩
        go_wp2_with fail
        go_roundg (s.size + 1 - (k + 1))
        case measure => have := HG.out; omega
        case rel =>
          refine ⟨k + 1, by omega, by omega, rfl, by go_num, fun x hx => ?_, rfl⟩
          rw [show k + 1 - i = (k - i) + 1 by omega, List.take_succ_eq_append_getElem HKL.out] at hx
          rcases List.mem_append.1 hx with h | h
          · exact HA.out x h
          · have hx : x = (s.data.toList.drop i)[k - i]'HKL.out := List.mem_singleton.1 h
            rw [hx]; exact HQ.out
    · have hltz : ¬ (k : Int) < (s.size : Int) := by omega
      obtain rfl : k = s.size := by omega
      go_wp2_with fail
      go_ret
      have h := HA.out
      have hl : (s.data.toList.drop i).length = s.size - i := by rw [List.length_drop, ← size_list]
      rw [← hl, List.take_length] at h
      refine ⟨?_, rfl⟩
      rw [HR.out, lead_all _ h, hl]
      show Ending.returned (.int .i64 (s.size : Int)) = _
      congr 2
      omega
theorem words_new (W : World) : W.heap.size < (W.alloc (.cells #[.string ⟨#[109, 111, 100, 117, 108, 101]⟩, .string ⟨#[105, 109, 112, 111, 114, 116]⟩, .string ⟨#[112, 117, 98]⟩, .string ⟨#[116, 121, 112, 101]⟩, .string ⟨#[105, 110, 112, 117, 116]⟩, .string ⟨#[114, 101, 108]⟩, .string ⟨#[110, 101, 118, 101, 114]⟩, .string ⟨#[110, 111, 116]⟩, .string ⟨#[97, 110, 100]⟩, .string ⟨#[111, 114]⟩, .string ⟨#[105, 102]⟩, .string ⟨#[116, 104, 101, 110]⟩, .string ⟨#[101, 108, 115, 101]⟩, .string ⟨#[116, 114, 117, 101]⟩, .string ⟨#[102, 97, 108, 115, 101]⟩, .string ⟨#[99, 111, 117, 110, 116]⟩, .string ⟨#[115, 117, 109]⟩, .string ⟨#[109, 105, 110]⟩, .string ⟨#[109, 97, 120]⟩] 9)).heap.size ∧ ∀ j (hj : j < wordL.length), (W.alloc (.cells #[.string ⟨#[109, 111, 100, 117, 108, 101]⟩, .string ⟨#[105, 109, 112, 111, 114, 116]⟩, .string ⟨#[112, 117, 98]⟩, .string ⟨#[116, 121, 112, 101]⟩, .string ⟨#[105, 110, 112, 117, 116]⟩, .string ⟨#[114, 101, 108]⟩, .string ⟨#[110, 101, 118, 101, 114]⟩, .string ⟨#[110, 111, 116]⟩, .string ⟨#[97, 110, 100]⟩, .string ⟨#[111, 114]⟩, .string ⟨#[105, 102]⟩, .string ⟨#[116, 104, 101, 110]⟩, .string ⟨#[101, 108, 115, 101]⟩, .string ⟨#[116, 114, 117, 101]⟩, .string ⟨#[102, 97, 108, 115, 101]⟩, .string ⟨#[99, 111, 117, 110, 116]⟩, .string ⟨#[115, 117, 109]⟩, .string ⟨#[109, 105, 110]⟩, .string ⟨#[109, 97, 120]⟩] 9)).cell? ⟨W.heap.size, j, none⟩ = some (.string ⟨(wordL[j]).toArray⟩) := by
  have hb := Blk.new W 9 #[.string ⟨#[109, 111, 100, 117, 108, 101]⟩, .string ⟨#[105, 109, 112, 111, 114, 116]⟩, .string ⟨#[112, 117, 98]⟩, .string ⟨#[116, 121, 112, 101]⟩, .string ⟨#[105, 110, 112, 117, 116]⟩, .string ⟨#[114, 101, 108]⟩, .string ⟨#[110, 101, 118, 101, 114]⟩, .string ⟨#[110, 111, 116]⟩, .string ⟨#[97, 110, 100]⟩, .string ⟨#[111, 114]⟩, .string ⟨#[105, 102]⟩, .string ⟨#[116, 104, 101, 110]⟩, .string ⟨#[101, 108, 115, 101]⟩, .string ⟨#[116, 114, 117, 101]⟩, .string ⟨#[102, 97, 108, 115, 101]⟩, .string ⟨#[99, 111, 117, 110, 116]⟩, .string ⟨#[115, 117, 109]⟩, .string ⟨#[109, 105, 110]⟩, .string ⟨#[109, 97, 120]⟩]
  refine ⟨hb.lt, fun j hj => ?_⟩
  have hj' : j < 19 := hj
  match j, hj' with
  | 0, _ => exact (hb.cell 0).trans rfl
  | 1, _ => exact (hb.cell 1).trans rfl
  | 2, _ => exact (hb.cell 2).trans rfl
  | 3, _ => exact (hb.cell 3).trans rfl
  | 4, _ => exact (hb.cell 4).trans rfl
  | 5, _ => exact (hb.cell 5).trans rfl
  | 6, _ => exact (hb.cell 6).trans rfl
  | 7, _ => exact (hb.cell 7).trans rfl
  | 8, _ => exact (hb.cell 8).trans rfl
  | 9, _ => exact (hb.cell 9).trans rfl
  | 10, _ => exact (hb.cell 10).trans rfl
  | 11, _ => exact (hb.cell 11).trans rfl
  | 12, _ => exact (hb.cell 12).trans rfl
  | 13, _ => exact (hb.cell 13).trans rfl
  | 14, _ => exact (hb.cell 14).trans rfl
  | 15, _ => exact (hb.cell 15).trans rfl
  | 16, _ => exact (hb.cell 16).trans rfl
  | 17, _ => exact (hb.cell 17).trans rfl
  | 18, _ => exact (hb.cell 18).trans rfl
  | j + 19, h => omega
set_option maxRecDepth 100000 in
set_option maxHeartbeats 2000000 in
/-- What is a word. -/
theorem rword_c (s : ByteArray) (w : World) : Calls Tryd.prog 60 #[.string s] w fun e w' => e = .returned (.bool (isW s.data.toList)) ∧ Below w.heap.size w w' := by
  have hmax : maxLen = 9223372036854775807 := rfl
  obtain ⟨Q, hQ⟩ : ∃ Q, Q = isW s.data.toList := ⟨_, rfl⟩
  rw [← hQ]
  have HQ := Lib.hid hQ
  clear hQ
  have HWN := Lib.hid (words_new w)
  go_enter Tryd.func60, Tryd.ntmps60
  go_wp2_with fail
  have hb0 : Below w.heap.size w (w.alloc (.cells #[.string ⟨#[109, 111, 100, 117, 108, 101]⟩, .string ⟨#[105, 109, 112, 111, 114, 116]⟩, .string ⟨#[112, 117, 98]⟩, .string ⟨#[116, 121, 112, 101]⟩, .string ⟨#[105, 110, 112, 117, 116]⟩, .string ⟨#[114, 101, 108]⟩, .string ⟨#[110, 101, 118, 101, 114]⟩, .string ⟨#[110, 111, 116]⟩, .string ⟨#[97, 110, 100]⟩, .string ⟨#[111, 114]⟩, .string ⟨#[105, 102]⟩, .string ⟨#[116, 104, 101, 110]⟩, .string ⟨#[101, 108, 115, 101]⟩, .string ⟨#[116, 114, 117, 101]⟩, .string ⟨#[102, 97, 108, 115, 101]⟩, .string ⟨#[99, 111, 117, 110, 116]⟩, .string ⟨#[115, 117, 109]⟩, .string ⟨#[109, 105, 110]⟩, .string ⟨#[109, 97, 120]⟩] 9)) := (Below.refl _ _).alloc (Nat.le_refl _) _
  have hwn := HWN.out
  generalize w.alloc (.cells #[.string ⟨#[109, 111, 100, 117, 108, 101]⟩, .string ⟨#[105, 109, 112, 111, 114, 116]⟩, .string ⟨#[112, 117, 98]⟩, .string ⟨#[116, 121, 112, 101]⟩, .string ⟨#[105, 110, 112, 117, 116]⟩, .string ⟨#[114, 101, 108]⟩, .string ⟨#[110, 101, 118, 101, 114]⟩, .string ⟨#[110, 111, 116]⟩, .string ⟨#[97, 110, 100]⟩, .string ⟨#[111, 114]⟩, .string ⟨#[105, 102]⟩, .string ⟨#[116, 104, 101, 110]⟩, .string ⟨#[101, 108, 115, 101]⟩, .string ⟨#[116, 114, 117, 101]⟩, .string ⟨#[102, 97, 108, 115, 101]⟩, .string ⟨#[99, 111, 117, 110, 116]⟩, .string ⟨#[115, 117, 109]⟩, .string ⟨#[109, 105, 110]⟩, .string ⟨#[109, 97, 120]⟩] 9) = W0 at hb0 hwn ⊢
  have HB0 := Lib.hid hb0; have HWC := Lib.hid hwn
  clear hb0 hwn HWN
  go_loopg [4] 20 (fun gg s4 wr => ∃ k : Nat, k ≤ 19 ∧ gg = 20 - k ∧ s4 = .int .i64 (k : Int) ∧ (∀ j (hj : j < wordL.length), j < k → wordL[j] ≠ s.data.toList) ∧ W0 = wr)
  case atStart => exact ⟨0, Nat.zero_le _, by omega, rfl, fun j hj h => absurd h (Nat.not_lt_zero _), rfl⟩
  case round =>
    obtain ⟨k, hk, hg, rfl, ha, rfl⟩ := hrel
    have HG := Lib.hid hg; have HA := Lib.hid ha
    clear hg ha
    by_cases hlt : k < 19
    · have hltz : (k : Int) < 19 := by omega
      have hkl : k < wordL.length := hlt
      have c0 := HWC.out.2 k hkl
      have hkw : wordL[k] ∈ wordL := List.getElem_mem hkl
      obtain ⟨e, he⟩ : ∃ e, e = wordL[k] := ⟨_, rfl⟩
      rw [← he] at c0 hkw
      obtain ⟨V, hV⟩ : ∃ V : ByteArray, V = ⟨e.toArray⟩ := ⟨_, rfl⟩
      rw [← hV] at c0
      have hVl : V.data.toList = e := by rw [hV]
      have HVL := Lib.hid hVl
      clear hV hVl
      have HE := Lib.hid he; have HKW := Lib.hid hkw
      clear he hkw
      by_cases hes : V = s
      · subst hes
        go_wp2_with fail
        go_ret
        refine ⟨?_, HB0.out⟩
        rw [HQ.out, HVL.out]
        unfold isW
        rw [List.contains_iff_mem.2 HKW.out]; rfl
      · have h0 : ¬ e = s.data.toList := fun h => hes (by rw [ba_eq (HVL.out.trans h), ← arr_self])
        have h1 : ¬ V.toList = s.toList := by rw [Lib.toList_data, Lib.toList_data, HVL.out]; exact h0
        have h2 : (V.toList == s.toList) = false := by rw [beq_eq_false_iff_ne]; exact h1
        have H0 := Lib.hid h0
        clear h0
        go_wp2_with fail
        go_roundg (20 - (k + 1))
        case measure => have := HG.out; omega
        case rel =>
          refine ⟨k + 1, by omega, rfl, by go_num, fun j hj hjk => ?_, rfl⟩
          rcases Nat.lt_or_ge j k with h | h
          · exact HA.out j hj h
          · obtain rfl : j = k := by omega
            rw [← HE.out]; exact H0.out
    · have hltz : ¬ (k : Int) < 19 := by omega
      obtain rfl : k = 19 := by omega
      go_wp2_with fail
      go_ret
      refine ⟨?_, HB0.out⟩
      rw [HQ.out]
      unfold isW
      have : wordL.contains s.data.toList = false := by
        cases hc : wordL.contains s.data.toList with
        | false => rfl
        | true =>
          obtain ⟨j, hj, e⟩ := List.getElem_of_mem (List.contains_iff_mem.1 hc)
          exact absurd e (HA.out j hj hj)
      rw [this]
      rfl
theorem hex_facts : ∀ n : Fin 256, (48 ≤ n.val ∧ n.val ≤ 57 → Lib.indexByte hexL (UInt8.ofNat n.val) = (n.val : Int) - 48) ∧ (97 ≤ n.val ∧ n.val ≤ 102 → Lib.indexByte hexL (UInt8.ofNat n.val) = (n.val : Int) - 87) ∧ (¬ (48 ≤ n.val ∧ n.val ≤ 57) → ¬ (97 ≤ n.val ∧ n.val ≤ 102) → Lib.indexByte hexL (UInt8.ofNat n.val) = -1) := by decide +kernel
theorem hex_at (c : UInt8) : (48 ≤ c.toNat ∧ c.toNat ≤ 57 → Lib.indexByte hexL c = (c.toNat : Int) - 48) ∧ (97 ≤ c.toNat ∧ c.toNat ≤ 102 → Lib.indexByte hexL c = (c.toNat : Int) - 87) ∧ (¬ (48 ≤ c.toNat ∧ c.toNat ≤ 57) → ¬ (97 ≤ c.toNat ∧ c.toNat ≤ 102) → Lib.indexByte hexL c = -1) := by
  have h := hex_facts ⟨c.toNat, c.toNat_lt⟩
  simpa using h
set_option maxHeartbeats 2000000 in
theorem rhex_c (c : UInt8) (w : World) : Calls Tryd.prog 78 #[.int .u8 (c.toNat : Int)] w fun e w' => e = .returned (.int .i64 (Lib.indexByte hexL c)) ∧ w = w' := by
  obtain ⟨h1, h2, h3⟩ := hex_at c
  have HD := Lib.hid (fun W => rdigit_c c W)
  unfold digB at HD
  have h256 : c.toNat < 256 := c.toNat_lt
  generalize Lib.indexByte hexL c = r at *
  obtain ⟨z, hz⟩ : ∃ z, c.toNat = z := ⟨_, rfl⟩
  rw [hz] at h1 h2 h3 HD h256 ⊢
  clear hz
  by_cases hd : 48 ≤ z ∧ z ≤ 57
  · rw [decide_eq_true hd] at HD
    have HR := Lib.hid (h1 hd)
    clear h1 h2 h3
    go_enter Tryd.func78, Tryd.ntmps78
    go_wp2_with fail
    refine (HD.out _).mono ?_
    rintro e w1 ⟨rfl, rfl⟩
    go_wp2_with fail
    go_ret
    exact ⟨by rw [HR.out]; try congr 2; try omega, rfl⟩
  · rw [decide_eq_false hd] at HD
    by_cases ha : 97 ≤ z ∧ z ≤ 102
    · have HR := Lib.hid (h2 ha)
      have a1 : (97 : Int) ≤ (z : Int) := by omega
      have a2 : (z : Int) ≤ 102 := by omega
      clear h1 h2 h3 h256
      go_enter Tryd.func78, Tryd.ntmps78
      go_wp2_with fail
      refine (HD.out _).mono ?_
      rintro e w1 ⟨rfl, rfl⟩
      go_wp2_with fail
      go_ret
      exact ⟨by rw [HR.out]; show Ending.returned (Value.int .i64 ((z : Int) - 97 + 10)) = _; congr 2; omega, rfl⟩
    · have HR := Lib.hid (h3 hd ha)
      have hcs : ¬ (97 : Int) ≤ (z : Int) ∨ ((97 : Int) ≤ (z : Int) ∧ ¬ (z : Int) ≤ 102) := by omega
      clear h1 h2 h3
      rcases hcs with a1 | ⟨a1, a2⟩
      all_goals
        go_enter Tryd.func78, Tryd.ntmps78
        go_wp2_with fail
        refine (HD.out _).mono ?_
        rintro e w1 ⟨rfl, rfl⟩
        go_wp2_with fail
        go_ret
        exact ⟨by rw [HR.out]; rfl, rfl⟩
end Go.Proofs.YteppdnlchjpekaaDoor
