/- The document's own answer at a place that begins with a sign. -/
import Derived.Test.YteppdnlchjpekaaDoorRf
import Derived.BigQuiet
namespace Go.Proofs.YteppdnlchjpekaaDoor
open Go.RowKit Lx
open Go
attribute [local go_sem] Oper.semAt_some

namespace Lx
def oneL : List UInt8 := [40, 41, 44, 46, 58, 61, 124, 60, 62, 43, 45, 42, 47, 37, 39]
theorem signs_eq : signs = signs.take 6 ++ oneL.map (fun x => [x]) := by decide
theorem at_sign_yes {c : UInt8} {r g : List UInt8} (hp : partB c = false) (h34 : c ≠ 34) (hf : fieldN (c :: r) = []) (hg : signs.find? (fun g => Lib.hasPrefix (c :: r) g) = some g) : fFirst (c :: r) = ((8, g, g.length), 0) := by rw [at_sign hp h34 hf, hg]
theorem at_sign_no {c : UInt8} {r : List UInt8} (hp : partB c = false) (h34 : c ≠ 34) (hf : fieldN (c :: r) = []) (hg : signs.find? (fun g => Lib.hasPrefix (c :: r) g) = none) : fFirst (c :: r) = (no, 4) := by rw [at_sign hp h34 hf, hg]
theorem find_two {l : List UInt8} {k : Nat} (hk2 : k < signs.length) (hn : ∀ j (hj : j < signs.length), j < k → Lib.hasPrefix l signs[j] = false) (h : Lib.hasPrefix l signs[k] = true) : signs.find? (fun g => Lib.hasPrefix l g) = some signs[k] := by
  rw [List.find?_eq_some_iff_getElem]
  exact ⟨h, k, hk2, rfl, fun j hj => by simp [hn j (by omega) hj]⟩
theorem one_at (k : Nat) (hk : k < oneL.length) (h : 6 + k < signs.length) : signs[6 + k] = [oneL[k]] := by
  have : ∀ k : Fin 15, signs[6 + k.val]? = some [oneL[k.val]'k.isLt] := by decide
  have h2 := this ⟨k, hk⟩
  rw [List.getElem?_eq_getElem h] at h2
  exact Option.some.inj h2
theorem pre_single (c x : UInt8) (r : List UInt8) : Lib.hasPrefix (c :: r) [x] = (x == c) := by simp [Lib.hasPrefix, List.isPrefixOf]
theorem find_one {c : UInt8} {r : List UInt8} (hn : ∀ j (hj : j < signs.length), j < 6 → Lib.hasPrefix (c :: r) signs[j] = false) {k : Nat} (hk : k < oneL.length) (hb : ∀ j (hj : j < oneL.length), j < k → oneL[j] ≠ c) (h : oneL[k] = c) : signs.find? (fun g => Lib.hasPrefix (c :: r) g) = some [c] := by
  have hl : signs.length = 21 := rfl
  have hl2 : oneL.length = 15 := rfl
  rw [List.find?_eq_some_iff_getElem]
  refine ⟨by rw [pre_single]; simp, 6 + k, by omega, by rw [one_at k hk (by omega), h], fun j hj => ?_⟩
  rcases Nat.lt_or_ge j 6 with h6 | h6
  · simp [hn j (by omega) h6]
  · have e : signs[j]'(by omega) = [oneL[j - 6]'(by omega)] := by
      have := one_at (j - 6) (by omega) (by omega)
      rw [← this]
      congr 1
      omega
    rw [e, pre_single]
    have := hb (j - 6) (by omega) (by omega)
    simp [this]
theorem find_none {c : UInt8} {r : List UInt8} (hn : ∀ j (hj : j < signs.length), j < 6 → Lib.hasPrefix (c :: r) signs[j] = false) (hb : ∀ j (hj : j < oneL.length), oneL[j] ≠ c) : signs.find? (fun g => Lib.hasPrefix (c :: r) g) = none := by
  have hl : signs.length = 21 := rfl
  have hl2 : oneL.length = 15 := rfl
  rw [List.find?_eq_none]
  intro g hg
  obtain ⟨j, hj, rfl⟩ := List.getElem_of_mem hg
  rcases Nat.lt_or_ge j 6 with h6 | h6
  · simp [hn j hj h6]
  · have e : signs[j] = [oneL[j - 6]'(by omega)] := by
      have := one_at (j - 6) (by omega) (by omega)
      rw [← this]
      congr 1
      omega
    rw [e, pre_single]
    have := hb (j - 6) (by omega)
    simp [this]
theorem two_len : ∀ j (hj : j < signs.length), j < 6 → signs[j].length = 2 ∧ signs[j].head? ≠ some 46 := by
  have : ∀ j : Fin 6, ∃ g, signs[j.val]? = some g ∧ g.length = 2 ∧ g.head? ≠ some 46 := by decide
  intro j hj h6
  obtain ⟨g, h1, h2⟩ := this ⟨j, h6⟩
  rw [List.getElem?_eq_getElem hj] at h1
  rw [Option.some.inj h1]; exact h2
theorem pre_two {l g : List UInt8} (hg : g.length = 2) : Lib.hasPrefix l g = (l.take 2 == g) := by
  match g, hg with
  | [a, b], _ =>
    match l with
    | [] => rfl
    | [x] => simp [Lib.hasPrefix, List.isPrefixOf]
    | x :: y :: l => simp [Lib.hasPrefix, List.isPrefixOf, Bool.beq_comm (a := a), Bool.beq_comm (a := b)]
end Lx
theorem two_new (W : World) : W.heap.size < (W.alloc (.cells #[.string ⟨#[58, 45]⟩, .string ⟨#[61, 61]⟩, .string ⟨#[33, 61]⟩, .string ⟨#[60, 61]⟩, .string ⟨#[62, 61]⟩, .string ⟨#[43, 43]⟩] 9)).heap.size ∧ ∀ j (hj : j < signs.length), j < 6 → (W.alloc (.cells #[.string ⟨#[58, 45]⟩, .string ⟨#[61, 61]⟩, .string ⟨#[33, 61]⟩, .string ⟨#[60, 61]⟩, .string ⟨#[62, 61]⟩, .string ⟨#[43, 43]⟩] 9)).cell? ⟨W.heap.size, j, none⟩ = some (.string ⟨(signs[j]).toArray⟩) := by
  have hb := Blk.new W 9 #[.string ⟨#[58, 45]⟩, .string ⟨#[61, 61]⟩, .string ⟨#[33, 61]⟩, .string ⟨#[60, 61]⟩, .string ⟨#[62, 61]⟩, .string ⟨#[43, 43]⟩]
  refine ⟨hb.lt, fun j hj h6 => ?_⟩
  match j, h6 with
  | 0, _ => exact (hb.cell 0).trans rfl
  | 1, _ => exact (hb.cell 1).trans rfl
  | 2, _ => exact (hb.cell 2).trans rfl
  | 3, _ => exact (hb.cell 3).trans rfl
  | 4, _ => exact (hb.cell 4).trans rfl
  | 5, _ => exact (hb.cell 5).trans rfl
  | j + 6, h => omega
set_option maxRecDepth 100000 in
set_option maxHeartbeats 16000000 in
theorem rat_sign (s : ByteArray) (hs : s.size ≤ 100000) (i : Nat) (hi : i < s.size) (hp : partB s[i] = false) (h34 : s[i] ≠ 34) (w : World) :
    Calls Tryd.prog 28 #[.string s, .int .i64 (i : Int)] w fun e w' => e = .returned (atV i (fFirst (s.data.toList.drop i))) ∧ Below w.heap.size w w' := by
  have hmax : maxLen = 9223372036854775807 := rfl
  have hbk := Blk.new w 69 #[.int .u8 0, .int .i64 0, .string ⟨#[]⟩]
  have hb0 : Below w.heap.size w (w.alloc (.cells #[.int .u8 0, .int .i64 0, .string ⟨#[]⟩] 69)) := (Below.refl _ _).alloc (Nat.le_refl _) _
  have hiz : (i : Int) < (s.size : Int) := by omega
  have hpl : lowB s[i] = false := by cases h : lowB s[i] with | false => rfl | true => rw [low_part h] at hp; cases hp
  have hpd : digB s[i] = false := by cases h : digB s[i] with | false => rfl | true => rw [dig_part h] at hp; cases hp
  have hpu : uppB s[i] = false := by cases h : uppB s[i] with | false => rfl | true => rw [upp_part h] at hp; cases hp
  have h95 : s[i] ≠ 95 := fun h => by rw [h] at hp; exact absurd hp (by decide)
  have HL := Lib.hid (fun W => rlow_c s[i] W)
  rw [hpl] at HL
  have HD := Lib.hid (fun W => rdigit_c s[i] W)
  rw [hpd] at HD
  have HH := Lib.hid (fun W => rhigh_c s[i] W)
  rw [hpu] at HH
  have n34 : ¬ (s[i].toNat : Int) = 34 := fun h => h34 (UInt8.toNat_inj.1 (by show s[i].toNat = 34; omega))
  have n34' : ((s[i].toNat : Int) == 34) = false := by rw [beq_eq_false_iff_ne]; exact n34
  have n95 : ¬ (s[i].toNat : Int) = 95 := fun h => h95 (UInt8.toNat_inj.1 (by show s[i].toNat = 95; omega))
  have n95' : ((s[i].toNat : Int) == 95) = false := by rw [beq_eq_false_iff_ne]; exact n95
  obtain ⟨R, hR⟩ : ∃ R, R = fFirst (s.data.toList.drop i) := ⟨_, rfl⟩
  have hd := drop_at s i hi
  have hyes : ∀ g, fieldN (s.data.toList.drop i) = [] → signs.find? (fun g => Lib.hasPrefix (s.data.toList.drop i) g) = some g → R = ((8, g, g.length), 0) := fun g hf hg => by
    rw [hR]; rw [hd] at hf hg ⊢; exact at_sign_yes hp h34 hf hg
  have hno : fieldN (s.data.toList.drop i) = [] → signs.find? (fun g => Lib.hasPrefix (s.data.toList.drop i) g) = none → R = (no, 4) := fun hf hg => by
    rw [hR]; rw [hd] at hf hg ⊢; exact at_sign_no hp h34 hf hg
  have hfl : ∀ B, s[i] = 46 → fieldN (s.data.toList.drop i) = B → B ≠ [] → R = ((9, B, 1 + B.length), if 32 < B.length then 63 else 0) := fun B h46 hB h0 => by
    rw [hR]; rw [hd, h46] at hB ⊢; exact at_field hB h0
  rw [← hR]
  have HBK0 := Lib.hid hbk; have HB0 := Lib.hid hb0
  have HYES := Lib.hid hyes; have HNO := Lib.hid hno; have HFL := Lib.hid hfl; have HDR := Lib.hid hd
  clear hbk hb0 hyes hno hfl hd hR hpl hpd hpu hp h34 h95
  go_enter Tryd.func28, Tryd.ntmps28
  go_wp2_with fail
  refine (HL.out _).mono ?_
  rintro e0 w0 ⟨rfl, rfl⟩
  go_wp2_with fail
  refine (HD.out _).mono ?_
  rintro e0 w0 ⟨rfl, rfl⟩
  go_wp2_with fail
  refine (HH.out _).mono ?_
  rintro e0 w0 ⟨rfl, rfl⟩
  go_wp2_with fail
  have htw := two_new (w.alloc (.cells #[.int .u8 0, .int .i64 0, .string ⟨#[]⟩] 69))
  have hbk1 := HBK0.out.alloc (.cells #[.string ⟨#[58, 45]⟩, .string ⟨#[61, 61]⟩, .string ⟨#[33, 61]⟩, .string ⟨#[60, 61]⟩, .string ⟨#[62, 61]⟩, .string ⟨#[43, 43]⟩] 9)
  have hb1 := HB0.out.alloc (by simp) (.cells #[.string ⟨#[58, 45]⟩, .string ⟨#[61, 61]⟩, .string ⟨#[33, 61]⟩, .string ⟨#[60, 61]⟩, .string ⟨#[62, 61]⟩, .string ⟨#[43, 43]⟩] 9)
  generalize (w.alloc (.cells #[.int .u8 0, .int .i64 0, .string ⟨#[]⟩] 69)).alloc (.cells #[.string ⟨#[58, 45]⟩, .string ⟨#[61, 61]⟩, .string ⟨#[33, 61]⟩, .string ⟨#[60, 61]⟩, .string ⟨#[62, 61]⟩, .string ⟨#[43, 43]⟩] 9) = W0 at htw hbk1 hb1 ⊢
  obtain ⟨g2, hg2⟩ : ∃ g2, g2 = w.heap.size + 1 := ⟨_, rfl⟩
  rw [show (w.alloc (.cells #[.int .u8 0, .int .i64 0, .string ⟨#[]⟩] 69)).heap.size = w.heap.size + 1 by simp, ← hg2] at htw
  rw [← hg2]
  clear hg2
  have HTW := Lib.hid htw; have HBK1 := Lib.hid hbk1; have HB1 := Lib.hid hb1
  clear htw hbk1 hb1 HBK0 HB0 HL HD HH
  go_loopg [9] 7 (fun gg s9 wr => ∃ k : Nat, k ≤ 6 ∧ gg = 7 - k ∧ s9 = .int .i64 (k : Int) ∧ (∀ j (hj : j < signs.length), j < k → Lib.hasPrefix (s.data.toList.drop i) signs[j] = false) ∧ Below W0.heap.size W0 wr)
  case atStart => exact ⟨0, Nat.zero_le _, by omega, rfl, fun j hj h => absurd h (Nat.not_lt_zero _), Below.refl _ _⟩
  case round =>
    obtain ⟨k, hk, hg, rfl, ha, hu⟩ := hrel
    have HG := Lib.hid hg; have HA := Lib.hid ha; have HU := Lib.hid hu
    have hbk2 := HBK1.out.below hu HBK1.out.lt
    have HBK := Lib.hid hbk2
    have HB := Lib.hid (HB1.out.trans (hu.mono HB1.out.size))
    have d0 := HBK.out.cell 0; have d1 := HBK.out.cell 1; have d2 := HBK.out.cell 2; have z0 := HBK.out.frozen 0; have z1 := HBK.out.frozen 1; have z2 := HBK.out.frozen 2
    simp at d0 d1 d2
    clear hg ha hu hbk2
    by_cases hlt : k < 6
    · have hltz : (k : Int) < 6 := by omega
      have hkl : k < signs.length := by have : signs.length = 21 := rfl; omega
      obtain ⟨hg2, hgh⟩ := two_len k hkl hlt
      have c0 := (HU.out.cell (p := ⟨g2, k, none⟩) HTW.out.1).trans (HTW.out.2 k hkl hlt)
      obtain ⟨g, hgg⟩ : ∃ g, g = signs[k] := ⟨_, rfl⟩
      have hpt := pre_two (l := s.data.toList.drop i) hg2
      rw [← hgg] at c0 hg2 hgh hpt
      obtain ⟨V, hV⟩ : ∃ V : ByteArray, V = ⟨g.toArray⟩ := ⟨_, rfl⟩
      rw [← hV] at c0
      have hVl : V.data.toList = g := by rw [hV]
      have HVL := Lib.hid hVl; have HGG := Lib.hid hgg; have HPT := Lib.hid hpt; have HG2 := Lib.hid hg2; have HGH := Lib.hid hgh
      clear hV hVl hgg hpt hg2 hgh
      by_cases hi1 : i + 1 < s.size
      · have hi1z : (i : Int) + 1 < (s.size : Int) := by omega
        have hi1d : decide ((i : Int) + 1 < (s.size : Int)) = true := decide_eq_true hi1z
        have hi2z : (i : Int) + 2 ≤ (s.size : Int) := by omega
        have htl : (s.extract i (i + 2)).data.toList = (s.data.toList.drop i).take 2 := by rw [mid_list s i (i + 2) (by omega) (by omega), Nat.add_sub_cancel_left]
        have HTL := Lib.hid htl
        clear htl hi1z
        by_cases heq : s.extract i (i + 2) = V
        · rw [← heq] at c0
          have h3 : (s.data.toList.drop i).take 2 = g := by rw [← HTL.out, heq, HVL.out]
          have hpre : Lib.hasPrefix (s.data.toList.drop i) signs[k] = true := by rw [← HGG.out, HPT.out, h3]; simp
          have hne : s[i] ≠ 46 := fun h46 => by
            have := HGH.out
            rw [← h3, HDR.out, h46] at this
            simp at this
          have hres := HYES.out _ (by rw [HDR.out]; exact field_np hne) (find_two hkl HA.out hpre)
          rw [← HGG.out] at hres
          have hgl : V.data.toList = g := HVL.out
          rw [← heq] at hgl
          have HRES := Lib.hid hres; have HGL := Lib.hid hgl
          clear hres hne hpre h3 heq hgl
          go_wp2_with fail
          go_quiet (fail)
          go_wp2_with fail
          refine bodyPost_ret (retG Tryd.results28 rfl rfl ((HBK.out.below (below_drewN wr nq) HBK.out.lt).store3)) rfl ⟨congrArg Ending.returned (at_ok (k := 8) HRES.out rfl HGL.out (by have := HG2.out; omega)), below3 (HB.out.trans ((below_drewN wr nq).mono HB.out.size)) (Nat.le_refl _) _ _ _⟩
        · have h0 : ¬ (s.extract i (i + 2)).toList = V.toList := by
            rw [Lib.toList_data, Lib.toList_data]
            exact fun h => heq (ByteArray.ext (Array.toList_inj.1 h))
          have h1 : ((s.extract i (i + 2)).toList == V.toList) = false := by rw [beq_eq_false_iff_ne]; exact h0
          have hpre : Lib.hasPrefix (s.data.toList.drop i) signs[k] = false := by
            rw [← HGG.out, HPT.out, beq_eq_false_iff_ne, ← HTL.out, ← HVL.out, ← Lib.toList_data, ← Lib.toList_data]; exact h0
          have HPRE := Lib.hid hpre
          clear hpre heq
          go_wp2_with fail
          go_quiet (fail)
          go_wp2_with fail
          go_roundg (7 - (k + 1))
          case measure => have := HG.out; omega
          case rel =>
            refine ⟨k + 1, by omega, rfl, by go_num, fun j hj hjk => ?_, HU.out.trans ((below_drewN wr nq).mono HU.out.size)⟩
            rcases Nat.lt_or_ge j k with h | h
            · exact HA.out j hj h
            · obtain rfl : j = k := by omega
              exact HPRE.out
      · have hi1z : ¬ (i : Int) + 1 < (s.size : Int) := by omega
        have hi1d : decide ((i : Int) + 1 < (s.size : Int)) = false := decide_eq_false hi1z
        have hpre : Lib.hasPrefix (s.data.toList.drop i) signs[k] = false := by
          rw [← HGG.out, HPT.out, beq_eq_false_iff_ne]
          intro h
          have h2 := congrArg List.length h
          rw [HG2.out, List.length_take, List.length_drop, ← size_list] at h2
          omega
        have HPRE := Lib.hid hpre
        clear hpre
        go_wp2_with fail
        go_quiet (fail)
        go_wp2_with fail
        go_roundg (7 - (k + 1))
        case measure => have := HG.out; omega
        case rel =>
          refine ⟨k + 1, by omega, rfl, by go_num, fun j hj hjk => ?_, HU.out.trans ((below_drewN wr nq).mono HU.out.size)⟩
          rcases Nat.lt_or_ge j k with h | h
          · exact HA.out j hj h
          · obtain rfl : j = k := by omega
            exact HPRE.out
    · obtain rfl : k = 6 := by omega
      have hltz : ¬ (6 : Int) < 6 := by omega
      by_cases h46 : s[i] = 46
      · have z46 : (s[i].toNat : Int) = 46 := by rw [h46]; rfl
        by_cases hi1 : i + 1 < s.size
        · have hi1z : (i : Int) + 1 < (s.size : Int) := by omega
          have hd1 := drop_at s (i + 1) hi1
          have HL1 := Lib.hid (fun W => rlow_c s[i + 1] W)
          obtain ⟨q2, hq2⟩ : ∃ q, q = lowB s[i + 1] := ⟨_, rfl⟩
          rw [← hq2] at HL1
          cases q2
          · have hnf : fieldN (s.data.toList.drop i) = [] := by rw [HDR.out, h46, hd1]; exact field_low hq2.symm
            clear hd1 hq2 h46 n34 n34' n95 n95'
            go_wp2_with fail
            refine (HL1.out _).mono ?_
            rintro e0 w0 ⟨rfl, rfl⟩
            go_wp2_with fail
            generalize hO : (⟨#[40, 41, 44, 46, 58, 61, 124, 60, 62, 43, 45, 42, 47, 37, 39]⟩ : ByteArray) = O
            have hOl : O.data.toList = oneL := by rw [← hO]; rfl
            have hOs : O.size = 15 := by rw [← hO]; rfl
            have HOL := Lib.hid hOl; have HNF := Lib.hid hnf
            clear hO hOl hnf
            go_loopg [12] 16 (fun gg s12 wz => ∃ k2 : Nat, k2 ≤ 15 ∧ gg = 16 - k2 ∧ s12 = .int .i64 (k2 : Int) ∧ (∀ j (hj : j < oneL.length), j < k2 → oneL[j] ≠ s[i]) ∧ wr = wz)
            case atStart => exact ⟨0, Nat.zero_le _, by omega, rfl, fun j hj h => absurd h (Nat.not_lt_zero _), rfl⟩
            case round =>
              obtain ⟨k2, hk2, hg2, rfl, ha2, rfl⟩ := hrel
              have HGG2 := Lib.hid hg2; have HA2 := Lib.hid ha2
              clear hg2 ha2
              have d0 := HBK.out.cell 0; have d1 := HBK.out.cell 1; have d2 := HBK.out.cell 2; have z0 := HBK.out.frozen 0; have z1 := HBK.out.frozen 1; have z2 := HBK.out.frozen 2
              simp at d0 d1 d2
              by_cases hlt2 : k2 < 15
              · have hko : k2 < O.size := by omega
                have hkz : (k2 : Int) < (O.size : Int) := by omega
                have hk1 : k2 < oneL.length := hlt2
                have hox : O[k2] = oneL[k2] := by
                  apply Option.some.inj
                  rw [← List.getElem?_eq_getElem hk1, ← HOL.out, List.getElem?_eq_getElem (by rw [← size_list]; exact hko)]; rfl
                have HOX := Lib.hid hox
                clear hox
                by_cases hcx : s[i] = O[k2]
                · have he : ((s[i].toNat : Int) == (O[k2].toNat : Int)) = true := by rw [hcx]; simp
                  have hz1 : (i : Int) + 1 ≤ (s.size : Int) := by omega
                  have hres := HYES.out [s[i]] HNF.out (by have hf := find_one (c := s[i]) (r := s.data.toList.drop (i + 1)) (fun j hj h6 => by rw [← HDR.out]; exact HA.out j hj h6) hk1 HA2.out (by rw [← HOX.out, hcx]); rw [← HDR.out] at hf; exact hf)
                  have hTl : (s.extract i (i + 1)).data.toList = [s[i]] := by rw [mid_list s i (i + 1) (by omega) (by omega), Nat.add_sub_cancel_left, HDR.out]; rfl
                  have HRES := Lib.hid hres; have HTL := Lib.hid hTl
                  clear hres hTl hcx
                  go_wp2_with fail
                  refine bodyPost_ret (retG Tryd.results28 rfl rfl HBK.out.store3) rfl ⟨congrArg Ending.returned (at_ok (k := 8) HRES.out rfl HTL.out (by simp)), below3 HB.out (Nat.le_refl _) _ _ _⟩
                · have hne : ¬ (s[i].toNat : Int) = (O[k2].toNat : Int) := fun h => hcx (UInt8.toNat_inj.1 (by omega))
                  have hne' : ((s[i].toNat : Int) == (O[k2].toNat : Int)) = false := by rw [beq_eq_false_iff_ne]; exact hne
                  have HCX := Lib.hid hcx
                  clear hcx
                  go_wp2_with fail
                  go_roundg (16 - (k2 + 1))
                  case measure => have := HGG2.out; omega
                  case rel =>
                    refine ⟨k2 + 1, by omega, rfl, by go_num, fun j hj hjk => ?_, rfl⟩
                    rcases Nat.lt_or_ge j k2 with h | h
                    · exact HA2.out j hj h
                    · obtain rfl : j = k2 := by omega
                      rw [← HOX.out]
                      exact fun h => HCX.out h.symm
              · obtain rfl : k2 = 15 := by omega
                have hkz : ¬ (15 : Int) < (O.size : Int) := by omega
                have hres := HNO.out HNF.out (by have hf := find_none (c := s[i]) (r := s.data.toList.drop (i + 1)) (fun j hj h6 => by rw [← HDR.out]; exact HA.out j hj h6) (fun j hj => HA2.out j hj hj); rw [← HDR.out] at hf; exact hf)
                have HRES := Lib.hid hres
                clear hres
                go_wp2_with fail
                refine bodyPost_ret (retG Tryd.results28 rfl rfl HBK.out.store3) rfl ⟨congrArg Ending.returned (at_err (er := 4) (by rw [HRES.out]) (by decide)), below3 HB.out (Nat.le_refl _) _ _ _⟩
          · obtain ⟨j, hj⟩ : ∃ j, j = i + 1 + (lead (s.data.toList.drop (i + 1))).length := ⟨_, rfl⟩
            have hszl := size_list s
            have HE2 := Lib.hid (fun W => rend_c s hs (i + 1) (by omega) W)
            rw [← hj] at HE2
            have hll2 := lead_len (s.data.toList.drop (i + 1))
            rw [List.length_drop, ← hszl] at hll2
            have hjs : j ≤ s.size := by omega
            have hij : i + 1 ≤ j := by omega
            have ht2 : (s.extract (i + 1) j).data.toList = lead (s.data.toList.drop (i + 1)) := by rw [mid_list s (i + 1) j hij hjs, hj, Nat.add_sub_cancel_left, lead_take]
            have HW2 := Lib.hid (fun W => rword_c (s.extract (i + 1) j) W)
            rw [ht2] at HW2
            have hbl : (lead (s.data.toList.drop (i + 1))).length = j - i - 1 := by omega
            obtain ⟨q3, hq3⟩ : ∃ q, q = isW (lead (s.data.toList.drop (i + 1))) := ⟨_, rfl⟩
            rw [← hq3] at HW2
            rw [hd1] at hq3
            cases q3
            · have hFF : fieldN (s.data.toList.drop i) = lead (s.data.toList.drop (i + 1)) := by rw [HDR.out, h46, hd1]; exact field_some hq2.symm hq3.symm
              have hne : lead (s.data.toList.drop (i + 1)) ≠ [] := by rw [hd1, lead_part (low_part hq2.symm)]; simp
              have hres := HFL.out _ h46 hFF hne
              rw [hbl] at hres
              have HRES := Lib.hid hres; have HT2 := Lib.hid ht2
              have hcs : (32 : Int) < (j : Int) - (i : Int) - 1 ∨ ¬ (32 : Int) < (j : Int) - (i : Int) - 1 := by omega
              clear hres hFF hne hq3 hbl ht2 hll2 hd1 hq2 h46 hj hszl n34 n34' n95 n95'
              rcases hcs with h32 | h32
              · go_wp2_with fail
                refine (HL1.out _).mono ?_
                rintro e0 w0 ⟨rfl, rfl⟩
                go_wp2_with fail
                refine (HE2.out _).mono ?_
                rintro e0 w0 ⟨rfl, rfl⟩
                go_wp2_with fail
                refine (HW2.out _).mono ?_
                rintro e0 w3 ⟨rfl, hb3⟩
                have HBK2 := Lib.hid (HBK.out.below hb3 HBK.out.lt); have HB2 := Lib.hid (HB.out.trans (hb3.mono HB.out.size))
                clear hb3 HBK HB d0 d1 d2 z0 z1 z2
                have HBK := HBK2; have HB := HB2
                clear HBK2 HB2
                have d0 := HBK.out.cell 0; have d1 := HBK.out.cell 1; have d2 := HBK.out.cell 2; have z0 := HBK.out.frozen 0; have z1 := HBK.out.frozen 1; have z2 := HBK.out.frozen 2
                simp at d0 d1 d2
                go_wp2_with fail
                refine bodyPost_ret (retG Tryd.results28 rfl rfl HBK.out.store3) rfl ⟨congrArg Ending.returned (at_err (er := 63) (by rw [HRES.out]; dsimp only; rw [if_pos (by omega)]) (by decide)), below3 HB.out (Nat.le_refl _) _ _ _⟩
              · go_wp2_with fail
                refine (HL1.out _).mono ?_
                rintro e0 w0 ⟨rfl, rfl⟩
                go_wp2_with fail
                refine (HE2.out _).mono ?_
                rintro e0 w0 ⟨rfl, rfl⟩
                go_wp2_with fail
                refine (HW2.out _).mono ?_
                rintro e0 w3 ⟨rfl, hb3⟩
                have HBK2 := Lib.hid (HBK.out.below hb3 HBK.out.lt); have HB2 := Lib.hid (HB.out.trans (hb3.mono HB.out.size))
                clear hb3 HBK HB d0 d1 d2 z0 z1 z2
                have HBK := HBK2; have HB := HB2
                clear HBK2 HB2
                have d0 := HBK.out.cell 0; have d1 := HBK.out.cell 1; have d2 := HBK.out.cell 2; have z0 := HBK.out.frozen 0; have z1 := HBK.out.frozen 1; have z2 := HBK.out.frozen 2
                simp at d0 d1 d2
                go_wp2_with fail
                refine bodyPost_ret (retG Tryd.results28 rfl rfl HBK.out.store3) rfl ⟨congrArg Ending.returned (at_ok (k := 9) HRES.out (if_neg (by omega)) HT2.out (by omega)), below3 HB.out (Nat.le_refl _) _ _ _⟩
            · have hnf : fieldN (s.data.toList.drop i) = [] := by rw [HDR.out, h46, hd1]; exact field_word hq3.symm
              clear hq3 hbl ht2 hll2 hd1 hq2 h46 hj hszl n34 n34' n95 n95'
              go_wp2_with fail
              refine (HL1.out _).mono ?_
              rintro e0 w0 ⟨rfl, rfl⟩
              go_wp2_with fail
              refine (HE2.out _).mono ?_
              rintro e0 w0 ⟨rfl, rfl⟩
              go_wp2_with fail
              refine (HW2.out _).mono ?_
              rintro e0 w3 ⟨rfl, hb3⟩
              have HBK2 := Lib.hid (HBK.out.below hb3 HBK.out.lt); have HB2 := Lib.hid (HB.out.trans (hb3.mono HB.out.size))
              clear hb3 HBK HB d0 d1 d2 z0 z1 z2
              have HBK := HBK2; have HB := HB2
              clear HBK2 HB2
              have d0 := HBK.out.cell 0; have d1 := HBK.out.cell 1; have d2 := HBK.out.cell 2; have z0 := HBK.out.frozen 0; have z1 := HBK.out.frozen 1; have z2 := HBK.out.frozen 2
              simp at d0 d1 d2
              go_wp2_with fail
              generalize hO : (⟨#[40, 41, 44, 46, 58, 61, 124, 60, 62, 43, 45, 42, 47, 37, 39]⟩ : ByteArray) = O
              have hOl : O.data.toList = oneL := by rw [← hO]; rfl
              have hOs : O.size = 15 := by rw [← hO]; rfl
              have HOL := Lib.hid hOl; have HNF := Lib.hid hnf
              clear hO hOl hnf
              go_loopg [12] 16 (fun gg s12 wz => ∃ k2 : Nat, k2 ≤ 15 ∧ gg = 16 - k2 ∧ s12 = .int .i64 (k2 : Int) ∧ (∀ j (hj : j < oneL.length), j < k2 → oneL[j] ≠ s[i]) ∧ w3 = wz)
              case atStart => exact ⟨0, Nat.zero_le _, by omega, rfl, fun j hj h => absurd h (Nat.not_lt_zero _), rfl⟩
              case round =>
                obtain ⟨k2, hk2, hg2, rfl, ha2, rfl⟩ := hrel
                have HGG2 := Lib.hid hg2; have HA2 := Lib.hid ha2
                clear hg2 ha2
                have d0 := HBK.out.cell 0; have d1 := HBK.out.cell 1; have d2 := HBK.out.cell 2; have z0 := HBK.out.frozen 0; have z1 := HBK.out.frozen 1; have z2 := HBK.out.frozen 2
                simp at d0 d1 d2
                by_cases hlt2 : k2 < 15
                · have hko : k2 < O.size := by omega
                  have hkz : (k2 : Int) < (O.size : Int) := by omega
                  have hk1 : k2 < oneL.length := hlt2
                  have hox : O[k2] = oneL[k2] := by
                    apply Option.some.inj
                    rw [← List.getElem?_eq_getElem hk1, ← HOL.out, List.getElem?_eq_getElem (by rw [← size_list]; exact hko)]; rfl
                  have HOX := Lib.hid hox
                  clear hox
                  by_cases hcx : s[i] = O[k2]
                  · have he : ((s[i].toNat : Int) == (O[k2].toNat : Int)) = true := by rw [hcx]; simp
                    have hz1 : (i : Int) + 1 ≤ (s.size : Int) := by omega
                    have hres := HYES.out [s[i]] HNF.out (by have hf := find_one (c := s[i]) (r := s.data.toList.drop (i + 1)) (fun j hj h6 => by rw [← HDR.out]; exact HA.out j hj h6) hk1 HA2.out (by rw [← HOX.out, hcx]); rw [← HDR.out] at hf; exact hf)
                    have hTl : (s.extract i (i + 1)).data.toList = [s[i]] := by rw [mid_list s i (i + 1) (by omega) (by omega), Nat.add_sub_cancel_left, HDR.out]; rfl
                    have HRES := Lib.hid hres; have HTL := Lib.hid hTl
                    clear hres hTl hcx
                    go_wp2_with fail
                    refine bodyPost_ret (retG Tryd.results28 rfl rfl HBK.out.store3) rfl ⟨congrArg Ending.returned (at_ok (k := 8) HRES.out rfl HTL.out (by simp)), below3 HB.out (Nat.le_refl _) _ _ _⟩
                  · have hne : ¬ (s[i].toNat : Int) = (O[k2].toNat : Int) := fun h => hcx (UInt8.toNat_inj.1 (by omega))
                    have hne' : ((s[i].toNat : Int) == (O[k2].toNat : Int)) = false := by rw [beq_eq_false_iff_ne]; exact hne
                    have HCX := Lib.hid hcx
                    clear hcx
                    go_wp2_with fail
                    go_roundg (16 - (k2 + 1))
                    case measure => have := HGG2.out; omega
                    case rel =>
                      refine ⟨k2 + 1, by omega, rfl, by go_num, fun j hj hjk => ?_, rfl⟩
                      rcases Nat.lt_or_ge j k2 with h | h
                      · exact HA2.out j hj h
                      · obtain rfl : j = k2 := by omega
                        rw [← HOX.out]
                        exact fun h => HCX.out h.symm
                · obtain rfl : k2 = 15 := by omega
                  have hkz : ¬ (15 : Int) < (O.size : Int) := by omega
                  have hres := HNO.out HNF.out (by have hf := find_none (c := s[i]) (r := s.data.toList.drop (i + 1)) (fun j hj h6 => by rw [← HDR.out]; exact HA.out j hj h6) (fun j hj => HA2.out j hj hj); rw [← HDR.out] at hf; exact hf)
                  have HRES := Lib.hid hres
                  clear hres
                  go_wp2_with fail
                  refine bodyPost_ret (retG Tryd.results28 rfl rfl HBK.out.store3) rfl ⟨congrArg Ending.returned (at_err (er := 4) (by rw [HRES.out]) (by decide)), below3 HB.out (Nat.le_refl _) _ _ _⟩
        · have hi1z : ¬ (i : Int) + 1 < (s.size : Int) := by omega
          have hnil : s.data.toList.drop (i + 1) = [] := List.drop_eq_nil_iff.2 (by rw [← size_list]; omega)
          have hnf : fieldN (s.data.toList.drop i) = [] := by rw [HDR.out, h46, hnil]; exact field_46
          clear hnil h46 n34 n34' n95 n95'
          go_wp2_with fail
          generalize hO : (⟨#[40, 41, 44, 46, 58, 61, 124, 60, 62, 43, 45, 42, 47, 37, 39]⟩ : ByteArray) = O
          have hOl : O.data.toList = oneL := by rw [← hO]; rfl
          have hOs : O.size = 15 := by rw [← hO]; rfl
          have HOL := Lib.hid hOl; have HNF := Lib.hid hnf
          clear hO hOl hnf
          go_loopg [12] 16 (fun gg s12 wz => ∃ k2 : Nat, k2 ≤ 15 ∧ gg = 16 - k2 ∧ s12 = .int .i64 (k2 : Int) ∧ (∀ j (hj : j < oneL.length), j < k2 → oneL[j] ≠ s[i]) ∧ wr = wz)
          case atStart => exact ⟨0, Nat.zero_le _, by omega, rfl, fun j hj h => absurd h (Nat.not_lt_zero _), rfl⟩
          case round =>
            obtain ⟨k2, hk2, hg2, rfl, ha2, rfl⟩ := hrel
            have HGG2 := Lib.hid hg2; have HA2 := Lib.hid ha2
            clear hg2 ha2
            have d0 := HBK.out.cell 0; have d1 := HBK.out.cell 1; have d2 := HBK.out.cell 2; have z0 := HBK.out.frozen 0; have z1 := HBK.out.frozen 1; have z2 := HBK.out.frozen 2
            simp at d0 d1 d2
            by_cases hlt2 : k2 < 15
            · have hko : k2 < O.size := by omega
              have hkz : (k2 : Int) < (O.size : Int) := by omega
              have hk1 : k2 < oneL.length := hlt2
              have hox : O[k2] = oneL[k2] := by
                apply Option.some.inj
                rw [← List.getElem?_eq_getElem hk1, ← HOL.out, List.getElem?_eq_getElem (by rw [← size_list]; exact hko)]; rfl
              have HOX := Lib.hid hox
              clear hox
              by_cases hcx : s[i] = O[k2]
              · have he : ((s[i].toNat : Int) == (O[k2].toNat : Int)) = true := by rw [hcx]; simp
                have hz1 : (i : Int) + 1 ≤ (s.size : Int) := by omega
                have hres := HYES.out [s[i]] HNF.out (by have hf := find_one (c := s[i]) (r := s.data.toList.drop (i + 1)) (fun j hj h6 => by rw [← HDR.out]; exact HA.out j hj h6) hk1 HA2.out (by rw [← HOX.out, hcx]); rw [← HDR.out] at hf; exact hf)
                have hTl : (s.extract i (i + 1)).data.toList = [s[i]] := by rw [mid_list s i (i + 1) (by omega) (by omega), Nat.add_sub_cancel_left, HDR.out]; rfl
                have HRES := Lib.hid hres; have HTL := Lib.hid hTl
                clear hres hTl hcx
                go_wp2_with fail
                refine bodyPost_ret (retG Tryd.results28 rfl rfl HBK.out.store3) rfl ⟨congrArg Ending.returned (at_ok (k := 8) HRES.out rfl HTL.out (by simp)), below3 HB.out (Nat.le_refl _) _ _ _⟩
              · have hne : ¬ (s[i].toNat : Int) = (O[k2].toNat : Int) := fun h => hcx (UInt8.toNat_inj.1 (by omega))
                have hne' : ((s[i].toNat : Int) == (O[k2].toNat : Int)) = false := by rw [beq_eq_false_iff_ne]; exact hne
                have HCX := Lib.hid hcx
                clear hcx
                go_wp2_with fail
                go_roundg (16 - (k2 + 1))
                case measure => have := HGG2.out; omega
                case rel =>
                  refine ⟨k2 + 1, by omega, rfl, by go_num, fun j hj hjk => ?_, rfl⟩
                  rcases Nat.lt_or_ge j k2 with h | h
                  · exact HA2.out j hj h
                  · obtain rfl : j = k2 := by omega
                    rw [← HOX.out]
                    exact fun h => HCX.out h.symm
            · obtain rfl : k2 = 15 := by omega
              have hkz : ¬ (15 : Int) < (O.size : Int) := by omega
              have hres := HNO.out HNF.out (by have hf := find_none (c := s[i]) (r := s.data.toList.drop (i + 1)) (fun j hj h6 => by rw [← HDR.out]; exact HA.out j hj h6) (fun j hj => HA2.out j hj hj); rw [← HDR.out] at hf; exact hf)
              have HRES := Lib.hid hres
              clear hres
              go_wp2_with fail
              refine bodyPost_ret (retG Tryd.results28 rfl rfl HBK.out.store3) rfl ⟨congrArg Ending.returned (at_err (er := 4) (by rw [HRES.out]) (by decide)), below3 HB.out (Nat.le_refl _) _ _ _⟩
      · have n46 : ¬ (s[i].toNat : Int) = 46 := fun h => h46 (UInt8.toNat_inj.1 (by show s[i].toNat = 46; omega))
        have n46' : ((s[i].toNat : Int) == 46) = false := by rw [beq_eq_false_iff_ne]; exact n46
        have hnf : fieldN (s.data.toList.drop i) = [] := by rw [HDR.out]; exact field_np h46
        clear h46
        go_wp2_with fail
        generalize hO : (⟨#[40, 41, 44, 46, 58, 61, 124, 60, 62, 43, 45, 42, 47, 37, 39]⟩ : ByteArray) = O
        have hOl : O.data.toList = oneL := by rw [← hO]; rfl
        have hOs : O.size = 15 := by rw [← hO]; rfl
        have HOL := Lib.hid hOl; have HNF := Lib.hid hnf
        clear hO hOl hnf
        go_loopg [12] 16 (fun gg s12 wz => ∃ k2 : Nat, k2 ≤ 15 ∧ gg = 16 - k2 ∧ s12 = .int .i64 (k2 : Int) ∧ (∀ j (hj : j < oneL.length), j < k2 → oneL[j] ≠ s[i]) ∧ wr = wz)
        case atStart => exact ⟨0, Nat.zero_le _, by omega, rfl, fun j hj h => absurd h (Nat.not_lt_zero _), rfl⟩
        case round =>
          obtain ⟨k2, hk2, hg2, rfl, ha2, rfl⟩ := hrel
          have HGG2 := Lib.hid hg2; have HA2 := Lib.hid ha2
          clear hg2 ha2
          have d0 := HBK.out.cell 0; have d1 := HBK.out.cell 1; have d2 := HBK.out.cell 2; have z0 := HBK.out.frozen 0; have z1 := HBK.out.frozen 1; have z2 := HBK.out.frozen 2
          simp at d0 d1 d2
          by_cases hlt2 : k2 < 15
          · have hko : k2 < O.size := by omega
            have hkz : (k2 : Int) < (O.size : Int) := by omega
            have hk1 : k2 < oneL.length := hlt2
            have hox : O[k2] = oneL[k2] := by
              apply Option.some.inj
              rw [← List.getElem?_eq_getElem hk1, ← HOL.out, List.getElem?_eq_getElem (by rw [← size_list]; exact hko)]; rfl
            have HOX := Lib.hid hox
            clear hox
            by_cases hcx : s[i] = O[k2]
            · have he : ((s[i].toNat : Int) == (O[k2].toNat : Int)) = true := by rw [hcx]; simp
              have hz1 : (i : Int) + 1 ≤ (s.size : Int) := by omega
              have hres := HYES.out [s[i]] HNF.out (by have hf := find_one (c := s[i]) (r := s.data.toList.drop (i + 1)) (fun j hj h6 => by rw [← HDR.out]; exact HA.out j hj h6) hk1 HA2.out (by rw [← HOX.out, hcx]); rw [← HDR.out] at hf; exact hf)
              have hTl : (s.extract i (i + 1)).data.toList = [s[i]] := by rw [mid_list s i (i + 1) (by omega) (by omega), Nat.add_sub_cancel_left, HDR.out]; rfl
              have HRES := Lib.hid hres; have HTL := Lib.hid hTl
              clear hres hTl hcx
              go_wp2_with fail
              refine bodyPost_ret (retG Tryd.results28 rfl rfl HBK.out.store3) rfl ⟨congrArg Ending.returned (at_ok (k := 8) HRES.out rfl HTL.out (by simp)), below3 HB.out (Nat.le_refl _) _ _ _⟩
            · have hne : ¬ (s[i].toNat : Int) = (O[k2].toNat : Int) := fun h => hcx (UInt8.toNat_inj.1 (by omega))
              have hne' : ((s[i].toNat : Int) == (O[k2].toNat : Int)) = false := by rw [beq_eq_false_iff_ne]; exact hne
              have HCX := Lib.hid hcx
              clear hcx
              go_wp2_with fail
              go_roundg (16 - (k2 + 1))
              case measure => have := HGG2.out; omega
              case rel =>
                refine ⟨k2 + 1, by omega, rfl, by go_num, fun j hj hjk => ?_, rfl⟩
                rcases Nat.lt_or_ge j k2 with h | h
                · exact HA2.out j hj h
                · obtain rfl : j = k2 := by omega
                  rw [← HOX.out]
                  exact fun h => HCX.out h.symm
          · obtain rfl : k2 = 15 := by omega
            have hkz : ¬ (15 : Int) < (O.size : Int) := by omega
            have hres := HNO.out HNF.out (by have hf := find_none (c := s[i]) (r := s.data.toList.drop (i + 1)) (fun j hj h6 => by rw [← HDR.out]; exact HA.out j hj h6) (fun j hj => HA2.out j hj hj); rw [← HDR.out] at hf; exact hf)
            have HRES := Lib.hid hres
            clear hres
            go_wp2_with fail
            refine bodyPost_ret (retG Tryd.results28 rfl rfl HBK.out.store3) rfl ⟨congrArg Ending.returned (at_err (er := 4) (by rw [HRES.out]) (by decide)), below3 HB.out (Nat.le_refl _) _ _ _⟩
end Go.Proofs.YteppdnlchjpekaaDoor
