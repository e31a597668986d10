/- The law of tokens read back: its walk. What it asks of texts: Back. -/
import Derived.Test.YteppdnlchjpekaaDoorGc
import Derived.Test.YteppdnlchjpekaaDoorGf
namespace Go.Proofs.YteppdnlchjpekaaDoor
open Go.RowKit Lx
open Go
attribute [local go_sem] Oper.semAt_some

theorem TRep.at {w w' : World} {B : Nat} {l : List T} {A : Option Addr} {c : Nat} (h : TRep w B l A c) (hb : Below B w w') (hB : B ≤ w'.heap.size) : TRep w' w'.heap.size l A c := (h.under hb).more hB
set_option maxRecDepth 100000 in
set_option maxHeartbeats 1000000 in
theorem back_c (s : ByteArray) (hBack : s.size ≤ 8000 → Back s.data.toList) (w : World) (hM : MaxAt w) : Calls Tryd.prog 5 #[.string s] w fun e w' => e = .returned (.bool true) ∧ Below w.heap.size w w' := by
  have hmax : maxLen = 9223372036854775807 := rfl
  have HW := Lib.hid (fun W hM => works_c W hM)
  have HM := Lib.hid hM; have HBK := Lib.hid hBack
  clear hM hBack
  by_cases hbig : (8000 : Int) < (s.size : Int)
  · go_enter Tryd.func5, Tryd.ntmps5
    go_wp2_with fail
    refine (HW.out w HM.out).mono ?_
    rintro e w1 ⟨rfl, hb1⟩
    have HB1 := Lib.hid hb1; have HM1 := Lib.hid (HM.out.under hb1)
    clear hb1
    go_wp2_with fail
    refine (HW.out w1 HM1.out).mono ?_
    rintro e w2 ⟨rfl, hb2⟩
    have HB2 := Lib.hid (HB1.out.trans (hb2.mono HB1.out.size))
    clear hb2
    go_wp2_with fail
    go_ret
    exact ⟨rfl, HB2.out⟩
  · have hs : s.size ≤ 8000 := by omega
    have hbu := toks_bulk s.data.toList
    have hfa := toks_fail s.data.toList
    have hbk := HBK.out hs
    unfold Back at hbk
    rw [← size_list] at hbu
    have HT := Lib.hid (fun (W : World) (h : MaxAt W) => tokens_c s (by omega) W h)
    generalize toks s.data.toList = X at hbu hfa hbk HT
    have hsl := show_len X.1
    obtain ⟨S, hS⟩ : ∃ S : ByteArray, S = ⟨(show_ X.1).toArray⟩ := ⟨_, rfl⟩
    have hSl : S.data.toList = show_ X.1 := by rw [hS]
    have hSs : S.size ≤ 65536 := by rw [size_list, hSl]; omega
    have HT2 := Lib.hid (fun (W : World) (h : MaxAt W) => tokens_c S (by omega) W h)
    rw [hSl] at HT2
    have hbY := toks_bulk (show_ X.1)
    rw [← hSl, ← size_list] at hbY
    rw [hSl] at hbY
    generalize toks (show_ X.1) = Y at hbk HT2 hbY
    have HBY := Lib.hid (show bulk Y.1 ≤ 2000000 by omega)
    clear hbY
    have HSH := Lib.hid (fun (A : Option Addr) (c : Nat) (W : World) (h : TRep W W.heap.size X.1 A c) => show_c X.1 A c W h (by omega))
    rw [← hS] at HSH
    have HFA := Lib.hid hfa; have HK := Lib.hid hbk; have HBU := Lib.hid hbu
    clear hfa hbk hS hSl hbu hsl HBK
    go_enter Tryd.func5, Tryd.ntmps5
    go_wp2_with fail
    refine (HW.out w HM.out).mono ?_
    rintro e w1 ⟨rfl, hb1⟩
    have HB1 := Lib.hid hb1; have HM1 := Lib.hid (HM.out.under hb1)
    clear hb1
    go_wp2_with fail
    refine (HT.out w1 HM1.out).mono ?_
    rintro e w2 ⟨v, rfl, ho, hb2⟩
    obtain ⟨A, c, rfl, htr⟩ := trep_own ho
    have HTR := Lib.hid htr; have HB2 := Lib.hid (HB1.out.trans (hb2.mono HB1.out.size)); have HM2 := Lib.hid (HM1.out.under hb2)
    clear ho hb2 htr
    by_cases he : (X.2.2 : Int) = 0
    · obtain ⟨hy0, hyl, hye⟩ := HK.out (by omega)
      have HYE := Lib.hid hye; have HYL := Lib.hid hyl
      clear hye hyl HK HFA
      have hy0z : (Y.2.2 : Int) = 0 := by omega
      have hb3 : Below w2.heap.size w2 (w2.alloc (.cells #[.int .i64 (X.2.1.1 : Int), .int .i64 (X.2.1.2 : Int)] 24)) := (Below.refl _ _).alloc (Nat.le_refl _) _
      have hsh := HSH.out A c (w2.alloc (.cells #[.int .i64 (X.2.1.1 : Int), .int .i64 (X.2.1.2 : Int)] 24)) (HTR.out.at hb3 hb3.size)
      have HSH2 := Lib.hid hsh
      have HB3 := Lib.hid hb3
      clear hb3 hsh HSH
      go_wp2_with fail
      refine HSH2.out.mono ?_
      rintro e w4 ⟨rfl, hb4⟩
      have HB4 := Lib.hid (HB3.out.trans (hb4.mono HB3.out.size))
      clear hb4 HB3 HSH2
      go_wp2_with fail
      refine (HT2.out w4 (HM2.out.under HB4.out)).mono ?_
      rintro e w5 ⟨v, rfl, ho, hb5⟩
      obtain ⟨A', c', rfl, htr'⟩ := trep_own ho
      have hb6 : Below w2.heap.size w2 (w5.alloc (.cells #[.int .i64 (Y.2.1.1 : Int), .int .i64 (Y.2.1.2 : Int)] 24)) := (HB4.out.trans (hb5.mono HB4.out.size)).alloc (by have := HB4.out.size; have := hb5.size; omega) _
      have hb7 : Below w5.heap.size w5 (w5.alloc (.cells #[.int .i64 (Y.2.1.1 : Int), .int .i64 (Y.2.1.2 : Int)] 24)) := (Below.refl _ _).alloc (Nat.le_refl _) _
      have HTR6 := Lib.hid (HTR.out.at hb6 hb6.size); have HTS6 := Lib.hid (htr'.at hb7 hb7.size); have HB6 := Lib.hid hb6
      clear ho hb5 htr' hb6 hb7 HTR HB4 HT HT2
      go_wp2_with fail
      refine (of_c X.1 A c _ HTR6.out (by have := HBU.out; omega)).mono ?_
      rintro e w7 ⟨A2, c2, rfl, htr7, hb7⟩
      have HTR7 := Lib.hid htr7; have HTS7 := Lib.hid (HTS6.out.at hb7 hb7.size); have HB7 := Lib.hid (HB6.out.trans (hb7.mono HB6.out.size))
      clear htr7 hb7 HTR6 HTS6 HB6
      go_wp2_with fail
      refine (of_c Y.1 A' c' w7 HTS7.out HBY.out).mono ?_
      rintro e w8 ⟨A3, c3, rfl, htr8, hb8⟩
      have HTR8 := Lib.hid (HTR7.out.at hb8 hb8.size); have HTS8 := Lib.hid htr8; have HB8 := Lib.hid (HB7.out.trans (hb8.mono HB7.out.size))
      clear htr8 hb8 HTR7 HTS7 HB7
      go_wp2_with fail
      refine (same_yes X.1 Y.1 A2 A3 c2 c3 w8 HTR8.out HTS8.out HYL.out HYE.out).mono ?_
      rintro e w9 ⟨rfl, hb9⟩
      have HB9 := Lib.hid (HB2.out.trans ((HB8.out.trans (hb9.mono HB8.out.size)).mono HB2.out.size))
      clear hb9
      go_wp2_with fail
      go_ret
      exact ⟨rfl, HB9.out⟩
    · have hl0 := HFA.out (by omega)
      have hl0' : (X.1.length : Int) = 0 := by rw [hl0]; rfl
      go_wp2_with fail
      go_ret
      exact ⟨by simp, HB2.out.alloc HB2.out.size _⟩
end Go.Proofs.YteppdnlchjpekaaDoor
