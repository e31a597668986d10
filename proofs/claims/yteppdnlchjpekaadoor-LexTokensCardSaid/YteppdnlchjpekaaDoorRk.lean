/- The law of tokens: its walk. -/
import Derived.Test.YteppdnlchjpekaaDoorRj
import Derived.BigQuiet
namespace Go.Proofs.YteppdnlchjpekaaDoor
open Go.RowKit Lx
open Go
attribute [local go_sem] Oper.semAt_some

set_option maxRecDepth 100000 in
set_option maxHeartbeats 8000000 in
/-- Same says yes to two copies of a list, places too. -/
theorem same_self (a : List T) (A B : Option Addr) (c d : Nat) (w : World) (hA : TRep w w.heap.size a A c) (hB : TRep w w.heap.size a B d) :
    Calls Tryd.prog 14 #[.slice A a.length c, .slice B a.length d, .bool true] w fun e w' => e = .returned (.bool true) ∧ Below w.heap.size w w' := by
  have hmax : maxLen = 9223372036854775807 := rfl
  have hac := hA.1; have hcm := hA.2.1
  have HA := Lib.hid hA; have HB := Lib.hid hB
  clear hA hB
  have hbd := HB.out.1; have hdm := HB.out.2.1
  go_enter Tryd.func14, Tryd.ntmps14
  go_wp2_with fail
  go_loopg [7] (a.length + 1) (fun gg s7 wr => ∃ k : Nat, k ≤ a.length ∧ gg = a.length + 1 - k ∧ s7 = .int .i64 (k : Int) ∧ Below w.heap.size w wr)
  case atStart => exact ⟨0, Nat.zero_le _, by omega, rfl, Below.refl _ _⟩
  case round =>
    obtain ⟨k, hk, hg, rfl, hu⟩ := hrel
    have HG := Lib.hid hg; have HU := Lib.hid hu
    clear hg hu
    by_cases hlt : k < a.length
    · have hltz : (k : Int) < (a.length : Int) := by omega
      obtain ⟨b1, o1, rfl, hb1, c0, c1, c2, c3⟩ := (HA.out.under HU.out).2.2 k hlt
      obtain ⟨b2, o2, rfl, hb2, e0, e1, e2, e3⟩ := (HB.out.under HU.out).2.2 k hlt
      generalize a[k] = t at *
      go_wp2_with fail
      go_quiet (fail)
      go_wp2_with fail
      go_roundg (a.length + 1 - (k + 1))
      case measure => have := HG.out; omega
      case rel => exact ⟨k + 1, by omega, rfl, by go_num, HU.out.trans ((below_drewN wr nq).mono HU.out.size)⟩
    · have hltz : ¬ (k : Int) < (a.length : Int) := by omega
      go_wp2_with fail
      go_ret
      exact ⟨rfl, HU.out⟩
theorem TRep.at2 {w w' : World} {B : Nat} {l : List T} {A : Option Addr} {c : Nat} (h : TRep w B l A c) (hb : Below B w w') (hB : B ≤ w'.heap.size) : TRep w' w'.heap.size l A c := (h.under hb).more hB
set_option maxRecDepth 100000 in
set_option maxHeartbeats 8000000 in
theorem tokens_law (s : ByteArray) (w : World) (hM : MaxAt w) : Calls Tryd.prog 4 #[.string s] w fun e w' => e = .returned (.bool true) ∧ Below w.heap.size w w' := by
  have hmax : maxLen = 9223372036854775807 := rfl
  have HM := Lib.hid hM
  clear hM
  by_cases hbig : (6000 : Int) < (s.size : Int)
  · go_enter Tryd.func4, Tryd.ntmps4
    go_wp2_with fail
    go_ret
    exact ⟨rfl, Below.refl _ _⟩
  · have hs : s.size ≤ 6000 := by omega
    have hbu := toks_bulk s.data.toList
    rw [← size_list] at hbu
    have HT := Lib.hid (fun (W : World) (h : MaxAt W) => tokens_c s (by omega) W h)
    have HR := Lib.hid (fun (W : World) => rtokens_c s (by omega) W)
    generalize toks s.data.toList = X at hbu HT HR
    have HBU := Lib.hid (show bulk X.1 ≤ 2000000 by omega)
    clear hbu
    go_enter Tryd.func4, Tryd.ntmps4
    go_wp2_with fail
    refine (HT.out w HM.out).mono ?_
    rintro e w2 ⟨v, rfl, ho, hb2⟩
    obtain ⟨A, c, rfl, htr⟩ := trep_own ho
    have HTR := Lib.hid htr; have HB2 := Lib.hid hb2
    have hb3 : Below w2.heap.size w2 (w2.alloc (.cells #[.int .i64 (X.2.1.1 : Int), .int .i64 (X.2.1.2 : Int)] 24)) := (Below.refl _ _).alloc (Nat.le_refl _) _
    have hx4 := Blk.new w2 24 #[.int .i64 (X.2.1.1 : Int), .int .i64 (X.2.1.2 : Int)]
    have HB3 := Lib.hid hb3; have HX4 := Lib.hid hx4
    clear ho hb2 htr hb3 hx4 HT
    go_wp2_with fail
    refine (HR.out _).mono ?_
    rintro e w5 ⟨A', c', rfl, htr5, hb5⟩
    have HB5 := Lib.hid (HB3.out.trans (hb5.mono HB3.out.size))
    have HX5 := Lib.hid (HX4.out.below hb5 HX4.out.lt)
    have HTS := Lib.hid htr5
    have hb6 : Below w5.heap.size w5 (w5.alloc (.cells #[.int .i64 (X.2.1.1 : Int), .int .i64 (X.2.1.2 : Int)] 24)) := (Below.refl _ _).alloc (Nat.le_refl _) _
    have HX6 := Lib.hid (HX5.out.alloc (.cells #[.int .i64 (X.2.1.1 : Int), .int .i64 (X.2.1.2 : Int)] 24))
    have HB6 := Lib.hid (HB5.out.trans (hb6.mono HB5.out.size))
    have HTS6 := Lib.hid (HTS.out.at2 hb6 hb6.size)
    have HTR6 := Lib.hid (HTR.out.at2 HB6.out HB6.out.size)
    have d0 := HX6.out.cell 0; have d1 := HX6.out.cell 1
    simp at d0 d1
    clear htr5 hb5 hb6 HR HTS HTR HB5 HB3 HX4 HX5
    go_wp2_with fail
    refine (of_c X.1 A c _ HTR6.out HBU.out).mono ?_
    rintro e w7 ⟨A2, c2, rfl, htr7, hb7⟩
    have HTR7 := Lib.hid htr7; have HTS7 := Lib.hid (HTS6.out.at2 hb7 hb7.size); have HB7 := Lib.hid (HB6.out.trans (hb7.mono HB6.out.size))
    clear htr7 hb7 HTR6 HTS6 HB6 d0 d1
    go_wp2_with fail
    refine (same_self X.1 A2 A' c2 c' w7 HTR7.out HTS7.out).mono ?_
    rintro e w9 ⟨rfl, hb9⟩
    have HB9 := Lib.hid (HB2.out.trans ((HB7.out.trans (hb9.mono HB7.out.size)).mono HB2.out.size))
    clear hb9
    go_wp2_with fail
    go_ret
    exact ⟨rfl, HB9.out⟩
end Go.Proofs.YteppdnlchjpekaaDoor
