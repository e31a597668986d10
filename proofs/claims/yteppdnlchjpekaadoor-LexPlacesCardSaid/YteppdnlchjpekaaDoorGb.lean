/- The law of places: its walk. -/
import Derived.Test.YteppdnlchjpekaaDoorEv
import Derived.Test.YteppdnlchjpekaaDoorGa
namespace Go.Proofs.YteppdnlchjpekaaDoor
open Go.RowKit Lx
open Go
attribute [local go_sem] Oper.semAt_some

theorem blk_nl {W : World} {p : Nat} {t : TypeId} {a b x y z : Value} (h : Blk W p t #[a, b]) : Blk ((((W.setCell ⟨p, 1, none⟩ x).setCell ⟨p, 0, none⟩ y).setCell ⟨p, 1, none⟩ z).drew) p t #[y, z] := (((h.set_ 1 x).set_ 0 y).set_ 1 z).drew
theorem blk_no {W : World} {p : Nat} {t : TypeId} {a b x : Value} (h : Blk W p t #[a, b]) : Blk ((W.setCell ⟨p, 1, none⟩ x).drew) p t #[a, x] := (h.set_ 1 x).drew
theorem blk_nlA {W : World} {p : Nat} {t : TypeId} {a b x y z : Value} {o : Obj} (h : Blk W p t #[a, b]) : Blk (((((W.setCell ⟨p, 1, none⟩ x).setCell ⟨p, 0, none⟩ y).setCell ⟨p, 1, none⟩ z).alloc o).drew) p t #[y, z] := ((((h.set_ 1 x).set_ 0 y).set_ 1 z).alloc o).drew
theorem blk_noA {W : World} {p : Nat} {t : TypeId} {a b x : Value} {o : Obj} (h : Blk W p t #[a, b]) : Blk (((W.setCell ⟨p, 1, none⟩ x).alloc o).drew) p t #[a, x] := ((h.set_ 1 x).alloc o).drew
theorem low_al {B : Nat} {a w : World} (h : Below B a w) (hB : B ≤ a.heap.size) (o : Obj) : Below B a (w.alloc o).drew := (h.alloc (Nat.le_trans hB h.size) o).drew
set_option maxRecDepth 100000 in
set_option maxHeartbeats 8000000 in
theorem places_c (s : ByteArray) (w : World) (hM : MaxAt w) : Calls Tryd.prog 7 #[.string s] w fun e w' => e = .returned (.bool true) ∧ Below w.heap.size w w' := by
  have hmax : maxLen = 9223372036854775807 := rfl
  have HW := Lib.hid (fun W hM => works_c W hM)
  have HM := Lib.hid hM
  clear hM
  by_cases hbig : (6000 : Int) < (s.size : Int)
  · go_enter Tryd.func7, Tryd.ntmps7
    go_wp2_with fail
    refine (HW.out w HM.out).mono ?_
    rintro e w1 ⟨rfl, hb1⟩
    have HB1 := Lib.hid hb1; have HM1 := Lib.hid (HM.out.under hb1)
    clear hb1
    go_wp2_with fail
    refine (HW.out w1 HM1.out).mono ?_
    rintro e w2 ⟨rfl, hb2⟩
    have HB2 := Lib.hid (HB1.out.trans (hb2.mono HB1.out.size))
    clear hb2
    go_wp2_with fail
    go_ret
    exact ⟨rfl, HB2.out⟩
  · have hs : s.size ≤ 6000 := by omega
    obtain ⟨X, hX⟩ : ∃ X, X = toks s.data.toList := ⟨_, rfl⟩
    have HT := Lib.hid (fun (W : World) (h : MaxAt W) => tokens_c s (by omega) W h)
    rw [← hX] at HT
    have hli := toks_lies s.data.toList
    rw [← hX] at hli
    have HLI0 := Lib.hid hli
    clear hX hli
    go_enter Tryd.func7, Tryd.ntmps7
    go_wp2_with fail
    refine (HW.out w HM.out).mono ?_
    rintro e w1 ⟨rfl, hb1⟩
    have HB1 := Lib.hid hb1; have HM1 := Lib.hid (HM.out.under hb1)
    clear hb1
    go_wp2_with fail
    refine (HT.out w1 HM1.out).mono ?_
    rintro e w2 ⟨v, rfl, ho, hb2⟩
    obtain ⟨A, c, rfl, htr⟩ := trep_own ho
    obtain ⟨l, hl⟩ : ∃ l, X.1 = l := ⟨_, rfl⟩
    rw [hl] at htr HLI0 ⊢
    clear hl
    have HTR := Lib.hid htr; have HB2 := Lib.hid (HB1.out.trans (hb2.mono HB1.out.size))
    have hlen := htr.1; have hcap := htr.2.1
    clear ho hb2 htr
    by_cases he : (X.2.2 : Int) = 0
    · have HLI := Lib.hid (HLI0.out (by omega))
      clear HLI0
      go_wp2_with fail
      obtain ⟨p, hp⟩ : ∃ p, p = w2.heap.size + 1 := ⟨_, rfl⟩
      have hb0 : Below w2.heap.size w2 ((w2.alloc (.cells #[.int .i64 (X.2.1.1 : Int), .int .i64 (X.2.1.2 : Int)] 24)).alloc (.cells #[.int .i64 1, .int .i64 1] 24)) := ((Below.refl _ _).alloc (Nat.le_refl _) _).alloc (by simp) _
      have hx0 : Blk ((w2.alloc (.cells #[.int .i64 (X.2.1.1 : Int), .int .i64 (X.2.1.2 : Int)] 24)).alloc (.cells #[.int .i64 1, .int .i64 1] 24)) p 24 #[.int .i64 1, .int .i64 1] := blk_at (by simp [hp])
      have hpw : w2.heap.size ≤ p := by omega
      rw [← hp]
      have HB0 := Lib.hid hb0; have HX0 := Lib.hid hx0
      clear hp hb0 hx0
      go_loopg [7, 8] (s.size + 1) (fun gg s7 s8 wr => ∃ i k : Nat, i ≤ s.size ∧ gg = s.size + 1 - i ∧ k ≤ l.length ∧ s7 = .int .i64 (k : Int) ∧ s8 = .int .i64 (i : Int) ∧ Blk wr p 24 #[.int .i64 ((adv (1, 1) (s.data.toList.take i)).1 : Int), .int .i64 ((adv (1, 1) (s.data.toList.take i)).2 : Int)] ∧ Lies s.data.toList i (l.drop k) ∧ Below w2.heap.size w2 wr)
      case atStart => exact ⟨0, 0, Nat.zero_le _, by omega, Nat.zero_le _, rfl, rfl, HX0.out, HLI.out, HB0.out⟩
      case round =>
        clear HX0 HB0 HLI
        obtain ⟨i, k, hi, hg, hk, rfl, rfl, hb, hli, hu⟩ := hrel
        have HG := Lib.hid hg; have HU := Lib.hid hu
        clear hg hu
        by_cases hik : i < s.size
        · have hikz : (i : Int) < (s.size : Int) := by omega
          by_cases hkl : k < l.length
          · have hklz : (k : Int) < (l.length : Int) := by omega
            have hil : i < s.data.toList.length := by rw [← size_list]; exact hik
            have hci : s.data.toList[i]? = some s[i] := List.getElem?_eq_getElem hil
            have hst := adv_take _ _ _ hci
            have hal := adv_le (s.data.toList.take i) (1, 1) (Nat.le_refl _)
            rw [List.length_take, Nat.min_eq_left (by omega)] at hal
            rw [List.drop_eq_getElem_cons hkl] at hli
            have hly := fun h1 h2 => lies_yes hli hci h1 h2
            have hln := fun h => lies_no hli h
            obtain ⟨b', off, rfl, hb', c0, c1, c2, c3⟩ := (HTR.out.under HU.out).2.2 k hkl
            have HLY := Lib.hid hly; have HLN := Lib.hid hln; have HST := Lib.hid hst
            clear hly hln hst hli hci
            have hdk : l.drop k = l[k] :: l.drop (k + 1) := List.drop_eq_getElem_cons hkl
            generalize l[k] = t at *
            have HDK := Lib.hid hdk
            generalize adv (1, 1) (s.data.toList.take i) = q at *
            have d0 := hb.cell 0; have d1 := hb.cell 1; have z0 := hb.frozen 0; have z1 := hb.frozen 1
            simp at d0 d1
            have HB := Lib.hid hb
            have hplt : p < wr.heap.size := hb.lt
            have hblt : b' < wr.heap.size := by have := HU.out.size; omega
            clear hb hdk
            generalize hch : s[i] = ch at *
            have hchz : (s[i].toNat : Int) = (ch.toNat : Int) := by rw [hch]
            by_cases hq1 : (q.1 : Int) = t.line
            · by_cases hq2 : (q.2 : Int) = t.col
              · obtain ⟨hbg, hlt⟩ := HLY.out hq1 hq2
                have HLT := Lib.hid hlt
                clear hlt
                unfold Begins at hbg
                by_cases h7 : t.kind = 7
                · rw [if_pos h7] at hbg
                  have h7z : (t.kind : Int) = 7 := by omega
                  have hc34 : (s[i].toNat : Int) = 34 := by rw [hchz, hbg]; rfl
                  have h10 : ¬ ch = 10 := by rw [hbg]; decide
                  go_wp2_with fail
                  go_region
                  all_goals
                    go_wp2_with fail
                    go_roundg (s.size + 1 - (i + 1))
                    case measure => have := HG.out; omega
                    case rel =>
                      refine ⟨i + 1, k + 1, by omega, rfl, by omega, by go_num, by go_num, ?_, HLT.out, ?_⟩
                      · rw [HST.out, if_neg h10]
                        dsimp only
                        first | rw [show ((q.2 + 1 : Nat) : Int) = t.col + 1 by omega] | rw [show ((q.2 + 1 : Nat) : Int) = (q.2 : Int) + 1 by omega]
                        first | exact blk_no HB.out | exact blk_noA HB.out
                      · first | exact (HU.out.setCell hpw _).drew | exact low_al (HU.out.setCell hpw _) (Nat.le_refl _) _
                · rw [if_neg h7] at hbg
                  have h7z : ¬ (t.kind : Int) = 7 := by omega
                  have h7y : ((t.kind : Int) == 7) = false := by simpa using h7z
                  by_cases h9 : t.kind = 9
                  · rw [if_pos h9] at hbg
                    have h9z : (t.kind : Int) = 9 := by omega
                    have hc46 : (s[i].toNat : Int) = 46 := by rw [hchz, hbg]; rfl
                    have h10 : ¬ ch = 10 := by rw [hbg]; decide
                    go_wp2_with fail
                    go_region
                    all_goals
                      go_wp2_with fail
                      go_roundg (s.size + 1 - (i + 1))
                      case measure => have := HG.out; omega
                      case rel =>
                        refine ⟨i + 1, k + 1, by omega, rfl, by omega, by go_num, by go_num, ?_, HLT.out, ?_⟩
                        · rw [HST.out, if_neg h10]
                          dsimp only
                          first | rw [show ((q.2 + 1 : Nat) : Int) = t.col + 1 by omega] | rw [show ((q.2 + 1 : Nat) : Int) = (q.2 : Int) + 1 by omega]
                          first | exact blk_no HB.out | exact blk_noA HB.out
                        · first | exact (HU.out.setCell hpw _).drew | exact low_al (HU.out.setCell hpw _) (Nat.le_refl _) _
                  · rw [if_neg h9] at hbg
                    have h9z : ¬ (t.kind : Int) = 9 := by omega
                    have h9y : ((t.kind : Int) == 9) = false := by simpa using h9z
                    have hem := emp_iff t.text
                    have hemf : t.text.toList.isEmpty = false := by rw [hem]; cases hh : t.text.data.toList with | nil => rw [hh] at hbg; simp at hbg | cons _ _ => rfl
                    have htz : 0 < t.text.size := by rw [size_list]; cases hh : t.text.data.toList with | nil => rw [hh] at hbg; simp at hbg | cons _ _ => simp
                    have htz' : (0 : Int) < (t.text.size : Int) := by omega
                    have ht0 : t.text[0] = ch := by
                      rw [List.head?_eq_getElem?, List.getElem?_eq_some_iff] at hbg
                      obtain ⟨_, e⟩ := hbg
                      rw [← e]; rfl
                    have ht0z : (t.text[0].toNat : Int) = (ch.toNat : Int) := by rw [ht0]
                    clear hem
                    by_cases h10 : ch = 10
                    · have hcz : (s[i].toNat : Int) = 10 := by rw [hchz, h10]; rfl
                      go_wp2_with fail
                      go_region
                      all_goals
                        go_wp2_with fail
                        go_roundg (s.size + 1 - (i + 1))
                        case measure => have := HG.out; omega
                        case rel =>
                          refine ⟨i + 1, k + 1, by omega, rfl, by omega, by go_num, by go_num, ?_, HLT.out, ?_⟩
                          · rw [HST.out, if_pos h10]
                            dsimp only
                            first | rw [show ((q.1 + 1 : Nat) : Int) = t.line + 1 by omega] | rw [show ((q.1 + 1 : Nat) : Int) = (q.1 : Int) + 1 by omega]
                            first | exact blk_nl HB.out | exact blk_nlA HB.out
                          · first | exact (((HU.out.setCell hpw _).setCell hpw _).setCell hpw _).drew | exact low_al (((HU.out.setCell hpw _).setCell hpw _).setCell hpw _) (Nat.le_refl _) _
                    · have hcz : ¬ (s[i].toNat : Int) = 10 := by rw [hchz]; exact fun e => h10 (UInt8.toNat_inj.1 (by show ch.toNat = 10; omega))
                      have hcz' : ((s[i].toNat : Int) == 10) = false := by simpa using hcz
                      go_wp2_with fail
                      go_region
                      all_goals
                        go_wp2_with fail
                        go_roundg (s.size + 1 - (i + 1))
                        case measure => have := HG.out; omega
                        case rel =>
                          refine ⟨i + 1, k + 1, by omega, rfl, by omega, by go_num, by go_num, ?_, HLT.out, ?_⟩
                          · rw [HST.out, if_neg h10]
                            dsimp only
                            first | rw [show ((q.2 + 1 : Nat) : Int) = t.col + 1 by omega] | rw [show ((q.2 + 1 : Nat) : Int) = (q.2 : Int) + 1 by omega]
                            first | exact blk_no HB.out | exact blk_noA HB.out
                          · first | exact (HU.out.setCell hpw _).drew | exact low_al (HU.out.setCell hpw _) (Nat.le_refl _) _
              · have hq2' : ((q.2 : Int) == t.col) = false := by simpa using hq2
                by_cases h10 : ch = 10
                · have hcz : (s[i].toNat : Int) = 10 := by rw [hchz, h10]; rfl
                  go_wp2_with fail
                  go_region
                  all_goals
                    go_wp2_with fail
                    go_roundg (s.size + 1 - (i + 1))
                    case measure => have := HG.out; omega
                    case rel =>
                      refine ⟨i + 1, k, by omega, rfl, by omega, by go_num, by go_num, ?_, by rw [HDK.out]; exact HLN.out (fun h => hq2 h.2), ?_⟩
                      · rw [HST.out, if_pos h10]
                        dsimp only
                        first | rw [show ((q.1 + 1 : Nat) : Int) = t.line + 1 by omega] | rw [show ((q.1 + 1 : Nat) : Int) = (q.1 : Int) + 1 by omega]
                        first | exact blk_nl HB.out | exact blk_nlA HB.out
                      · first | exact (((HU.out.setCell hpw _).setCell hpw _).setCell hpw _).drew | exact low_al (((HU.out.setCell hpw _).setCell hpw _).setCell hpw _) (Nat.le_refl _) _
                · have hcz : ¬ (s[i].toNat : Int) = 10 := by rw [hchz]; exact fun e => h10 (UInt8.toNat_inj.1 (by show ch.toNat = 10; omega))
                  have hcz' : ((s[i].toNat : Int) == 10) = false := by simpa using hcz
                  go_wp2_with fail
                  go_region
                  all_goals
                    go_wp2_with fail
                    go_roundg (s.size + 1 - (i + 1))
                    case measure => have := HG.out; omega
                    case rel =>
                      refine ⟨i + 1, k, by omega, rfl, by omega, by go_num, by go_num, ?_, by rw [HDK.out]; exact HLN.out (fun h => hq2 h.2), ?_⟩
                      · rw [HST.out, if_neg h10]
                        dsimp only
                        first | rw [show ((q.2 + 1 : Nat) : Int) = t.col + 1 by omega] | rw [show ((q.2 + 1 : Nat) : Int) = (q.2 : Int) + 1 by omega]
                        first | exact blk_no HB.out | exact blk_noA HB.out
                      · first | exact (HU.out.setCell hpw _).drew | exact low_al (HU.out.setCell hpw _) (Nat.le_refl _) _
            · have hq1' : ((q.1 : Int) == t.line) = false := by simpa using hq1
              by_cases h10 : ch = 10
              · have hcz : (s[i].toNat : Int) = 10 := by rw [hchz, h10]; rfl
                go_wp2_with fail
                go_region
                all_goals
                  go_wp2_with fail
                  go_roundg (s.size + 1 - (i + 1))
                  case measure => have := HG.out; omega
                  case rel =>
                    refine ⟨i + 1, k, by omega, rfl, by omega, by go_num, by go_num, ?_, by rw [HDK.out]; exact HLN.out (fun h => hq1 h.1), ?_⟩
                    · rw [HST.out, if_pos h10]
                      dsimp only
                      first | rw [show ((q.1 + 1 : Nat) : Int) = t.line + 1 by omega] | rw [show ((q.1 + 1 : Nat) : Int) = (q.1 : Int) + 1 by omega]
                      first | exact blk_nl HB.out | exact blk_nlA HB.out
                    · first | exact (((HU.out.setCell hpw _).setCell hpw _).setCell hpw _).drew | exact low_al (((HU.out.setCell hpw _).setCell hpw _).setCell hpw _) (Nat.le_refl _) _
              · have hcz : ¬ (s[i].toNat : Int) = 10 := by rw [hchz]; exact fun e => h10 (UInt8.toNat_inj.1 (by show ch.toNat = 10; omega))
                have hcz' : ((s[i].toNat : Int) == 10) = false := by simpa using hcz
                go_wp2_with fail
                go_region
                all_goals
                  go_wp2_with fail
                  go_roundg (s.size + 1 - (i + 1))
                  case measure => have := HG.out; omega
                  case rel =>
                    refine ⟨i + 1, k, by omega, rfl, by omega, by go_num, by go_num, ?_, by rw [HDK.out]; exact HLN.out (fun h => hq1 h.1), ?_⟩
                    · rw [HST.out, if_neg h10]
                      dsimp only
                      first | rw [show ((q.2 + 1 : Nat) : Int) = t.col + 1 by omega] | rw [show ((q.2 + 1 : Nat) : Int) = (q.2 : Int) + 1 by omega]
                      first | exact blk_no HB.out | exact blk_noA HB.out
                    · first | exact (HU.out.setCell hpw _).drew | exact low_al (HU.out.setCell hpw _) (Nat.le_refl _) _
          · obtain rfl : k = l.length := by omega
            have hklz : ¬ (l.length : Int) < (l.length : Int) := by omega
            go_wp2_with fail
            go_ret
            exact ⟨rfl, HB2.out.trans (HU.out.mono HB2.out.size)⟩
        · obtain rfl : i = s.size := by omega
          have hikz : ¬ (s.size : Int) < (s.size : Int) := by omega
          rw [size_list] at hli
          have hnil := lies_end hli
          obtain rfl : k = l.length := by
            have := List.drop_eq_nil_iff.1 hnil
            omega
          go_wp2_with fail
          go_ret
          exact ⟨rfl, HB2.out.trans (HU.out.mono HB2.out.size)⟩
    · go_wp2_with fail
      go_ret
      exact ⟨rfl, HB2.out.alloc HB2.out.size _⟩
end Go.Proofs.YteppdnlchjpekaaDoor
