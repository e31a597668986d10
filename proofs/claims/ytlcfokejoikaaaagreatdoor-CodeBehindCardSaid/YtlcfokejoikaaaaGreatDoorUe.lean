/- Package code: a reader's text, whatever the bytes. -/
import Derived.Test.YtlcfokejoikaaaaGreatDoorUd
namespace Go.Proofs.YtlcfokejoikaaaaGreatDoor
open Go.RowKit Cp Rm
open Go
attribute [local go_sem] Oper.semAt_some

theorem strG_end {most : Int} {s l : List UInt8} (h : most < (s.length : Int)) : strG most s l = none := by
  cases l with
  | nil => rfl
  | cons c l => rw [strG_cons, if_pos h]
theorem strG_one {most : Int} {s : List UInt8} : strG most s [0] = none := by
  rw [strG_cons]
  split
  · rfl
  · rfl
theorem strG_stop {most : Int} {s r : List UInt8} (h : ¬ most < (s.length : Int)) : strG most s (0 :: 0 :: r) = some (s, r) := by rw [strG_cons, if_neg h, if_pos rfl]; rfl
theorem strG_zero {most : Int} {s r : List UInt8} (h : ¬ most < (s.length : Int)) : strG most s (0 :: 255 :: r) = strG most (s ++ [0]) r := by rw [strG_cons, if_neg h, if_pos rfl]; rfl
theorem strG_odd {most : Int} {s r : List UInt8} {d : UInt8} (h0 : d ≠ 0) (h1 : d ≠ 255) : strG most s (0 :: d :: r) = none := by
  rw [strG_cons]
  split
  · rfl
  · rw [if_pos rfl]
    show (if d = 0 then some (s, r) else if d = 255 then strG most (s ++ [0]) r else none) = none
    rw [if_neg h0, if_neg h1]
theorem strG_more {most : Int} {s r : List UInt8} {c : UInt8} (h : ¬ most < (s.length : Int)) (h0 : c ≠ 0) : strG most s (c :: r) = strG most (s ++ [c]) r := by rw [strG_cons, if_neg h, if_neg h0]
/-- What str answers. -/
def TellsStr (p B : Nat) (w : World) (n : Nat) (o : Option (List UInt8 × List UInt8)) (f : Bool) (e : Ending) (w' : World) : Prop :=
  ∃ t : List UInt8, Reads p B w (.string ⟨t.toArray⟩) (restO o) (failO f o) e w' ∧ t.length ≤ n ∧ ∀ x, o = some x → t = x.1
theorem tells_no {p B n : Nat} {w w' : World} {o : Option (List UInt8 × List UInt8)} {f : Bool} {t : List UInt8} (ho : o = none) (hr : Rdr p B [] true w') (hg : w.grownBy w' (some p)) (hn : t.length ≤ n) : TellsStr p B w n o f (.returned (.string ⟨t.toArray⟩)) w' := by
  subst ho
  exact ⟨t, ⟨rfl, hr, hg⟩, hn, fun x hx => by cases hx⟩
theorem tells_yes {p B n : Nat} {w w' : World} {o : Option (List UInt8 × List UInt8)} {f : Bool} {t r : List UInt8} (ho : o = some (t, r)) (hr : Rdr p B r f w') (hg : w.grownBy w' (some p)) (hn : t.length ≤ n) : TellsStr p B w n o f (.returned (.string ⟨t.toArray⟩)) w' := by
  subst ho
  exact ⟨t, ⟨rfl, hr, hg⟩, hn, fun x hx => by injection hx with hx; rw [← hx]⟩

set_option maxRecDepth 100000 in
set_option maxHeartbeats 16000000 in
theorem str_all (p B : Nat) (l0 : List UInt8) (most : Int) (f : Bool) (w : World) (hs : l0.length ≤ 140000000000000) (h : Rdr p B l0 f w) :
    Calls Tryz.prog 51 #[.pointer (some ⟨p, 0, none⟩), .int .i64 most] w fun e w' => TellsStr p B w (l0.length + 1) (strG most [] l0) f e w' := by
  have hBw : B ≤ w.heap.size := by obtain ⟨A, c, _, _, _, _, h5⟩ := h; exact h5
  have H := Lib.hid h
  obtain ⟨o, ho⟩ : ∃ o, strG most [] l0 = o := ⟨_, rfl⟩
  rw [ho]
  have HO0 := Lib.hid ho
  clear h ho
  go_enter Tryz.func51, Tryz.ntmps51
  go_wp2_with fail
  go_loopg [5] (l0.length + 1) (fun gg s5 wr => ∃ (s l : List UInt8) (g : Bool) (A : Option Addr) (c : Nat), gg = l.length + 1 ∧ s5 = .slice A s.length c ∧ s.length + l.length ≤ l0.length + 1 ∧ Bys w.heap.size s wr (.slice A s.length c) ∧ Rdr p B l g wr ∧ w.grownBy wr (some p) ∧ strG most s l = o ∧ (g = f ∨ l = [] ∧ g = true))
  case atStart => exact ⟨[], l0, f, none, 0, rfl, rfl, by simp, ⟨rfl, .inl ⟨rfl, rfl⟩⟩, H.out, grown_refl w p, HO0.out, .inl rfl⟩
  case round =>
    clear H HO0
    obtain ⟨s, l, g, A, c, hg, rfl, hsl, hy, hr, hgr, ho, hgf⟩ := hrel
    have HG := Lib.hid hg; have HY := Lib.hid hy; have HR := Lib.hid hr; have HGR := Lib.hid hgr; have HO := Lib.hid ho; have HGF := Lib.hid hgf; have HSL := Lib.hid hsl
    obtain ⟨j, hj⟩ : ∃ j, s.length = j := ⟨_, rfl⟩
    have HJ := Lib.hid hj
    rw [hj] at HY ⊢
    clear hg hy hr hgr ho hgf hsl hj
    by_cases hjm : (j : Int) ≤ most
    · have hnm : ¬ most < (s.length : Int) := by have := HJ.out; omega
      have HNM := Lib.hid hnm
      clear hnm
      rcases l with _ | ⟨c0, l1⟩
      · have HN1 := Lib.hid (next_nil p B 0 g wr HR.out)
        go_wp2_with fail
        refine HN1.out.mono ?_
        rintro e w1 ⟨rfl, hr1, hg1⟩
        have HR1 := Lib.hid hr1; have HG1 := Lib.hid hg1
        clear hr1 hg1
        have HN2 := Lib.hid (next_nil p B 0 true w1 HR1.out)
        go_wp2_with fail
        refine HN2.out.mono ?_
        rintro e w2 ⟨rfl, hr2, hg2⟩
        have HR2 := Lib.hid hr2; have HG2 := Lib.hid (grown_trans HG1.out hg2)
        clear hr2 hg2
        have HY2 : Hid (Bys w.heap.size s w2 (.slice A j c)) := Lib.hid (by obtain ⟨cs, hb⟩ := HR.out.blk; exact HY.out.grown HG2.out hb)
        have HGT := Lib.hid (grown_trans HGR.out HG2.out)
        have hcv := conv_c HY2.out.sees
        go_wp2_with fail
        go_ret
        exact tells_no (HO.out.symm.trans rfl) HR2.out HGT.out (by have := HSL.out; omega)
      · by_cases hc0 : c0 = 0
        · subst hc0
          rcases l1 with _ | ⟨d, l2⟩
          · have HN1 := Lib.hid (next_cons p B 0 (.inl rfl) 0 [] g wr HR.out)
            go_wp2_with fail
            refine HN1.out.mono ?_
            rintro e w1 ⟨rfl, hr1, hg1⟩
            have HR1 := Lib.hid hr1; have HG1 := Lib.hid hg1
            clear hr1 hg1
            have HN2 := Lib.hid (next_nil p B 0 g w1 HR1.out)
            go_wp2_with fail
            refine HN2.out.mono ?_
            rintro e w2 ⟨rfl, hr2, hg2⟩
            have HR2 := Lib.hid hr2; have HG2 := Lib.hid (grown_trans HG1.out hg2)
            clear hr2 hg2
            have HY2 : Hid (Bys w.heap.size s w2 (.slice A j c)) := Lib.hid (by obtain ⟨cs, hb⟩ := HR.out.blk; exact HY.out.grown HG2.out hb)
            have HGT := Lib.hid (grown_trans HGR.out HG2.out)
            have hcv := conv_c HY2.out.sees
            go_wp2_with fail
            go_ret
            exact tells_no (HO.out.symm.trans strG_one) HR2.out HGT.out (by have := HSL.out; omega)
          · have hgf : g = f := by
              rcases HGF.out with h | ⟨h, _⟩
              · exact h
              · cases h
            by_cases hd0 : d = 0
            · subst hd0
              have HN1 := Lib.hid (next_cons p B 0 (.inl rfl) 0 (0 :: l2) g wr HR.out)
              go_wp2_with fail
              refine HN1.out.mono ?_
              rintro e w1 ⟨rfl, hr1, hg1⟩
              have HR1 := Lib.hid hr1; have HG1 := Lib.hid hg1
              clear hr1 hg1
              have HN2 := Lib.hid (next_cons p B 0 (.inl rfl) 0 l2 g w1 HR1.out)
              go_wp2_with fail
              refine HN2.out.mono ?_
              rintro e w2 ⟨rfl, hr2, hg2⟩
              have HR2 := Lib.hid hr2; have HG2 := Lib.hid (grown_trans HG1.out hg2)
              clear hr2 hg2
              have HY2 : Hid (Bys w.heap.size s w2 (.slice A j c)) := Lib.hid (by obtain ⟨cs, hb⟩ := HR.out.blk; exact HY.out.grown HG2.out hb)
              have HGT := Lib.hid (grown_trans HGR.out HG2.out)
              have hcv := conv_c HY2.out.sees
              go_wp2_with fail
              go_ret
              exact tells_yes (HO.out.symm.trans (strG_stop (by have := HNM.out; omega))) (hgf ▸ HR2.out) HGT.out (by have := HSL.out; omega)
            · by_cases hd1 : d = 255
              · subst hd1
                have HN1 := Lib.hid (next_cons p B 0 (.inl rfl) 0 (255 :: l2) g wr HR.out)
                go_wp2_with fail
                refine HN1.out.mono ?_
                rintro e w1 ⟨rfl, hr1, hg1⟩
                have HR1 := Lib.hid hr1; have HG1 := Lib.hid hg1
                clear hr1 hg1
                have HN2 := Lib.hid (next_cons p B 0 (.inl rfl) 255 l2 g w1 HR1.out)
                go_wp2_with fail
                refine HN2.out.mono ?_
                rintro e w2 ⟨rfl, hr2, hg2⟩
                have HR2 := Lib.hid hr2; have HG2 := Lib.hid (grown_trans HG1.out hg2)
                clear hr2 hg2
                have HY2 : Hid (Bys w.heap.size s w2 (.slice A j c)) := Lib.hid (by obtain ⟨cs, hb⟩ := HR.out.blk; exact HY.out.grown HG2.out hb)
                have HGT := Lib.hid (grown_trans HGR.out HG2.out)
                have HOW := Lib.hid (show w2.ownsRow w.heap.size 5 1 (.slice A j c) j (Lib.byteCells s) by have := HY2.out; unfold Bys at this; rwa [HJ.out] at this)
                have hsz : w.heap.size ≤ w2.heap.size := HGT.out.size
                go_wp2_with (at_builtin; refine wpList_appB _ rfl (.tmp 25) (.tmp 27) 23 rfl w.heap.size 5 (.int .u8 0) Tryz.underlying23 infoB rfl _ j _ rfl (HOW.out.alloc _) w2.heap.size 1 (.int .u8 0) rfl (by simp [World.cell?_alloc_new]) (by simp [Value.oneCell']) (by have := HSL.out; have := HJ.out; omega) (by simp; omega) ?_; intro g' cap' w4 hA; have HA := Lib.hid hA; clear hA)
                go_roundg (l2.length + 1)
                case measure => have := HG.out; simp only [List.length_cons] at this ⊢; omega
                case rel =>
                  refine ⟨s ++ [0], l2, f, _, _, rfl, by rw [List.length_append, HJ.out]; rfl, by have := HSL.out; simp only [List.length_append, List.length_cons, List.length_nil] at this ⊢; omega, ?_, ((hgf ▸ HR2).out.alloc _).apped HA.out hBw, grown_of_below (grown_alloc HGT.out _) HA.out.2.2, (strG_zero (by have := HNM.out; omega)).symm.trans HO.out, .inl rfl⟩
                  have := HA.out.1
                  unfold Bys
                  rw [byteCells_app, List.length_append, HJ.out]
                  simpa [Lib.byteCells] using this
              · have hdz0 : ((d.toNat : Int) == 0) = false := by
                  rw [beq_eq_false_iff_ne]; intro e; exact hd0 (UInt8.toNat_inj.1 (by simp; omega))
                have hdz1 : ((d.toNat : Int) == 255) = false := by
                  rw [beq_eq_false_iff_ne]; intro e; exact hd1 (UInt8.toNat_inj.1 (by simp; omega))
                have HON := Lib.hid (HO.out.symm.trans (strG_odd hd0 hd1))
                clear hd0 hd1
                have HN1 := Lib.hid (next_cons p B 0 (.inl rfl) 0 (d :: l2) g wr HR.out)
                go_wp2_with fail
                refine HN1.out.mono ?_
                rintro e w1 ⟨rfl, hr1, hg1⟩
                have HR1 := Lib.hid hr1; have HG1 := Lib.hid hg1
                clear hr1 hg1
                have HN2 := Lib.hid (next_cons p B 0 (.inl rfl) d l2 g w1 HR1.out)
                rw [show (d ^^^ 0 : UInt8) = d by simp] at HN2
                go_wp2_with fail
                refine HN2.out.mono ?_
                rintro e w2 ⟨rfl, hr2, hg2⟩
                have HR2 := Lib.hid hr2; have HG2 := Lib.hid (grown_trans HG1.out hg2)
                clear hr2 hg2
                have HY2 : Hid (Bys w.heap.size s w2 (.slice A j c)) := Lib.hid (by obtain ⟨cs, hb⟩ := HR.out.blk; exact HY.out.grown HG2.out hb)
                have HF := Lib.hid (fail_c p B l2 g w2 HR2.out)
                go_wp2_with fail
                refine HF.out.mono ?_
                rintro e w3 ⟨rfl, hr3, hg3⟩
                have HR3 := Lib.hid hr3; have HG3 := Lib.hid (grown_trans HG2.out hg3)
                clear hr3 hg3
                have HY3 : Hid (Bys w.heap.size s w3 (.slice A j c)) := Lib.hid (by obtain ⟨cs, hb⟩ := HR.out.blk; exact HY.out.grown HG3.out hb)
                have HGT := Lib.hid (grown_trans HGR.out HG3.out)
                have HOW := Lib.hid (show w3.ownsRow w.heap.size 5 1 (.slice A j c) j (Lib.byteCells s) by have := HY3.out; unfold Bys at this; rwa [HJ.out] at this)
                have hsz : w.heap.size ≤ w3.heap.size := HGT.out.size
                go_wp2_with (at_builtin; refine wpList_appB _ rfl (.tmp 25) (.tmp 27) 23 rfl w.heap.size 5 (.int .u8 0) Tryz.underlying23 infoB rfl _ j _ rfl (HOW.out.alloc _) w3.heap.size 1 (.int .u8 0) rfl (by simp [World.cell?_alloc_new]) (by simp [Value.oneCell']) (by have := HSL.out; have := HJ.out; omega) (by simp; omega) ?_; intro g' cap' w4 hA; have HA := Lib.hid hA; clear hA)
                go_roundg (([] : List UInt8).length + 1)
                case measure => have := HG.out; simp only [List.length_cons, List.length_nil] at this ⊢; omega
                case rel =>
                  refine ⟨s ++ [0], ([] : List UInt8), true, _, _, rfl, by rw [List.length_append, HJ.out]; rfl, by have := HSL.out; simp only [List.length_append, List.length_cons, List.length_nil] at this ⊢; omega, ?_, (HR3.out.alloc _).apped HA.out hBw, grown_of_below (grown_alloc HGT.out _) HA.out.2.2, HON.out.symm, .inr ⟨rfl, rfl⟩⟩
                  have := HA.out.1
                  unfold Bys
                  rw [byteCells_app, List.length_append, HJ.out]
                  simpa [Lib.byteCells] using this
        · have hgf : g = f := by
            rcases HGF.out with h | ⟨h, _⟩
            · exact h
            · cases h
          have hcz : ((c0.toNat : Int) == 0) = false := by
            rw [beq_eq_false_iff_ne]; intro e; exact hc0 (UInt8.toNat_inj.1 (by simp; omega))
          have HON := Lib.hid ((strG_more (by have := HNM.out; omega) hc0).symm.trans HO.out)
          clear hc0
          have HN1 := Lib.hid (next_cons p B 0 (.inl rfl) c0 l1 g wr HR.out)
          rw [show (c0 ^^^ 0 : UInt8) = c0 by simp] at HN1
          go_wp2_with fail
          refine HN1.out.mono ?_
          rintro e w1 ⟨rfl, hr1, hg1⟩
          have HR1 := Lib.hid hr1; have HG1 := Lib.hid hg1
          clear hr1 hg1
          have HY1 : Hid (Bys w.heap.size s w1 (.slice A j c)) := Lib.hid (by obtain ⟨cs, hb⟩ := HR.out.blk; exact HY.out.grown HG1.out hb)
          have HGT := Lib.hid (grown_trans HGR.out HG1.out)
          have HOW := Lib.hid (show w1.ownsRow w.heap.size 5 1 (.slice A j c) j (Lib.byteCells s) by have := HY1.out; unfold Bys at this; rwa [HJ.out] at this)
          have hsz : w.heap.size ≤ w1.heap.size := HGT.out.size
          go_wp2_with (at_builtin; refine wpList_appB _ rfl (.tmp 25) (.tmp 27) 23 rfl w.heap.size 5 (.int .u8 0) Tryz.underlying23 infoB rfl _ j _ rfl (HOW.out.alloc _) w1.heap.size 1 (.int .u8 (c0.toNat : Int)) rfl (by simp [World.cell?_alloc_new]) (by simp [Value.oneCell']) (by have := HSL.out; have := HJ.out; omega) (by simp; omega) ?_; intro g' cap' w4 hA; have HA := Lib.hid hA; clear hA)
          go_roundg (l1.length + 1)
          case measure => have := HG.out; simp only [List.length_cons] at this ⊢; omega
          case rel =>
            refine ⟨s ++ [c0], l1, f, _, _, rfl, by rw [List.length_append, HJ.out]; rfl, by have := HSL.out; simp only [List.length_append, List.length_cons, List.length_nil] at this ⊢; omega, ?_, ((hgf ▸ HR1).out.alloc _).apped HA.out hBw, grown_of_below (grown_alloc HGT.out _) HA.out.2.2, HON.out, .inl rfl⟩
            have := HA.out.1
            unfold Bys
            rw [byteCells_app, List.length_append, HJ.out]
            simpa [Lib.byteCells] using this
    · have HON := Lib.hid (HO.out.symm.trans (strG_end (by have := HJ.out; omega)))
      have HF := Lib.hid (fail_c p B l g wr HR.out)
      go_wp2_with fail
      refine HF.out.mono ?_
      rintro e w3 ⟨rfl, hr3, hg3⟩
      have HR3 := Lib.hid hr3; have HG3 := Lib.hid (grown_trans HGR.out hg3)
      clear hr3 hg3
      go_wp2_with fail
      go_ret
      exact tells_no (t := []) HON.out HR3.out HG3.out (by simp)
end Go.Proofs.YtlcfokejoikaaaaGreatDoor
