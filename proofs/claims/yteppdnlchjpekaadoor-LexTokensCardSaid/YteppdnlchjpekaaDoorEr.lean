/- Package lex: what is between tokens. -/
import Derived.Test.YteppdnlchjpekaaDoorEq
import Derived.Shelf.Strings.SlTrimAscii
namespace Go.Proofs.YteppdnlchjpekaaDoor
open Go.RowKit Lx
open Go
attribute [local go_sem] Oper.semAt_some

namespace Lx
def blanks : List UInt8 := [32, 9, 10, 13]
/-- What is left behind blanks and comments. -/
def skipL : Nat → List UInt8 → List UInt8
  | 0, l => l
  | f + 1, l => if (Lib.trimLeftS l blanks).head? = some 35 then skipL f (Lib.cut (Lib.trimLeftS l blanks) [10]).2.1 else Lib.trimLeftS l blanks
theorem trim_suf (l : List UInt8) : Lib.trimLeftS l blanks <:+ l := List.dropWhile_suffix _
theorem cut_suf (l : List UInt8) : (Lib.cut l [10]).2.1 <:+ l := by
  unfold Lib.cut
  split
  · exact List.drop_suffix _ _
  · exact List.nil_suffix
theorem skip_suf : ∀ (f : Nat) (l : List UInt8), skipL f l <:+ l
  | 0, l => List.suffix_refl l
  | f + 1, l => by
    rw [skipL]
    split
    · exact (skip_suf f _).trans ((cut_suf _).trans (trim_suf l))
    · exact trim_suf l
theorem cut_less {l : List UInt8} (h : l ≠ []) : (Lib.cut l [10]).2.1.length < l.length := by
  unfold Lib.cut
  have : 0 < l.length := List.length_pos_iff.2 h
  split
  · simp only [List.length_drop, List.length_singleton]; omega
  · simpa using this
theorem suf_drop {a l : List UInt8} (h : a <:+ l) : l.drop (l.length - a.length) = a := by
  obtain ⟨b, rfl⟩ := h
  simp
end Lx
theorem trim_c (s : ByteArray) (w : World) : Calls Tryd.prog 43 #[.string s, .string ⟨#[32, 9, 10, 13]⟩] w fun e w' => e = .returned (.string ⟨(Lib.trimLeftS s.data.toList blanks).toArray⟩) ∧ Below w.heap.size w w' :=
  Any.strings_TrimLeft_laid Tryd.lays161 (by kernel_rfl) s ⟨#[32, 9, 10, 13]⟩ w (by decide) (by
    intro j b hb
    have hm : b ∈ ([32, 9, 10, 13] : List UInt8) := List.mem_of_getElem? hb
    have : ∀ b ∈ ([32, 9, 10, 13] : List UInt8), b.toNat < 128 := by decide
    exact this b hm)
theorem grown_of_below {w wr w3 : World} {p : Nat} (h : w.grownBy wr (some p)) (hb : Below w.heap.size wr w3) : w.grownBy w3 (some p) :=
  ⟨hb.os.trans h.os, hb.tape.trans h.tape, hb.output.trans h.output, Nat.le_trans h.size hb.size, fun j hj hk => (hb.block j hj).trans (h.block j hj hk)⟩
theorem grown_trans {a b c : World} {p : Nat} (h : a.grownBy b (some p)) (k : b.grownBy c (some p)) : a.grownBy c (some p) :=
  ⟨k.os.trans h.os, k.tape.trans h.tape, k.output.trans h.output, Nat.le_trans h.size k.size, fun j hj hk => (k.block j (Nat.lt_of_lt_of_le hj h.size) hk).trans (h.block j hj hk)⟩

set_option maxRecDepth 100000 in
set_option maxHeartbeats 1000000 in
theorem skip_c (p : Nat) (q : Nat × Nat) (s : ByteArray) (hs : s.size ≤ 900000) (hq : q.1 ≤ 2000000 ∧ q.2 ≤ 2000000) (w : World) (hP : Pl w p q s.data.toList) (hM : MaxAt w) :
    Calls Tryd.prog 18 #[.pointer (some ⟨p, 0, none⟩)] w fun e w' => e = .returned (.tuple #[]) ∧
      Pl w' p (adv q (s.data.toList.take (s.size - (skipL (s.size + 1) s.data.toList).length))) (skipL (s.size + 1) s.data.toList) ∧ w.grownBy w' (some p) := by
  have hmax : maxLen = 9223372036854775807 := rfl
  obtain ⟨R, hR⟩ : ∃ R, R = skipL (s.size + 1) s.data.toList := ⟨_, rfl⟩
  rw [← hR]
  have hsuf := skip_suf (s.size + 1) s.data.toList
  rw [← hR] at hsuf
  have HSUF := Lib.hid hsuf
  have HP := Lib.hid hP
  unfold Pl at hP
  rw [← arr_self] at hP
  have y2 := hP.cell 2
  simp at y2
  have HM := Lib.hid hM; have HR := Lib.hid hR
  clear hP hM hR hsuf
  go_enter Tryd.func18, Tryd.ntmps18
  go_wp2_with fail
  go_loopg [2] (s.size + 2) (fun gg s2 wr => ∃ (f : Nat) (X : ByteArray), gg = X.size + 2 ∧ X.size ≤ s.size ∧ X.size + 1 ≤ f ∧ s2 = .string X ∧ skipL f X.data.toList = R ∧ Below w.heap.size w wr)
  case atStart => exact ⟨s.size + 1, s, rfl, Nat.le_refl _, Nat.le_refl _, rfl, HR.out.symm, Below.refl _ _⟩
  case round =>
    clear HR
    obtain ⟨f, X, hg, hX, hf, rfl, hsk, hb⟩ := hrel
    obtain ⟨f', rfl⟩ : ∃ f', f = f' + 1 := ⟨f - 1, by omega⟩
    rw [skipL] at hsk
    have htr := trim_c X wr
    obtain ⟨Y, hY⟩ : ∃ Y : ByteArray, Y = ⟨(Lib.trimLeftS X.data.toList blanks).toArray⟩ := ⟨_, rfl⟩
    have hYl : Y.data.toList = Lib.trimLeftS X.data.toList blanks := by rw [hY]
    have hYs : Y.size ≤ X.size := by
      rw [size_list, size_list, hYl]; exact (trim_suf _).length_le
    rw [← hY] at htr
    rw [← hYl] at hsk
    have hpre := fun W => Tryd.strings_HasPrefix Y ⟨#[35]⟩ W
    rw [show (⟨#[35]⟩ : ByteArray).data.toList = [35] from rfl, pre_one] at hpre
    have HG := Lib.hid hg; have HB := Lib.hid hb; have HT := Lib.hid htr; have HSK := Lib.hid hsk
    clear hg hb htr hY hYl hsk
    by_cases h35 : Y.data.toList.head? = some 35
    · have h35' : (Y.data.toList.head? == some (35 : UInt8)) = true := by rw [h35]; rfl
      rw [h35'] at hpre
      have hsk := HSK.out
      rw [if_pos h35] at hsk
      have hne : Y.data.toList ≠ [] := by intro e; rw [e] at h35; cases h35
      have hlt := cut_less hne
      rw [← size_list] at hlt
      have HP2 := Lib.hid hpre; have HSK2 := Lib.hid hsk; have HLT := Lib.hid hlt
      clear hpre hsk h35 h35' hne hlt HSK
      go_wp2_with fail
      refine HT.out.mono ?_
      rintro e w2 ⟨rfl, hb2⟩
      have HB2 := Lib.hid (HB.out.trans (hb2.mono HB.out.size))
      clear hb2
      go_wp2_with fail
      refine (HP2.out _).mono ?_
      rintro e w3 ⟨rfl, rfl⟩
      obtain ⟨A, B, hA, hBB, hc⟩ := cut_s Y (by omega) 10 w3 (HM.out.under HB2.out)
      have HC := Lib.hid hc
      have hBs : B.size < Y.size := by rw [size_list, hBB]; exact HLT.out
      have HBB := Lib.hid hBB
      generalize (Lib.cut Y.data.toList [10]).2.2 = bb at HC
      clear hc hA hBB
      go_wp2_with fail
      refine HC.out.mono ?_
      rintro e w4 ⟨rfl, hb4⟩
      have HB4 := Lib.hid (HB2.out.trans (hb4.mono HB2.out.size))
      clear hb4
      go_wp2_with fail
      go_roundg (B.size + 2)
      case measure => have := HG.out; omega
      case rel => exact ⟨f', B, rfl, by omega, by omega, rfl, by rw [HBB.out]; exact HSK2.out, HB4.out⟩
    · have h35' : (Y.data.toList.head? == some (35 : UInt8)) = false := by rw [beq_eq_false_iff_ne]; exact h35
      rw [h35'] at hpre
      have hsk := HSK.out
      rw [if_neg h35] at hsk
      have HP2 := Lib.hid hpre; have HSK2 := Lib.hid hsk
      clear hpre hsk h35 h35' HSK
      go_wp2_with fail
      refine HT.out.mono ?_
      rintro e w2 ⟨rfl, hb2⟩
      have HB2 := Lib.hid (HB.out.trans (hb2.mono HB.out.size))
      clear hb2
      go_wp2_with fail
      refine (HP2.out _).mono ?_
      rintro e w3 ⟨rfl, rfl⟩
      have hpl : Pl w3 p q s.data.toList := Blk.below HP.out HB2.out (Blk.lt HP.out)
      have HPL := Lib.hid hpl
      unfold Pl at hpl
      rw [← arr_self] at hpl
      have y3 := hpl.cell 2
      simp at y3
      have hys : (Y.size : Int) ≤ (s.size : Int) := by omega
      have hmv : Calls Tryd.prog 21 #[.pointer (some ⟨p, 0, none⟩), .int .i64 ((s.size : Int) - (Y.size : Int))] w3 fun e w' => e = .returned (.tuple #[]) ∧ Pl w' p (adv q (s.data.toList.take (s.size - Y.size))) (s.data.toList.drop (s.size - Y.size)) ∧ w3.grownBy w' (some p) := by
        have e : ((s.size : Int) - (Y.size : Int)) = ((s.size - Y.size : Nat) : Int) := by omega
        rw [e]
        exact move_c p q s (s.size - Y.size) (by omega) (by omega) hq w3 HPL.out
      have hrl : R.length = Y.size := by rw [← HSK2.out, ← size_list]
      have hdr := suf_drop HSUF.out
      rw [← size_list, hrl] at hdr
      rw [hdr] at hmv
      have HMV := Lib.hid hmv; have HRL := Lib.hid hrl
      clear hpl hmv hrl hdr
      go_wp2_with fail
      refine HMV.out.mono ?_
      rintro e w4 ⟨rfl, hp4, hg4⟩
      have HP4 := Lib.hid hp4; have HG4 := Lib.hid (grown_trans (grown_of_below (grown_refl w p) HB2.out) hg4)
      clear hp4 hg4
      go_wp2_with fail
      exact bodyPost_end (results_none rfl _ _ _) rfl ⟨rfl, by rw [HRL.out]; exact HP4.out, HG4.out⟩
end Go.Proofs.YteppdnlchjpekaaDoor
