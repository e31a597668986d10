/- Package lex: finders of names, of numbers. -/
import Derived.Test.YteppdnlchjpekaaDoorEf
namespace Go.Proofs.YteppdnlchjpekaaDoor
open Go.RowKit Lx
open Go
attribute [local go_sem] Oper.semAt_some

namespace Lx
/-- Digits, without leading zeros. -/
def numB (l : List UInt8) : Bool := l.all digB && (l == [48] || (l != [] && l.head? != some 48))
def fNum (l : List UInt8) : Fnd :=
  if numB (Lib.trimSuffix (lead l) [98]) then (if Lib.hasSuffix (lead l) [98] then 6 else 5, Lib.trimSuffix (lead l) [98], (lead l).length) else no
end Lx
set_option maxRecDepth 100000 in
set_option maxHeartbeats 800000 in
theorem fname_c (s : ByteArray) (hs : s.size ≤ 1000000) (p3 p2 p b : Nat) (w : World) (hE3 : Blk w p3 35 #[.func (.func 33) #[] #[.pointer (some ⟨p2, 0, none⟩)]]) (hE : Env2 w p2 p b) :
    Calls Tryd.prog 36 #[.string s, .pointer (some ⟨p2, 0, none⟩), .pointer (some ⟨p3, 0, none⟩)] w fun e w' => e = .returned (fv (fName s.data.toList)) ∧ Below w.heap.size w w' := by
  have hmax : maxLen = 9223372036854775807 := rfl
  have hb0 : Below w.heap.size w (w.alloc (.cells #[.int .i64 0, .int .i64 0, .int .u8 0, .string ⟨#[]⟩] 44)) := (Below.refl _ _).alloc (Nat.le_refl _) _
  have e0 := (hE.1.below hb0 hE.1.lt).cell 0
  have e1 := (hE3.below hb0 hE3.lt).cell 0
  simp at e0 e1
  have hp := plain_c s (by omega) p b _ (hE.under hb0).2
  have htk := Blk.new w 44 #[.int .i64 0, .int .i64 0, .int .u8 0, .string ⟨#[]⟩]
  obtain ⟨F0, hF0⟩ : ∃ F0, F0 = fName s.data.toList := ⟨_, rfl⟩
  rw [← hF0]
  unfold fName nameOf at hF0
  have hpl := plain_len s.data.toList
  have hfl := field_len (s.data.toList.drop (plainN s.data.toList).length)
  rw [List.length_drop] at hfl
  obtain ⟨S, hS⟩ : ∃ S : ByteArray, S = ⟨(plainN s.data.toList).toArray⟩ := ⟨_, rfl⟩
  have hS2 : S.data.toList = plainN s.data.toList := by rw [hS]
  rw [← hS] at hp
  have hsl := size_list S
  rw [hS2] at hsl
  have hfc := field_c (s.extract S.size s.size) (by rw [ex_drop, size_list]; show (s.data.toList.drop S.size).length ≤ _; rw [List.length_drop, ← size_list]; omega) p2 p b (w.alloc (.cells #[.int .i64 0, .int .i64 0, .int .u8 0, .string ⟨#[]⟩] 44)).drew (hE.under hb0.drew)
  have hexd : (s.extract S.size s.size).data.toList = s.data.toList.drop (plainN s.data.toList).length := by rw [ex_drop, hsl]
  rw [hexd] at hfc
  generalize plainN s.data.toList = P at hS2 hpl hF0 hsl hfl hfc
  obtain ⟨T, hT⟩ : ∃ T : ByteArray, T = ⟨(fieldN (s.data.toList.drop P.length)).toArray⟩ := ⟨_, rfl⟩
  have hT2 : T.data.toList = fieldN (s.data.toList.drop P.length) := by rw [hT]
  rw [← hT] at hfc
  have htl := size_list T
  rw [hT2] at htl
  generalize fieldN (s.data.toList.drop P.length) = F at hT2 hF0 hfl htl
  have hem := emp_iff S
  have hem2 := emp_iff T
  rw [hS2] at hem
  rw [hT2] at hem2
  have hss := size_list s
  have hSm : (S.size : Int) ≤ (s.size : Int) := by omega
  have hSm2 : S.size ≤ 1000000 := by omega
  have hTm : T.size ≤ 1000000 := by omega
  have HP := Lib.hid hp; have HS := Lib.hid hS2; have HSL := Lib.hid hsl; have HT2 := Lib.hid hT2; have HTL := Lib.hid htl; have HB := Lib.hid hb0; have HT := Lib.hid htk; have HF0 := Lib.hid hF0; have HFC := Lib.hid hfc
  clear hp hS hS2 hsl hT hT2 htl hb0 htk hF0 hfc hexd hpl hfl hss hE hE3
  cases P with
  | nil =>
    replace hem : S.toList.isEmpty = true := hem
    clear hem2
    go_enter Tryd.func36, Tryd.ntmps36
    go_wp2_with fail
    refine HP.out.mono ?_
    rintro e w1 ⟨rfl, rfl⟩
    go_wp2_with fail
    refine bodyPost_ret (retF Tryd.results36 rfl rfl (Blk.new _ _ _)) rfl ⟨by rw [HF0.out, if_pos (by first | rfl | trivial)]; rfl, (by repeat (first | exact Below.refl _ _ | refine Below.setCell ?_ (by simp) _ | refine Below.alloc ?_ (by simp) _))⟩
  | cons c r =>
    replace hem : S.toList.isEmpty = false := hem
    cases F with
    | nil =>
      replace hem2 : T.toList.isEmpty = true := hem2
      go_enter Tryd.func36, Tryd.ntmps36
      go_wp2_with fail
      refine HP.out.mono ?_
      rintro e w1 ⟨rfl, rfl⟩
      go_wp2_with fail
      go_region_with (go_at_call 33; refine HFC.out.mono ?_; rintro e w2 ⟨rfl, hb2⟩; have HB2 := Lib.hid hb2; clear hb2)
      have hx := (HT.out.drew).below HB2.out (by simp)
      have HX := Lib.hid hx
      have HB1 := Lib.hid (HB.out.drew.trans (HB2.out.mono (by simp)))
      have y0 := hx.cell 0; have y1 := hx.cell 1; have y2 := hx.cell 2; have y3 := hx.cell 3; have z0 := hx.frozen 0; have z1 := hx.frozen 1; have z2 := hx.frozen 2; have z3 := hx.frozen 3
      simp at y0 y1 y2 y3
      clear hx HB
      go_wp2_with fail
      refine bodyPost_ret (retF Tryd.results36 rfl rfl HX.out.store4) rfl ⟨by rw [HF0.out, if_neg (by simp), if_pos (by first | rfl | trivial)]; exact congrArg Ending.returned (fv_i (k := 2) HS.out (by rw [← HSL.out])), ((((HB1.out.setCell (by simp) _).setCell (by simp) _).setCell (by simp) _).setCell (by simp) _)⟩
    | cons c2 r2 =>
      replace hem2 : T.toList.isEmpty = false := hem2
      have z46 : (⟨#[46]⟩ : ByteArray).size = 1 := rfl
      have f1 : ¬ 9223372036854775807 < 1 + T.size := by omega
      have f2 : ¬ 9223372036854775807 < S.size + (1 + T.size) := by omega
      have hcat : (S ++ ((⟨#[46]⟩ : ByteArray) ++ T)).data.toList = (c :: r) ++ 46 :: (c2 :: r2) := by
        rw [← HS.out, ← HT2.out]; simp
      have HCAT := Lib.hid hcat
      clear hcat
      go_enter Tryd.func36, Tryd.ntmps36
      go_wp2_with fail
      refine HP.out.mono ?_
      rintro e w1 ⟨rfl, rfl⟩
      go_wp2_with fail
      go_region_with (go_at_call 33; refine HFC.out.mono ?_; rintro e w2 ⟨rfl, hb2⟩; have HB2 := Lib.hid hb2; clear hb2)
      have hx := (HT.out.drew).below HB2.out (by simp)
      have HX := Lib.hid hx
      have HB1 := Lib.hid (HB.out.drew.trans (HB2.out.mono (by simp)))
      have y0 := hx.cell 0; have y1 := hx.cell 1; have y2 := hx.cell 2; have y3 := hx.cell 3; have z0 := hx.frozen 0; have z1 := hx.frozen 1; have z2 := hx.frozen 2; have z3 := hx.frozen 3
      simp at y0 y1 y2 y3
      clear hx HB
      go_wp2_with fail
      refine bodyPost_ret (retF Tryd.results36 rfl rfl HX.out.store4) rfl ⟨by rw [HF0.out, if_neg (by simp), if_neg (by simp)]; exact congrArg Ending.returned (fv_i (k := 2) HCAT.out (by rw [← HSL.out, ← HTL.out]; simp)), ((((HB1.out.setCell (by simp) _).setCell (by simp) _).setCell (by simp) _).setCell (by simp) _)⟩
end Go.Proofs.YteppdnlchjpekaaDoor
