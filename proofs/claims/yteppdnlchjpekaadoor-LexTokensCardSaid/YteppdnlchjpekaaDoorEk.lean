/- Package lex: the finder of texts in quotes. -/
import Derived.Test.YteppdnlchjpekaaDoorEj
namespace Go.Proofs.YteppdnlchjpekaaDoor
open Go.RowKit Lx
open Go
attribute [local go_sem] Oper.semAt_some

namespace Lx
/-- What is behind the first quote: what the marks denote, how many bytes in all. -/
def qGo : Nat → List UInt8 → List UInt8 → Nat → Option (List UInt8 × Nat)
  | 0, _, _, _ => none
  | _ + 1, [], _, _ => none
  | f + 1, c :: r, out, k =>
    if c = 34 then some (out, k + 1)
    else if (markAt (c :: r)).2 = 0 then none
    else qGo f ((c :: r).drop (markAt (c :: r)).2) (out ++ [(markAt (c :: r)).1]) (k + (markAt (c :: r)).2)
def fdOf : Option (List UInt8 × Nat) → Fnd
  | some x => (7, x.1, x.2)
  | none => no
def fQuote (l : List UInt8) : Fnd :=
  match l with
  | [] => no
  | c :: r => if c = 34 then fdOf (qGo (r.length + 1) r [] 1) else no
theorem mark_le (l : List UInt8) : (markAt l).2 ≤ l.length := by
  unfold markAt
  match l with
  | [] => exact Nat.le_refl _
  | [c] => dsimp only; (repeat' split) <;> simp
  | [c, d] => dsimp only; (repeat' split) <;> simp
  | [c, d, a] => dsimp only; (repeat' split) <;> simp
  | c :: d :: a :: b :: r => dsimp only; (repeat' split) <;> simp
end Lx
set_option maxRecDepth 100000 in
set_option maxHeartbeats 1000000 in
theorem fquote_c (s : ByteArray) (hs : s.size ≤ 1000000) (w : World) : Calls Tryd.prog 41 #[.string s] w fun e w' => e = .returned (fv (fQuote s.data.toList)) ∧ Below w.heap.size w w' := by
  have hmax : maxLen = 9223372036854775807 := rfl
  obtain ⟨F0, hF0⟩ : ∃ F0, F0 = fQuote s.data.toList := ⟨_, rfl⟩
  rw [← hF0]
  unfold fQuote at hF0
  have hpre := fun W => Tryd.strings_HasPrefix s ⟨#[34]⟩ W
  rw [show (⟨#[34]⟩ : ByteArray).data.toList = [34] from rfl, pre_one] at hpre
  have hsl := size_list s
  cases hd : s.data.toList with
  | nil =>
    rw [hd] at hpre hF0
    have HP := Lib.hid hpre; have HF0 := Lib.hid hF0
    clear hpre hsl hd hF0
    go_enter Tryd.func41, Tryd.ntmps41
    go_wp2_with fail
    refine (HP.out _).mono ?_
    rintro e w1 ⟨rfl, rfl⟩
    go_wp2_with fail
    refine bodyPost_ret (retF Tryd.results41 rfl rfl (Blk.new _ _ _)) rfl ⟨by rw [HF0.out]; rfl, (by repeat (first | exact Below.refl _ _ | refine Below.setCell ?_ (by simp) _ | refine Below.alloc ?_ (by simp) _))⟩
  | cons c r =>
    rw [hd] at hpre hsl hF0
    rw [List.length_cons] at hsl
    dsimp only at hF0
    by_cases hc : c = 34
    · subst hc
      rw [if_pos rfl] at hF0
      have hdr : s.data.toList.drop 1 = r := by rw [hd]; rfl
      have HP := Lib.hid hpre; have HF0 := Lib.hid hF0; have HDR := Lib.hid hdr; have HSL := Lib.hid hsl
      have hlast : s.size = r.length + 1 := hsl
      have htk : Blk (w.alloc (.cells #[.int .i64 0, .int .i64 0, .int .u8 0, .string ⟨#[]⟩] 44)) w.heap.size 44 #[.int .i64 0, .int .i64 0, .int .u8 0, .string ⟨#[]⟩] := Blk.new _ _ _
      have hbn := bld_new (w.alloc (.cells #[.int .i64 0, .int .i64 0, .int .u8 0, .string ⟨#[]⟩] 44))
      have hsz1 : (w.alloc (.cells #[.int .i64 0, .int .i64 0, .int .u8 0, .string ⟨#[]⟩] 44)).heap.size = w.heap.size + 1 := by simp
      rw [hsz1] at hbn
      have hb0 : Below w.heap.size w ((w.alloc (.cells #[.int .i64 0, .int .i64 0, .int .u8 0, .string ⟨#[]⟩] 44)).alloc (.cells #[.pointer none, .slice none 0 0] 60)) := ((Below.refl _ _).alloc (Nat.le_refl _) _).alloc (by simp) _
      have HTK := Lib.hid (htk.alloc (.cells #[.pointer none, .slice none 0 0] 60)); have HBN := Lib.hid hbn; have HB0 := Lib.hid hb0
      have HLAST := Lib.hid hlast
      clear hpre hsl hd hF0 hdr htk hbn hb0 hsz1 hlast
      go_enter Tryd.func41, Tryd.ntmps41
      go_wp2_with fail
      refine (HP.out _).mono ?_
      rintro e w1 ⟨rfl, rfl⟩
      go_wp2_with fail
      go_loopg [5] (s.size + 1) (fun gg s5 wr => ∃ (k f : Nat) (out : List UInt8), 1 ≤ k ∧ k ≤ s.size ∧ gg = s.size + 2 - k ∧ s5 = .int .i64 (k : Int) ∧ s.size - k + 1 ≤ f ∧ fdOf (qGo f (s.data.toList.drop k) out k) = F0 ∧ out.length ≤ k ∧
        Bld (w.heap.size + 1) out wr ∧ Blk wr w.heap.size 44 #[.int .i64 0, .int .i64 0, .int .u8 0, .string ⟨#[]⟩] ∧ Below w.heap.size w wr)
      case atStart => exact ⟨1, r.length + 1, [], Nat.le_refl _, by have := HLAST.out; omega, by omega, rfl, by have := HLAST.out; omega, by rw [HDR.out]; exact HF0.out.symm, by simp, HBN.out, HTK.out, HB0.out⟩
      case round =>
        clear HBN HTK HB0 HP HF0
        obtain ⟨k, f, out, hk1, hk, hg, rfl, hf, hq, hol, hb, hx, hu⟩ := hrel
        have HG := Lib.hid hg; have HQ := Lib.hid hq; have HBD := Lib.hid hb; have HX := Lib.hid hx; have HB1 := Lib.hid hu; have HF := Lib.hid hf
        have y0 := hx.cell 0; have y1 := hx.cell 1; have y2 := hx.cell 2; have y3 := hx.cell 3; have z0 := hx.frozen 0; have z1 := hx.frozen 1; have z2 := hx.frozen 2; have z3 := hx.frozen 3
        simp at y0 y1 y2 y3
        clear hg hq hb hx hu hf
        by_cases hlt : k < s.size
        · have hltz : (k : Int) < (s.size : Int) := by omega
          have hkl : k < s.data.toList.length := by rw [← size_list]; exact hlt
          have hdk : s.data.toList.drop k = s.data.toList[k] :: s.data.toList.drop (k + 1) := List.drop_eq_getElem_cons hkl
          obtain ⟨f', rfl⟩ : ∃ f', f = f' + 1 := ⟨f - 1, by have := HF.out; omega⟩
          have hcn : (s[k].toNat : Int) = ((s.data.toList[k]'hkl).toNat : Int) := rfl
          have hq := HQ.out
          have hex := ex_drop s k
          have hmk := markat_c (s.extract k s.size) (by rw [hex, size_list]; show 0 < (s.data.toList.drop k).length; rw [List.length_drop, ← size_list]; omega) (by rw [hex, size_list]; show (s.data.toList.drop k).length ≤ _; rw [List.length_drop, ← size_list]; omega) wr
          rw [show (s.extract k s.size).data.toList = s.data.toList.drop k by rw [hex]] at hmk
          rw [hdk, qGo] at hq
          have hml := mark_le (s.data.toList.drop k)
          rw [List.length_drop, ← size_list] at hml
          have hdd : ∀ j, (s.data.toList.drop k).drop j = s.data.toList.drop (k + j) := fun j => by rw [List.drop_drop]
          rw [← hdk] at hq
          generalize s.data.toList[k]'hkl = c at hcn hq
          obtain ⟨m, hm⟩ : ∃ m, markAt (s.data.toList.drop k) = m := ⟨_, rfl⟩
          rw [hm] at hq hmk hml
          have HDD := Lib.hid hdd; have HMK := Lib.hid hmk; have HQ2 := Lib.hid hq
          clear hdd hmk hq hdk hex hm HQ
          by_cases hc : c = 34
          · subst hc
            replace hcn : (s[k].toNat : Int) = 34 := hcn
            have hq3 := HQ2.out
            rw [if_pos rfl] at hq3
            have HF0 := Lib.hid hq3.symm
            have HST := Lib.hid (Tryd.Builder_String_any (w.heap.size + 1) (w.heap.size + 1) out wr HBD.out.1 HBD.out.2)
            clear hq3 HQ2
            go_wp2_with fail
            refine HST.out.mono ?_
            rintro e w2 ⟨rfl, hb2⟩
            have hx2 := HX.out.below hb2 (by omega)
            have HX := Lib.hid hx2
            have HB1 := Lib.hid (HB1.out.trans (hb2.mono (by omega)))
            clear y0 y1 y2 y3 z0 z1 z2 z3 hb2
            have y0 := hx2.cell 0; have y1 := hx2.cell 1; have y2 := hx2.cell 2; have y3 := hx2.cell 3; have z0 := hx2.frozen 0; have z1 := hx2.frozen 1; have z2 := hx2.frozen 2; have z3 := hx2.frozen 3
            simp at y0 y1 y2 y3
            clear hx2
            go_wp2_with fail
            refine bodyPost_ret (retF Tryd.results41 rfl rfl HX.out.store4) rfl ⟨by rw [HF0.out]; exact congrArg Ending.returned (fv_i (k := 7) (l := out) rfl (by simp)), ((((HB1.out.setCell (by simp) _).setCell (by simp) _).setCell (by simp) _).setCell (by simp) _)⟩
          · have hq3 := HQ2.out
            rw [if_neg hc] at hq3
            have n34 : ¬ (c.toNat : Int) = 34 := fun e => hc (UInt8.toNat_inj.1 (by show c.toNat = 34; omega))
            have hkz : (k : Int) ≤ (s.size : Int) := by omega
            clear HQ2 hc
            by_cases hz : m.2 = 0
            · rw [if_pos hz] at hq3
              have hz2 : (m.2 : Int) = 0 := by omega
              have HF0 := Lib.hid hq3.symm
              unfold mv at HMK
              clear hq3 hz
              go_wp2_with fail
              refine HMK.out.mono ?_
              rintro e w2 ⟨rfl, hb2⟩
              have hlw : w.heap.size < wr.heap.size := HX.out.lt
              have hx2 := HX.out.below hb2 hlw
              have HX := Lib.hid hx2
              have HB1 := Lib.hid (HB1.out.trans (hb2.mono (by omega)))
              clear y0 y1 y2 y3 z0 z1 z2 z3 hb2
              have y0 := hx2.cell 0; have y1 := hx2.cell 1; have y2 := hx2.cell 2; have y3 := hx2.cell 3; have z0 := hx2.frozen 0; have z1 := hx2.frozen 1; have z2 := hx2.frozen 2; have z3 := hx2.frozen 3
              simp at y0 y1 y2 y3
              clear hx2
              go_wp2_with fail
              refine bodyPost_ret (retF Tryd.results41 rfl rfl HX.out.store4) rfl ⟨by rw [HF0.out]; rfl, ((((HB1.out.setCell (by simp) _).setCell (by simp) _).setCell (by simp) _).setCell (by simp) _)⟩
            · rw [if_neg hz] at hq3
              have hz2 : ((m.2 : Int) == 0) = false := by rw [beq_eq_false_iff_ne]; omega
              have hz3 : ¬ (m.2 : Int) = 0 := by omega
              rw [HDD.out] at hq3
              have HQ3 := Lib.hid hq3
              unfold mv at HMK
              clear hq3
              go_wp2_with fail
              refine HMK.out.mono ?_
              rintro e w2 ⟨rfl, hb2⟩
              have hlw : w.heap.size < wr.heap.size := HX.out.lt
              have HX2 := Lib.hid (HX.out.below hb2 hlw)
              have HB2 := Lib.hid (HB1.out.trans (hb2.mono (by omega)))
              have HBD2 := Lib.hid (HBD.out.under hb2)
              have HWB := Lib.hid (bld_byte m.1 HBD2.out (by omega))
              clear hb2
              go_wp2_with fail
              refine HWB.out.mono ?_
              rintro e w3 ⟨rfl, hb3, hu3⟩
              have HX3 := Lib.hid (HX2.out.below hu3 (by omega))
              have HB3 := Lib.hid (HB2.out.trans (hu3.mono (by omega)))
              have HBD3 := Lib.hid hb3
              clear hb3 hu3
              go_wp2_with fail
              go_roundg (s.size + 2 - (k + m.2))
              case measure => have := HG.out; omega
              case rel => exact ⟨k + m.2, f', out ++ [m.1], by omega, by omega, rfl, by go_num, by have := HF.out; omega, HQ3.out, by rw [List.length_append, List.length_singleton]; omega, HBD3.out, HX3.out, HB3.out⟩
        · have hltz : ¬ (k : Int) < (s.size : Int) := by omega
          obtain rfl : k = s.size := by omega
          have hnil : s.data.toList.drop s.size = [] := List.drop_eq_nil_of_le (by rw [← size_list]; exact Nat.le_refl _)
          have hq := HQ.out
          rw [hnil] at hq
          obtain ⟨f', rfl⟩ : ∃ f', f = f' + 1 := ⟨f - 1, by have := HF.out; omega⟩
          rw [qGo] at hq
          have HF0 := Lib.hid hq.symm
          clear hnil hq
          go_wp2_with fail
          refine bodyPost_ret (retF Tryd.results41 rfl rfl HX.out.store4) rfl ⟨by rw [HF0.out]; rfl, ((((HB1.out.setCell (by simp) _).setCell (by simp) _).setCell (by simp) _).setCell (by simp) _)⟩
    · rw [if_neg hc] at hF0
      have hpre' : (some c == some (34 : UInt8)) = false := by simpa using hc
      rw [show ((c :: r).head? == some (34 : UInt8)) = false from hpre'] at hpre
      have HP := Lib.hid hpre; have HF0 := Lib.hid hF0
      clear hpre hsl hd hF0 hpre'
      go_enter Tryd.func41, Tryd.ntmps41
      go_wp2_with fail
      refine (HP.out _).mono ?_
      rintro e w1 ⟨rfl, rfl⟩
      go_wp2_with fail
      refine bodyPost_ret (retF Tryd.results41 rfl rfl (Blk.new _ _ _)) rfl ⟨by rw [HF0.out]; rfl, (by repeat (first | exact Below.refl _ _ | refine Below.setCell ?_ (by simp) _ | refine Below.alloc ?_ (by simp) _))⟩
end Go.Proofs.YteppdnlchjpekaaDoor
