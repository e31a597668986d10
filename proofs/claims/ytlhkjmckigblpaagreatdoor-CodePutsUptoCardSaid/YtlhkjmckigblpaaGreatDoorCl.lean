/- Package code: what each statement asks first: something is written and read. -/
import Derived.Test.YtlhkjmckigblpaaGreatDoorCk
namespace Go.Proofs.YtlhkjmckigblpaaGreatDoor
open Go.RowKit Cp
open Go
attribute [local go_sem] Oper.semAt_some

theorem cnt300 : [] ++ cntB 300 = [2, 1, 44] := by decide +kernel
theorem num1 : [2, 1, 44] ++ numB (-1) = [2, 1, 44, 127] := by decide +kernel
theorem str2 : [2, 1, 44, 127] ++ strB (⟨#[97, 0]⟩ : ByteArray).data.toList = [2, 1, 44, 127, 97, 0, 255, 0, 0] := by decide +kernel
theorem flg3 : [2, 1, 44, 127, 97, 0, 255, 0, 0] ++ flgB true = [2, 1, 44, 127, 97, 0, 255, 0, 0, 1] := by decide +kernel
theorem fits2 : Fits 2 0 [1, 44, 127, 97, 0, 255, 0, 0, 1] := ⟨by decide, by decide, fun _ => by show (1 : UInt8) ≠ 0; decide⟩
theorem fits0 : Fits 0 255 [97, 0, 255, 0, 0, 1] := ⟨by decide, by decide, fun h => absurd h (by decide)⟩

set_option maxRecDepth 100000 in
set_option maxHeartbeats 4000000 in
theorem works_c (w : World) (hm : MaxAt w) :
    Calls Tryz.prog 9 #[] w fun e w' => e = .returned (.bool true) ∧ Below w.heap.size w w' := by
  have HM := Lib.hid hm
  have H1 := Lib.hid (count_c [] (.slice none 0 0) 300 w (Sees.nil_ w 0 0) (by decide))
  rw [cnt300] at H1
  clear hm
  go_enter Tryz.func9, Tryz.ntmps9
  go_wp2_with fail
  refine H1.out.mono ?_
  rintro e w1 ⟨v1, rfl, hy, hb⟩
  have H2 := Lib.hid (num_c _ v1 (-1) (by decide) (by decide) w1 hy.sees (by decide)); have HB1 := Lib.hid hb
  rw [num1] at H2
  clear hy hb
  go_wp2_with fail
  refine H2.out.mono ?_
  rintro e w2 ⟨v2, rfl, hy, hb⟩
  have HB2 := Lib.hid (HB1.out.trans (hb.mono HB1.out.size))
  have H3 := Lib.hid (str_c _ v2 ⟨#[97, 0]⟩ (by decide) w2 hy.sees (by decide) (HM.out.under HB2.out))
  rw [str2] at H3
  clear hy hb
  go_wp2_with fail
  refine H3.out.mono ?_
  rintro e w3 ⟨v3, rfl, hy, hb⟩
  have HB3 := Lib.hid (HB2.out.trans (hb.mono HB2.out.size))
  have H4 := Lib.hid (flag_c _ v3 true w3 hy.sees (by decide))
  rw [flg3] at H4
  clear hy hb
  go_wp2_with fail
  refine H4.out.mono ?_
  rintro e w4 ⟨v4, rfl, hy, hb⟩
  have HB4 := Lib.hid (HB3.out.trans (hb.mono HB3.out.size))
  have HY := Lib.hid hy
  have H5 := Lib.hid (newReader_c _ v4 w4 hy.sees (by decide))
  clear hy hb
  go_wp2_with fail
  refine H5.out.mono ?_
  rintro e w5 ⟨p, B, rfl, hr, hp, hb⟩
  have HB5 := Lib.hid (HB4.out.trans (hb.mono HB4.out.size))
  have hcv := conv_c (HY.out.under hb).sees
  have hwp : w.heap.size ≤ p := Nat.le_trans HB4.out.size hp
  have H6 := Lib.hid (countP_c p B 300 _ _ _ w5 hr fun W h => count_ok p B 2 300 0 2 (.inl rfl) 300 _ false W (by decide) fits2 (by decide +kernel) (by decide) (by decide) h)
  clear hr hp hb
  go_wp2_with fail
  refine H6.out.mono ?_
  rintro e w6 ⟨rfl, hr, hg⟩
  have HB6 := Lib.hid (HB5.out.trans (grown_below hg hwp HB5.out.size))
  have H7 := Lib.hid (numP_c p B _ _ _ w6 hr (num_ok p B 0 0 255 127 (.inl ⟨by decide, rfl⟩) _ false w6 (by decide) fits0 (by decide +kernel) (by decide) hr))
  clear hr hg hcv
  go_wp2_with fail
  refine H7.out.mono ?_
  rintro e w7 ⟨rfl, hr, hg⟩
  have HB7 := Lib.hid (HB6.out.trans (grown_below hg hwp HB6.out.size))
  have H8 := Lib.hid (strP_c p B 2 _ [1] _ w7 hr fun W h => str_ok p B [97, 0] [1] 2 false W (by decide) (by decide) h)
  clear hr hg
  go_wp2_with fail
  refine H8.out.mono ?_
  rintro e w8 ⟨rfl, hr, hg⟩
  have HB8 := Lib.hid (HB7.out.trans (grown_below hg hwp HB7.out.size))
  have H9 := Lib.hid (done_c p B [1] false w8 hr); have HR8 := Lib.hid hr
  clear hr hg
  go_wp2_with fail
  refine H9.out.mono ?_
  rintro e w9 ⟨rfl, rfl⟩
  have H10 := Lib.hid (flagP_c p B [1] [] (.bool true) w8 HR8.out (flag_ok p B true [] false w8 HR8.out))
  go_wp2_with fail
  refine H10.out.mono ?_
  rintro e w10 ⟨rfl, hr, hg⟩
  have HB10 := Lib.hid (HB8.out.trans (grown_below hg hwp HB8.out.size))
  have H11 := Lib.hid (done_c p B [] false w10 hr)
  clear hr hg
  go_wp2_with fail
  refine H11.out.mono ?_
  rintro e w11 ⟨rfl, rfl⟩
  go_wp2_with fail
  go_ret
  exact ⟨rfl, HB10.out⟩
end Go.Proofs.YtlhkjmckigblpaaGreatDoor
