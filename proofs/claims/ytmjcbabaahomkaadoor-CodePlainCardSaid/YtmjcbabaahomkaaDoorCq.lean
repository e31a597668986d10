/- CodePlain: the walk. -/
import Derived.Test.YtmjcbabaahomkaaDoorCo
import Derived.Test.YtmjcbabaahomkaaDoorCm
namespace Go.Proofs.YtmjcbabaahomkaaDoor
open Go.RowKit Cp
open Go
attribute [local go_sem] Oper.semAt_some

theorem Hands.len_ {w : World} {v : Value} {l : List UInt8} (h : Hands w v l) : ∃ A c, v = .slice A l.length c := by
  rcases h with ⟨rfl, rfl⟩ | ⟨a, c, rfl, _⟩
  · exact ⟨none, 0, rfl⟩
  · exact ⟨some a, c, rfl⟩
theorem st_diff {a b : List UInt8} {r : Bool} (h : Diff a b r) (u v : List UInt8) : stB (a ++ u) (b ++ v) = if r then -1 else 1 := by
  have h1 := h.lt u v
  have h2 := h.symm.lt v u
  unfold stB
  rw [h1]
  cases r with
  | true => rfl
  | false =>
    rw [if_neg (by decide), if_neg (fun e => by rw [e, ltB_self] at h2; cases h2)]; rfl
theorem own_ne_ (base n : Nat) : own base n ≠ [] := by rw [own]; simp
theorem numB_ne (n : Int) : numB n ≠ [] := by
  unfold numB
  split
  · exact own_ne_ _ _
  · rw [own]; simp [comp]
theorem cntB_ne {m : Nat} (h : m ≤ 2147483647) : cntB (m : Int) ≠ [] := by
  unfold cntB
  rw [if_pos ⟨by omega, by omega⟩]; exact own_ne_ _ _
theorem strB_ne (s : List UInt8) : strB s ≠ [] := by unfold strB; simp
/-- Bytes and others behind them are put together. -/
theorem both_c (a b : List UInt8) (u v : Value) (w : World) (B : Nat) (ha : Bys B a w u) (hne : a ≠ []) (hb : Hands w v b) (hl : a.length ≤ 70000000000000) (hl2 : b.length ≤ 70000000000000) :
    Calls Tryd.prog 8 #[u, v] w fun e w' => Gives w.heap.size w (a ++ b) e w' := behind_c a b u v w (ha.hands hne) hb hl hl2
def Three (p q : Prop) (z : Int) (r : Bool) : Prop := p ∨ (¬ p ∧ q ∧ z = -1 ∧ r = true) ∨ (¬ p ∧ ¬ q ∧ z = 1 ∧ r = false)

theorem num_nil (n : Int) (h0 : -9223372036854775808 ≤ n) (h1 : n ≤ 9223372036854775807) (w : World) : Calls Tryd.prog 9 #[.slice none 0 0, .int .i64 n] w fun e w' => Gives w.heap.size w (numB n) e w' := num_c [] (.slice none 0 0) n h0 h1 w (Sees.nil_ w 0 0) (by decide)
theorem cnt_nil (z : Int) (w : World) : Calls Tryd.prog 10 #[.slice none 0 0, .int .i64 z] w fun e w' => Gives w.heap.size w (cntB z) e w' := count_c [] (.slice none 0 0) z w (Sees.nil_ w 0 0) (by decide)
theorem str_nil (s : ByteArray) (hs : s.size ≤ 4000000000) (w : World) (hm : MaxAt w) : Calls Tryd.prog 11 #[.slice none 0 0, .string s] w fun e w' => Gives w.heap.size w (strB s.data.toList) e w' := str_c [] (.slice none 0 0) s hs w (Sees.nil_ w 0 0) (by decide) hm

set_option maxRecDepth 100000 in
set_option maxHeartbeats 16000000 in
theorem plain_c (n m c d : Int) (s t : ByteArray) (x y : List UInt8) (ux uy : Value) (hn : -9223372036854775808 ≤ n ∧ n ≤ 9223372036854775807) (hm : -9223372036854775808 ≤ m ∧ m ≤ 9223372036854775807) (hs : s.size ≤ maxLen) (ht : t.size ≤ maxLen)
    (w : World) (hux : Hands w ux x) (huy : Hands w uy y) (hxm : x.length ≤ maxLen) (hym : y.length ≤ maxLen) (hM : MaxAt w) :
    Calls Tryd.prog 3 #[.int .i64 n, .int .i64 m, .int .i64 c, .int .i64 d, .string s, .string t, ux, uy] w fun e w' => e = .returned (.bool true) ∧ Below w.heap.size w w' := by
  have hmax : maxLen = 9223372036854775807 := rfl
  have HM := Lib.hid hM
  have HWK := Lib.hid (works_c w hM)
  have HUX := Lib.hid hux; have HUY := Lib.hid huy
  obtain ⟨AX, CX, rfl⟩ := hux.len_
  obtain ⟨AY, CY, rfl⟩ := huy.len_
  clear hM hux huy
  obtain ⟨lx, hlx⟩ : ∃ k, x.length = k := ⟨_, rfl⟩
  obtain ⟨ly, hly⟩ : ∃ k, y.length = k := ⟨_, rfl⟩
  rw [hlx] at hxm HUX ⊢
  rw [hly] at hym HUY ⊢
  by_cases hbs : (3000 : Int) < (s.size : Int)
  · clear hlx hly
    go_enter Tryd.func3, Tryd.ntmps3
    go_wp2_with (go_at_call 7; refine HWK.out.mono ?_; rintro e w1 ⟨rfl, hb⟩; have HB := Lib.hid hb; clear hb)
    go_ret
    exact ⟨rfl, HB.out⟩
  by_cases hbt : (3000 : Int) < (t.size : Int)
  · clear hlx hly
    go_enter Tryd.func3, Tryd.ntmps3
    go_wp2_with (go_at_call 7; refine HWK.out.mono ?_; rintro e w1 ⟨rfl, hb⟩; have HB := Lib.hid hb; clear hb)
    go_ret
    exact ⟨rfl, HB.out⟩
  by_cases hbx : (3000 : Int) < (lx : Int)
  · clear hlx hly
    go_enter Tryd.func3, Tryd.ntmps3
    go_wp2_with (go_at_call 7; refine HWK.out.mono ?_; rintro e w1 ⟨rfl, hb⟩; have HB := Lib.hid hb; clear hb)
    go_ret
    exact ⟨rfl, HB.out⟩
  by_cases hby : (3000 : Int) < (ly : Int)
  · clear hlx hly
    go_enter Tryd.func3, Tryd.ntmps3
    go_wp2_with (go_at_call 7; refine HWK.out.mono ?_; rintro e w1 ⟨rfl, hb⟩; have HB := Lib.hid hb; clear hb)
    go_ret
    exact ⟨rfl, HB.out⟩
  obtain ⟨m1, hm1, hc1⟩ := and_of c
  obtain ⟨m2, hm2, hc2⟩ := and_of d
  have hln := (numB_len hn.1 hn.2).2
  have hlm := (numB_len hm.1 hm.2).2
  have hlc := cntB_len hm1
  have hld := cntB_len hm2
  have hlc4 := osz_four hm1
  have hld4 := osz_four hm2
  have hls := strB_len s.data.toList
  have hlt := strB_len t.data.toList
  have hks := count_le_len s.data.toList
  have hkt := count_le_len t.data.toList
  rw [← size_list] at hls hlt hks hkt
  have H1 : Three (n = m) (n < m) (stB (numB n ++ x) (numB m ++ y)) (decide (n < m)) := by
    by_cases h1 : n = m
    · exact .inl h1
    · have hd := st_diff (num_diff h1 hn hm) x y
      by_cases h2 : n < m
      · rw [decide_eq_true h2] at hd ⊢
        exact .inr (.inl ⟨h1, h2, hd, rfl⟩)
      · rw [decide_eq_false h2] at hd ⊢
        exact .inr (.inr ⟨h1, h2, hd, rfl⟩)
  have H2 : Three ((m1 : Int) = (m2 : Int)) (m1 < m2) (stB (cntB (m1 : Int) ++ x) (cntB (m2 : Int) ++ y)) (decide (m1 < m2)) := by
    by_cases h1 : (m1 : Int) = (m2 : Int)
    · exact .inl h1
    · have hd := st_diff (cnt_diff (n := m1) (m := m2) (by omega) hm1 hm2) x y
      by_cases h2 : m1 < m2
      · rw [decide_eq_true (by omega)] at hd
        rw [decide_eq_true h2]
        exact .inr (.inl ⟨h1, h2, hd, rfl⟩)
      · rw [decide_eq_false (by omega)] at hd
        rw [decide_eq_false h2]
        exact .inr (.inr ⟨h1, h2, hd, rfl⟩)
  have H3 : Three ((s.toList == t.toList) = true) (Op.bytesLess s.toList t.toList = true) (stB (strB s.data.toList ++ x) (strB t.data.toList ++ y)) (Op.bytesLess s.toList t.toList) := by
    rw [Lib.toList_data, Lib.toList_data, less_eq]
    by_cases h1 : (s.data.toList == t.data.toList) = true
    · exact .inl h1
    · have hd := st_diff (str_diff s.data.toList t.data.toList (fun e => h1 (by rw [e]; simp))) x y
      cases h2 : ltB s.data.toList t.data.toList with
      | true => rw [h2] at hd; exact .inr (.inl ⟨h1, rfl, hd, rfl⟩)
      | false => rw [h2] at hd; exact .inr (.inr ⟨h1, by decide, hd, rfl⟩)
  obtain ⟨z1, hz1⟩ : ∃ z, stB (numB n ++ x) (numB m ++ y) = z := ⟨_, rfl⟩
  obtain ⟨z2, hz2⟩ : ∃ z, stB (cntB (m1 : Int) ++ x) (cntB (m2 : Int) ++ y) = z := ⟨_, rfl⟩
  obtain ⟨z3, hz3⟩ : ∃ z, stB (strB s.data.toList ++ x) (strB t.data.toList ++ y) = z := ⟨_, rfl⟩
  rw [hz1] at H1; rw [hz2] at H2; rw [hz3] at H3
  have HT1 := Lib.hid H1; have HT2 := Lib.hid H2; have HT3 := Lib.hid H3
  have HZ1 := Lib.hid hz1; have HZ2 := Lib.hid hz2; have HZ3 := Lib.hid hz3
  have HC1 := Lib.hid hc1; have HC2 := Lib.hid hc2; have HLX := Lib.hid hlx; have HLY := Lib.hid hly; have HLC := Lib.hid hlc; have HLD := Lib.hid hld; have HLS := Lib.hid hls; have HLT := Lib.hid hlt
  have HLN := Lib.hid hln; have HLM := Lib.hid hlm; have HO1 := Lib.hid hlc4; have HO2 := Lib.hid hld4; have HK1 := Lib.hid hks; have HK2 := Lib.hid hkt; have HN := Lib.hid hn; have HMM := Lib.hid hm; have HM1 := Lib.hid hm1; have HM2 := Lib.hid hm2
  clear H1 H2 H3 hz1 hz2 hz3 hc1 hc2 hlx hly hlc hld hls hlt hln hlm hlc4 hld4 hks hkt hn hm hm1 hm2
  have hc1 := HC1.out; have hc2 := HC2.out
  clear HC1 HC2
  go_enter Tryd.func3, Tryd.ntmps3
  go_wp2_with fail
  refine HWK.out.mono ?_
  rintro e w1 ⟨rfl, hb⟩
  have HB1 := Lib.hid hb
  clear hb HWK
  go_wp2_with fail
  refine (num_nil n HN.out.1 HN.out.2 w1).mono ?_
  rintro e w2 ⟨uA, rfl, hy, hb⟩
  have HB2 := Lib.hid (HB1.out.trans (hb.mono HB1.out.size))
  have HYA := Lib.hid hy
  clear hy hb
  go_wp2_with fail
  refine (both_c (numB n) x uA _ w2 _ HYA.out (numB_ne n) (HUX.out.under HB2.out) (by have := HLN.out; omega) (by have := HLX.out; omega)).mono ?_
  rintro e w3 ⟨vA, rfl, hy, hb⟩
  have HB3 := Lib.hid (HB2.out.trans (hb.mono HB2.out.size))
  have HVA := Lib.hid hy
  clear hy hb HYA
  go_wp2_with fail
  refine (num_nil m HMM.out.1 HMM.out.2 w3).mono ?_
  rintro e w4 ⟨uB, rfl, hy, hb⟩
  have HB4 := Lib.hid (HB3.out.trans (hb.mono HB3.out.size))
  have HYB := Lib.hid hy
  have HVA := Lib.hid (Bys.under HVA.out hb)
  clear hy hb
  go_wp2_with fail
  refine (both_c (numB m) y uB _ w4 _ HYB.out (numB_ne m) (HUY.out.under HB4.out) (by have := HLM.out; omega) (by have := HLY.out; omega)).mono ?_
  rintro e w5 ⟨vB, rfl, hy, hb⟩
  have HB5 := Lib.hid (HB4.out.trans (hb.mono HB4.out.size))
  have HVA := Lib.hid (Bys.under HVA.out hb)
  have HVB := Lib.hid hy
  clear hy hb HYB
  go_wp2_with fail
  refine (cnt_nil (m1 : Int) w5).mono ?_
  rintro e w6 ⟨uC, rfl, hy, hb⟩
  have HB6 := Lib.hid (HB5.out.trans (hb.mono HB5.out.size))
  have HYC := Lib.hid hy
  have HVA := Lib.hid (Bys.under HVA.out hb)
  have HVB := Lib.hid (Bys.under HVB.out hb)
  clear hy hb
  go_wp2_with fail
  refine (both_c (cntB (m1 : Int)) x uC _ w6 _ HYC.out (cntB_ne HM1.out) (HUX.out.under HB6.out) (by have := HLC.out; have := HO1.out; omega) (by have := HLX.out; omega)).mono ?_
  rintro e w7 ⟨vC, rfl, hy, hb⟩
  have HB7 := Lib.hid (HB6.out.trans (hb.mono HB6.out.size))
  have HVA := Lib.hid (Bys.under HVA.out hb)
  have HVB := Lib.hid (Bys.under HVB.out hb)
  have HVC := Lib.hid hy
  clear hy hb HYC
  go_wp2_with fail
  refine (cnt_nil (m2 : Int) w7).mono ?_
  rintro e w8 ⟨uD, rfl, hy, hb⟩
  have HB8 := Lib.hid (HB7.out.trans (hb.mono HB7.out.size))
  have HYD := Lib.hid hy
  have HVA := Lib.hid (Bys.under HVA.out hb)
  have HVB := Lib.hid (Bys.under HVB.out hb)
  have HVC := Lib.hid (Bys.under HVC.out hb)
  clear hy hb
  go_wp2_with fail
  refine (both_c (cntB (m2 : Int)) y uD _ w8 _ HYD.out (cntB_ne HM2.out) (HUY.out.under HB8.out) (by have := HLD.out; have := HO2.out; omega) (by have := HLY.out; omega)).mono ?_
  rintro e w9 ⟨vD, rfl, hy, hb⟩
  have HB9 := Lib.hid (HB8.out.trans (hb.mono HB8.out.size))
  have HVA := Lib.hid (Bys.under HVA.out hb)
  have HVB := Lib.hid (Bys.under HVB.out hb)
  have HVC := Lib.hid (Bys.under HVC.out hb)
  have HVD := Lib.hid hy
  clear hy hb HYD
  go_wp2_with fail
  refine (str_nil s (by omega) w9 (HM.out.under HB9.out)).mono ?_
  rintro e w10 ⟨uE, rfl, hy, hb⟩
  have HB10 := Lib.hid (HB9.out.trans (hb.mono HB9.out.size))
  have HYE := Lib.hid hy
  have HVA := Lib.hid (Bys.under HVA.out hb)
  have HVB := Lib.hid (Bys.under HVB.out hb)
  have HVC := Lib.hid (Bys.under HVC.out hb)
  have HVD := Lib.hid (Bys.under HVD.out hb)
  clear hy hb
  go_wp2_with fail
  refine (both_c (strB s.data.toList) x uE _ w10 _ HYE.out (strB_ne _) (HUX.out.under HB10.out) (by have := HLS.out; have := HK1.out; omega) (by have := HLX.out; omega)).mono ?_
  rintro e w11 ⟨vE, rfl, hy, hb⟩
  have HB11 := Lib.hid (HB10.out.trans (hb.mono HB10.out.size))
  have HVA := Lib.hid (Bys.under HVA.out hb)
  have HVB := Lib.hid (Bys.under HVB.out hb)
  have HVC := Lib.hid (Bys.under HVC.out hb)
  have HVD := Lib.hid (Bys.under HVD.out hb)
  have HVE := Lib.hid hy
  clear hy hb HYE
  go_wp2_with fail
  refine (str_nil t (by omega) w11 (HM.out.under HB11.out)).mono ?_
  rintro e w12 ⟨uF, rfl, hy, hb⟩
  have HB12 := Lib.hid (HB11.out.trans (hb.mono HB11.out.size))
  have HYF := Lib.hid hy
  have HVA := Lib.hid (Bys.under HVA.out hb)
  have HVB := Lib.hid (Bys.under HVB.out hb)
  have HVC := Lib.hid (Bys.under HVC.out hb)
  have HVD := Lib.hid (Bys.under HVD.out hb)
  have HVE := Lib.hid (Bys.under HVE.out hb)
  clear hy hb
  go_wp2_with fail
  refine (both_c (strB t.data.toList) y uF _ w12 _ HYF.out (strB_ne _) (HUY.out.under HB12.out) (by have := HLT.out; have := HK2.out; omega) (by have := HLY.out; omega)).mono ?_
  rintro e w13 ⟨vF, rfl, hy, hb⟩
  have HB13 := Lib.hid (HB12.out.trans (hb.mono HB12.out.size))
  have HVA := Lib.hid (Bys.under HVA.out hb)
  have HVB := Lib.hid (Bys.under HVB.out hb)
  have HVC := Lib.hid (Bys.under HVC.out hb)
  have HVD := Lib.hid (Bys.under HVD.out hb)
  have HVE := Lib.hid (Bys.under HVE.out hb)
  have HVF := Lib.hid hy
  clear hy hb HYF
  have HS1 := Lib.hid fun W (hW : Below w13.heap.size w13 W) => stands_c _ _ vA vB W (Bys.under HVA.out hW).sees (Bys.under HVB.out hW).sees
  have HS2 := Lib.hid fun W (hW : Below w13.heap.size w13 W) => stands_c _ _ vC vD W (Bys.under HVC.out hW).sees (Bys.under HVD.out hW).sees
  have HS3 := Lib.hid fun W (hW : Below w13.heap.size w13 W) => stands_c _ _ vE vF W (Bys.under HVE.out hW).sees (Bys.under HVF.out hW).sees
  rw [HZ1.out] at HS1; rw [HZ2.out] at HS2; rw [HZ3.out] at HS3
  have HB0 := Lib.hid (Below.refl w13.heap.size w13)
  clear HVA HVB HVC HVD HVE HVF HZ1 HZ2 HZ3 HUX HUY HLX HLY HLC HLD HLS HLT HLN HLM HO1 HO2 HK1 HK2 HN HMM HM1 HM2 HM hbs hbt hbx hby hc1 hc2
  rcases HT1.out with h1 | ⟨h1, h1b, rfl, h1c⟩ | ⟨h1, h1b, rfl, h1c⟩ <;> rcases HT2.out with h2 | ⟨h2, h2b, rfl, h2c⟩ | ⟨h2, h2b, rfl, h2c⟩ <;> rcases HT3.out with h3 | ⟨h3, h3b, rfl, h3c⟩ | ⟨h3, h3b, rfl, h3c⟩
  all_goals
    try simp only [Bool.not_eq_true] at h3
    clear HT1 HT2 HT3
    try clear h1b
    try clear h2b
    try clear h3b
    go_wp2_with (go_at_call 12; (first | (with_reducible refine (HS1.out _ HB0.out).mono ?_) | (with_reducible refine (HS2.out _ HB0.out).mono ?_) | (with_reducible refine (HS3.out _ HB0.out).mono ?_)); rintro e w' ⟨rfl, rfl⟩)
    go_ret
    exact ⟨rfl, HB13.out⟩
end Go.Proofs.YtmjcbabaahomkaaDoor
