/- CodeOrder: the walk, with the document's own order. -/
import Derived.Test.YtddmegbhefmloaaGreatDoorYn
import Derived.Test.YtddmegbhefmloaaGreatDoorQWp
namespace Go.Proofs.YtddmegbhefmloaaGreatDoor
open Go.RowKit Go.Shelf Vp Cp Tx
open Go
attribute [local go_sem] Oper.semAt_some

theorem hands_len {w : World} {v : Value} {l : List UInt8} (h : Hands w v l) : ∃ A c, v = .slice A l.length c := by
  rcases h with ⟨rfl, rfl⟩ | ⟨a, c, rfl, _⟩
  · exact ⟨none, 0, rfl⟩
  · exact ⟨some a, c, rfl⟩
theorem stb_diff {a b : List UInt8} {r : Bool} (h : Diff a b r) (u v : List UInt8) : stB (a ++ u) (b ++ v) = if r then -1 else 1 := by
  have h1 := h.lt u v
  have h2 := h.symm.lt v u
  unfold stB
  rw [h1]
  cases r with
  | true => rfl
  | false =>
    rw [if_neg (by decide), if_neg (fun e => by rw [e, ltB_self] at h2; cases h2)]; rfl

theorem enc_ne (t : V) : encV t ≠ [] := by cases t; rw [encV]; simp
theorem val_nil {t : V} {u : Value} {w W : World} (hv : VRep w w.heap.size t u) (hb : Below w.heap.size w W) (hM : MaxB w.heap.size w) (hn : Narrow t false) :
    Calls Tryz.prog 23 #[.slice none 0 0, u] W fun e w' => Gives W.heap.size W (valB t) e w' := by
  have h := value_c [] (.slice none 0 0) t u W (Sees.nil_ W 0 0) ((hv.under hb).more hb.size) (by decide) (fun hc => by have := (few_bytes hv rfl hn hc).2; simp; omega) ⟨Nat.lt_of_lt_of_le hM.1 hb.size, (hM.under hb).2⟩
  rwa [List.nil_append] at h

set_option maxRecDepth 100000 in
set_option maxHeartbeats 16000000 in
theorem order_c (t t' : V) (u u' : Value) (x y : List UInt8) (ux uy : Value) (z : Int) (w : World) (hv : VRep w w.heap.size t u) (hv' : VRep w w.heap.size t' u') (hux : Hands w ux x) (huy : Hands w uy y) (hxm : x.length ≤ maxLen) (hym : y.length ≤ maxLen) (hM : MaxB w.heap.size w)
    (hcmp : chkV t = 0 → chkV t' = 0 → ∀ W, Below w.heap.size w W → Calls Tryz.prog 42 #[u, u'] W fun e w' => e = .returned (.int .i64 z) ∧ Below W.heap.size W w')
    (hz : chkV t = 0 → chkV t' = 0 → z = cmpV zE t t') (hz1 : z = -1 ∨ z = 0 ∨ z = 1) :
    Calls Tryz.prog 6 #[u, u', ux, uy] w fun e w' => e = .returned (.bool true) ∧ Below w.heap.size w w' := by
  have hmax : maxLen = 9223372036854775807 := rfl
  obtain ⟨k, n, s, its, A, c, ht, rfl, hk, hn, hs, hR⟩ := hv.open_
  obtain ⟨k', n', s', its', A', c', ht', rfl, hk', hn', hs', hR'⟩ := hv'.open_
  obtain ⟨W, hW⟩ : ∃ W, W = (w.alloc (.cells #[.int .u8 (k : Int), .int .i64 n, .string s, .slice A its.length c] 34)).alloc (.cells #[.int .u8 (k' : Int), .int .i64 n', .string s', .slice A' its'.length c'] 34) := ⟨_, rfl⟩
  have hBW : Below w.heap.size w W := hW ▸ ((Below.refl _ _).alloc (Nat.le_refl _) _).alloc (by simp) _
  have hsz : w.heap.size + 1 < W.heap.size := by rw [hW]; simp
  have bA : Blk W w.heap.size 34 #[.int .u8 (k : Int), .int .i64 n, .string s, .slice A its.length c] := hW ▸ (Blk.new _ _ _).alloc _
  have bB : Blk W (w.heap.size + 1) 34 #[.int .u8 (k' : Int), .int .i64 n', .string s', .slice A' its'.length c'] := hW ▸ (by have := Blk.new (w.alloc (.cells #[.int .u8 (k : Int), .int .i64 n, .string s, .slice A its.length c] 34)) 34 #[.int .u8 (k' : Int), .int .i64 n', .string s', .slice A' its'.length c']; simpa using this)
  have HC : Hid (∀ W', Below W.heap.size W W' → (W'.cell? ⟨w.heap.size, 0, none⟩ = some (.int .u8 (k : Int)) ∧ W'.cell? ⟨w.heap.size, 1, none⟩ = some (.int .i64 n) ∧ W'.cell? ⟨w.heap.size, 2, none⟩ = some (.string s) ∧ W'.cell? ⟨w.heap.size, 3, none⟩ = some (.slice A its.length c)) ∧ (W'.cell? ⟨w.heap.size + 1, 0, none⟩ = some (.int .u8 (k' : Int)) ∧ W'.cell? ⟨w.heap.size + 1, 1, none⟩ = some (.int .i64 n') ∧ W'.cell? ⟨w.heap.size + 1, 2, none⟩ = some (.string s') ∧ W'.cell? ⟨w.heap.size + 1, 3, none⟩ = some (.slice A' its'.length c'))) := Lib.hid fun W' hb => ⟨s_of (bA.below hb (by omega)), s_of (bB.below hb hsz)⟩
  have HBW := Lib.hid hBW
  have tow : ∀ W', Below W.heap.size W W' → Below w.heap.size w W' := fun W' hb => hBW.trans (hb.mono hBW.size)
  have HW1 : Hid (∀ W', Below W.heap.size W W' → Calls Tryz.prog 29 #[.agg #[.int .u8 (k : Int), .int .i64 n, .string s, .slice A its.length c]] W' fun e w' => TellsWide t e ∧ Below W'.heap.size W' w') := Lib.hid fun W' hb => wide_c t _ W' ((hv.under (tow _ hb)).more (tow _ hb).size)
  have HW2 : Hid (∀ W', Below W.heap.size W W' → Calls Tryz.prog 29 #[.agg #[.int .u8 (k' : Int), .int .i64 n', .string s', .slice A' its'.length c']] W' fun e w' => TellsWide t' e ∧ Below W'.heap.size W' w') := Lib.hid fun W' hb => wide_c t' _ W' ((hv'.under (tow _ hb)).more (tow _ hb).size)
  have HWK : Hid (∀ W', Below W.heap.size W W' → Calls Tryz.prog 11 #[] W' fun e w' => e = .returned (.bool true) ∧ Below W'.heap.size W' w') := Lib.hid fun W' hb => works_c W' (hM.under (tow _ hb)).2
  have HCM : Hid (chkV t = 0 → chkV t' = 0 → ∀ W', Below W.heap.size W W' → Calls Tryz.prog 42 #[.agg #[.int .u8 (k : Int), .int .i64 n, .string s, .slice A its.length c], .agg #[.int .u8 (k' : Int), .int .i64 n', .string s', .slice A' its'.length c']] W' fun e w' => e = .returned (.int .i64 z) ∧ Below W'.heap.size W' w') := Lib.hid fun ha ha' W' hb => hcmp ha ha' W' (tow _ hb)
  have HV := Lib.hid hv; have HV' := Lib.hid hv'; have HM := Lib.hid hM; have HZ := Lib.hid hz; have HZ1 := Lib.hid hz1
  have HUX := Lib.hid hux; have HUY := Lib.hid huy; have HSZ := Lib.hid hsz
  have HB := Lib.hid (Below.refl W.heap.size W)
  obtain ⟨AX, CX, rfl⟩ := hands_len hux
  obtain ⟨AY, CY, rfl⟩ := hands_len huy
  have HWE := Lib.hid hW
  rw [hW] at HC HW1 HW2 HWK HCM HB HSZ HBW
  clear hv hv' hM hcmp hz hz1 hux huy tow bA bB hBW hsz hR hR' ht ht' hW HWE
  obtain ⟨lx, hlx⟩ : ∃ k, x.length = k := ⟨_, rfl⟩
  obtain ⟨ly, hly⟩ : ∃ k, y.length = k := ⟨_, rfl⟩
  rw [hlx] at hxm HUX ⊢
  rw [hly] at hym HUY ⊢
  by_cases hbx : (3000 : Int) < (lx : Int)
  · clear hlx hly
    go_enter Tryz.func6, Tryz.ntmps6
    go_wp2_with fail
    refine (HW1.out _ HB.out).mono ?_
    rintro e w1 ⟨⟨q1, rfl, hq1⟩, hb1⟩
    have HB1 := Lib.hid (HB.out.trans (hb1.mono HB.out.size)); clear HB; have HB := HB1; clear HB1 hb1
    obtain ⟨⟨x0, x1, x2, x3⟩, y0, y1, y2, y3⟩ := HC.out _ HB.out
    have HQ1 := Lib.hid hq1; clear hq1
    cases q1
    · go_wp2_with fail
      refine (HW2.out _ HB.out).mono ?_
      rintro e w2 ⟨⟨q2, rfl, hq2⟩, hb2⟩
      have HB1 := Lib.hid (HB.out.trans (hb2.mono HB.out.size)); clear HB; have HB := HB1; clear HB1 hb2
      obtain ⟨⟨x0, x1, x2, x3⟩, y0, y1, y2, y3⟩ := HC.out _ HB.out
      have HQ2 := Lib.hid hq2; clear hq2
      cases q2
      · go_wp2_with fail
        refine (HWK.out _ HB.out).mono ?_
        rintro e w9 ⟨rfl, hb9⟩
        have HB9 := Lib.hid (HBW.out.trans ((HB.out.trans (hb9.mono HB.out.size)).mono HBW.out.size)); clear hb9
        go_wp2_with fail
        go_ret
        exact ⟨rfl, HB9.out⟩
      · go_wp2_with fail
        refine (HWK.out _ HB.out).mono ?_
        rintro e w9 ⟨rfl, hb9⟩
        have HB9 := Lib.hid (HBW.out.trans ((HB.out.trans (hb9.mono HB.out.size)).mono HBW.out.size)); clear hb9
        go_wp2_with fail
        go_ret
        exact ⟨rfl, HB9.out⟩
    · go_wp2_with fail
      refine (HWK.out _ HB.out).mono ?_
      rintro e w9 ⟨rfl, hb9⟩
      have HB9 := Lib.hid (HBW.out.trans ((HB.out.trans (hb9.mono HB.out.size)).mono HBW.out.size)); clear hb9
      go_wp2_with fail
      go_ret
      exact ⟨rfl, HB9.out⟩
  by_cases hby : (3000 : Int) < (ly : Int)
  · clear hlx hly
    go_enter Tryz.func6, Tryz.ntmps6
    go_wp2_with fail
    refine (HW1.out _ HB.out).mono ?_
    rintro e w1 ⟨⟨q1, rfl, hq1⟩, hb1⟩
    have HB1 := Lib.hid (HB.out.trans (hb1.mono HB.out.size)); clear HB; have HB := HB1; clear HB1 hb1
    obtain ⟨⟨x0, x1, x2, x3⟩, y0, y1, y2, y3⟩ := HC.out _ HB.out
    have HQ1 := Lib.hid hq1; clear hq1
    cases q1
    · go_wp2_with fail
      refine (HW2.out _ HB.out).mono ?_
      rintro e w2 ⟨⟨q2, rfl, hq2⟩, hb2⟩
      have HB1 := Lib.hid (HB.out.trans (hb2.mono HB.out.size)); clear HB; have HB := HB1; clear HB1 hb2
      obtain ⟨⟨x0, x1, x2, x3⟩, y0, y1, y2, y3⟩ := HC.out _ HB.out
      have HQ2 := Lib.hid hq2; clear hq2
      cases q2
      · go_wp2_with fail
        refine (HWK.out _ HB.out).mono ?_
        rintro e w9 ⟨rfl, hb9⟩
        have HB9 := Lib.hid (HBW.out.trans ((HB.out.trans (hb9.mono HB.out.size)).mono HBW.out.size)); clear hb9
        go_wp2_with fail
        go_ret
        exact ⟨rfl, HB9.out⟩
      · go_wp2_with fail
        refine (HWK.out _ HB.out).mono ?_
        rintro e w9 ⟨rfl, hb9⟩
        have HB9 := Lib.hid (HBW.out.trans ((HB.out.trans (hb9.mono HB.out.size)).mono HBW.out.size)); clear hb9
        go_wp2_with fail
        go_ret
        exact ⟨rfl, HB9.out⟩
    · go_wp2_with fail
      refine (HWK.out _ HB.out).mono ?_
      rintro e w9 ⟨rfl, hb9⟩
      have HB9 := Lib.hid (HBW.out.trans ((HB.out.trans (hb9.mono HB.out.size)).mono HBW.out.size)); clear hb9
      go_wp2_with fail
      go_ret
      exact ⟨rfl, HB9.out⟩
  go_enter Tryz.func6, Tryz.ntmps6
  go_wp2_with fail
  refine (HW1.out _ HB.out).mono ?_
  rintro e w1 ⟨⟨q1, rfl, hq1⟩, hb1⟩
  have HB1 := Lib.hid (HB.out.trans (hb1.mono HB.out.size)); clear HB; have HB := HB1; clear HB1 hb1
  obtain ⟨⟨x0, x1, x2, x3⟩, y0, y1, y2, y3⟩ := HC.out _ HB.out
  have HQ1 := Lib.hid hq1; clear hq1
  cases q1
  · go_wp2_with fail
    refine (HW2.out _ HB.out).mono ?_
    rintro e w2 ⟨⟨q2, rfl, hq2⟩, hb2⟩
    have HB1 := Lib.hid (HB.out.trans (hb2.mono HB.out.size)); clear HB; have HB := HB1; clear HB1 hb2
    obtain ⟨⟨x0, x1, x2, x3⟩, y0, y1, y2, y3⟩ := HC.out _ HB.out
    have HQ2 := Lib.hid hq2; clear hq2
    cases q2
    · go_wp2_with fail
      refine (HWK.out _ HB.out).mono ?_
      rintro e w3 ⟨rfl, hb3⟩
      have HB1 := Lib.hid (HB.out.trans (hb3.mono HB.out.size)); clear HB; have HB := HB1; clear HB1 hb3
      obtain ⟨⟨x0, x1, x2, x3⟩, y0, y1, y2, y3⟩ := HC.out _ HB.out
      have HVA := Lib.hid (val_nil HV.out (HBW.out.trans (HB.out.mono HBW.out.size)).drew HM.out HQ1.out)
      have HVB : Hid (∀ W', Below w.heap.size w W' → Calls Tryz.prog 23 #[.slice none 0 0, .agg #[.int .u8 (k' : Int), .int .i64 n', .string s', .slice A' its'.length c']] W' fun e w' => Gives W'.heap.size W' (valB t') e w') := Lib.hid fun W' hb => val_nil HV'.out hb HM.out HQ2.out
      have HS0 := Lib.hid (HC.out _ HB.out.drew)
      have HBD := Lib.hid HB.out.drew
      clear HB x0 x1 x2 x3 y0 y1 y2 y3
      go_upto_region 3 with fail
      refine chain_region (fun W' => (W'.cell? ⟨w.heap.size, 0, none⟩ = some (.int .u8 (k : Int)) ∧ W'.cell? ⟨w.heap.size, 1, none⟩ = some (.int .i64 n) ∧ W'.cell? ⟨w.heap.size, 2, none⟩ = some (.string s) ∧ W'.cell? ⟨w.heap.size, 3, none⟩ = some (.slice A its.length c)) ∧ (W'.cell? ⟨w.heap.size + 1, 0, none⟩ = some (.int .u8 (k' : Int)) ∧ W'.cell? ⟨w.heap.size + 1, 1, none⟩ = some (.int .i64 n') ∧ W'.cell? ⟨w.heap.size + 1, 2, none⟩ = some (.string s') ∧ W'.cell? ⟨w.heap.size + 1, 3, none⟩ = some (.slice A' its'.length c'))) 6 (by kernel_rfl) ?_
      refine T_take (i := 0) (v := .agg #[.int .u8 (k : Int), .int .i64 n, .string s, .slice A its.length c]) rfl (by kernel_rfl) (fun _ _ _ h => h) rfl (fun W hS => by obtain ⟨⟨h1, h2, h3, h4⟩, _⟩ := hS; go_simp) HS0.out ?_
      refine T_take (i := 2) (v := .agg #[.int .u8 (k' : Int), .int .i64 n', .string s', .slice A' its'.length c']) rfl (by kernel_rfl) (fun _ _ _ h => h) rfl (fun W hS => by obtain ⟨_, h1, h2, h3, h4⟩ := hS; go_simp) HS0.out ?_
      refine T_one (i := 1) rfl (by kernel_rfl) rfl ?_
      refine op_callT #[.slice none 0 0, .agg #[.int .u8 (k : Int), .int .i64 n, .string s, .slice A its.length c]] (by simp [go_sem]) (enters_of Tryz.func23 (by kernel_rfl) rfl _ _) HVA.out ?_
      rintro e w4 ⟨v4, rfl, hy4, hb4⟩
      obtain ⟨A4, C4, rfl, _, _, _⟩ := own_slice hy4
      have HB4 := Lib.hid (HBD.out.trans (hb4.mono HBD.out.size))
      have HY4 := Lib.hid hy4
      clear hy4 hb4
      refine ⟨_, rfl, fun _ => HC.out _ HB4.out, ?_⟩
      refine T_one (i := 3) rfl (by kernel_rfl) rfl ?_
      refine op_callT #[.slice none 0 0, .agg #[.int .u8 (k' : Int), .int .i64 n', .string s', .slice A' its'.length c']] (by simp [go_sem]) (enters_of Tryz.func23 (by kernel_rfl) rfl _ _) (HVB.out _ (HBW.out.trans (HB4.out.mono HBW.out.size))) ?_
      rintro e w5 ⟨v5, rfl, hy5, hb5⟩
      obtain ⟨A5, C5, rfl, _, _, _⟩ := own_slice hy5
      have HB := Lib.hid (HB4.out.trans (hb5.mono HB4.out.size))
      have HYA := Lib.hid (HY4.out.under hb5)
      have HYB := Lib.hid hy5
      clear hy5 hb5 HB4 HY4 HBD HS0 HVA HVB
      refine ⟨_, rfl, fun _ => HC.out _ HB.out, ?_⟩
      refine T_one (i := 4) rfl (by kernel_rfl) rfl ?_
      go_simp
      refine ⟨HC.out _ HB.out, ?_⟩
      refine T_one (i := 5) rfl (by kernel_rfl) rfl ?_
      go_simp
      refine ⟨HC.out _ HB.out, ?_⟩
      refine T_done (by kernel_rfl) ?_
      have HBF := Lib.hid (HBW.out.trans (HB.out.mono HBW.out.size))
      obtain ⟨⟨x0, x1, x2, x3⟩, y0, y1, y2, y3⟩ := HC.out _ HB.out
      by_cases hA : chkV t = 0
      · by_cases hA' : chkV t' = 0
        · have ea : valB t = encV t := if_pos hA
          have eb : valB t' = encV t' := if_pos hA'
          have ok1 := few_bytes HV.out rfl HQ1.out hA
          have ok2 := few_bytes HV'.out rfl HQ2.out hA'
          have hag := enc_diff zE zE_diff t ok1.1 t' ok2.1
          unfold Agree at hag
          rw [← HZ.out hA hA'] at hag
          have HCM2 := Lib.hid (HCM.out hA hA')
          have n1 := enc_ne t; have n2 := enc_ne t'
          have l1 := ok1.2; have l2 := ok2.2
          rw [ea] at HYA ⊢
          rw [eb] at HYB ⊢
          clear ok1 ok2 ea eb HZ HQ1 HQ2 HV HV' hA hA'
          generalize encV t = ab at hag n1 l1 HYA ⊢
          generalize encV t' = bb at hag n2 l2 HYB ⊢
          have m1 : ((ab.length : Int) == 0) = false := by rw [beq_eq_false_iff_ne]; exact fun e => n1 (List.length_eq_zero_iff.1 (by omega))
          have m2 : ((bb.length : Int) == 0) = false := by rw [beq_eq_false_iff_ne]; exact fun e => n2 (List.length_eq_zero_iff.1 (by omega))
          have st1 : stB ab bb = z := by
            rcases HZ1.out with h | h | h
            · have d := stb_diff (hag.2 (by omega)) [] []
              rw [List.append_nil, List.append_nil, h] at d; rw [d, h]; rfl
            · rw [hag.1 h, h]; unfold stB; rw [ltB_self]; simp
            · have d := stb_diff (hag.2 (by omega)) [] []
              rw [List.append_nil, List.append_nil, h] at d; rw [d, h]; rfl
          have st2 : z ≠ 0 → stB (ab ++ x) (bb ++ y) = z := fun h0 => by
            have d := stb_diff (hag.2 h0) x y
            rcases HZ1.out with h | h | h
            · rw [h] at d; rw [d, h]; rfl
            · exact absurd h h0
            · rw [h] at d; rw [d, h]; rfl
          have ST1 := Lib.hid st1; have ST2 := Lib.hid st2; have N1 := Lib.hid n1; have N2 := Lib.hid n2; have L1 := Lib.hid l1; have L2 := Lib.hid l2
          have HXL := Lib.hid hlx; have HYL := Lib.hid hly
          clear hag st1 st2 n1 n2 l1 l2 hlx hly HZ1
          have hz0 : z = 0 ∨ ¬ z = 0 := by omega
          go_wp2_with fail
          refine (HCM2.out _ HB.out).mono ?_
          rintro e w6 ⟨rfl, hb6⟩
          have HB6 := Lib.hid (HBF.out.trans (hb6.mono HBF.out.size))
          have HYA6 := Lib.hid (HYA.out.under hb6); have HYB6 := Lib.hid (HYB.out.under hb6)
          have HSA := Lib.hid (stands_c ab bb _ _ w6 HYA6.out.sees HYB6.out.sees)
          rw [ST1.out] at HSA
          clear hb6 HYA HYB HB HBF x0 x1 x2 x3 y0 y1 y2 y3
          rcases hz0 with rfl | hz0
          · go_wp2_with fail
            refine HSA.out.mono ?_
            rintro e w7 ⟨rfl, rfl⟩
            go_wp2_with fail
            go_ret
            exact ⟨rfl, HB6.out⟩
          · have S2 := Lib.hid (ST2.out hz0)
            go_wp2_with fail
            refine HSA.out.mono ?_
            rintro e w7 ⟨rfl, rfl⟩
            have HBA := Lib.hid (behind_c ab x _ _ w6 (HYA6.out.hands N1.out) (HUX.out.under HB6.out) (by have := L1.out; omega) (by have := HXL.out; omega))
            go_wp2_with fail
            refine HBA.out.mono ?_
            rintro e w8 ⟨v8, rfl, hy8, hb8⟩
            have HB8 := Lib.hid (HB6.out.trans (hb8.mono HB6.out.size))
            have HBB := Lib.hid (behind_c bb y _ _ w8 ((HYB6.out.under hb8).hands N2.out) (HUY.out.under HB8.out) (by have := L2.out; omega) (by have := HYL.out; omega))
            have HY8 := Lib.hid hy8
            clear hy8 hb8
            go_wp2_with fail
            refine HBB.out.mono ?_
            rintro e w9 ⟨v9, rfl, hy9, hb9⟩
            have HB9 := Lib.hid (HB8.out.trans (hb9.mono HB8.out.size))
            have HSB := Lib.hid (stands_c _ _ _ _ w9 (HY8.out.under hb9).sees hy9.sees)
            rw [S2.out] at HSB
            clear hy9 hb9
            go_wp2_with fail
            refine HSB.out.mono ?_
            rintro e w10 ⟨rfl, rfl⟩
            go_wp2_with fail
            go_ret
            exact ⟨rfl, HB9.out⟩
        · have ea : valB t = encV t := if_pos hA
          have eb : valB t' = [] := if_neg hA'
          have n1 := enc_ne t
          rw [ea] at HYA ⊢
          rw [eb] at HYB ⊢
          have m1 : (((encV t).length : Int) == 0) = false := by rw [beq_eq_false_iff_ne]; exact fun e => n1 (List.length_eq_zero_iff.1 (by omega))
          clear hlx hly
          go_wp2_with fail
          go_ret
          exact ⟨rfl, HBF.out⟩
      · have ea : valB t = [] := if_neg hA
        rw [ea] at HYA ⊢
        clear hlx hly
        go_wp2_with fail
        go_ret
        exact ⟨rfl, HBF.out⟩
    · go_wp2_with fail
      refine (HWK.out _ HB.out).mono ?_
      rintro e w9 ⟨rfl, hb9⟩
      have HB9 := Lib.hid (HBW.out.trans ((HB.out.trans (hb9.mono HB.out.size)).mono HBW.out.size)); clear hb9
      go_wp2_with fail
      go_ret
      exact ⟨rfl, HB9.out⟩
  · go_wp2_with fail
    refine (HWK.out _ HB.out).mono ?_
    rintro e w9 ⟨rfl, hb9⟩
    have HB9 := Lib.hid (HBW.out.trans ((HB.out.trans (hb9.mono HB.out.size)).mono HBW.out.size)); clear hb9
    go_wp2_with fail
    go_ret
    exact ⟨rfl, HB9.out⟩
end Go.Proofs.YtddmegbhefmloaaGreatDoor
namespace Go.Proofs.YtddmegbhefmloaaGreatDoor
open Go.RowKit Vp Cp Tx Pl Dig
open Go

theorem vl_dM : ∀ l : List UInt8, vl 10 (l.reverse.map dig) = dM l
  | [] => rfl
  | c :: r => by
    rw [List.reverse_cons, List.map_append, List.map_cons, List.map_nil, vl_append, vl_dM r, dM]
    simp only [vl, List.length_map, List.length_reverse, dig, Nat.mul_zero, Nat.add_zero]
    rw [Nat.mul_comm]; omega
theorem val_zV (l : List UInt8) : valL l = zV l := by
  unfold valL zV mag sgn
  by_cases h : l.head? = some 45
  · rw [decide_eq_true h, if_pos rfl, if_pos h, if_pos h, vl_dM]
  · rw [decide_eq_false h, if_neg (by decide), if_neg h, if_neg h, vl_dM]
theorem zcmp_eq : zcmp = zE := by
  funext a b
  unfold zcmp zE
  rw [val_zV, val_zV]
  rfl
theorem code_order_c (t t' : V) (u u' : Value) (x y : List UInt8) (ux uy : Value) (w : World) (hv : VRep w w.heap.size t u) (hv' : VRep w w.heap.size t' u') (hux : Hands w ux x) (huy : Hands w uy y) (hxm : x.length ≤ maxLen) (hym : y.length ≤ maxLen) (hM : MaxB w.heap.size w) :
    Calls Tryz.prog 6 #[u, u', ux, uy] w fun e w' => e = .returned (.bool true) ∧ Below w.heap.size w w' := by
  have dep : ∀ a : V, chkV a = 0 → depth a < 100000000 := fun a h => by
    have := (valid_parts h).1
    rw [deeper_depth] at this
    have : depth a ≤ 64 := by simpa using this
    omega
  refine order_c t t' u u' x y ux uy (cmpR zcmp [t] [t']) w hv hv' hux huy hxm hym hM (fun ha hb W hW => refcmp1_c t t' u u' W (dep t ha) (dep t' hb) ((hv.under hW).more hW.size) ((hv'.under hW).more hW.size)) (fun ha hb => by rw [cmpR_both1 ha hb, zcmp_eq]) ?_
  exact cmpR_one _ _
end Go.Proofs.YtddmegbhefmloaaGreatDoor
