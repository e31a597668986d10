/- Skg: CodePuts, region 7: the walk. -/
import Derived.Test.YtlhkjmckigblpaaGreatDoorSkm
import Derived.Test.YtlhkjmckigblpaaGreatDoorYn
namespace Go.Proofs.YtlhkjmckigblpaaGreatDoor
open Go.RowKit Go.Shelf Vp Cp Tx Rm
open Go
attribute [local go_sem] Oper.semAt_some

theorem conv_h {w : World} {v : Value} {l : List UInt8} (h : Hands w v l) : (convert 23 9 v).run Tryz.prog w = .ok (.string ⟨l.toArray⟩) w := by
  rcases h with ⟨rfl, rfl⟩ | ⟨a, c, rfl, h1, _⟩
  · exact run_convert_bytes_nil w 23 5 Tryz.underlying23 Tryz.underlying5 0 0 9 Tryz.underlying9
  · exact run_convert_bytes_back w 23 9 5 a c l Tryz.underlying23 Tryz.underlying5 Tryz.underlying9 h1
set_option maxRecDepth 100000 in
set_option maxHeartbeats 16000000 in
theorem puts_c (l : List UInt8) (n c : Int) (s : ByteArray) (b : Bool) (t : V) (ub u : Value) (w : World) (hub : Hands w ub l) (hn0 : -9223372036854775808 ≤ n) (hn1 : n ≤ 9223372036854775807) (hl : l.length ≤ 1048576) (hs : s.size ≤ 1048576) (hv : VRep w w.heap.size t u) (hdp : depth t < 100000000) (hM : MaxB w.heap.size w) :
    Calls Tryz.prog 4 #[ub, .int .i64 n, .int .i64 c, .string s, .bool b, u] w fun e w' => e = .returned (.bool true) ∧ Below w.heap.size w w' := by
  have hmax : maxLen = 9223372036854775807 := rfl
  obtain ⟨k, m, sv, its, A, cc, ht, rfl, hk, hm, hsv, hR⟩ := hv.open_
  obtain ⟨W, hW⟩ : ∃ W, W = w.alloc (.cells #[.int .u8 (k : Int), .int .i64 m, .string sv, .slice A its.length cc] 34) := ⟨_, rfl⟩
  have hBW : Below w.heap.size w W := hW ▸ (Below.refl _ _).alloc (Nat.le_refl _) _
  have hsz : w.heap.size < W.heap.size := by rw [hW]; simp
  have bA : Blk W w.heap.size 34 #[.int .u8 (k : Int), .int .i64 m, .string sv, .slice A its.length cc] := hW ▸ Blk.new _ _ _
  have HC : Hid (∀ W', Below W.heap.size W W' → (W'.cell? ⟨w.heap.size, 0, none⟩ = some (.int .u8 (k : Int)) ∧ W'.cell? ⟨w.heap.size, 1, none⟩ = some (.int .i64 m) ∧ W'.cell? ⟨w.heap.size, 2, none⟩ = some (.string sv) ∧ W'.cell? ⟨w.heap.size, 3, none⟩ = some (.slice A its.length cc))) := Lib.hid fun W' hb => s_of (bA.below hb hsz)
  have HBW := Lib.hid hBW
  have tow : ∀ W', Below W.heap.size W W' → Below w.heap.size w W' := fun W' hb => hBW.trans (hb.mono hBW.size)
  have HW1 : Hid (∀ W', Below W.heap.size W W' → Calls Tryz.prog 27 #[.agg #[.int .u8 (k : Int), .int .i64 m, .string sv, .slice A its.length cc]] W' fun e w' => TellsWide t e ∧ Below W'.heap.size W' w') := Lib.hid fun W' hb => wide_c t _ W' ((hv.under (tow _ hb)).more (tow _ hb).size)
  have HWK : Hid (∀ W', Below W.heap.size W W' → Calls Tryz.prog 9 #[] W' fun e w' => e = .returned (.bool true) ∧ Below W'.heap.size W' w') := Lib.hid fun W' hb => works_c W' (hM.under (tow _ hb)).2
  have HV := Lib.hid hv; have HM := Lib.hid hM; have HU := Lib.hid hub
  have HB := Lib.hid (Below.refl W.heap.size W)
  rw [hW] at HC HW1 HWK HB HBW
  have HL := Lib.hid hl; have HSL := Lib.hid hs; have HN0 := Lib.hid hn0; have HN1 := Lib.hid hn1; have HD := Lib.hid hdp
  clear hv hM hub tow bA hBW hsz hR ht hW hn0 hn1 hl hs hdp
  go_enter Tryz.func4, Tryz.ntmps4
  go_wp2_with fail
  refine (HW1.out _ HB.out).mono ?_
  rintro e w1 ⟨⟨q1, rfl, hq1⟩, hb1⟩
  have HB1 := Lib.hid (HB.out.trans (hb1.mono HB.out.size))
  have HQ1 := Lib.hid hq1; clear hq1 hb1 HB
  cases q1
  · have HBW1 := Lib.hid (HBW.out.trans (HB1.out.mono HBW.out.size))
    have HC1 : Hid (∀ W', Below w1.heap.size w1 W' → (W'.cell? ⟨w.heap.size, 0, none⟩ = some (.int .u8 (k : Int)) ∧ W'.cell? ⟨w.heap.size, 1, none⟩ = some (.int .i64 m) ∧ W'.cell? ⟨w.heap.size, 2, none⟩ = some (.string sv) ∧ W'.cell? ⟨w.heap.size, 3, none⟩ = some (.slice A its.length cc))) := Lib.hid fun W' hb => HC.out _ (HB1.out.trans (hb.mono HB1.out.size))
    have HWK1 : Hid (∀ W', Below w1.heap.size w1 W' → Calls Tryz.prog 9 #[] W' fun e w' => e = .returned (.bool true) ∧ Below W'.heap.size W' w') := Lib.hid fun W' hb => HWK.out _ (HB1.out.trans (hb.mono HB1.out.size))
    have HV1 : Hid (∀ W', Below w1.heap.size w1 W' → VRep W' W'.heap.size t (.agg #[.int .u8 (k : Int), .int .i64 m, .string sv, .slice A its.length cc])) := Lib.hid fun W' hb => by
      have h := HBW1.out.trans (hb.mono HBW1.out.size)
      exact (HV.out.under h).more h.size
    have HM1 : Hid (∀ W', Below w1.heap.size w1 W' → MaxB W'.heap.size W') := Lib.hid fun W' hb => by
      have h := HBW1.out.trans (hb.mono HBW1.out.size)
      exact ⟨Nat.lt_of_lt_of_le HM.out.1 h.size, (HM.out.under h).2⟩
    have HU1 : Hid (∀ W', Below w1.heap.size w1 W' → Hands W' ub l) := Lib.hid fun W' hb => HU.out.under (HBW1.out.trans (hb.mono HBW1.out.size))
    have HE : Hid (chkV t = 0 → (encV t).length ≤ 400000) := Lib.hid fun h0 => (few_bytes HV.out rfl HQ1.out h0).2
    clear HC HWK HW1 HB1 HBW HV HM HU HQ1
    have h0 : (w1.alloc (.cells #[] 5)).ownsRow w1.heap.size 5 1 (.slice (some ⟨w1.heap.size, 0, none⟩) 0 0) 0 [] := ⟨rfl, .inr ⟨w1.heap.size, 0, #[], rfl, Nat.le_refl _, heap_alloc_new w1 _, Nat.le_refl _, by decide, rfl, rfl⟩⟩
    have hw0 : Below w1.heap.size w1 (w1.alloc (.cells #[] 5)) := (Below.refl _ _).alloc (Nat.le_refl _) _
    have HO := Lib.hid h0; have HWA := Lib.hid hw0
    clear h0 hw0
    go_wp2_with (at_builtin; refine wpList_appL _ rfl (.tmp 18) (.tmp 19) 23 rfl w1.heap.size 5 (.int .u8 0) Tryz.underlying23 infoB rfl _ 0 [] rfl HO.out ub l rfl (HU1.out _ HWA.out) (by have := HL.out; omega) HWA.out.size ?_; intro vk w2 hy2 hb2; have HK2 : Hid (Bys w1.heap.size l w2 vk) := Lib.hid (by simpa [Bys] using hy2); have HB2 := Lib.hid (HWA.out.trans hb2); clear hy2 hb2)
    go_loopg [14] 3 (fun gg s14 wr => ∃ i : Nat, i ≤ 2 ∧ gg = 3 - i ∧ s14 = .int .i64 (i : Int) ∧ Below w1.heap.size w1 wr ∧ Bys w1.heap.size l wr vk)
    case atStart => exact ⟨0, by omega, rfl, rfl, HB2.out, HK2.out⟩
    case round =>
      clear HB2 HK2 HO HWA
      obtain ⟨i, hi, hg, rfl, hb, hk⟩ := hrel
      have HG := Lib.hid hg
      by_cases hlt : i < 2
      · have hiz : (i : Int) < 2 := by omega
        have HB := Lib.hid hb; have HK := Lib.hid hk
        clear hb hk hg
        go_upto_region 7 with fail
        refine chain_region (S4 w.heap.size k m sv A its.length cc) 44 (by kernel_rfl) ?_
        obtain ⟨WD, hWD⟩ : ∃ W', W' = wr.drew := ⟨_, rfl⟩
        have HB0 : Hid (Below w1.heap.size w1 WD) := Lib.hid (by rw [hWD]; exact HB.out.drew)
        have HK0 : Hid (Bys w1.heap.size l WD vk) := Lib.hid (by rw [hWD]; exact HK.out)
        rw [← hWD]
        clear hWD HB HK
        refine reops (ops' := ops7) (by kernel_rfl) ?_
        refine relist (y := mask7 0) (by kernel_rfl) ?_
        refine pair0 (fun _ _ _ _ _ h => h) l HL.out ub vk n c s b w.heap.size _ _ _ _ _ _ _ _ _ _ _ _ _ _ _ _ _ _ _ _ _ w1 HC1 HU1 HN0.out HN1.out _ ⟨_, _, _, _, _, _, _, _, _, _, _, _, _, _, _, _, _, _, _, _, _, _, _, _, _, _, _, _, _, _, _, _, _, _, _, _, _, _, _, _, _, _, _, _, _, _, _, _, _, _, _, _, _, rfl⟩ WD HB0.out HK0.out ?_
        intro a1 X1 g1 b1 k1
        refine pair1 (fun _ _ _ _ _ h => h) l HL.out ub vk n c s b w.heap.size _ _ _ _ _ _ _ _ _ _ _ _ _ _ _ _ _ _ _ _ _ w1 HC1 HU1 _ g1 _ b1 k1 ?_
        intro a2 X2 g2 b2 k2
        refine pair2 (fun _ _ _ _ _ h => h) l HL.out ub vk n c s b w.heap.size _ _ _ _ _ _ _ _ _ _ _ _ _ _ _ _ _ _ _ _ _ w1 HC1 HU1 HSL.out HM1 _ g2 _ b2 k2 ?_
        intro a3 X3 g3 b3 k3
        refine pair3 (fun _ _ _ _ _ h => h) l HL.out ub vk n c s b w.heap.size _ _ _ _ _ _ _ _ _ _ _ _ _ _ _ _ _ _ _ _ _ w1 HC1 HU1 _ g3 _ b3 k3 ?_
        intro a4 X4 g4 b4 k4
        refine pair4 (fun _ _ _ _ _ h => h) l HL.out ub vk n c s b w.heap.size _ _ _ _ _ _ _ _ _ _ _ _ _ _ _ _ _ _ _ _ _ w1 t k m sv A its cc HC1 HU1 HM1 HV1 HE.out HD.out _ g4 _ b4 k4 ?_
        rintro a5 X5 ⟨t12, t21, t22, t23, t24, t25, t26, t27, t28, t29, t30, t31, t32, t33, t34, t35, t36, t37, t38, t39, t40, t41, t42, t43, t44, t45, t46, t47, t48, t49, t50, t51, t52, t53, t54, t55, t56, t57, t58, t59, t60, t61, t62, t63, t64, t65, t66, t67, t68, t69, t70, t71, rfl⟩ b5 k5
        have B5 := Lib.hid b5; have K5 := Lib.hid k5
        clear b5 k5
        go_wp2_with fail
        go_roundg (3 - (i + 1))
        case measure => have := HG.out; omega
        case rel => exact ⟨i + 1, by omega, rfl, by go_num, B5.out, K5.out⟩
      · have hiz : ¬ (i : Int) < 2 := by omega
        have cv1 := conv_c hk.sees
        have cv0 := conv_h (HU1.out _ hb)
        have HB := Lib.hid hb
        have hwk := HWK1.out _ hb
        have HWK2 := Lib.hid hwk
        clear hb hk hwk hg
        go_wp2_with (go_at_call 9; refine HWK2.out.mono ?_; rintro e w9 ⟨rfl, hb9⟩; have HB9 := Lib.hid hb9; clear hb9)
        go_ret
        exact ⟨rfl, HBW1.out.trans ((HB.out.trans (HB9.out.mono HB.out.size)).mono HBW1.out.size)⟩
  · go_wp2_with fail
    refine (HWK.out _ HB1.out).mono ?_
    rintro e w9 ⟨rfl, hb9⟩
    have HB9 := Lib.hid (HBW.out.trans ((HB1.out.trans (hb9.mono HB1.out.size)).mono HBW.out.size)); clear hb9
    go_wp2_with fail
    go_ret
    exact ⟨rfl, HB9.out⟩
end Go.Proofs.YtlhkjmckigblpaaGreatDoor
