/- CodeRows returns true at every two rows of values that are together of bulk at most 1048576 (the second form of the statement), where the listed package variables start as the program's text lays them. -/
import Derived.Test.YtddmegbhefmloaaGreatDoorCz
import Derived.Test.YtddmegbhefmloaaGreatDoorYp
import Derived.ChangeArms
import Derived.DataReads
import Derived.Deep.Slices
import Derived.JoinedCond
namespace Go.Proofs.YtddmegbhefmloaaGreatDoor
open Go.RowKit Go.Shelf Vp Cp Tx Pl Dig
open Go
attribute [local go_sem] Oper.semAt_some

def encs (l : List V) : List UInt8 := l.flatMap encV
theorem encs_snoc (l : List V) (t : V) : encs (l ++ [t]) = encs l ++ encV t := by simp [encs]
theorem stB_app (c a b : List UInt8) : stB (c ++ a) (c ++ b) = stB a b := by
  unfold stB
  rw [ltB_app]
  simp only [List.append_cancel_left_eq]
theorem rows_stand : ∀ a b : List V, (∀ t ∈ a, OkE t) → (∀ t ∈ b, OkE t) → stB (encs a) (encs b) = cmpL zE a b
  | [], [], _, _ => by rw [cmpL]; rfl
  | [], y :: ys, _, _ => by
    rw [cmpL]
    have h := enc_ne y
    show stB [] (encV y ++ encs ys) = -1
    cases hy : encV y with
    | nil => exact absurd hy h
    | cons c r => rfl
  | x :: xs, [], _, _ => by
    rw [cmpL]
    have h := enc_ne x
    show stB (encV x ++ encs xs) [] = 1
    cases hx : encV x with
    | nil => exact absurd hx h
    | cons c r => rfl
  | x :: xs, y :: ys, ha, hb => by
    have hag := enc_diff zE zE_diff x (ha x (by simp)) y (hb y (by simp))
    have ih := rows_stand xs ys (fun t ht => ha t (by simp [ht])) (fun t ht => hb t (by simp [ht]))
    show stB (encV x ++ encs xs) (encV y ++ encs ys) = _
    rw [cmpL]
    by_cases h0 : cmpV zE x y = 0
    · rw [hag.1 h0, stB_app, ih, h0]; simp
    · rw [stb_diff (hag.2 h0), if_pos h0]
      have h1 : cmpV zE x y = -1 ∨ cmpV zE x y = 0 ∨ cmpV zE x y = 1 := by
        have := cmpV_one x y
        rw [zcmp_eq] at this
        exact this
      rcases h1 with h1 | h1 | h1
      · rw [h1]; rfl
      · exact absurd h1 h0
      · rw [h1]; rfl
theorem inv_none {l : List V} (h : ∀ t ∈ l, chkV t = 0) : invL l = false := by
  unfold invL
  rw [List.any_eq_false]
  intro t ht
  simp [h t ht]
theorem cmpR_rows {a b : List V} (ha : ∀ t ∈ a, chkV t = 0 ∧ OkE t) (hb : ∀ t ∈ b, chkV t = 0 ∧ OkE t) : cmpR zcmp a b = stB (encs a) (encs b) := by
  rw [rows_stand a b (fun t ht => (ha t ht).2) (fun t ht => (hb t ht).2)]
  unfold cmpR
  rw [inv_none fun t ht => (ha t ht).1, inv_none fun t ht => (hb t ht).1, if_neg (by simp), if_neg (by simp), if_neg (by simp), zcmp_eq]
/-- What a round of the law's loops has of its row. -/
def Row (w wr : World) (l : List V) (k : Nat) (v : Value) : Prop := Sees wr v (encs (l.take k)) ∧ Below w.heap.size w wr ∧ (∀ t ∈ l.take k, chkV t = 0 ∧ OkE t) ∧ (encs (l.take k)).length ≤ 400000 * k
theorem Row.none_ (w wr : World) (l : List V) (hb : Below w.heap.size w wr) : Row w wr l 0 (.slice none 0 0) := ⟨by rw [List.take_zero]; exact Sees.nil_ wr 0 0, hb, by simp, by simp [encs]⟩

set_option maxRecDepth 100000 in
set_option maxHeartbeats 16000000 in
theorem rows_c (l m : List V) (A A2 : Option Addr) (c c2 : Nat) (w : World) (hR : RRep w w.heap.size l A c) (hR2 : RRep w w.heap.size m A2 c2) (hd : ∀ t ∈ l, depth t < 100000000) (hd2 : ∀ t ∈ m, depth t < 100000000) (hM : MaxB w.heap.size w) :
    Calls Tryz.prog 7 #[.slice A l.length c, .slice A2 m.length c2] w fun e w' => e = .returned (.bool true) ∧ Below w.heap.size w w' := by
  have hmax : maxLen = 9223372036854775807 := rfl
  have hlc := hR.1; have hcm := hR.2.1; have hlc2 := hR2.1; have hcm2 := hR2.2.1
  have HWK : Hid (∀ W', Below w.heap.size w W' → Calls Tryz.prog 11 #[] W' fun e w' => e = .returned (.bool true) ∧ Below W'.heap.size W' w') := Lib.hid fun W' hb => works_c W' (hM.under hb).2
  have HR := Lib.hid hR; have HR2 := Lib.hid hR2; have HD := Lib.hid hd; have HD2 := Lib.hid hd2; have HM := Lib.hid hM
  have HB := Lib.hid (Below.refl w.heap.size w)
  clear hR hR2 hd hd2 hM
  by_cases hl : 30 < (l.length : Int)
  · go_enter Tryz.func7, Tryz.ntmps7
    go_wp2_with fail
    refine (HWK.out _ HB.out).mono ?_
    rintro e w9 ⟨rfl, hb9⟩
    have HB9 := Lib.hid (HB.out.trans (hb9.mono HB.out.size)); clear hb9
    go_wp2_with fail
    go_ret
    exact ⟨rfl, HB9.out⟩
  · by_cases hm : 30 < (m.length : Int)
    · go_enter Tryz.func7, Tryz.ntmps7
      go_wp2_with fail
      refine (HWK.out _ HB.out).mono ?_
      rintro e w9 ⟨rfl, hb9⟩
      have HB9 := Lib.hid (HB.out.trans (hb9.mono HB.out.size)); clear hb9
      go_wp2_with fail
      go_ret
      exact ⟨rfl, HB9.out⟩
    · go_enter Tryz.func7, Tryz.ntmps7
      go_wp2_with fail
      refine (HWK.out _ HB.out).mono ?_
      rintro e w1 ⟨rfl, hb1⟩
      have HB1 := Lib.hid (HB.out.trans (hb1.mono HB.out.size)); clear hb1
      go_wp2_with fail
      go_loopg [5, 26] (l.length + 1) (fun gg sv si wr => ∃ k : Nat, k ≤ l.length ∧ gg = l.length + 1 - k ∧ si = .int .i64 (k : Int) ∧ Row w wr l k sv)
      case atStart => exact ⟨0, Nat.zero_le _, by omega, rfl, Row.none_ _ _ _ HB1.out⟩
      case round =>
        obtain ⟨k, hk, hg, rfl, hrow⟩ := hrel
        have HG := Lib.hid hg; have HW := Lib.hid hrow
        clear hg hrow
        by_cases hlt : k < l.length
        · have hltz : (k : Int) < (l.length : Int) := by omega
          obtain ⟨b', off, rfl, hb', kk, n, s, lx, Ax, cx, ht, hv, c0, c1, c2_, c3⟩ := (HR.out.under HW.out.2.1).at_ hlt
          have htk : l.take (k + 1) = l.take k ++ [l[k]] := List.take_succ_eq_append_getElem hlt
          have hdt := HD.out l[k] (List.getElem_mem hlt)
          have hk30 : k < 30 := by omega
          obtain ⟨tt, htt⟩ : ∃ t, t = l[k] := ⟨_, rfl⟩
          rw [← htt] at ht hv htk hdt
          have HTK := Lib.hid htk
          have hbx := Blk.new wr 34 #[.int .u8 (kk : Int), .int .i64 n, .string s, .slice Ax lx.length cx]
          have hba : Below wr.heap.size wr (wr.alloc (.cells #[.int .u8 (kk : Int), .int .i64 n, .string s, .slice Ax lx.length cx] 34)) := (Below.refl _ _).alloc (Nat.le_refl _) _
          have HBA := Lib.hid hba
          have HV := Lib.hid ((hv.more HW.out.2.1.size).under hba)
          have hwd := wide_c tt _ _ (HV.out.more (by simp))
          have HWD := Lib.hid hwd; have HDT := Lib.hid hdt; have HBX := Lib.hid hbx
          have d0 := hbx.cell 0; have d1 := hbx.cell 1; have d2 := hbx.cell 2; have d3 := hbx.cell 3
          simp at d0 d1 d2 d3
          clear htt ht hv htk hdt hbx hba hwd
          go_wp2_with fail
          refine HWD.out.mono ?_
          rintro e w2 ⟨⟨p, rfl, hp⟩, hb2⟩
          have HP := Lib.hid hp
          have HBW := Lib.hid (HBA.out.trans (hb2.mono HBA.out.size))
          have hx2 := HBX.out.below hb2 HBX.out.lt
          have HV2 := Lib.hid (HV.out.under (hb2.mono (by simp)))
          have HX2 := Lib.hid hx2
          clear d0 d1 d2 d3 hp hb2
          have d0 := hx2.cell 0; have d1 := hx2.cell 1; have d2 := hx2.cell 2; have d3 := hx2.cell 3
          simp at d0 d1 d2 d3
          have HSW := Lib.hid (HW.out.2.1.trans (HBW.out.mono HW.out.2.1.size))
          clear hx2
          cases p
          · have HCK := Lib.hid (refcheck_c tt _ w2 HDT.out (HV2.out.more HBW.out.size))
            go_wp2_with fail
            refine HCK.out.mono ?_
            rintro e w3 ⟨rfl, hb3⟩
            have HBW3 := Lib.hid (HBW.out.trans (hb3.mono HBW.out.size))
            have hx3 := HX2.out.below hb3 HX2.out.lt
            have HV3 := Lib.hid (HV2.out.under (hb3.mono HBW.out.size))
            have HSW3 := Lib.hid (HW.out.2.1.trans (HBW3.out.mono HW.out.2.1.size))
            clear d0 d1 d2 d3 hb3
            have d0 := hx3.cell 0; have d1 := hx3.cell 1; have d2 := hx3.cell 2; have d3 := hx3.cell 3
            simp at d0 d1 d2 d3
            clear hx3
            by_cases hz : chkV tt = 0
            · have hfew := few_bytes HV3.out rfl HP.out hz
              have HF := Lib.hid hfew
              have hvc := value_c (encs (l.take k)) _ tt _ w3 (HW.out.1.under HBW3.out) (HV3.out.more HBW3.out.size) (by have := HW.out.2.2.2; omega) (fun _ => by have := HW.out.2.2.2; have := HF.out.2; omega) ⟨Nat.lt_of_lt_of_le HM.out.1 HSW3.out.size, (HM.out.under HSW3.out).2⟩
              have evb : valB tt = encV tt := if_pos hz
              rw [evb] at hvc
              have HVC := Lib.hid hvc; have HZ := Lib.hid hz
              clear hfew hvc evb
              rw [hz]
              clear hz
              go_wp2_with fail
              refine HVC.out.mono ?_
              rintro e w4 ⟨v4, rfl, hy4, hb4⟩
              have HY4 := Lib.hid hy4
              have HSW4 := Lib.hid (HSW3.out.trans (hb4.mono HSW3.out.size))
              have HBW4 := Lib.hid (HBW3.out.trans (hb4.mono HBW3.out.size))
              clear hy4 hb4
              go_wp2_with fail
              go_roundg (l.length + 1 - (k + 1))
              case measure => have := HG.out; omega
              case rel =>
                refine ⟨k + 1, by omega, rfl, by go_num, ⟨?_, HSW4.out, ?_, ?_⟩⟩
                · rw [HTK.out, encs_snoc]; exact HY4.out.sees
                · rw [HTK.out]
                  intro t ht
                  rcases List.mem_append.1 ht with h | h
                  · exact HW.out.2.2.1 t h
                  · obtain rfl : t = tt := by simpa using h
                    exact ⟨HZ.out, HF.out.1⟩
                · rw [HTK.out, encs_snoc, List.length_append]
                  have h1 := HW.out.2.2.2; have h2 := HF.out.2
                  omega
            · have hz0 : (chkV tt == 0) = false := by simpa using hz
              clear hz
              generalize chkV tt = zz at hz0 ⊢
              go_wp2_with fail
              go_ret
              exact ⟨rfl, HSW3.out⟩
          · go_wp2_with fail
            go_ret
            exact ⟨rfl, HSW.out⟩
        · have hltz : ¬ (k : Int) < (l.length : Int) := by omega
          obtain rfl : k = l.length := by omega
          have HS0 := Lib.hid (And.intro (show Sees wr _ (encs l) by have := HW.out.1; rwa [List.take_length] at this) trivial)
          have HL := Lib.hid (show ∀ t ∈ l, chkV t = 0 ∧ OkE t by have := HW.out.2.2.1; rwa [List.take_length] at this)
          have HB2 := Lib.hid HW.out.2.1
          go_wp2_with fail
          go_loopg [6, 43] (m.length + 1) (fun gg sv si wr => ∃ k : Nat, k ≤ m.length ∧ gg = m.length + 1 - k ∧ si = .int .i64 (k : Int) ∧ Row w wr m k sv ∧ Sees wr u5 (encs l))
          case atStart => exact ⟨0, Nat.zero_le _, by omega, rfl, Row.none_ _ _ _ HB2.out, HS0.out.1⟩
          case round =>
            obtain ⟨k, hk, hg, rfl, hrow, h5⟩ := hrel
            have HG := Lib.hid hg; have HW := Lib.hid hrow; have H5 := Lib.hid (And.intro h5 HL.out)
            clear hg hrow h5
            by_cases hlt : k < m.length
            · have hltz : (k : Int) < (m.length : Int) := by omega
              obtain ⟨b', off, rfl, hb', kk, n, s, lx, Ax, cx, ht, hv, c0, c1, c2_, c3⟩ := (HR2.out.under HW.out.2.1).at_ hlt
              have htk : m.take (k + 1) = m.take k ++ [m[k]] := List.take_succ_eq_append_getElem hlt
              have hdt := HD2.out m[k] (List.getElem_mem hlt)
              have hk30 : k < 30 := by omega
              obtain ⟨tt, htt⟩ : ∃ t, t = m[k] := ⟨_, rfl⟩
              rw [← htt] at ht hv htk hdt
              have HTK := Lib.hid htk
              have hbx := Blk.new wr 34 #[.int .u8 (kk : Int), .int .i64 n, .string s, .slice Ax lx.length cx]
              have hba : Below wr.heap.size wr (wr.alloc (.cells #[.int .u8 (kk : Int), .int .i64 n, .string s, .slice Ax lx.length cx] 34)) := (Below.refl _ _).alloc (Nat.le_refl _) _
              have HBA := Lib.hid hba
              have HV := Lib.hid ((hv.more HW.out.2.1.size).under hba)
              have hwd := wide_c tt _ _ (HV.out.more (by simp))
              have HWD := Lib.hid hwd; have HDT := Lib.hid hdt; have HBX := Lib.hid hbx
              have d0 := hbx.cell 0; have d1 := hbx.cell 1; have d2 := hbx.cell 2; have d3 := hbx.cell 3
              simp at d0 d1 d2 d3
              clear htt ht hv htk hdt hbx hba hwd
              go_wp2_with fail
              refine HWD.out.mono ?_
              rintro e w2 ⟨⟨p, rfl, hp⟩, hb2⟩
              have HP := Lib.hid hp
              have HBW := Lib.hid (HBA.out.trans (hb2.mono HBA.out.size))
              have hx2 := HBX.out.below hb2 HBX.out.lt
              have HV2 := Lib.hid (HV.out.under (hb2.mono (by simp)))
              have HX2 := Lib.hid hx2
              clear d0 d1 d2 d3 hp hb2
              have d0 := hx2.cell 0; have d1 := hx2.cell 1; have d2 := hx2.cell 2; have d3 := hx2.cell 3
              simp at d0 d1 d2 d3
              have HSW := Lib.hid (HW.out.2.1.trans (HBW.out.mono HW.out.2.1.size))
              clear hx2
              cases p
              · have HCK := Lib.hid (refcheck_c tt _ w2 HDT.out (HV2.out.more HBW.out.size))
                go_wp2_with fail
                refine HCK.out.mono ?_
                rintro e w3 ⟨rfl, hb3⟩
                have HBW3 := Lib.hid (HBW.out.trans (hb3.mono HBW.out.size))
                have hx3 := HX2.out.below hb3 HX2.out.lt
                have HV3 := Lib.hid (HV2.out.under (hb3.mono HBW.out.size))
                have HSW3 := Lib.hid (HW.out.2.1.trans (HBW3.out.mono HW.out.2.1.size))
                clear d0 d1 d2 d3 hb3
                have d0 := hx3.cell 0; have d1 := hx3.cell 1; have d2 := hx3.cell 2; have d3 := hx3.cell 3
                simp at d0 d1 d2 d3
                clear hx3
                by_cases hz : chkV tt = 0
                · have hfew := few_bytes HV3.out rfl HP.out hz
                  have HF := Lib.hid hfew
                  have hvc := value_c (encs (m.take k)) _ tt _ w3 (HW.out.1.under HBW3.out) (HV3.out.more HBW3.out.size) (by have := HW.out.2.2.2; omega) (fun _ => by have := HW.out.2.2.2; have := HF.out.2; omega) ⟨Nat.lt_of_lt_of_le HM.out.1 HSW3.out.size, (HM.out.under HSW3.out).2⟩
                  have evb : valB tt = encV tt := if_pos hz
                  rw [evb] at hvc
                  have HVC := Lib.hid hvc; have HZ := Lib.hid hz
                  clear hfew hvc evb
                  rw [hz]
                  clear hz
                  go_wp2_with fail
                  refine HVC.out.mono ?_
                  rintro e w4 ⟨v4, rfl, hy4, hb4⟩
                  have HY4 := Lib.hid hy4
                  have HSW4 := Lib.hid (HSW3.out.trans (hb4.mono HSW3.out.size))
                  have HBW4 := Lib.hid (HBW3.out.trans (hb4.mono HBW3.out.size))
                  clear hy4 hb4
                  go_wp2_with fail
                  go_roundg (m.length + 1 - (k + 1))
                  case measure => have := HG.out; omega
                  case rel =>
                    refine ⟨k + 1, by omega, rfl, by go_num, ⟨?_, HSW4.out, ?_, ?_⟩, H5.out.1.under HBW4.out⟩
                    · rw [HTK.out, encs_snoc]; exact HY4.out.sees
                    · rw [HTK.out]
                      intro t ht
                      rcases List.mem_append.1 ht with h | h
                      · exact HW.out.2.2.1 t h
                      · obtain rfl : t = tt := by simpa using h
                        exact ⟨HZ.out, HF.out.1⟩
                    · rw [HTK.out, encs_snoc, List.length_append]
                      have h1 := HW.out.2.2.2; have h2 := HF.out.2
                      omega
                · have hz0 : (chkV tt == 0) = false := by simpa using hz
                  clear hz
                  generalize chkV tt = zz at hz0 ⊢
                  go_wp2_with fail
                  go_ret
                  exact ⟨rfl, HSW3.out⟩
              · go_wp2_with fail
                go_ret
                exact ⟨rfl, HSW.out⟩
            · have hltz : ¬ (k : Int) < (m.length : Int) := by omega
              obtain rfl : k = m.length := by omega
              have hst := stands_c (encs l) (encs m) _ _ wr H5.out.1 (by have := HW.out.1; rwa [List.take_length] at this)
              have hrr := cmpR_rows (a := l) (b := m) H5.out.2 (by have := HW.out.2.2.1; rwa [List.take_length] at this)
              obtain ⟨zz, hzz⟩ : ∃ zz, zz = stB (encs l) (encs m) := ⟨_, rfl⟩
              rw [← hzz] at hst hrr
              have hcr := refcmprows_c bigs_ok l m A A2 c c2 wr HD.out HD2.out ((HR.out.under HW.out.2.1).more HW.out.2.1.size) ((HR2.out.under HW.out.2.1).more HW.out.2.1.size)
              rw [hrr] at hcr
              have HST := Lib.hid hst; have HCR := Lib.hid hcr
              clear hst hrr hcr hzz
              go_wp2_with fail
              refine HST.out.mono ?_
              rintro e w2 ⟨rfl, rfl⟩
              go_wp2_with fail
              refine HCR.out.mono ?_
              rintro e w3 ⟨rfl, hb3⟩
              have HB3 := Lib.hid (HW.out.2.1.trans (hb3.mono HW.out.2.1.size))
              clear hb3
              go_wp2_with fail
              go_ret
              exact ⟨rfl, HB3.out⟩
end Go.Proofs.YtddmegbhefmloaaGreatDoor
namespace Go.Proofs.YtddmegbhefmloaaGreatDoor
open Go.ChangeShapes Go.WideShapes Go.ChangeAt Go.RowKit Go.Deep Vp Cp

theorem depthL_le {n : Nat} : ∀ {l : List V}, (∀ t ∈ l, depth t ≤ n) → depthL l ≤ n
  | [], _ => by simp [depthL]
  | t :: l, h => by
    rw [depthL]
    exact Nat.max_le.2 ⟨h t (by simp), depthL_le fun x hx => h x (by simp [hx])⟩
theorem le_depthL : ∀ {l : List V} {t : V}, t ∈ l → depth t ≤ depthL l
  | [], _, h => by simp at h
  | x :: l, t, h => by
    rw [depthL]
    rcases List.mem_cons.1 h with rfl | h
    · exact Nat.le_max_left _ _
    · exact Nat.le_trans (le_depthL h) (Nat.le_max_right _ _)
theorem part_le {H : Type} {d : DataW H} {l : List (DataW H)} (h : d ∈ l) : Rows.uptoBulk d ≤ Rows.uptoBulkAll l := by
  induction l with
  | nil => cases h
  | cons x r ih =>
    simp only [Rows.uptoBulkAll]
    cases List.mem_cons.1 h with
    | inl e => subst e; omega
    | inr e => have := ih e; omega
section
variable {H : Type} {enc : TypeId × Value → H} {P : Program} {w : World} {spare : Nat → Bool} {held : Bool}
theorem open_row_b {tV tL : TypeId} (u3 : P.underlying tL = some (.slice tV)) (c4 : P.cellsOf tV = 4) (fuel : Nat)
    (ih : ∀ m, m < fuel → ∀ (cs : List Value) (x : DataW H × List MemPlace), DataW.trod enc P w 0 spare held m tV cs = some x → ∃ t : V, VRep w w.heap.size t (.agg cs.toArray) ∧ (Value.agg cs.toArray).cells.toList = cs ∧ depth t ≤ Rows.uptoBulk x.1)
    (cs : List Value) (x : DataW H × List MemPlace) (h : DataW.trod enc P w 0 spare held fuel tL cs = some x) : ∃ (l : List V) (A : Option Addr) (c : Nat), cs = [.slice A l.length c] ∧ RRep w w.heap.size l A c ∧ depthL l ≤ Rows.uptoBulk x.1 := by
  rcases DataW.trod_slice u3 h with ⟨rfl, rfl⟩ | ⟨a, len, cap, elems, rest, n, hn, rfl, rfl, _, hlc, hcm, hlen, hel, _⟩
  · exact ⟨[], none, 0, rfl, RRep.nil (by decide), by simp [depthL]⟩
  · rw [c4] at hel
    obtain ⟨F, hF⟩ := choose_lt (α := V × Value) (n := len) (p := fun i y => VRep w w.heap.size y.1 y.2 ∧ depth y.1 ≤ Rows.uptoBulkAll (elems.map (·.1)) ∧ ∃ b off, a = ⟨b, off, none⟩ ∧ b < w.heap.size ∧ ∀ k z, y.2.cells[k]? = some z → w.cell? ⟨b, off + i * 4 + k, none⟩ = some z) (fun i hi => by
      have h1 := hel i hi
      rw [List.getElem?_eq_getElem (by omega)] at h1
      obtain ⟨cs', h2, h3⟩ := Option.bind_eq_some_iff.1 h1
      obtain ⟨_, hl4, hc4⟩ := World.cells?_some h2
      obtain ⟨t, ht, hcs, hdp⟩ := ih n (by omega) cs' _ h3
      refine ⟨(t, .agg cs'.toArray), ht, Nat.le_trans hdp (part_le (List.mem_map.2 ⟨_, List.getElem_mem (by omega), rfl⟩)), ?_⟩
      have hspot : a.spot = none ∧ a.block < w.heap.size := by
        have h0 := hel 0 (by omega)
        rw [List.getElem?_eq_getElem (by omega)] at h0
        obtain ⟨cs0, h02, _⟩ := Option.bind_eq_some_iff.1 h0
        obtain ⟨_, hl0, hc0⟩ := World.cells?_some h02
        have h00 := hc0 0 (by omega)
        rw [List.getElem?_eq_getElem (by omega)] at h00
        have e0 : (a.add (0 * 4)).add 0 = a := by simp [Addr.add]
        rw [e0] at h00
        unfold World.cell? at h00
        split at h00
        · rename_i hb
          refine ⟨?_, ?_⟩
          · cases hs : a.spot with
            | none => rfl
            | some q => simp [hs] at h00
          · rw [Array.getElem?_eq_some_iff] at hb
            exact hb.1
        · simp at h00
      refine ⟨a.block, a.off, by cases a; simp_all, hspot.2, fun k z hz => ?_⟩
      have hk : (Value.agg cs'.toArray).cells.toList[k]? = some z := by simpa using hz
      rw [hcs] at hk
      have hk4 : k < 4 := by
        rw [List.getElem?_eq_some_iff] at hk
        obtain ⟨h, _⟩ := hk; omega
      have := hc4 k hk4
      rw [hk, add_add] at this
      rw [← this]
      congr 1
      unfold Addr.add
      split
      · rename_i hz0
        have : i * 4 = 0 ∧ k = 0 := by omega
        cases a; simp_all
      · simp)
    refine ⟨(List.range len).map fun i => (F i).1, some a, cap, by simp, ⟨by simpa using hlc, hcm, fun i => (F i).2, ?_, ?_⟩, ?_⟩
    · intro j hj
      obtain ⟨_, _, b, off, rfl, hb, hc⟩ := hF j (by simpa using hj)
      exact ⟨b, off, rfl, hb, hc⟩
    · intro j hj
      have := (hF j (by simpa using hj)).1
      simpa using this
    · rw [Rows.uptoBulk]
      refine Nat.le_trans (depthL_le fun t ht => ?_) (Nat.le_trans (Nat.le_add_right _ _) (Nat.le_add_right _ _))
      obtain ⟨i, hi, rfl⟩ := List.mem_map.1 ht
      exact (hF i (by simpa using hi)).2.1
/-- What a caller hands in as a value: its tree. -/
theorem open_val_b {tV tL t0 t1 t2 : TypeId} {f0 f1 f2 f3 : Field} (hV : P.underlying tV = some (.struct #[f0, f1, f2, f3])) (c4 : P.cellsOf tV = 4)
    (o0 : f0.offset = 0) (o1 : f1.offset = 1) (o2 : f2.offset = 2) (o3 : f3.offset = 3) (c0 : P.cellsOf t0 = 1) (c1 : P.cellsOf t1 = 1) (c2 : P.cellsOf t2 = 1) (c3 : P.cellsOf tL = 1)
    (e0 : f0.type = t0) (e1 : f1.type = t1) (e2 : f2.type = t2) (e3 : f3.type = tL)
    (u0 : P.underlying t0 = some (.int .u8)) (u1 : P.underlying t1 = some (.int .i64)) (u2 : P.underlying t2 = some .string) (u3 : P.underlying tL = some (.slice tV)) :
    ∀ (fuel : Nat) (cs : List Value) (x : DataW H × List MemPlace), DataW.trod enc P w 0 spare held fuel tV cs = some x → ∃ t : V, VRep w w.heap.size t (.agg cs.toArray) ∧ (Value.agg cs.toArray).cells.toList = cs ∧ depth t ≤ Rows.uptoBulk x.1 := by
  intro fuel
  induction fuel using Nat.strongRecOn with
  | ind fuel ih =>
    intro cs x h
    obtain ⟨xs, n, rfl, rfl, hl, hlen, hf⟩ := DataW.trod_struct hV h
    rw [c4] at hl
    match cs, hl with
    | [a, b, c, d], _ =>
      have hx : xs.length = 4 := hlen
      have g0 := hf 0 f0 rfl; have g1 := hf 1 f1 rfl; have g2 := hf 2 f2 rfl; have g3 := hf 3 f3 rfl
      rw [List.getElem?_eq_getElem (by omega), e0, o0, c0] at g0
      rw [List.getElem?_eq_getElem (by omega), e1, o1, c1] at g1
      rw [List.getElem?_eq_getElem (by omega), e2, o2, c2] at g2
      rw [List.getElem?_eq_getElem (by omega), e3, o3, c3] at g3
      obtain ⟨k, hk, _, wk⟩ := DataW.trod_int u0 g0
      obtain ⟨m, hm, _, wm⟩ := DataW.trod_int u1 g1
      obtain ⟨s, hs, _, ws⟩ := DataW.trod_string u2 g2
      obtain ⟨l, A, cc, hd, hr, hdp⟩ := open_row_b u3 c4 n (fun m hm => ih m (by omega)) _ _ g3
      simp at hk hm hs hd
      subst hk; subst hm; subst hs; subst hd
      have hk' : 0 ≤ k ∧ k < 256 := by
        simp only [Lit.wf, Bool.and_eq_true, decide_eq_true_eq] at wk
        have h1 : IntKind.u8.min = 0 := by decide
        have h2 : IntKind.u8.max = 255 := by decide
        omega
      have hm' : -9223372036854775808 ≤ m ∧ m ≤ 9223372036854775807 := by
        simp only [Lit.wf, Bool.and_eq_true, decide_eq_true_eq] at wm
        have h1 : IntKind.i64.min = -9223372036854775808 := by decide
        have h2 : IntKind.i64.max = 9223372036854775807 := by decide
        omega
      refine ⟨.mk k.toNat m s l, ?_, rfl, ?_⟩
      rotate_left
      · rw [depth, Rows.uptoBulk]
        have := part_le (H := H) (d := (xs[3]).1) (l := xs.map (·.1)) (List.mem_map.2 ⟨xs[3], List.getElem_mem (by omega), rfl⟩)
        omega
      have := VRep.of_row (k := k.toNat) (by omega) hm' ws hr
      rwa [Int.toNat_of_nonneg hk'.1] at this
end
section
variable {H : Type} {enc : TypeId × Value → H}
theorem cellsV4 : Tryz.prog.cellsOf 34 = 4 := by kernel_rfl
set_option maxRecDepth 100000 in
/-- A row of values that is handed in, and how deep it is. -/
theorem open_row_d {w : World} {b0 : Nat} {r : Reach} {v : Value} {d : DataW H} {ps : List MemPlace} {sp : Nat → Bool} {held : Bool}
    (hval : Value.okWide Tryz.prog w r b0 32 v) (hd : DataW.Trod enc Tryz.prog w 0 sp held 32 v d ps) : ∃ (l : List V) (A : Option Addr) (c : Nat), v = .slice A l.length c ∧ RRep w w.heap.size l A c ∧ depthL l ≤ Rows.uptoBulk d := by
  obtain ⟨A, len, cap, rfl⟩ := okWide_slice Tryz.underlying32 hval
  obtain ⟨fuel, hf⟩ := hd
  obtain ⟨l, A', c', hcs, hR, hdp⟩ := open_row_b Tryz.underlying32 cellsV4 fuel (fun m _ => open_val_b Tryz.underlying34 cellsV4 rfl rfl rfl rfl (by kernel_rfl) (by kernel_rfl) (by kernel_rfl) (by kernel_rfl) rfl rfl rfl rfl Tryz.underlying5 Tryz.underlying2 Tryz.underlying9 Tryz.underlying32 m) _ _ hf
  simp only [Value.cells, List.cons.injEq, Value.slice.injEq, and_true] at hcs
  obtain ⟨rfl, rfl, rfl⟩ := hcs
  exact ⟨l, A, cap, rfl, hR, hdp⟩
set_option maxRecDepth 100000 in
theorem row_stays {W W' : World} {v : Value} {d : DataW H} {ps : List MemPlace} (h : DataW.Trod enc Tryz.prog W 0 (fun _ => true) true 32 v d ps) (hb : Below W.heap.size W W') (hlt : ∀ x ∈ ps, x.block < W.heap.size)
    {sp : Nat → Bool} (hs : ∀ p ∈ ps, sp p.block = true) : DataW.Trod enc Tryz.prog W' 0 sp true 32 v d ps :=
  WideElems.Trod_stays laidOut (by kernel_rfl) (of_decide_eq_true (by kernel_rfl)) h (fun x hx => hb.same (hlt x hx)) hs
end
theorem maxb_of {w : World} (h : MaxAt w) : MaxB w.heap.size w := by
  refine ⟨?_, h⟩
  obtain ⟨m, h⟩ := h
  rcases Nat.lt_or_ge 0 w.heap.size with h' | h'
  · exact h'
  · simp [World.cell?, Array.getElem?_eq_none h'] at h

theorem rows_met (os : Os) : laidMet Tryz.prog Rows.codeRowsRow.laid ((laidWorld os).forCall (fun _ _ => 0) ⟨#[], #[.slice none 0 0, .slice none 0 0], []⟩).memory :=
  laidMet_of_run' 8 (by kernel_rfl) (by kernel_rfl)
theorem rows_reads (os : Os) {H : Type} (enc : TypeId × Value → H) : ∃ places, DataW.whole enc Tryz.prog ((laidWorld os).forCall (fun _ _ => 0) ⟨#[], #[.slice none 0 0, .slice none 0 0], []⟩).memory Tryz.f7.params.toList Rows.codeRowsSpec.vars false #[Value.slice none 0 0, Value.slice none 0 0].toList 8 = some ([.nil, .nil], [], places) :=
  ⟨[], by kernel_rfl⟩

set_option maxRecDepth 100000 in
theorem rows_contract (H : Type) (enc : TypeId × Value → H) (W : World) (base : Nat) (args : Array Value) (ds gs : List (DataW H)) (before : List MemPlace)
    (hval : ∀ (j : Nat) t v, Tryz.f7.params[j]? = some t → args[j]? = some v → Value.okWide Tryz.prog W .any base t v)
    (hW : DataW.Whole enc Tryz.prog Tryz.f7.params.toList Rows.codeRowsSpec.vars false W args.toList ds gs before) (hk : Rows.uptoSmall H (ds ++ gs) = true) (hM : MaxAt W) :
    Calls Tryz.prog 7 args W fun e W' => ∃ v, e = .returned v ∧ Rows.codeRowsSpec.post enc Tryz.prog Tryz.f7 false true false false W args v W' := by
  have hW' := hW
  obtain ⟨p, q, hA0, hV, rfl, hfz, hnd⟩ := hW
  have hA : DataW.TrodAll enc Tryz.prog W 0 (fun _ => true) true Tryz.f7.params.toList args.toList ds p := hA0
  rw [Tryz.params7] at hA hval
  obtain ⟨v0, vs0, d0, ds0, p0, q0, hargs, rfl, rfl, h0, hA⟩ := trodAll_cons hA
  obtain ⟨v1, vs1, d1, ds1, p1, q1, rfl, rfl, rfl, h1, hA⟩ := trodAll_cons hA
  obtain ⟨rfl, rfl, rfl⟩ := trodAll_nil hA
  obtain rfl : args = #[v0, v1] := by cases args; simp_all
  clear hargs
  obtain ⟨rfl, rfl⟩ := trodVars_none hV
  obtain ⟨a, A, c, rfl, ha, da⟩ := open_row_d (hval 0 32 v0 rfl rfl) h0
  obtain ⟨b, B, c', rfl, hb, db⟩ := open_row_d (hval 1 32 v1 rfl rfl) h1
  clear hA0
  simp only [List.append_nil] at hW' hk
  have hbd : Rows.uptoBulkAll [d0, d1] ≤ 1048576 := of_decide_eq_true hk
  simp only [Rows.uptoBulkAll] at hbd
  have hlt := fun x hx => hW'.lt x hx
  refine (rows_c a b A B c c' W ha hb (fun t ht => by have := le_depthL ht; omega) (fun t ht => by have := le_depthL ht; omega) (maxb_of hM)).mono fun e W' ⟨he, hB⟩ => ?_
  subst he
  exact ⟨_, rfl, post_below (pa := p0 ++ (p1 ++ [])) (pv := []) hW' (fun _ _ _ => trodAll_mk1 (shut_bool Tryz.underlying4 _))
    (fun sp hsp => trodAll_cons_mk (row_stays h0 hB (fun x hx => hlt x (by simp [hx])) fun x hx => hsp x (by simp [hx])) (trodAll_cons_mk (row_stays h1 hB (fun x hx => hlt x (by simp [hx])) fun x hx => hsp x (by simp [hx])) rfl)) (fun _ _ => rfl) (by simp) hB (ok_one (by kernel_rfl) rfl (okWide_bool_mk Tryz.underlying4 _))⟩

set_option maxRecDepth 100000 in
theorem rows_lifted (os : Os) (started : os.Started) (H : Type) (enc : TypeId × Value → H) (F : Stop.Interp) :
    ReturnsInHanded {} Tryz.checked os 7 .any ((Rows.OpenSpec.upto Rows.codeRowsSpec).preRow enc Tryz.prog Tryz.f7 Rows.codeRowsUptoRow.domain false Rows.codeRowsUptoRow.laid) (((Rows.OpenSpec.upto Rows.codeRowsSpec).at F).post enc Tryz.prog Tryz.f7 false true false false) := by
  obtain ⟨places, hx⟩ := rows_reads os enc
  refine returnsInHanded_of_row (C := Tryz.checked) (s := Rows.OpenSpec.upto Rows.codeRowsSpec) own_knob started (by kernel_rfl) Tryz.func7
    (witness_row_at (enc := enc) (C := Tryz.checked) false (laidWorld os) #[.slice none 0 0, .slice none 0 0] rfl (by kernel_rfl) (by kernel_rfl) (by kernel_rfl)
      (OpenSpec.preRow_of_cond 8 hx (by kernel_rfl) (fun k hk => by cases hk; kernel_rfl) (by kernel_rfl) (rows_met os))) ?_
  intro W base args ds gs before hval hW _ hcond _ hL hS _
  exact rows_contract H enc W base args ds gs before hval hW (hcond _ rfl) (max_at hS)

theorem rows_said : Rows.CodeRowsUptoSaid :=
  OpenClaim.holds_of_cond 7 Tryz.f7 rfl rfl rfl rfl rfl rfl rfl ⟨rfl, rfl, rfl, rfl, rfl⟩ rfl rfl rfl rfl rfl (by kernel_rfl) Tryz.func7 (by kernel_rfl)
    (of_decide_eq_true (by kernel_rfl)) (by unfold Func.isWrapper; first | (rw [if_pos (by decide +kernel)]; kernel_rfl) | (rw [if_neg (by decide +kernel)]; exact ⟨rfl, rfl⟩))
    (fun os started H enc _ F => by rw [OpenClaim.pre_eq_preRow]; exact rows_lifted os started H enc F)

theorem rows_plain (f : FuncId) (fn : Func) (hf : Tryz.pinned.checked.prog.funcNamed "corollary/corollarylaw03.CodeRows" = some f) (hfn : Tryz.pinned.checked.prog.funcs[f]? = some fn) :
    false = Tryz.pinned.checked.prog.looks [] ∧ ∀ (j : Nat) t, fn.params[j]? = some t → Tryz.pinned.checked.prog.wantsStandIn t = false := by
  obtain rfl : f = 7 := Option.some.inj ((show Tryz.prog.funcNamed "corollary/corollarylaw03.CodeRows" = some 7 by kernel_rfl).symm.trans hf) |>.symm
  obtain rfl : fn = Tryz.f7 := (Option.some.inj (Tryz.func7.symm.trans hfn)).symm
  refine ⟨by kernel_rfl, fun j t ht => ?_⟩
  rw [Tryz.params7] at ht
  have hm := Array.mem_of_getElem? ht
  simp at hm
  rcases hm with rfl
  exact (show Tryz.prog.wantsStandIn 32 = false by kernel_rfl)

theorem rows_card : Rows.CodeRowsUptoCardSaid :=
  Claim7.holds_tied_plain_at .later [] _ _ _ _ rows_said (fun _ h => by cases h) (by kernel_rfl) (fun _ h => by cases h) codeRowsUpto_row_tie rfl ⟨rfl, rfl⟩ (by kernel_rfl) rfl rows_plain (by kernel_rfl)
end Go.Proofs.YtddmegbhefmloaaGreatDoor
