/- The walks over package big: sums, differences and products of lists of parts. -/
import Derived.Test.YtcclclginhhlaaaDoorBigC
import Derived.Test.YtcclclginhhlaaaDoorDigB
namespace Go.Proofs.YtcclclginhhlaaaDoor
open Go.RowKit Go.Shelf
open Pl Dig
theorem info78m : (Tryd.prog.info? 78).map (fun i => (i.zero, i.size, i.bytes)) = some (some (.int .u32 0), 1, 4) := by kernel_rfl
/-- What of a list of parts stands beside its address. -/
def PartP (w : World) (m : Nat) (A : Option Addr) (c : Nat) : Prop := (dg b9 m).length ≤ c ∧ c ≤ maxLen ∧ Rd w w.heap.size 78 A (u32s (dg b9 m))
theorem made_below {w w' : World} (h : w.grownBy w' none) : Below w.heap.size w w' := (Below.refl _ w).grown h (Nat.le_refl _) (fun _ hk => by cases hk)

set_option maxRecDepth 100000 in
set_option maxHeartbeats 1000000 in
theorem add_any (xs ys : List Nat) (A B : Option Addr) (ca cb : Nat) (w : World) (hA : Rd w w.heap.size 78 A (u32s xs)) (hB : Rd w w.heap.size 78 B (u32s ys)) (hx : ∀ d ∈ xs, d < b9) (hy : ∀ d ∈ ys, d < b9) (hlx : xs.length ≤ 1000) (hly : ys.length ≤ 1000) :
    Calls Tryd.prog 57 #[.slice A xs.length ca, .slice B ys.length cb] w fun e w' => ∃ A' c', e = .returned (.slice A' (dg b9 (vl b9 xs + vl b9 ys)).length c') ∧ PartP w' (vl b9 xs + vl b9 ys) A' c' ∧ Below w.heap.size w w' := by
  generalize hv : vl b9 xs + vl b9 ys = tot
  have HV := Lib.hid hv; have HX := Lib.hid hx; have HY := Lib.hid hy; have HA := Lib.hid hA; have HB := Lib.hid hB
  clear hv hx hy hA hB
  obtain ⟨i78, hi, hz0, hz1, hz2⟩ := info_parts info78m
  have HI := Lib.hid hi; have HZ0 := Lib.hid hz0; have HZ1 := Lib.hid hz1; have HZ2 := Lib.hid hz2
  clear hi hz0 hz1 hz2
  go_enter Tryd.func57, Tryd.ntmps57
  go_upto_if 13 with fail
  go_cut [0, 1] (fun s0 s1 wx => ∃ (A B : Option Addr) (ca cb : Nat) (xs ys : List Nat), s0 = .slice A xs.length ca ∧ s1 = .slice B ys.length cb ∧ ys.length ≤ xs.length ∧ xs.length ≤ 1000 ∧ vl b9 xs + vl b9 ys = tot ∧ (∀ d ∈ xs, d < b9) ∧ (∀ d ∈ ys, d < b9) ∧ Rd w w.heap.size 78 A (u32s xs) ∧ Rd w w.heap.size 78 B (u32s ys) ∧ wx = w)
  case first =>
    by_cases h : xs.length < ys.length
    · go_wp2_with fail
      go_meet
      exact ⟨B, A, cb, ca, ys, xs, rfl, rfl, by omega, hly, by rw [Nat.add_comm]; exact HV.out, HY.out, HX.out, HB.out, HA.out, rfl⟩
    · go_wp2_with fail
      go_meet
      exact ⟨A, B, ca, cb, xs, ys, rfl, rfl, by omega, hlx, HV.out, HX.out, HY.out, HA.out, HB.out, rfl⟩
  case rest =>
    clear HV HX HY HA HB hlx hly
    obtain ⟨A, B, ca, cb, xs, ys, rfl, rfl, hle, hlx, hv, hx, hy, hA, hB, hwx⟩ := hcut
    subst hwx
    obtain ⟨w, hww⟩ : ∃ z, z = wc := ⟨_, rfl⟩
    subst hww
    have HV := Lib.hid hv; have HX := Lib.hid hx; have HY := Lib.hid hy; have HA := Lib.hid hA; have HB := Lib.hid hB
    clear hv hx hy hA hB
    go_wp2_with (at_make; refine wpList_make_own _ rfl _ _ 52 rfl w.heap.size 78 i78 (.int .u32 0) 1 Tryd.underlying52 HI.out HZ0.out HZ1.out .i64 .i64 _ (xs.length + 1) rfl rfl (by omega) (by rw [HZ2.out]; omega) (by unfold maxLen; omega) (Nat.le_refl _) ?_; intro w1 hown hgr; have HOWN := Lib.hid hown; have HBL := Lib.hid (made_below hgr); clear hown hgr)
    go_loopg [5, 6, 22] (xs.length + 1) (fun g s5 s6 s22 wr => ∃ (i c : Nat) (acc : List Nat), g = xs.length + 1 - i ∧ i ≤ xs.length ∧ s22 = .int .i64 (i : Int) ∧ s6 = .int .u32 (c : Int) ∧ c ≤ 1 ∧ acc.length = i ∧ (∀ d ∈ acc, d < b9) ∧
      vl b9 acc + b9 ^ i * c = vl b9 (xs.take i) + vl b9 (ys.take i) ∧ wr.ownsRow w.heap.size 78 1 s5 i (u32s acc) ∧ Below w.heap.size w wr)
    case atStart => exact ⟨0, 0, [], rfl, by omega, rfl, rfl, by omega, rfl, by simp, by simp [vl], HOWN.out, HBL.out⟩
    case round =>
      obtain ⟨i, c, acc, hg, hi, rfl, rfl, hc, hacc, h9, hval, hown, hB⟩ := hrel
      obtain ⟨wo, hwo⟩ : ∃ wo, wo = wr := ⟨_, rfl⟩
      subst hwo
      have HG := Lib.hid hg; have HACC := Lib.hid hacc; have H9 := Lib.hid h9; have HVAL := Lib.hid hval; have HOWN := Lib.hid hown; have HBW := Lib.hid hB
      clear hg hacc h9 hval hown hB
      have hwz := HBW.out.size
      by_cases hlt : i < xs.length
      · obtain ⟨b, off, rfl, hbl, hcx⟩ := (HA.out.below HBW.out).u32 hlt
        have hx9 : xs.getD i 0 < 1000000000 := getD_ltB (by decide) HX.out i
        have hy9 : ys.getD i 0 < 1000000000 := getD_ltB (by decide) HY.out i
        have hst := add_step (b := b9) (xs := xs) (ys := ys) HACC.out HVAL.out
        generalize xs.getD i 0 = x at hx9 hst hcx
        generalize hyy : ys.getD i 0 = y at hy9 hst
        have HST := Lib.hid hst; have HYY := Lib.hid hyy
        clear hst hyy
        go_upto_if 33 with fail
        go_cut [6] (fun s6 wx => s6 = .int .u32 ((c + x + y : Nat) : Int) ∧ wx = wo)
        case first =>
          by_cases hly : i < ys.length
          · obtain ⟨b', off', rfl, hbl', hcy⟩ := (HB.out.below HBW.out).u32 hly
            rw [HYY.out] at hcy
            go_wp2_with fail
            go_meet
            exact ⟨by congr 1, rfl⟩
          · have h0 : y = 0 := by rw [← HYY.out]; simp [List.getD_eq_getElem?_getD, List.getElem?_eq_none (by omega : ys.length ≤ i)]
            go_wp2_with fail
            go_meet
            exact ⟨by congr 1; omega, rfl⟩
        case rest =>
          obtain ⟨rfl, hwx⟩ := hcut
          subst hwx
          obtain ⟨wr, hwr⟩ : ∃ z, z = wc := ⟨_, rfl⟩
          subst hwr
          generalize hS : c + x + y = S at HST
          have hS2 : S < 2000000000 := by omega
          clear hS
          go_wp2_with (at_builtin; refine wpList_app1 _ rfl (.tmp 40) (.tmp 43) 52 rfl w.heap.size 78 (.int .u32 0) 4 Tryd.underlying52 info78m rfl _ i _ rfl (HOWN.out.alloc _) wr.heap.size 1 (.int .u32 ((S % 1000000000 : Nat) : Int)) rfl (by simp [World.cell?_alloc_new]) (by simp [Value.oneCell']) (by omega) (by omega) (by simp; omega) ?_; intro g' cap' w3 hA; have HA2 := Lib.hid hA; clear hA)
          go_roundg (xs.length + 1 - (i + 1))
          case measure => have := HG.out; omega
          case rel =>
            have ho := HA2.out.1
            rw [← u32s_snoc] at ho
            refine ⟨i + 1, S / 1000000000, acc ++ [S % 1000000000], rfl, by omega, by go_num, by congr 1, by omega, by rw [List.length_append, HACC.out]; rfl, ?_, HST.out, ho, (HBW.out.alloc (by omega) _).trans (HA2.out.2.2.mono (by omega))⟩
            intro d hd
            rcases List.mem_append.1 hd with h | h
            · exact H9.out d h
            · simp at h; rw [h]; exact Nat.mod_lt _ (by decide)
      · obtain rfl : i = xs.length := by omega
        have hfin : vl b9 (acc ++ [c]) = tot := by
          have h := HVAL.out
          rw [List.take_length, List.take_of_length_le hle, HV.out] at h
          rw [vl_snoc, HACC.out]; exact h
        have h9' : ∀ d ∈ acc ++ [c], d < b9 := by
          intro d hd
          rcases List.mem_append.1 hd with h | h
          · exact H9.out d h
          · simp at h; rw [h]; exact Nat.lt_of_le_of_lt hc (by decide)
        have hlen : (acc ++ [c]).length = xs.length + 1 := by rw [List.length_append, HACC.out]; rfl
        have HF := Lib.hid hfin; have H9' := Lib.hid h9'; have HLEN := Lib.hid hlen
        clear hfin h9' hlen
        go_wp2_with (at_builtin; refine wpList_app1 _ rfl (.tmp 48) (.tmp 50) 52 rfl w.heap.size 78 (.int .u32 0) 4 Tryd.underlying52 info78m rfl _ xs.length _ rfl (HOWN.out.alloc _) wo.heap.size 1 (.int .u32 (c : Int)) rfl (by simp [World.cell?_alloc_new]) (by simp [Value.oneCell']) (by omega) (by omega) (by simp; omega) ?_; intro g' cap' w3 hA; have HA2 := Lib.hid hA; clear hA)
        have ho := HA2.out.1
        rw [← u32s_snoc] at ho
        obtain ⟨A3, c3, he3, hc1, hc2, hrd⟩ := own_slice ho
        injection he3 with e1 _ e3
        subst e1; subst e3
        have HT := Lib.hid (trimmed_any _ _ (acc ++ [c]) (by rw [HLEN.out]; omega) (by rw [HLEN.out]; exact hc1) hc2 w3 hrd H9'.out)
        clear ho hc1 hc2 hrd
        rw [HF.out, HLEN.out] at HT
        have hB3 := (HBW.out.alloc (by omega) _).trans (HA2.out.2.2.mono (by omega))
        have HB3 := Lib.hid hB3
        clear hB3
        go_wp2_with (go_at_call 69; refine HT.out.mono ?_; rintro e w4 ⟨⟨A4, c4, rfl, m1, m2, m3⟩, hB4⟩; have HM := Lib.hid (And.intro m1 (And.intro m2 m3)); have HB4 := Lib.hid hB4; clear m1 m2 m3 hB4)
        go_ret
        exact ⟨A4, c4, rfl, HM.out, HB3.out.trans (HB4.out.mono HB3.out.size)⟩

set_option maxRecDepth 100000 in
set_option maxHeartbeats 1000000 in
theorem sub_any (xs ys : List Nat) (A B : Option Addr) (ca cb : Nat) (w : World) (hA : Rd w w.heap.size 78 A (u32s xs)) (hB : Rd w w.heap.size 78 B (u32s ys)) (hx : ∀ d ∈ xs, d < b9) (hy : ∀ d ∈ ys, d < b9) (hlx : xs.length ≤ 10000) (hle : ys.length ≤ xs.length) (hv : vl b9 ys ≤ vl b9 xs) :
    Calls Tryd.prog 59 #[.slice A xs.length ca, .slice B ys.length cb] w fun e w' => ∃ A' c', e = .returned (.slice A' (dg b9 (vl b9 xs - vl b9 ys)).length c') ∧ PartP w' (vl b9 xs - vl b9 ys) A' c' ∧ Fr w.heap.size A' ∧ Below w.heap.size w w' := by
  have HV := Lib.hid hv; have HX := Lib.hid hx; have HY := Lib.hid hy; have HA := Lib.hid hA; have HB := Lib.hid hB
  generalize htt : vl b9 xs - vl b9 ys = tot
  have HTT := Lib.hid htt
  clear hv hx hy hA hB htt
  obtain ⟨i78, hi, hz0, hz1, hz2⟩ := info_parts info78m
  have HI := Lib.hid hi; have HZ0 := Lib.hid hz0; have HZ1 := Lib.hid hz1; have HZ2 := Lib.hid hz2
  clear hi hz0 hz1 hz2
  go_enter Tryd.func59, Tryd.ntmps59
  go_wp2_with (at_make; refine wpList_make_own _ rfl _ _ 52 rfl w.heap.size 78 i78 (.int .u32 0) 1 Tryd.underlying52 HI.out HZ0.out HZ1.out .i64 .i64 _ xs.length rfl rfl rfl (by rw [HZ2.out]; omega) (by unfold maxLen; omega) (Nat.le_refl _) ?_; intro w1 hown hgr; have HOWN := Lib.hid hown; have HBL := Lib.hid (made_below hgr); clear hown hgr)
  go_loopg [5, 6, 14] (xs.length + 1) (fun g s5 s6 s14 wr => ∃ (i q : Nat) (acc : List Nat), g = xs.length + 1 - i ∧ i ≤ xs.length ∧ s14 = .int .i64 (i : Int) ∧ s6 = .int .u32 (q : Int) ∧ q ≤ 1 ∧ acc.length = i ∧ (∀ d ∈ acc, d < b9) ∧
    vl b9 acc + vl b9 (ys.take i) = vl b9 (xs.take i) + b9 ^ i * q ∧ wr.ownsRow w.heap.size 78 1 s5 i (u32s acc) ∧ Below w.heap.size w wr)
  case atStart => exact ⟨0, 0, [], rfl, by omega, rfl, rfl, by omega, rfl, by simp, by simp [vl], HOWN.out, HBL.out⟩
  case round =>
    obtain ⟨i, q, acc, hg, hi, rfl, rfl, hq, hacc, h9, hval, hown, hB⟩ := hrel
    obtain ⟨wo, hwo⟩ : ∃ wo, wo = wr := ⟨_, rfl⟩
    subst hwo
    have HG := Lib.hid hg; have HACC := Lib.hid hacc; have H9 := Lib.hid h9; have HVAL := Lib.hid hval; have HOWN := Lib.hid hown; have HBW := Lib.hid hB
    clear hg hacc h9 hval hown hB
    have hwz := HBW.out.size
    by_cases hlt : i < xs.length
    · obtain ⟨b, off, rfl, hbl, hcx⟩ := (HA.out.below HBW.out).u32 hlt
      have hx9 : xs.getD i 0 < 1000000000 := getD_ltB (by decide) HX.out i
      have hy9 : ys.getD i 0 < 1000000000 := getD_ltB (by decide) HY.out i
      generalize hxx : xs.getD i 0 = x at hx9 hcx
      generalize hyy : ys.getD i 0 = y at hy9
      have HXX := Lib.hid hxx; have HYY := Lib.hid hyy
      clear hxx hyy
      obtain ⟨T, hT⟩ : ∃ T, T = x + 1000000000 - q - y := ⟨_, rfl⟩
      have hT1 : T + q + y = x + 1000000000 := by omega
      have HT1 := Lib.hid hT1
      have hq' : (q : Int) ≤ 1 := by omega
      clear hT hT1
      go_upto_if 26 with fail
      go_cut [8] (fun s8 wx => s8 = .int .u32 (T : Int) ∧ wx = wo)
      case first =>
        by_cases hly : i < ys.length
        · obtain ⟨b', off', rfl, hbl', hcy⟩ := (HB.out.below HBW.out).u32 hly
          rw [HYY.out] at hcy
          go_wp2_with fail
          go_meet
          exact ⟨by congr 1; have := HT1.out; omega, rfl⟩
        · have h0 : y = 0 := by rw [← HYY.out]; simp [List.getD_eq_getElem?_getD, List.getElem?_eq_none (by omega : ys.length ≤ i)]
          go_wp2_with fail
          go_meet
          exact ⟨by congr 1; have := HT1.out; omega, rfl⟩
      case rest =>
        obtain ⟨rfl, hwx⟩ := hcut
        subst hwx
        obtain ⟨wr, hwr⟩ : ∃ z, z = wc := ⟨_, rfl⟩
        subst hwr
        have hsd := sub_digit (b := 1000000000) hx9 hy9 hq HT1.out
        have hT2 : T / 1000000000 ≤ 1 := hsd.2
        have hT3 : ((T : Int) / 1000000000) ≤ 1 := by omega
        have hTb : T < 2000000001 := by have := HT1.out; omega
        have hst := sub_step (b := b9) (xs := xs) (ys := ys) (d := T % 1000000000) (q' := 1 - T / 1000000000) HACC.out (by rw [HXX.out, HYY.out]; exact hsd.1) HVAL.out
        have HST := Lib.hid hst
        clear hst hsd
        go_wp2_with (at_builtin; refine wpList_app1 _ rfl (.tmp 33) (.tmp 36) 52 rfl w.heap.size 78 (.int .u32 0) 4 Tryd.underlying52 info78m rfl _ i _ rfl (HOWN.out.alloc _) wr.heap.size 1 (.int .u32 ((T % 1000000000 : Nat) : Int)) rfl (by simp [World.cell?_alloc_new]) (by simp [Value.oneCell']) (by omega) (by omega) (by simp; omega) ?_; intro g' cap' w3 hA; have HA2 := Lib.hid hA; clear hA)
        go_roundg (xs.length + 1 - (i + 1))
        case measure => have := HG.out; omega
        case rel =>
          have ho := HA2.out.1
          rw [← u32s_snoc] at ho
          refine ⟨i + 1, 1 - T / 1000000000, acc ++ [T % 1000000000], rfl, by omega, by go_num, by rw [show (1 - (T : Int) / 1000000000) = ((1 - T / 1000000000 : Nat) : Int) from by omega], by omega, by rw [List.length_append, HACC.out]; rfl, ?_, HST.out, ho, (HBW.out.alloc (by omega) _).trans (HA2.out.2.2.mono (by omega))⟩
          intro d hd
          rcases List.mem_append.1 hd with h | h
          · exact H9.out d h
          · simp at h; rw [h]; exact Nat.mod_lt _ (by decide)
    · obtain rfl : i = xs.length := by omega
      have hfin : vl b9 acc = tot := by rw [← HTT.out]; exact sub_end HACC.out hle H9.out HV.out HVAL.out
      obtain ⟨A3, c3, rfl, hc1, hc2, hrd⟩ := own_slice HOWN.out
      have HT := Lib.hid (trimmed_at A3 c3 acc (by rw [HACC.out]; omega) (by rw [HACC.out]; exact hc1) hc2 wo hrd H9.out)
      clear hc1 hc2 hrd
      rw [hfin, HACC.out] at HT
      have HFI := Lib.hid hfin
      clear hfin
      go_wp2_with (go_at_call 69; refine HT.out.mono ?_; rintro e w4 ⟨⟨c4, rfl, m1, m2, m3⟩, hB4⟩; have HM := Lib.hid (And.intro m1 (And.intro m2 m3)); have HB4 := Lib.hid hB4; clear m1 m2 m3 hB4)
      go_ret
      exact ⟨A3, c4, rfl, HM.out, own_fr HOWN.out, HBW.out.trans (HB4.out.mono HBW.out.size)⟩

theorem u32s_set (P : List Nat) (i d : Nat) : (u32s P).set i (.int .u32 (d : Int)) = u32s (P.set i d) := by simp [u32s, List.map_set]
theorem u32s_get {P : List Nat} {i : Nat} (h : i < P.length) : (u32s P)[i]? = some (.int .u32 ((P.getD i 0 : Nat) : Int)) := by simp [u32s, List.getD_eq_getElem?_getD, h]
theorem made_u32 (n : Nat) : (madeCells #[.int .u32 0] n).toList = u32s (List.replicate n 0) := by rw [toList_madeCells_one]; simp [u32s]
set_option maxRecDepth 100000 in
set_option maxHeartbeats 2000000 in
theorem mul_any (xs ys : List Nat) (A B : Option Addr) (ca cb : Nat) (w : World) (hA : Rd w w.heap.size 78 A (u32s xs)) (hB : Rd w w.heap.size 78 B (u32s ys)) (hx : ∀ d ∈ xs, d < b9) (hy : ∀ d ∈ ys, d < b9) (hlx : xs.length ≤ 1000) (hly : ys.length ≤ 1000) :
    Calls Tryd.prog 60 #[.slice A xs.length ca, .slice B ys.length cb] w fun e w' => ∃ A' c', e = .returned (.slice A' (dg b9 (vl b9 xs * vl b9 ys)).length c') ∧ PartP w' (vl b9 xs * vl b9 ys) A' c' ∧ Below w.heap.size w w' := by
  have HX := Lib.hid hx; have HY := Lib.hid hy; have HA := Lib.hid hA; have HB := Lib.hid hB
  clear hx hy hA hB
  obtain ⟨i78, hi, hz0, hz1, hz2⟩ := info_parts info78m
  have HI := Lib.hid hi; have HZ0 := Lib.hid hz0; have HZ1 := Lib.hid hz1; have HZ2 := Lib.hid hz2
  clear hi hz0 hz1 hz2
  obtain ⟨L, hL⟩ : ∃ L, L = xs.length + ys.length := ⟨_, rfl⟩
  have hL2 : L ≤ 2000 := by omega
  have HL := Lib.hid hL
  clear hL
  go_enter Tryd.func60, Tryd.ntmps60
  go_wp2_with (at_make; refine wpList_make_full _ rfl _ _ 52 rfl w.heap.size 78 i78 (.int .u32 0) 1 Tryd.underlying52 HI.out HZ0.out HZ1.out .i64 .i64 _ _ L rfl rfl (by have := HL.out; omega) (by have := HL.out; omega) (by rw [HZ2.out]; omega) (by unfold maxLen; omega) (Nat.le_refl _) ?_; intro w1 hown hgr; have HOWN := Lib.hid hown; have HBL := Lib.hid (made_below hgr); clear hown hgr)
  go_loopg [19] (xs.length + 1) (fun g s19 wr => ∃ (i : Nat) (P : List Nat), g = xs.length + 1 - i ∧ i ≤ xs.length ∧ s19 = .int .i64 (i : Int) ∧ P.length = L ∧ (∀ d ∈ P, d < b9) ∧ (∀ k, i + ys.length ≤ k → P.getD k 0 = 0) ∧
    vl b9 P = vl b9 (xs.take i) * vl b9 ys ∧ wr.ownsRow w.heap.size 78 1 (.slice (some ⟨w.heap.size, 0, none⟩) L L) L (u32s P) ∧ Below w.heap.size w wr)
  case atStart =>
    refine ⟨0, List.replicate L 0, rfl, by omega, rfl, by simp, ?_, ?_, ?_, ?_, HBL.out⟩
    · intro d hd; rw [List.mem_replicate] at hd; rw [hd.2]; decide
    · intro k _; simp [List.getD_eq_getElem?_getD, List.getElem?_replicate]; split <;> rfl
    · rw [vl_zeros b9 (List.replicate L 0) (fun d hd => (List.mem_replicate.1 hd).2)]; simp [vl]
    · have := HOWN.out; rw [show (Value.int IntKind.u32 0).cells = #[.int .u32 0] from rfl, Nat.mul_one, made_u32] at this; exact this
  case round =>
    obtain ⟨i, P, hg, hi, rfl, hP, h9, hz, hval, hown, hB⟩ := hrel
    obtain ⟨wo, hwo⟩ : ∃ wo, wo = wr := ⟨_, rfl⟩
    subst hwo
    have HG := Lib.hid hg; have HP := Lib.hid hP; have H9 := Lib.hid h9; have HZ := Lib.hid hz; have HVAL := Lib.hid hval; have HOWN := Lib.hid hown; have HBW := Lib.hid hB
    clear hg hP h9 hz hval hown hB
    have hwz := HBW.out.size
    by_cases hlt : i < xs.length
    · obtain ⟨b, off, rfl, hbl, hcx⟩ := (HA.out.below HBW.out).u32 hlt
      have hx9 : xs.getD i 0 < 1000000000 := getD_ltB (by decide) HX.out i
      generalize hxx : xs.getD i 0 = x at hx9 hcx
      have HXX := Lib.hid hxx
      clear hxx
      go_wp2_with fail
      go_loopg [8, 26] (ys.length + 1) (fun g s8 s26 wr => ∃ (j c : Nat) (P : List Nat), g = ys.length + 1 - j ∧ j ≤ ys.length ∧ s26 = .int .i64 (j : Int) ∧ s8 = .int .u64 (c : Int) ∧ c < 1000000000 ∧ P.length = L ∧ (∀ d ∈ P, d < b9) ∧ (∀ k, i + ys.length ≤ k → P.getD k 0 = 0) ∧
        vl b9 P + b9 ^ (i + j) * c = vl b9 (xs.take i) * vl b9 ys + b9 ^ i * (xs.getD i 0 * vl b9 (ys.take j)) ∧ wr.ownsRow w.heap.size 78 1 (.slice (some ⟨w.heap.size, 0, none⟩) L L) L (u32s P) ∧ Below w.heap.size w wr)
      case atStart => exact ⟨0, 0, P, rfl, by omega, rfl, rfl, by omega, HP.out, H9.out, HZ.out, by rw [HVAL.out]; simp [vl], HOWN.out, HBW.out⟩
      case round =>
        clear HP H9 HZ HVAL HOWN HBW hcx hwz
        obtain ⟨j, c, P, hg, hj, rfl, rfl, hc, hP, h9, hz, hval, hown, hB⟩ := hrel
        obtain ⟨wo, hwo⟩ : ∃ wo, wo = wr := ⟨_, rfl⟩
        subst hwo
        have HG2 := Lib.hid hg; have HP := Lib.hid hP; have H9 := Lib.hid h9; have HZ := Lib.hid hz; have HVAL := Lib.hid hval; have HOWN := Lib.hid hown; have HBW := Lib.hid hB
        clear hg hP h9 hz hval hown hB
        have hwz := HBW.out.size
        by_cases hlt2 : j < ys.length
        · obtain ⟨b', off', rfl, hbl', hcy⟩ := (HB.out.below HBW.out).u32 hlt2
          have hy9 : ys.getD j 0 < 1000000000 := getD_ltB (by decide) HY.out j
          have hp9 : P.getD (i + j) 0 < 1000000000 := getD_ltB (by decide) H9.out (i + j)
          have hijL : i + j < L := by have := HL.out; omega
          have hcp := HOWN.out.cellAt (i + j) (by omega)
          rw [u32s_get (by rw [HP.out]; exact hijL)] at hcp
          have hfp := HOWN.out.frozenAt (i + j)
          have hst := mul_step (b := b9) (xs := xs) (ys := ys) (P := P) (i := i) (j := j) (c := c) (by rw [HP.out]; exact hijL) HVAL.out
          rw [HXX.out] at hst
          have hTb := mul_bound hc hx9 hy9 hp9
          generalize ys.getD j 0 = y at hy9 hst hcy hTb
          generalize P.getD (i + j) 0 = p at hp9 hst hcp hTb
          have HST := Lib.hid hst
          clear hst
          have hxy0 : 0 ≤ (x : Int) * (y : Int) := by omega
          have hxy1 : (x : Int) * (y : Int) ≤ 999999998000000001 := by
            have := Nat.mul_le_mul (show x ≤ 999999999 by omega) (show y ≤ 999999999 by omega)
            have h2 : ((x * y : Nat) : Int) ≤ 999999998000000001 := by omega
            rwa [Int.natCast_mul] at h2
          obtain ⟨T, hT⟩ : ∃ T, T = c + (x * y + p) := ⟨_, rfl⟩
          have hTI : (c : Int) + ((x : Int) * (y : Int) + (p : Int)) = (T : Int) := by rw [hT]; simp
          rw [← hT] at hTb HST
          have hij : ((i : Int) + (j : Int)).toNat = i + j := by omega
          have HTI := Lib.hid hTI
          have HCP := Lib.hid hcp
          clear hT hTI
          go_upto_region 9 with fail
          go_cut [8] (fun s8 wx => s8 = .int .u64 (T : Int) ∧ wx = wo)
          case first =>
            go_wp2_with fail
            go_meet
            exact ⟨by rw [HTI.out], rfl⟩
          case rest =>
            obtain ⟨rfl, hwx⟩ := hcut
            subst hwx
            obtain ⟨wr, hwr⟩ : ∃ z, z = wc := ⟨_, rfl⟩
            subst hwr
            have hT1 : T % 1000000000 < 1000000000 := Nat.mod_lt _ (by decide)
            have hT3 : T / 1000000000 < 1000000000 := Nat.div_lt_of_lt_mul hTb
            have hT2 : (T : Int) % 1000000000 ≤ 999999999 := by omega
            clear hxy0 hxy1 hcy
            go_wp2_with fail
            go_roundg (ys.length + 1 - (j + 1))
            case measure => have := HG2.out; omega
            case rel =>
              have ho := (HOWN.out.stored (i + j) (.int .u32 ((T % 1000000000 : Nat) : Int))).1
              rw [u32s_set] at ho
              refine ⟨j + 1, T / 1000000000, P.set (i + j) (T % 1000000000), rfl, by omega, by go_num, by congr 1, hT3, by rw [List.length_set]; exact HP.out, mem_set H9.out hT1, ?_, by rw [HXX.out]; exact HST.out, ho, HBW.out.setCell (Nat.le_refl _) _⟩
              intro k hk
              rw [lget_set_ne (by omega)]
              exact HZ.out k hk
        · obtain rfl : j = ys.length := by omega
          have hijL : i + ys.length < L := by have := HL.out; omega
          have hcp := HOWN.out.cellAt (i + ys.length) (by omega)
          rw [u32s_get (by rw [HP.out]; exact hijL)] at hcp
          have hfp := HOWN.out.frozenAt (i + ys.length)
          have hst := mul_last (b := b9) (xs := xs) (ys := ys) (P := P) (i := i) (c := c) (by rw [HP.out]; exact hijL) (HZ.out _ (Nat.le_refl _)) HVAL.out
          have hij : ((i : Int) + (ys.length : Int)).toNat = i + ys.length := by omega
          have HST := Lib.hid hst
          clear hst
          go_wp2_with fail
          go_roundg (xs.length + 1 - (i + 1))
          case measure => have := HG.out; omega
          case rel =>
            have ho := (HOWN.out.stored (i + ys.length) (.int .u32 (c : Int))).1
            rw [u32s_set] at ho
            refine ⟨i + 1, P.set (i + ys.length) c, rfl, by omega, by go_num, by rw [List.length_set]; exact HP.out, mem_set H9.out hc, ?_, HST.out, ho, HBW.out.setCell (Nat.le_refl _) _⟩
            intro k hk
            rw [lget_set_ne (by omega)]
            exact HZ.out k (by omega)
    · obtain rfl : i = xs.length := by omega
      have hfin : vl b9 P = vl b9 xs * vl b9 ys := by rw [HVAL.out, List.take_length]
      have hown := HOWN.out
      obtain ⟨A3, c3, he3, hc1, hc2, hrd⟩ := own_slice HOWN.out
      injection he3 with e1 _ e3
      subst e1; subst e3
      have HT := Lib.hid (trimmed_any _ _ P (by rw [HP.out]; omega) (by rw [HP.out]; exact hc1) hc2 wo hrd H9.out)
      clear hc1 hc2 hrd hown
      rw [hfin, HP.out] at HT
      have HFI := Lib.hid hfin
      clear hfin
      go_wp2_with (go_at_call 69; refine HT.out.mono ?_; rintro e w4 ⟨⟨A4, c4, rfl, m1, m2, m3⟩, hB4⟩; have HM := Lib.hid (And.intro m1 (And.intro m2 m3)); have HB4 := Lib.hid hB4; clear m1 m2 m3 hB4)
      go_ret
      exact ⟨A4, c4, rfl, HM.out, HBW.out.trans (HB4.out.mono HBW.out.size)⟩
end Go.Proofs.YtcclclginhhlaaaDoor
