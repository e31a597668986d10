/- The walk over the document own answer for layer 1: the sum of magnitudes. -/
import Derived.Test.YtcclclginhhlaaaDoorRefF
namespace Go.Proofs.YtcclclginhhlaaaDoor
open Go.RowKit
open Pl Dig

theorem getD_lt {ds : List Nat} {b : Nat} (hb : 0 < b) (h : ∀ d ∈ ds, d < b) (i : Nat) : ds.getD i 0 < b := by
  by_cases hi : i < ds.length
  · have e : ds.getD i 0 = ds[i] := by simp [hi]
    rw [e]; exact h _ (List.getElem_mem hi)
  · simp [List.getD_eq_getElem?_getD, List.getElem?_eq_none (by omega : ds.length ≤ i)]; exact hb
theorem vl_drop_getD (b : Nat) (ds : List Nat) (i : Nat) : vl b (ds.drop i) = ds.getD i 0 + b * vl b (ds.drop (i + 1)) := by
  by_cases hi : i < ds.length
  · rw [vl_drop_step b hi]; simp [hi]
  · rw [List.drop_eq_nil_of_le (by omega), List.drop_eq_nil_of_le (by omega)]
    simp [vl, List.getD_eq_getElem?_getD, List.getElem?_eq_none (by omega : ds.length ≤ i)]
/-- One step of the sum on paper. -/
theorem plus_step {ds es acc : List Nat} {i c tot : Nat} (hi : acc.length = i) (h : vl 10 acc + 10 ^ i * (c + vl 10 (ds.drop i) + vl 10 (es.drop i)) = tot) :
    vl 10 (acc ++ [(ds.getD i 0 + es.getD i 0 + c) % 10]) + 10 ^ (i + 1) * ((ds.getD i 0 + es.getD i 0 + c) / 10 + vl 10 (ds.drop (i + 1)) + vl 10 (es.drop (i + 1))) = tot := by
  rw [← h, vl_snoc, hi, vl_drop_getD 10 ds i, vl_drop_getD 10 es i, Nat.pow_succ]
  generalize ds.getD i 0 = x
  generalize es.getD i 0 = y
  generalize vl 10 (ds.drop (i + 1)) = u
  generalize vl 10 (es.drop (i + 1)) = v
  have e := Nat.mod_add_div (x + y + c) 10
  generalize (x + y + c) % 10 = m at *
  generalize (x + y + c) / 10 = q at *
  rw [Nat.mul_assoc, Nat.add_assoc, ← Nat.mul_add]
  congr 2
  omega

set_option maxRecDepth 100000 in
set_option maxHeartbeats 1000000 in
theorem plus_any (b b' : Bool) (A A' : Option Addr) (c c' : Nat) (ds ds' : List Nat) (w : World) (hr : Rd w w.heap.size 3 A (ints ds)) (hr' : Rd w w.heap.size 3 A' (ints ds')) (hl : ds.length ≤ 40000) (hl' : ds'.length ≤ 40000)
    (hd : ∀ d ∈ ds, d < 10) (hd' : ∀ d ∈ ds', d < 10) :
    Calls Tryd.prog 67 #[.agg #[.bool b, .slice A ds.length c], .agg #[.bool b', .slice A' ds'.length c']] w fun e w' => ∃ v, e = .returned v ∧ NumIs w' ((vl 10 ds + vl 10 ds' : Nat) : Int) v ∧ Below w.heap.size w w' := by
  have HD := Lib.hid (fun i => getD_lt (by decide) hd i); have HD' := Lib.hid (fun i => getD_lt (by decide) hd' i); clear hd hd'
  have HRW := Lib.hid (fun (W : World) (h : Below w.heap.size w W) => (hr.below h).more h.size)
  have HRW' := Lib.hid (fun (W : World) (h : Below w.heap.size w W) => (hr'.below h).more h.size)
  clear hr hr'
  go_enter Tryd.func67, Tryd.ntmps67
  go_wp2_with fail
  go_loopg [6, 7, 8] (max ds.length ds'.length + 2) (fun g s6 s7 s8 wr => ∃ (i q : Nat) (acc : List Nat) (v : Value), g = max ds.length ds'.length + 2 - i ∧ i ≤ max ds.length ds'.length + 1 ∧ s7 = .int .i64 (i : Int) ∧ s6 = .int .i64 (q : Int) ∧ q ≤ 1 ∧ acc.length = i ∧ (max ds.length ds'.length < i → q = 0) ∧ (∀ d ∈ acc, d < 10) ∧
    vl 10 acc + 10 ^ i * (q + vl 10 (ds.drop i) + vl 10 (ds'.drop i)) = vl 10 ds + vl 10 ds' ∧
    Blk wr w.heap.size 39 #[.bool b, .slice A ds.length c] ∧ Blk wr (w.heap.size + 1) 39 #[.bool b', .slice A' ds'.length c'] ∧ Blk wr (w.heap.size + 1 + 1) 39 #[.bool false, .slice none 0 0] ∧ Blk wr (w.heap.size + 1 + 1 + 1) 39 #[.bool false, v] ∧
    wr.ownsRow (w.heap.size + 1 + 1 + 1 + 1) 3 1 v i (ints acc) ∧ Below w.heap.size w wr)
  case atStart =>
    refine ⟨0, 0, [], .slice none 0 0, rfl, by omega, rfl, rfl, by omega, rfl, fun _ => rfl, by simp, by simp [vl], (((Blk.new _ _ _).alloc _).alloc _).alloc _, ?_, ?_, ?_, World.ownsRow_nil _ _ _ _, ((((Below.refl _ _).alloc (Nat.le_refl _) _).alloc (by simp) _).alloc (by simp; omega) _).alloc (by simp; omega) _⟩
    · have := Blk.new (w.alloc (.cells #[.bool b, .slice A ds.length c] 39)) 39 #[.bool b', .slice A' ds'.length c']
      exact (by simpa using (this.alloc (.cells #[.bool false, .slice none 0 0] 39)).alloc (.cells #[.bool false, .slice none 0 0] 39))
    · have := Blk.new ((w.alloc (.cells #[.bool b, .slice A ds.length c] 39)).alloc (.cells #[.bool b', .slice A' ds'.length c'] 39)) 39 #[.bool false, .slice none 0 0]
      exact (by simpa using this.alloc (.cells #[.bool false, .slice none 0 0] 39))
    · have := Blk.new (((w.alloc (.cells #[.bool b, .slice A ds.length c] 39)).alloc (.cells #[.bool b', .slice A' ds'.length c'] 39)).alloc (.cells #[.bool false, .slice none 0 0] 39)) 39 #[.bool false, .slice none 0 0]
      simpa using this
  case round =>
    obtain ⟨i, q, acc, v, hg, hi, rfl, rfl, hq, hacc, hq0, hd10, htot, b1, b2, b3, b4, hown, hB⟩ := hrel
    have hz := b4.lt
    have c0 := b1.cell0; have c1 := b1.cell1; have d0 := b2.cell0; have d1 := b2.cell1; have x0 := b4.cell0; have x1 := b4.cell1; have k1 := b4.frozen 1
    have HG := Lib.hid hg; have HACC := Lib.hid hacc; have HQ0 := Lib.hid hq0; have H10 := Lib.hid hd10; have HTOT := Lib.hid htot
    have B1 := Lib.hid b1; have B2 := Lib.hid b2; have B3 := Lib.hid b3; have B4 := Lib.hid b4; have HOWN := Lib.hid hown; have HB := Lib.hid hB
    clear hg hacc hq0 hd10 htot b1 b2 b3 b4 hown hB
    by_cases hin : i ≤ max ds.length ds'.length
    · have hgo : i ≤ ds.length ∨ ¬ i ≤ ds.length ∧ i ≤ ds'.length := by omega
      obtain ⟨x, hx⟩ : ∃ x, ds.getD i 0 = x := ⟨_, rfl⟩
      obtain ⟨y, hy⟩ : ∃ y, ds'.getD i 0 = y := ⟨_, rfl⟩
      have hx10 : x < 10 := by rw [← hx]; exact HD.out i
      have hy10 : y < 10 := by rw [← hy]; exact HD'.out i
      have HX := Lib.hid hx; have HY := Lib.hid hy; clear hx hy
      have hil : i ≤ 40001 := by omega
      go_upto_region 4 with fail
      go_cut [21] (fun s21 wx => s21 = .bool true ∧ wx = wr)
      case first =>
        rcases hgo with h1 | ⟨h1, h2⟩
        · go_wp2_with fail
          go_meet
          exact ⟨rfl, rfl⟩
        · go_wp2_with fail
          go_meet
          exact ⟨by simp, rfl⟩
      case rest =>
        obtain ⟨rfl, hwx⟩ := hcut
        subst hwx
        obtain ⟨wr, hwr⟩ : ∃ z, z = wc := ⟨_, rfl⟩
        subst hwr
        clear hgo
        go_upto_region 6 with fail
        go_cut [8] (fun s8 wx => s8 = .int .i64 ((x + y + q : Nat) : Int) ∧ Blk wx w.heap.size 39 #[.bool b, .slice A ds.length c] ∧ Blk wx (w.heap.size + 1) 39 #[.bool b', .slice A' ds'.length c'] ∧ Blk wx (w.heap.size + 1 + 1) 39 #[.bool false, .slice none 0 0] ∧ Blk wx (w.heap.size + 1 + 1 + 1) 39 #[.bool false, v] ∧ wx.ownsRow (w.heap.size + 1 + 1 + 1 + 1) 3 1 v i (ints acc) ∧ Below w.heap.size w wx)
        case first =>
          have ew1 : IntKind.i64.wrap ((x : Int) + (y : Int)) = ((x + y : Nat) : Int) := by rw [IntWalk.i64_in _ (by omega)]; omega
          have ew2 : IntKind.i64.wrap (((x + y : Nat) : Int) + (q : Int)) = ((x + y + q : Nat) : Int) := by rw [IntWalk.i64_in _ (by omega)]; omega
          go_region_held3 (fun w' => w'.cell? ⟨w.heap.size, 0, none⟩ = some (.bool b) ∧ w'.cell? ⟨w.heap.size, 1, none⟩ = some (.slice A ds.length c) ∧ w'.cell? ⟨w.heap.size + 1, 0, none⟩ = some (.bool b') ∧ w'.cell? ⟨w.heap.size + 1, 1, none⟩ = some (.slice A' ds'.length c')) (go_keep)
            (first
              | (go_at_call_of 66 (Value.agg #[.bool b, .slice A ds.length c]); refine (digit_any b A c ds i _ (HRW.out _ (by first | exact HB.out.drew | exact (HB.out.drew).alloc (by show _ ≤ wr.heap.size; omega) _)) (by omega) (by omega)).mono ?_; rw [HX.out]; rintro e w' ⟨rfl, rfl⟩)
              | (go_at_call_of 66 (Value.agg #[.bool b', .slice A' ds'.length c']); refine (digit_any b' A' c' ds' i _ (HRW'.out _ (by first | exact HB.out.drew | exact (HB.out.drew).alloc (by show _ ≤ wr.heap.size; omega) _)) (by omega) (by omega)).mono ?_; rw [HY.out]; rintro e w' ⟨rfl, rfl⟩))
          all_goals
            clear ew1 ew2
            go_wp2_with fail
            go_meet
            refine ⟨by congr 1; rw [IntWalk.i64_in _ (by omega)]; omega, ((B1.out.drew).alloc _).alloc _, ((B2.out.drew).alloc _).alloc _, ((B3.out.drew).alloc _).alloc _, ((B4.out.drew).alloc _).alloc _, ((HOWN.out.drew).alloc _).alloc _, ((HB.out.drew).alloc (by show _ ≤ wr.heap.size; omega) _).alloc (by simp; omega) _⟩
        case rest =>
          obtain ⟨rfl, b1, b2, b3, b4, hown, hB⟩ := hcut
          have hz := b4.lt
          have x1 := b4.cell1; have k1 := b4.frozen 1
          have B1 := Lib.hid b1; have B2 := Lib.hid b2; have B3 := Lib.hid b3; have B4 := Lib.hid b4; have HOWN := Lib.hid hown; have HB := Lib.hid hB
          clear b1 b2 b3 b4 hown hB
          generalize hS : x + y + q = S
          have hS20 : S < 20 := by omega
          have HS := Lib.hid hS; clear hS
          obtain ⟨wr, hwr⟩ : ∃ z, z = wc := ⟨_, rfl⟩
          subst hwr
          go_wp2_with (at_builtin; refine wpList_app1 _ rfl (.tmp 34) (.tmp 37) 37 rfl (w.heap.size + 1 + 1 + 1 + 1) 3 (.int .i64 0) 8 Tryd.underlying37 info3 rfl _ i _ rfl (HOWN.out.alloc _) wr.heap.size 1 (.int .i64 ((S % 10 : Nat) : Int)) rfl (by simp [World.cell?_alloc_new]) (by simp [Value.oneCell']) (by omega) (by omega) (by simp; omega) ?_; intro g' cap' w3 hA; have bX3 := hA.blk (B4.out.alloc _) (by decide); have y1 := bX3.cell1; have k3 := bX3.frozen 1; have BX3 := Lib.hid bX3; clear bX3; have HA := Lib.hid hA; clear hA)
          go_roundg (max ds.length ds'.length + 2 - (i + 1))
          case measure => have := HG.out; omega
          case rel =>
            have ho := HA.out.1
            rw [← ints_snoc] at ho
            have hst := plus_step HACC.out HTOT.out
            rw [HX.out, HY.out, HS.out] at hst
            refine ⟨i + 1, S / 10, acc ++ [S % 10], _, rfl, by omega, by go_num, rfl, by omega, by rw [List.length_append, HACC.out]; rfl, ?_, ?_, hst, (HA.out.blk (B1.out.alloc _) (by decide)).far (by simp; omega) _, (HA.out.blk (B2.out.alloc _) (by decide)).far (by simp) _, (HA.out.blk (B3.out.alloc _) (by decide)).far (by simp) _, BX3.out.set_ 1 _, own_far ho BX3.out (by decide) 1 _, ((HB.out.alloc (by omega) _).trans (HA.out.2.2.mono (by omega))).setCell (by simp; omega) _⟩
            · intro hmax
              have hx0 : x = 0 := by rw [← HX.out]; simp [List.getD_eq_getElem?_getD, List.getElem?_eq_none (by omega : ds.length ≤ i)]
              have hy0 : y = 0 := by rw [← HY.out]; simp [List.getD_eq_getElem?_getD, List.getElem?_eq_none (by omega : ds'.length ≤ i)]
              have := HS.out; omega
            · intro d hd
              rcases List.mem_append.1 hd with h | h
              · exact H10.out d h
              · simp at h; omega
    · have hin1 : ¬ i ≤ ds.length := by omega
      have hin2 : ¬ i ≤ ds'.length := by omega
      have hres : vl 10 acc = vl 10 ds + vl 10 ds' := by
        have h := HTOT.out
        rw [HQ0.out (by omega), List.drop_eq_nil_of_le (by omega), List.drop_eq_nil_of_le (by omega)] at h
        simpa [vl] using h
      obtain ⟨Av, cv, rfl, hc1, hc2, hrd⟩ := own_slice HOWN.out
      have hacc : acc.length = i := HACC.out
      subst hacc
      have HRES := Lib.hid hres; have HRD := Lib.hid hrd; clear hres hrd
      have hz2 := B3.out.lt
      go_wp2_with (go_at_call 52; refine (tidy_num _ _ _ acc _ HRD.out hc1 hc2 H10.out).mono ?_; rw [HRES.out]; rintro e w1 ⟨v1, rfl, hN, hB1⟩; obtain ⟨A1, c1, rfl, hN⟩ := hN; have bR1 := B3.out.below hB1 hz2; have y0 := bR1.cell0; have y1 := bR1.cell1; have k0 := bR1.frozen 0; have k1 := bR1.frozen 1; have HR1 := Lib.hid bR1; clear bR1; have HB1 := Lib.hid hB1; clear hB1; have HM := Lib.hid hN; clear hN)
      refine bodyPost_ret (ret39 (g := w.heap.size + 1 + 1) Tryd.results67 rfl HR1.out.store2) rfl ⟨_, rfl, NumIs.store39 ⟨A1, c1, rfl, HM.out⟩ HR1.out, ?_⟩
      exact ((HB.out.trans (HB1.out.mono (by omega))).setCell (by simp; omega) _).setCell (by simp; omega) _
end Go.Proofs.YtcclclginhhlaaaDoor
