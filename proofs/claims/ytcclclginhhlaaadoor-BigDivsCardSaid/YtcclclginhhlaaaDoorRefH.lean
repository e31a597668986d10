/- The walk over the document own answer for layer 1: the difference of magnitudes. -/
import Derived.Test.YtcclclginhhlaaaDoorRefG
namespace Go.Proofs.YtcclclginhhlaaaDoor
open Go.RowKit
open Pl Dig

theorem minus_step {ds es acc : List Nat} {i q q' d V W : Nat} (hi : acc.length = i) (hd : d + es.getD i 0 + q = ds.getD i 0 + 10 * q')
    (h : vl 10 acc + 10 ^ i * vl 10 (ds.drop i) + W = V + 10 ^ i * (q + vl 10 (es.drop i))) :
    vl 10 (acc ++ [d]) + 10 ^ (i + 1) * vl 10 (ds.drop (i + 1)) + W = V + 10 ^ (i + 1) * (q' + vl 10 (es.drop (i + 1))) := by
  rw [vl_drop_getD 10 ds i, vl_drop_getD 10 es i] at h
  rw [vl_snoc, hi, Nat.pow_succ]
  generalize ds.getD i 0 = x at *
  generalize es.getD i 0 = y at *
  generalize vl 10 (ds.drop (i + 1)) = u at *
  generalize vl 10 (es.drop (i + 1)) = v at *
  generalize 10 ^ i = p at *
  have e1 : p * (d + y + q) = p * (x + 10 * q') := by rw [hd]
  simp only [Nat.mul_add, Nat.mul_assoc] at *
  omega
theorem minus_end {ds es acc : List Nat} {q : Nat} (hi : acc.length = ds.length) (h10 : ∀ d ∈ acc, d < 10) (hle : vl 10 es ≤ vl 10 ds)
    (h : vl 10 acc + 10 ^ ds.length * vl 10 (ds.drop ds.length) + vl 10 es = vl 10 ds + 10 ^ ds.length * (q + vl 10 (es.drop ds.length))) : vl 10 acc = vl 10 ds - vl 10 es := by
  have hlt := vl_lt 10 acc h10
  rw [hi] at hlt
  rw [List.drop_length] at h
  simp only [vl, Nat.mul_zero, Nat.add_zero] at h
  generalize q + vl 10 (es.drop ds.length) = r at *
  rcases Nat.eq_zero_or_pos r with h0 | h0
  · subst h0; omega
  · have : 10 ^ ds.length * 1 ≤ 10 ^ ds.length * r := Nat.mul_le_mul_left _ h0
    omega

set_option maxRecDepth 100000 in
set_option maxHeartbeats 1000000 in
theorem minus_any (b b' : Bool) (A A' : Option Addr) (c c' : Nat) (ds ds' : List Nat) (w : World) (hr : Rd w w.heap.size 3 A (ints ds)) (hr' : Rd w w.heap.size 3 A' (ints ds')) (hl : ds.length ≤ 40000) (hl' : ds'.length ≤ 40000)
    (hd : ∀ d ∈ ds, d < 10) (hd' : ∀ d ∈ ds', d < 10) (hle : vl 10 ds' ≤ vl 10 ds) :
    Calls Tryd.prog 68 #[.agg #[.bool b, .slice A ds.length c], .agg #[.bool b', .slice A' ds'.length c']] w fun e w' => ∃ v, e = .returned v ∧ NumIs w' ((vl 10 ds - vl 10 ds' : Nat) : Int) v ∧ Below w.heap.size w w' := by
  have HD := Lib.hid (fun i => getD_lt (by decide) hd i); have HD' := Lib.hid (fun i => getD_lt (by decide) hd' i); clear hd hd'
  have HRW := Lib.hid (fun (W : World) (h : Below w.heap.size w W) => (hr.below h).more h.size)
  have HRW' := Lib.hid (fun (W : World) (h : Below w.heap.size w W) => (hr'.below h).more h.size)
  clear hr hr'
  go_enter Tryd.func68, Tryd.ntmps68
  go_wp2_with fail
  go_loopg [6, 7, 8] (ds.length + 1) (fun g s6 s7 s8 wr => ∃ (i q : Nat) (acc : List Nat) (v : Value), g = ds.length + 1 - i ∧ i ≤ ds.length ∧ s7 = .int .i64 (i : Int) ∧ s6 = .int .i64 (q : Int) ∧ q ≤ 1 ∧ acc.length = i ∧ (∀ d ∈ acc, d < 10) ∧
    vl 10 acc + 10 ^ i * vl 10 (ds.drop i) + vl 10 ds' = vl 10 ds + 10 ^ i * (q + vl 10 (ds'.drop i)) ∧
    Blk wr w.heap.size 39 #[.bool b, .slice A ds.length c] ∧ Blk wr (w.heap.size + 1) 39 #[.bool b', .slice A' ds'.length c'] ∧ Blk wr (w.heap.size + 1 + 1) 39 #[.bool false, .slice none 0 0] ∧ Blk wr (w.heap.size + 1 + 1 + 1) 39 #[.bool false, v] ∧
    wr.ownsRow (w.heap.size + 1 + 1 + 1 + 1) 3 1 v i (ints acc) ∧ Below w.heap.size w wr)
  case atStart =>
    refine ⟨0, 0, [], .slice none 0 0, rfl, by omega, rfl, rfl, by omega, rfl, by simp, by simp [vl], (((Blk.new _ _ _).alloc _).alloc _).alloc _, ?_, ?_, ?_, World.ownsRow_nil _ _ _ _, ((((Below.refl _ _).alloc (Nat.le_refl _) _).alloc (by simp) _).alloc (by simp; omega) _).alloc (by simp; omega) _⟩
    · have := Blk.new (w.alloc (.cells #[.bool b, .slice A ds.length c] 39)) 39 #[.bool b', .slice A' ds'.length c']
      exact (by simpa using (this.alloc (.cells #[.bool false, .slice none 0 0] 39)).alloc (.cells #[.bool false, .slice none 0 0] 39))
    · have := Blk.new ((w.alloc (.cells #[.bool b, .slice A ds.length c] 39)).alloc (.cells #[.bool b', .slice A' ds'.length c'] 39)) 39 #[.bool false, .slice none 0 0]
      exact (by simpa using this.alloc (.cells #[.bool false, .slice none 0 0] 39))
    · have := Blk.new (((w.alloc (.cells #[.bool b, .slice A ds.length c] 39)).alloc (.cells #[.bool b', .slice A' ds'.length c'] 39)).alloc (.cells #[.bool false, .slice none 0 0] 39)) 39 #[.bool false, .slice none 0 0]
      simpa using this
  case round =>
    obtain ⟨i, q, acc, v, hg, hi, rfl, rfl, hq, hacc, hd10, htot, b1, b2, b3, b4, hown, hB⟩ := hrel
    have hz := b4.lt
    have c0 := b1.cell0; have c1 := b1.cell1; have d0 := b2.cell0; have d1 := b2.cell1; have x0 := b4.cell0; have x1 := b4.cell1; have k1 := b4.frozen 1
    have HG := Lib.hid hg; have HACC := Lib.hid hacc; have H10 := Lib.hid hd10; have HTOT := Lib.hid htot
    have B1 := Lib.hid b1; have B2 := Lib.hid b2; have B3 := Lib.hid b3; have B4 := Lib.hid b4; have HOWN := Lib.hid hown; have HB := Lib.hid hB
    clear hg hacc hd10 htot b1 b2 b3 b4 hown hB
    by_cases hin : i < ds.length
    · obtain ⟨x, hx⟩ : ∃ x, ds.getD i 0 = x := ⟨_, rfl⟩
      obtain ⟨y, hy⟩ : ∃ y, ds'.getD i 0 = y := ⟨_, rfl⟩
      have hx10 : x < 10 := by rw [← hx]; exact HD.out i
      have hy10 : y < 10 := by rw [← hy]; exact HD'.out i
      have HX := Lib.hid hx; have HY := Lib.hid hy; clear hx hy
      have hil : i ≤ 40001 := by omega
      go_upto_region 6 with fail
      go_cut [8] (fun s8 wx => s8 = .int .i64 ((x : Int) - y - q) ∧ Blk wx w.heap.size 39 #[.bool b, .slice A ds.length c] ∧ Blk wx (w.heap.size + 1) 39 #[.bool b', .slice A' ds'.length c'] ∧ Blk wx (w.heap.size + 1 + 1) 39 #[.bool false, .slice none 0 0] ∧ Blk wx (w.heap.size + 1 + 1 + 1) 39 #[.bool false, v] ∧ wx.ownsRow (w.heap.size + 1 + 1 + 1 + 1) 3 1 v i (ints acc) ∧ Below w.heap.size w wx)
      case first =>
        have ew1 : IntKind.i64.wrap ((x : Int) - (y : Int)) = (x : Int) - y := by rw [IntWalk.i64_in _ (by omega)]
        have ew2 : IntKind.i64.wrap ((x : Int) - y - (q : Int)) = (x : Int) - y - q := by rw [IntWalk.i64_in _ (by omega)]
        go_region_held3 (fun w' => w'.cell? ⟨w.heap.size, 0, none⟩ = some (.bool b) ∧ w'.cell? ⟨w.heap.size, 1, none⟩ = some (.slice A ds.length c) ∧ w'.cell? ⟨w.heap.size + 1, 0, none⟩ = some (.bool b') ∧ w'.cell? ⟨w.heap.size + 1, 1, none⟩ = some (.slice A' ds'.length c')) (go_keep)
          (first
            | (go_at_call_of 66 (Value.agg #[.bool b, .slice A ds.length c]); refine (digit_any b A c ds i _ (HRW.out _ (by first | exact HB.out.drew | exact (HB.out.drew).alloc (by show _ ≤ wr.heap.size; omega) _)) (by omega) (by omega)).mono ?_; rw [HX.out]; rintro e w' ⟨rfl, rfl⟩)
            | (go_at_call_of 66 (Value.agg #[.bool b', .slice A' ds'.length c']); refine (digit_any b' A' c' ds' i _ (HRW'.out _ (by first | exact HB.out.drew | exact (HB.out.drew).alloc (by show _ ≤ wr.heap.size; omega) _)) (by omega) (by omega)).mono ?_; rw [HY.out]; rintro e w' ⟨rfl, rfl⟩))
        all_goals
          clear ew1 ew2
          go_wp2_with fail
          go_meet
          refine ⟨rfl, ((B1.out.drew).alloc _).alloc _, ((B2.out.drew).alloc _).alloc _, ((B3.out.drew).alloc _).alloc _, ((B4.out.drew).alloc _).alloc _, ((HOWN.out.drew).alloc _).alloc _, ((HB.out.drew).alloc (by show _ ≤ wr.heap.size; omega) _).alloc (by simp; omega) _⟩
      case rest =>
        obtain ⟨rfl, b1, b2, b3, b4, hown, hB⟩ := hcut
        have hz := b4.lt
        have x1 := b4.cell1; have k1 := b4.frozen 1
        have B1 := Lib.hid b1; have B2 := Lib.hid b2; have B3 := Lib.hid b3; have B4 := Lib.hid b4; have HOWN := Lib.hid hown; have HB := Lib.hid hB
        clear b1 b2 b3 b4 hown hB
        obtain ⟨wr, hwr⟩ : ∃ z, z = wc := ⟨_, rfl⟩
        subst hwr
        obtain ⟨d, q', hdq, hd10', hq1, hcase⟩ : ∃ d q' : Nat, d + y + q = x + 10 * q' ∧ d < 10 ∧ q' ≤ 1 ∧ ((q' = 1 ∧ ((x : Int) - y - q) < 0) ∨ (q' = 0 ∧ ¬ ((x : Int) - y - q) < 0)) := by
          by_cases h : x < y + q
          · exact ⟨x + 10 - y - q, 1, by omega, by omega, by omega, .inl ⟨rfl, by omega⟩⟩
          · exact ⟨x - y - q, 0, by omega, by omega, by omega, .inr ⟨rfl, by omega⟩⟩
        have HDQ := Lib.hid hdq
        rcases hcase with ⟨hq', hneg⟩ | ⟨hq', hneg⟩
        · have ed : (x : Int) - y - q + 10 = (d : Int) := by omega
          have HED := Lib.hid ed; have HQQ := Lib.hid hq'
          clear ed hdq hq'
          go_wp2_with (at_builtin; refine wpList_app1 _ rfl (.tmp 31) (.tmp 33) 37 rfl (w.heap.size + 1 + 1 + 1 + 1) 3 (.int .i64 0) 8 Tryd.underlying37 info3 rfl _ i _ rfl (HOWN.out.alloc _) wr.heap.size 1 (.int .i64 ((x : Int) - y - q + 10)) rfl (by simp [World.cell?_alloc_new]) (by simp [Value.oneCell']) (by omega) (by omega) (by simp; omega) ?_; intro g' cap' w3 hA; have bX3 := hA.blk (B4.out.alloc _) (by decide); have y1 := bX3.cell1; have k3 := bX3.frozen 1; have BX3 := Lib.hid bX3; clear bX3; have HA := Lib.hid hA; clear hA)
          go_roundg (ds.length + 1 - (i + 1))
          case measure => have := HG.out; omega
          case rel =>
            have ho := HA.out.1
            rw [HED.out, ← ints_snoc] at ho
            have hst := minus_step HACC.out (HX.out.symm ▸ HY.out.symm ▸ HDQ.out) HTOT.out
            refine ⟨i + 1, q', acc ++ [d], _, rfl, by omega, by go_num, by rw [HQQ.out]; rfl, by omega, by rw [List.length_append, HACC.out]; rfl, ?_, hst, (HA.out.blk (B1.out.alloc _) (by decide)).far (by simp; omega) _, (HA.out.blk (B2.out.alloc _) (by decide)).far (by simp) _, (HA.out.blk (B3.out.alloc _) (by decide)).far (by simp) _, BX3.out.set_ 1 _, own_far ho BX3.out (by decide) 1 _, ((HB.out.alloc (by omega) _).trans (HA.out.2.2.mono (by omega))).setCell (by simp; omega) _⟩
            intro e he
            rcases List.mem_append.1 he with h | h
            · exact H10.out e h
            · simp at h; omega
        · have ed : (x : Int) - y - q = (d : Int) := by omega
          have HED := Lib.hid ed; have HQQ := Lib.hid hq'
          clear ed hdq hq'
          have hneg' : ¬ ((d : Int)) < 0 := by omega
          go_wp2_with (at_builtin; refine wpList_app1 _ rfl (.tmp 31) (.tmp 33) 37 rfl (w.heap.size + 1 + 1 + 1 + 1) 3 (.int .i64 0) 8 Tryd.underlying37 info3 rfl _ i _ rfl (HOWN.out.alloc _) wr.heap.size 1 (.int .i64 ((x : Int) - y - q)) rfl (by simp [World.cell?_alloc_new]) (by simp [Value.oneCell']) (by omega) (by omega) (by simp; omega) ?_; intro g' cap' w3 hA; have bX3 := hA.blk (B4.out.alloc _) (by decide); have y1 := bX3.cell1; have k3 := bX3.frozen 1; have BX3 := Lib.hid bX3; clear bX3; have HA := Lib.hid hA; clear hA)
          go_roundg (ds.length + 1 - (i + 1))
          case measure => have := HG.out; omega
          case rel =>
            have ho := HA.out.1
            rw [HED.out, ← ints_snoc] at ho
            have hst := minus_step HACC.out (HX.out.symm ▸ HY.out.symm ▸ HDQ.out) HTOT.out
            refine ⟨i + 1, q', acc ++ [d], _, rfl, by omega, by go_num, by rw [HQQ.out]; rfl, by omega, by rw [List.length_append, HACC.out]; rfl, ?_, hst, (HA.out.blk (B1.out.alloc _) (by decide)).far (by simp; omega) _, (HA.out.blk (B2.out.alloc _) (by decide)).far (by simp) _, (HA.out.blk (B3.out.alloc _) (by decide)).far (by simp) _, BX3.out.set_ 1 _, own_far ho BX3.out (by decide) 1 _, ((HB.out.alloc (by omega) _).trans (HA.out.2.2.mono (by omega))).setCell (by simp; omega) _⟩
            intro e he
            rcases List.mem_append.1 he with h | h
            · exact H10.out e h
            · simp at h; omega
    · obtain rfl : i = ds.length := by omega
      clear hin
      have hres : vl 10 acc = vl 10 ds - vl 10 ds' := minus_end HACC.out H10.out hle HTOT.out
      have hown : wr.ownsRow (w.heap.size + 1 + 1 + 1 + 1) 3 1 v acc.length (ints acc) := by rw [HACC.out]; exact HOWN.out
      obtain ⟨Av, cv, rfl, hc1, hc2, hrd⟩ := own_slice hown
      clear hown
      have HRES := Lib.hid hres; have HRD := Lib.hid hrd; clear hres hrd
      have hz2 := B3.out.lt
      go_wp2_with (go_at_call 52; refine (tidy_num _ _ _ acc _ HRD.out hc1 hc2 H10.out).mono ?_; rw [HRES.out]; rintro e w1 ⟨v1, rfl, hN, hB1⟩; obtain ⟨A1, c1, rfl, hN⟩ := hN; have bR1 := B3.out.below hB1 hz2; have y0 := bR1.cell0; have y1 := bR1.cell1; have k0 := bR1.frozen 0; have k1 := bR1.frozen 1; have HR1 := Lib.hid bR1; clear bR1; have HB1 := Lib.hid hB1; clear hB1; have HM := Lib.hid hN; clear hN)
      refine bodyPost_ret (ret39 (g := w.heap.size + 1 + 1) Tryd.results68 rfl HR1.out.store2) rfl ⟨_, rfl, NumIs.store39 ⟨A1, c1, rfl, HM.out⟩ HR1.out, ?_⟩
      exact ((HB.out.trans (HB1.out.mono (by omega))).setCell (by simp; omega) _).setCell (by simp; omega) _
end Go.Proofs.YtcclclginhhlaaaDoor
