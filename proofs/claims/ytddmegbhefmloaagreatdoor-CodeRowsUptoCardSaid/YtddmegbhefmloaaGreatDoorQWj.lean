/- The document's own answers of layer 2: Check and Row. -/
import Derived.Test.YtddmegbhefmloaaGreatDoorQWi
namespace Go.Proofs.YtddmegbhefmloaaGreatDoor
open Go.RowKit Vp Pl
open Go
attribute [local go_sem] Oper.semAt_some

set_option maxHeartbeats 1000000 in
theorem refcheck_c (t : V) (u : Value) (w : World) (hd : depth t < 100000000) (h : VRep w w.heap.size t u) :
    Calls Tryz.prog 45 #[u] w fun e w' => e = .returned (.int .i64 (chkV t)) ∧ Below w.heap.size w w' := by
  obtain ⟨q, hq⟩ : ∃ q, q = chkV t := ⟨_, rfl⟩
  rw [← hq]
  unfold chkV at hq
  obtain ⟨k, n, s, l, A, c, rfl, rfl, hk, hn, hs, hR⟩ := h.open_
  obtain ⟨t, ht⟩ : ∃ t : V, t = .mk k n s l := ⟨_, rfl⟩
  rw [← ht] at h hq hd
  obtain ⟨W, hW⟩ : ∃ W, W = w.alloc (.cells #[.int .u8 (k : Int), .int .i64 n, .string s, .slice A l.length c] 34) := ⟨_, rfl⟩
  have hBW : Below w.heap.size w W := hW ▸ (Below.refl _ _).alloc (Nat.le_refl _) _
  have hsz : w.heap.size < W.heap.size := by rw [hW]; simp
  have hblk : Blk W w.heap.size 34 #[.int .u8 (k : Int), .int .i64 n, .string s, .slice A l.length c] := hW ▸ Blk.new _ _ _
  have hv : ∀ W', Below W.heap.size W W' → VRep W' W'.heap.size t (.agg #[.int .u8 (k : Int), .int .i64 n, .string s, .slice A l.length c]) := fun W' hb => (h.under (hBW.trans (hb.mono hBW.size))).more (hBW.trans (hb.mono hBW.size)).size
  have hcell : ∀ W', Below W.heap.size W W' → W'.cell? ⟨w.heap.size, 0, none⟩ = some (.int .u8 (k : Int)) ∧ W'.cell? ⟨w.heap.size, 1, none⟩ = some (.int .i64 n) ∧ W'.cell? ⟨w.heap.size, 2, none⟩ = some (.string s) ∧ W'.cell? ⟨w.heap.size, 3, none⟩ = some (.slice A l.length c) := fun W' hb => by
    have hb' := hblk.below hb hsz
    have x0 := hb'.cell 0; have x1 := hb'.cell 1; have x2 := hb'.cell 2; have x3 := hb'.cell 3
    simp at x0 x1 x2 x3
    exact ⟨x0, x1, x2, x3⟩
  have HD := Lib.hid (fun W' (hb : Below W.heap.size W W') => depth_c t _ W' hd (hv W' hb))
  have HF := Lib.hid (fun W' (hb : Below W.heap.size W W') => form_c t _ W' (hv W' hb))
  have HG := Lib.hid (fun (hbd : some_ (bad chk) t = false) W' (hb : Below W.heap.size W W') => fits_c t _ W' hbd (hv W' hb))
  have HCL := Lib.hid hcell; have HBW := Lib.hid hBW; have HR0 := Lib.hid (Below.refl W.heap.size W)
  rw [hW] at HD HF HG HCL HBW HR0
  have HQ := Lib.hid hq
  have HDD := Lib.hid (deeper_depth 64 t)
  clear hq h hd hR hW hBW hsz hblk hv hcell ht
  by_cases hdp : 64 < depth t
  · have hz : (64 : Int) < (depth t : Int) := by omega
    have HZ := Lib.hid hdp
    clear hdp
    go_enter Tryz.func45, Tryz.ntmps45
    go_wp2_with (go_at_call 80; refine (HD.out _ HR0.out).mono ?_; rintro e w1 ⟨rfl, hb1⟩; have HB1 := Lib.hid hb1; clear hb1; obtain ⟨y0, y1, y2, y3⟩ := HCL.out _ HB1.out)
    go_ret
    exact ⟨by rw [HQ.out, HDD.out, decide_eq_true HZ.out]; rfl, HBW.out.trans (HB1.out.mono HBW.out.size)⟩
  · have hz : ¬ (64 : Int) < (depth t : Int) := by omega
    have hdf : deeper 64 t = false := by rw [HDD.out]; exact decide_eq_false hdp
    have HDF := Lib.hid hdf
    clear hdp hdf
    obtain ⟨b, hb⟩ : ∃ b, some_ (bad chk) t = b := ⟨_, rfl⟩
    have HBB := Lib.hid hb
    rw [hb] at HF
    clear hb
    cases b with
    | true =>
      go_enter Tryz.func45, Tryz.ntmps45
      go_wp2_with (first
        | (have hx := HB1; clear hx; go_at_call 81; refine (HF.out _ HB1.out).mono ?_; rintro e w2 ⟨rfl, hb1⟩; have HB2 := Lib.hid (HB1.out.trans (hb1.mono HB1.out.size)); clear hb1; obtain ⟨z0, z1, z2, z3⟩ := HCL.out _ HB2.out)
        | (go_at_call 80; refine (HD.out _ HR0.out).mono ?_; rintro e w1 ⟨rfl, hb1⟩; have HB1 := Lib.hid hb1; clear hb1; obtain ⟨y0, y1, y2, y3⟩ := HCL.out _ HB1.out))
      go_ret
      exact ⟨by rw [HQ.out, HDF.out, HBB.out]; rfl, HBW.out.trans (HB2.out.mono HBW.out.size)⟩
    | false =>
      obtain ⟨b', hb'⟩ : ∃ b, some_ (long chk) t = b := ⟨_, rfl⟩
      have HBL := Lib.hid hb'
      have HG' := Lib.hid (HG.out HBB.out)
      rw [hb'] at HG'
      clear hb' HG
      cases b' with
      | true =>
        go_enter Tryz.func45, Tryz.ntmps45
        go_wp2_with (first
          | (have hx := HB2; clear hx; go_at_call 82; refine (HG'.out _ HB2.out).mono ?_; rintro e w3 ⟨rfl, hb1⟩; have HB3 := Lib.hid (HB2.out.trans (hb1.mono HB2.out.size)); clear hb1)
          | (have hx := HB1; clear hx; go_at_call 81; refine (HF.out _ HB1.out).mono ?_; rintro e w2 ⟨rfl, hb1⟩; have HB2 := Lib.hid (HB1.out.trans (hb1.mono HB1.out.size)); clear hb1; obtain ⟨z0, z1, z2, z3⟩ := HCL.out _ HB2.out)
          | (go_at_call 80; refine (HD.out _ HR0.out).mono ?_; rintro e w1 ⟨rfl, hb1⟩; have HB1 := Lib.hid hb1; clear hb1; obtain ⟨y0, y1, y2, y3⟩ := HCL.out _ HB1.out))
        go_ret
        exact ⟨by rw [HQ.out, HDF.out, HBB.out, HBL.out]; rfl, HBW.out.trans (HB3.out.mono HBW.out.size)⟩
      | false =>
        go_enter Tryz.func45, Tryz.ntmps45
        go_wp2_with (first
          | (have hx := HB2; clear hx; go_at_call 82; refine (HG'.out _ HB2.out).mono ?_; rintro e w3 ⟨rfl, hb1⟩; have HB3 := Lib.hid (HB2.out.trans (hb1.mono HB2.out.size)); clear hb1)
          | (have hx := HB1; clear hx; go_at_call 81; refine (HF.out _ HB1.out).mono ?_; rintro e w2 ⟨rfl, hb1⟩; have HB2 := Lib.hid (HB1.out.trans (hb1.mono HB1.out.size)); clear hb1; obtain ⟨z0, z1, z2, z3⟩ := HCL.out _ HB2.out)
          | (go_at_call 80; refine (HD.out _ HR0.out).mono ?_; rintro e w1 ⟨rfl, hb1⟩; have HB1 := Lib.hid hb1; clear hb1; obtain ⟨y0, y1, y2, y3⟩ := HCL.out _ HB1.out))
        go_ret
        exact ⟨by rw [HQ.out, HDF.out, HBB.out, HBL.out]; rfl, HBW.out.trans (HB3.out.mono HBW.out.size)⟩

set_option maxHeartbeats 1000000 in
theorem refrow_c (l : List V) (A : Option Addr) (c : Nat) (w : World) (hd : ∀ t ∈ l, depth t < 100000000) (hR : RRep w w.heap.size l A c) :
    Calls Tryz.prog 83 #[.slice A l.length c] w fun e w' => e = .returned (.bool (!invL l)) ∧ Below w.heap.size w w' := by
  have hl := hR.1; have hm := hR.2.1
  have hmax : maxLen = 9223372036854775807 := rfl
  have HR := Lib.hid hR; have HD := Lib.hid hd
  clear hR hd
  obtain ⟨q, hq⟩ : ∃ q, q = (!invL l) := ⟨_, rfl⟩
  rw [← hq]
  have HQ := Lib.hid hq
  clear hq
  go_enter Tryz.func83, Tryz.ntmps83
  go_wp2_with fail
  go_loopg [3] (l.length + 1) (fun gg s6 wr => ∃ (kk : Nat), kk ≤ l.length ∧ gg = l.length + 1 - kk ∧ s6 = .int .i64 (kk : Int) ∧ Below w.heap.size w wr ∧ ∀ j (hj : j < l.length), j < kk → decide (chkV l[j] ≠ 0) = false)
  case atStart => exact ⟨0, Nat.zero_le _, by omega, rfl, Below.refl _ w, fun j _ hj => absurd hj (Nat.not_lt_zero _)⟩
  case round =>
    obtain ⟨kk, hkk, hg, rfl, hB, hA⟩ := hrel
    have HB := Lib.hid hB; have HG := Lib.hid hg; have HA := Lib.hid hA
    clear hB hg hA
    by_cases hlt : kk < l.length
    · have hltz : (kk : Int) < (l.length : Int) := by omega
      obtain ⟨b, off, rfl, hb, k', n', s', l', A', c', ht, hv, c0, c1, c2, c3⟩ := (HR.out.under HB.out).at_ hlt
      have hcall := refcheck_c _ _ wr (HD.out _ (List.getElem_mem hlt)) (hv.more HB.out.size)
      obtain ⟨z, hz⟩ : ∃ z, chkV l[kk] = z := ⟨_, rfl⟩
      rw [hz] at hcall
      have HC := Lib.hid hcall; have HZ := Lib.hid hz
      clear hcall hv ht hz
      by_cases hz0 : z = 0
      · subst hz0
        go_wp2_with (go_at_call 45; refine HC.out.mono ?_; rintro e w' ⟨rfl, hb'⟩; have HB' := Lib.hid hb'; clear hb')
        go_roundg (l.length + 1 - (kk + 1))
        case measure => have := HG.out; omega
        case rel =>
          refine ⟨kk + 1, by omega, rfl, by go_num, HB.out.trans (HB'.out.mono HB.out.size), fun j hj hjk => ?_⟩
          by_cases e : j = kk
          · subst e; rw [HZ.out]; rfl
          · exact HA.out j hj (by omega)
      · have hz1 : ¬ (z : Int) = 0 := by omega
        go_wp2_with (go_at_call 45; refine HC.out.mono ?_; rintro e w' ⟨rfl, hb'⟩; have HB' := Lib.hid hb'; clear hb')
        go_ret
        refine ⟨?_, HB.out.trans (HB'.out.mono HB.out.size)⟩
        rw [HQ.out, invL, any_at (fun t => decide (chkV t ≠ 0)) l hlt (by rw [HZ.out]; simpa using hz0)]; rfl
    · have hltz : ¬ (kk : Int) < (l.length : Int) := by omega
      obtain rfl : kk = l.length := by omega
      go_wp2_with fail
      go_ret
      refine ⟨?_, HB.out⟩
      have := any_take (fun t => decide (chkV t ≠ 0)) l l.length HA.out
      rw [List.take_length] at this
      rw [HQ.out, invL, this]; rfl
end Go.Proofs.YtddmegbhefmloaaGreatDoor
