/- The walk over the document own answer for layer 1: the text of an int. -/
import Derived.Test.YtcclclginhhlaaaDoorRefD
namespace Go.Proofs.YtcclclginhhlaaaDoor
open Go.RowKit
open Pl Dig

theorem dg_step {b n : Nat} (hb : 2 ≤ b) (hn : n ≠ 0) : dg b n = n % b :: dg b (n / b) := by
  have e : vl b (n % b :: dg b (n / b)) = n := by simp only [vl, dg_vl hb]; exact Nat.mod_add_div n b
  have := dg_of hb (ds := n % b :: dg b (n / b)) (fun d hd => by
    rcases List.mem_cons.1 hd with h | h
    · rw [h]; exact Nat.mod_lt _ (by omega)
    · exact dg_lt hb _ d h) (by
    have t := dg_tip hb (n / b)
    cases h : dg b (n / b) with
    | nil =>
      have h0 := (dg_nil hb).1 h
      have : n % b = n := by have := Nat.mod_add_div n b; rw [h0] at this; simpa using this
      simp [Tip, this, hn]
    | cons x xs => rw [h] at t; simpa [Tip, List.getLast?_cons] using t)
  rw [e] at this; exact this

set_option maxRecDepth 100000 in
set_option maxHeartbeats 400000 in
theorem whole_pos (n : Nat) (w : World) (hn : (n : Int) ≤ 9223372036854775807) :
    Calls Tryd.prog 24 #[.int .i64 (n : Int)] w fun e w' => e = .returned (.string ⟨(txt (n : Int)).toArray⟩) ∧ Below w.heap.size w w' := by
  have hlen : (dg 10 n).length ≤ 19 := (dg_len (by decide) n 19).2 (by omega)
  have hnn : decide ((n : Int) < 0) = false := by simp
  have hout : txtOut (n : Int) = (txt (n : Int), 0) := by unfold txtOut; rw [if_pos (by simp; omega)]
  have HOUT := Lib.hid hout; clear hout
  go_enter Tryd.func24, Tryd.ntmps24
  go_wp2_with fail
  go_loopg [0, 4] (n + 1) (fun g s0 s4 wr => ∃ (a : Nat) (ds : List Nat) (v : Value), g = a + 1 ∧ a ≤ n ∧ s0 = .int .i64 (a : Int) ∧ dg 10 n = ds ++ dg 10 a ∧ wr.ownsRow (w.heap.size + 1) 3 1 v ds.length (ints ds) ∧ Blk wr w.heap.size 39 #[.bool false, v] ∧ Below w.heap.size w wr)
  case atStart =>
    exact ⟨n, [], .slice none 0 0, rfl, Nat.le_refl _, rfl, rfl, World.ownsRow_nil _ _ _ _, Blk.new w 39 #[.bool false, .slice none 0 0], (Below.refl _ w).alloc (Nat.le_refl _) _⟩
  case round =>
    obtain ⟨a, ds, v, hg, ha, rfl, hds, hown, bX, hB⟩ := hrel
    have hlt := bX.lt
    have x0 := bX.cell0
    have x1 := bX.cell1
    have k1 := bX.frozen 1
    have hl : ds.length ≤ 19 := by have := congrArg List.length hds; rw [List.length_append] at this; omega
    have HG := Lib.hid hg
    by_cases h0 : a = 0
    · have hds' : ds = dg 10 n := by rw [hds, h0]; simp [dg_zero]
      have hz : sgn false (vl 10 ds) = (n : Int) := by rw [hds', dg_vl (by decide)]; rfl
      have hd10 : ∀ d ∈ ds, d < 10 := by rw [hds']; exact dg_lt (by decide) n
      obtain ⟨A, c, rfl, hc1, hc2, hrd⟩ := own_slice hown
      subst h0
      have HZ := Lib.hid hz; have HD := Lib.hid hd10; have HRD := Lib.hid hrd
      have HB := Lib.hid hB
      clear hg hds hown bX hB hds' hz hd10 hrd
      go_wp2_with (go_at_call 28; refine (text_any _ A c ds _ HRD.out hc1 hc2 HD.out (by omega)).mono ?_; rw [HZ.out, HOUT.out]; rintro e w1 ⟨rfl, hB1⟩; have HB1 := Lib.hid hB1; clear hB1)
      go_ret
      exact ⟨rfl, HB.out.trans (HB1.out.mono (by omega))⟩
    · have HDS := Lib.hid hds; have HOWN := Lib.hid hown; have BX := Lib.hid bX; have HB := Lib.hid hB
      clear hg hds hown bX hB
      have h0' : ((a : Int) != 0) = true := by rw [bne_iff_ne]; omega
      go_wp2_with (at_builtin; refine wpList_app1 _ rfl (.tmp 19) (.tmp 21) 37 rfl (w.heap.size + 1) 3 (.int .i64 0) 8 Tryd.underlying37 info3 rfl _ ds.length _ rfl (HOWN.out.alloc _) wr.heap.size 1 (.int .i64 ((a % 10 : Nat) : Int)) rfl (by simp [World.cell?_alloc_new]) (by simp [Value.oneCell']) (by omega) (by omega) (by simp; omega) ?_; intro g' cap' w3 hA; have bX3 := hA.blk (BX.out.alloc _) (by decide); have y1 := bX3.cell1; have k3 := bX3.frozen 1; have BX3 := Lib.hid bX3; clear bX3; have HA := Lib.hid hA; clear hA)
      go_roundg (a / 10 + 1)
      case measure => have := HG.out; omega
      case rel =>
        have ho := HA.out.1
        rw [← ints_snoc] at ho
        exact ⟨a / 10, ds ++ [a % 10], _, rfl, by omega, rfl, by rw [HDS.out, dg_step (by decide) h0]; simp, by rw [List.length_append]; exact own_far ho BX3.out (by decide) 1 _, BX3.out.set_ 1 _, ((HB.out.alloc (by omega) _).trans (HA.out.2.2.mono (by omega))).setCell (by simp) _⟩

set_option maxRecDepth 100000 in
set_option maxHeartbeats 400000 in
theorem whole_neg (n : Nat) (w : World) (hn : (n : Int) ≤ 9223372036854775808) (h1 : 0 < n) :
    Calls Tryd.prog 24 #[.int .i64 (-(n : Int))] w fun e w' => e = .returned (.string ⟨(txt (-(n : Int))).toArray⟩) ∧ Below w.heap.size w w' := by
  have hlen : (dg 10 n).length ≤ 19 := (dg_len (by decide) n 19).2 (by omega)
  have hnn : decide (-(n : Int) < 0) = true := by simp; omega
  have hout : txtOut (-(n : Int)) = (txt (-(n : Int)), 0) := by unfold txtOut; rw [if_pos (by simp; omega)]
  have HOUT := Lib.hid hout; clear hout
  go_enter Tryd.func24, Tryd.ntmps24
  go_wp2_with fail
  go_loopg [0, 4] (n + 1) (fun g s0 s4 wr => ∃ (a : Nat) (ds : List Nat) (v : Value), g = a + 1 ∧ a ≤ n ∧ s0 = .int .i64 (-(a : Int)) ∧ dg 10 n = ds ++ dg 10 a ∧ wr.ownsRow (w.heap.size + 1) 3 1 v ds.length (ints ds) ∧ Blk wr w.heap.size 39 #[.bool true, v] ∧ Below w.heap.size w wr)
  case atStart =>
    exact ⟨n, [], .slice none 0 0, rfl, Nat.le_refl _, rfl, rfl, World.ownsRow_nil _ _ _ _, Blk.new w 39 #[.bool true, .slice none 0 0], (Below.refl _ w).alloc (Nat.le_refl _) _⟩
  case round =>
    obtain ⟨a, ds, v, hg, ha, rfl, hds, hown, bX, hB⟩ := hrel
    have hlt := bX.lt
    have x0 := bX.cell0
    have x1 := bX.cell1
    have k1 := bX.frozen 1
    have hl : ds.length ≤ 19 := by have := congrArg List.length hds; rw [List.length_append] at this; omega
    have HG := Lib.hid hg
    by_cases h0 : a = 0
    · have hds' : ds = dg 10 n := by rw [hds, h0]; simp [dg_zero]
      have hz : sgn true (vl 10 ds) = (-(n : Int)) := by rw [hds', dg_vl (by decide)]; rfl
      have hd10 : ∀ d ∈ ds, d < 10 := by rw [hds']; exact dg_lt (by decide) n
      obtain ⟨A, c, rfl, hc1, hc2, hrd⟩ := own_slice hown
      subst h0
      have HZ := Lib.hid hz; have HD := Lib.hid hd10; have HRD := Lib.hid hrd
      have HB := Lib.hid hB
      clear hg hds hown bX hB hds' hz hd10 hrd
      go_wp2_with (go_at_call 28; refine (text_any _ A c ds _ HRD.out hc1 hc2 HD.out (by omega)).mono ?_; rw [HZ.out, HOUT.out]; rintro e w1 ⟨rfl, hB1⟩; have HB1 := Lib.hid hB1; clear hB1)
      go_ret
      exact ⟨rfl, HB.out.trans (HB1.out.mono (by omega))⟩
    · have HDS := Lib.hid hds; have HOWN := Lib.hid hown; have BX := Lib.hid bX; have HB := Lib.hid hB
      clear hg hds hown bX hB
      have h0' : ((-(a : Int)) != 0) = true := by rw [bne_iff_ne]; omega
      have em : (-(a : Int)).tmod 10 = -((a % 10 : Nat) : Int) := by rw [Int.neg_tmod]; rfl
      have eq : (-(a : Int)).tdiv 10 = -((a / 10 : Nat) : Int) := by rw [Int.neg_tdiv]; rfl
      obtain ⟨y, hy⟩ : ∃ y, y = a % 10 := ⟨_, rfl⟩
      obtain ⟨q, hq⟩ : ∃ q, q = a / 10 := ⟨_, rfl⟩
      rw [← hy] at em; rw [← hq] at eq
      have hy10 : y < 10 := by omega
      have hq10 : q ≤ a := by omega
      have HY := Lib.hid hy; have HQ := Lib.hid hq; clear hy hq
      rcases Nat.eq_zero_or_pos y with h00 | h00
      · have HH := Lib.hid h00
        have em0 : (-(a : Int)).tmod 10 = 0 := by rw [em, h00]; rfl
        clear em h00
        go_wp2_with (at_builtin; refine wpList_app1 _ rfl (.tmp 19) (.tmp 21) 37 rfl (w.heap.size + 1) 3 (.int .i64 0) 8 Tryd.underlying37 info3 rfl _ ds.length _ rfl (HOWN.out.alloc _) wr.heap.size 1 (.int .i64 0) rfl (by simp [World.cell?_alloc_new]) (by simp [Value.oneCell']) (by omega) (by omega) (by simp; omega) ?_; intro g' cap' w3 hA; have bX3 := hA.blk (BX.out.alloc _) (by decide); have y1 := bX3.cell1; have k3 := bX3.frozen 1; have BX3 := Lib.hid bX3; clear bX3; have HA := Lib.hid hA; clear hA)
        go_roundg (a / 10 + 1)
        case measure => have := HG.out; omega
        case rel =>
          have ho := HA.out.1
          rw [show (0 : Int) = ((a % 10 : Nat) : Int) from by rw [← HY.out, HH.out]; rfl, ← ints_snoc] at ho
          exact ⟨a / 10, ds ++ [a % 10], _, rfl, by omega, by rw [HQ.out], by rw [HDS.out, dg_step (by decide) h0]; simp, by rw [List.length_append]; exact own_far ho BX3.out (by decide) 1 _, BX3.out.set_ 1 _, ((HB.out.alloc (by omega) _).trans (HA.out.2.2.mono (by omega))).setCell (by simp) _⟩
      · have hyt : decide (-(y : Int) < 0) = true := by simp; omega
        go_wp2_with (at_builtin; refine wpList_app1 _ rfl (.tmp 19) (.tmp 21) 37 rfl (w.heap.size + 1) 3 (.int .i64 0) 8 Tryd.underlying37 info3 rfl _ ds.length _ rfl (HOWN.out.alloc _) wr.heap.size 1 (.int .i64 (y : Int)) rfl (by simp [World.cell?_alloc_new]) (by simp [Value.oneCell']) (by omega) (by omega) (by simp; omega) ?_; intro g' cap' w3 hA; have bX3 := hA.blk (BX.out.alloc _) (by decide); have y1 := bX3.cell1; have k3 := bX3.frozen 1; have BX3 := Lib.hid bX3; clear bX3; have HA := Lib.hid hA; clear hA)
        go_roundg (a / 10 + 1)
        case measure => have := HG.out; omega
        case rel =>
          have ho := HA.out.1
          rw [HY.out] at ho
          rw [← ints_snoc] at ho
          exact ⟨a / 10, ds ++ [a % 10], _, rfl, by omega, by rw [HQ.out], by rw [HDS.out, dg_step (by decide) h0]; simp, by rw [List.length_append]; exact own_far ho BX3.out (by decide) 1 _, BX3.out.set_ 1 _, ((HB.out.alloc (by omega) _).trans (HA.out.2.2.mono (by omega))).setCell (by simp) _⟩
end Go.Proofs.YtcclclginhhlaaaDoor
