/- The visit of the parts from the end, told by the number of the round. -/
import Derived.Test.YtaapppieipfinaaGreatDoorPBigC
namespace Go.Proofs.YtaapppieipfinaaGreatDoor
open Go.RowKit Go.Shelf
open Pl Dig
attribute [local go_sem] Oper.semAt_some

set_option maxRecDepth 100000 in
set_option maxHeartbeats 2000000 in
theorem fromEnd2_in (F : Fence) (n : Nat) (h8 : F.fn 133) (hro : F.round = none) (hn : 1 ≤ n) (l Bs n₀ cap : Nat) (A : Option Addr) (ps : List Nat) (hreach : ps.length ≤ 1000000) (J Jx : List Nat → World → Prop)
    (hY : ∀ pre x W, J pre W → pre.length < ps.length → YieldAt F (n - 1) Tryz.prog l #[.int .i64 ((fe ps x).1 : Int), .int .u32 ((fe ps x).2 : Int)] W fun e W' =>
      (e = .returned (.bool true) ∧ J (pre ++ [x]) W' ∧ Keeps n₀ Bs W W') ∨ (e = .returned (.bool false) ∧ Jx (pre ++ [x]) W'))
    (W : World) (hBs : W.cell? ⟨Bs, 0, none⟩ = some (.slice A ps.length cap)) (hc : Rd W n₀ 129 A (u32s ps)) (h0 : J [] W) :
    CallsIn F n Tryz.prog 133 #[.func (.yield l) #[] #[], .pointer (some ⟨Bs, 0, none⟩)] W fun e W' => (∃ v, e = .returned v) ∧
      ((∃ ys, ys = upto id ps.length ∧ J ys W') ∨ (∃ pre, (∃ k, k ≤ ps.length ∧ pre = upto id k) ∧ Jx pre W')) := by
  refine callsIn_of_wp Tryz.func133 rfl h8 ?_ hro
  simp only [Tryz.ntmps133, List.size_toArray, List.length_cons, List.length_nil, Nat.reduceAdd, Nat.reduceSub, Array.replicate_succ, Array.replicate_zero, List.push_toArray, List.append_toArray, List.nil_append, List.cons_append]
  gi_wp2
  gi_loopw [3] (fun i wr => ∃ k : Nat, k ≤ ps.length ∧ i = .int .i64 ((ps.length : Int) - 1 - k) ∧ J (upto id k) wr ∧ Keeps n₀ Bs W wr)
    (fun i _ => (intOf i + 1).toNat)
  case atStart => exact ⟨0, Nat.zero_le _, by simp, h0, Keeps.refl _ _ _⟩
  case round =>
    obtain ⟨k, hk, rfl, hJs, hnx⟩ := hrel
    have HNX := Lib.hid hnx
    have hbs := (hnx.cell 0).trans hBs
    by_cases hlt : k < ps.length
    · obtain ⟨j, hj⟩ : ∃ j, ps.length = j + k + 1 := ⟨ps.length - 1 - k, by omega⟩
      have hjl : j < ps.length := by omega
      obtain ⟨b, off, rfl, hb, hcx⟩ := (hc.below hnx.1).u32 hjl
      have ef : fe ps k = (j, ps.getD j 0) := by unfold fe; rw [show ps.length - 1 - k = j from by omega]
      obtain ⟨fn, tmps, assign, body, hy, hR⟩ := hY _ k wr hJs (by rw [upto_length]; exact hlt)
      rw [ef] at hy
      dsimp only at hy
      have e3 : ((ps.length : Int) - 1 - k) = (j : Int) := by omega
      rw [e3]
      obtain ⟨y, hyy⟩ : ∃ y, y = ps.getD j 0 := ⟨_, rfl⟩
      rw [← hyy] at hcx hy
      have HJ := Lib.hid hj
      clear hyy ef hj e3 hnx
      gi_wp2
      refine hR.mono ?_
      rintro e W3 (⟨rfl, hJ3, hk3⟩ | ⟨rfl, hJx3⟩)
      · gi_wp2
        go_roundw
        case rel => exact ⟨k + 1, by omega, by have := HJ.out; congr 1; omega, by rw [upto_succ]; exact hJ3, HNX.out.trans hk3⟩
        case measure => have := HJ.out; simp [intOf]
      · gi_wp2
        refine bodyPost_ret (results_none rfl _ _ _) rfl ?_
        exact ⟨⟨_, rfl⟩, .inr ⟨_, ⟨k + 1, by omega, (upto_succ _ _).symm⟩, hJx3⟩⟩
    · obtain rfl : k = ps.length := by omega
      have e3 : ((ps.length : Int) - 1 - (ps.length : Nat)) = -1 := by omega
      rw [e3]
      gi_wp2
      go_end0
      exact ⟨⟨_, rfl⟩, .inl ⟨_, rfl, hJs⟩⟩

/-- The visit from the end: all parts with their places, the last one first; or the first k of these. The box that holds the slice lies below n₀, the parts too. -/
theorem fromEnd_stops2 (F : Fence) (n : Nat) (h8 : F.fn 133) (hro : F.round = none) (hn : 1 ≤ n) (Bs n₀ cap : Nat) (A : Option Addr) (ps : List Nat) (hreach : ps.length ≤ 1000000) (w : World) (hBs : Bs < w.heap.size) (hn₀ : n₀ ≤ w.heap.size)
    (hc : w.cell? ⟨Bs, 0, none⟩ = some (.slice A ps.length cap)) (hI : Rd w n₀ 129 A (u32s ps)) :
    SeqStopsK F n Tryz.prog 133 #[.pointer (some ⟨Bs, 0, none⟩)] (fun x : Nat => #[Value.int .i64 ((fe ps x).1 : Int), Value.int .u32 ((fe ps x).2 : Int)]) (Keeps n₀ Bs) (fun ys => ys = upto id ps.length)
      (fun pre => ∃ k, k ≤ ps.length ∧ pre = upto id k) ps.length w := fun l J Jx W hW _ _ hY h0 => by
  have hc' := (hW.cell (p := ⟨Bs, 0, none⟩) hBs).trans hc
  exact fromEnd2_in F n h8 hro hn l Bs n₀ cap A ps hreach J Jx hY W hc' (hI.below (hW.mono hn₀)) h0

end Go.Proofs.YtaapppieipfinaaGreatDoor
