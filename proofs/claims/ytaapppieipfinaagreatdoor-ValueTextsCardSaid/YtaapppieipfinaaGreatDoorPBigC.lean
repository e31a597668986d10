/- The walks over package big: the visit of the parts from the end; the noughts at the end cut. -/
import Derived.Test.YtaapppieipfinaaGreatDoorPPlain
import Derived.RangeFuncNested
import Derived.RangeFuncBound
import Derived.RangeFuncCalls
import Derived.RangeFuncLeaves
import Derived.RangeFuncBox
import Derived.Shelf.Abstract
import Derived.Shelf.RegionOpen
import Derived.OwnWalkIn
import Derived.TacticsInMore
import Derived.LoopNIn
import Derived.LoopIn
namespace Go.Proofs.YtaapppieipfinaaGreatDoor
open Go.RowKit Go.Shelf
open Pl Dig
attribute [local go_sem] Oper.semAt_some

/-- A list of parts as cells. -/
def u32s (ps : List Nat) : List Value := ps.map fun (d : Nat) => .int .u32 (d : Int)
theorem u32s_len (ps : List Nat) : (u32s ps).length = ps.length := by simp [u32s]
theorem u32s_take (ps : List Nat) (k : Nat) : (u32s ps).take k = u32s (ps.take k) := by simp [u32s, List.map_take]
theorem u32s_snoc (ps : List Nat) (d : Nat) : u32s (ps ++ [d]) = u32s ps ++ [.int .u32 (d : Int)] := by simp [u32s]
theorem Rd.u32 {w : World} {B : Nat} {A : Option Addr} {ps : List Nat} {k : Nat} (h : Rd w B 129 A (u32s ps)) (hk : k < ps.length) :
    ∃ b off, A = some ⟨b, off, none⟩ ∧ b < B ∧ w.cell? ⟨b, off + k, none⟩ = some (.int .u32 ((ps.getD k 0 : Nat) : Int)) := by
  obtain ⟨b, off, e, hb, hc⟩ := h.at_ (k := k) (by rw [u32s_len]; exact hk)
  exact ⟨b, off, e, hb, by simpa [u32s, List.getD_eq_getElem?_getD, hk] using hc⟩

def upto {α : Type} (f : Nat → α) (k : Nat) : List α := (List.range k).map f
theorem upto_succ {α : Type} (f : Nat → α) (k : Nat) : upto f (k + 1) = upto f k ++ [f k] := by simp [upto, List.range_succ]
theorem upto_length {α : Type} (f : Nat → α) (k : Nat) : (upto f k).length = k := by simp [upto]
/-- What the visit from the end tells in its k-th round. -/
def fe (ps : List Nat) (k : Nat) : Nat × Nat := (ps.length - 1 - k, ps.getD (ps.length - 1 - k) 0)

/-- What a round keeps: all below n₀, and the box Bs. -/
def Keeps (n₀ Bs : Nat) (W W' : World) : Prop := Below n₀ W W' ∧ W'.heap[Bs]? = W.heap[Bs]?
theorem Keeps.refl (n₀ Bs : Nat) (W : World) : Keeps n₀ Bs W W := ⟨Below.refl _ _, rfl⟩
theorem Keeps.trans {n₀ Bs : Nat} {A B C : World} (h : Keeps n₀ Bs A B) (k : Keeps n₀ Bs B C) : Keeps n₀ Bs A C := ⟨h.1.trans k.1, k.2.trans h.2⟩
theorem Keeps.cell {n₀ Bs : Nat} {A B : World} (h : Keeps n₀ Bs A B) (i : Nat) : B.cell? ⟨Bs, i, none⟩ = A.cell? ⟨Bs, i, none⟩ := World.cell?_of_block (a := ⟨Bs, i, none⟩) h.2

set_option maxRecDepth 100000 in
set_option maxHeartbeats 2000000 in
theorem fromEnd1_in (F : Fence) (n : Nat) (h8 : F.fn 133) (hro : F.round = none) (hn : 1 ≤ n) (l Bs n₀ cap : Nat) (A : Option Addr) (ps : List Nat) (hreach : ps.length ≤ 1000000) (J Jx : List (Nat × Nat) → World → Prop)
    (hY : ∀ pre x W, J pre W → pre.length < ps.length → YieldAt F (n - 1) Tryz.prog l #[.int .i64 (x.1 : Int), .int .u32 (x.2 : Int)] W fun e W' =>
      (e = .returned (.bool true) ∧ J (pre ++ [x]) W' ∧ Keeps n₀ Bs W W') ∨ (e = .returned (.bool false) ∧ Jx (pre ++ [x]) W'))
    (W : World) (hBs : W.cell? ⟨Bs, 0, none⟩ = some (.slice A ps.length cap)) (hc : Rd W n₀ 129 A (u32s ps)) (h0 : J [] W) :
    CallsIn F n Tryz.prog 133 #[.func (.yield l) #[] #[], .pointer (some ⟨Bs, 0, none⟩)] W fun e W' => (∃ v, e = .returned v) ∧
      ((∃ ys, ys = upto (fe ps) ps.length ∧ J ys W') ∨ (∃ pre, (∃ k, k ≤ ps.length ∧ pre = upto (fe ps) k) ∧ Jx pre W')) := by
  refine callsIn_of_wp Tryz.func133 rfl h8 ?_ hro
  simp only [Tryz.ntmps133, List.size_toArray, List.length_cons, List.length_nil, Nat.reduceAdd, Nat.reduceSub, Array.replicate_succ, Array.replicate_zero, List.push_toArray, List.append_toArray, List.nil_append, List.cons_append]
  gi_wp2
  gi_loopw [3] (fun i wr => ∃ k : Nat, k ≤ ps.length ∧ i = .int .i64 ((ps.length : Int) - 1 - k) ∧ J (upto (fe ps) k) wr ∧ Keeps n₀ Bs W wr)
    (fun i _ => (intOf i + 1).toNat)
  case atStart => exact ⟨0, Nat.zero_le _, by simp, h0, Keeps.refl _ _ _⟩
  case round =>
    obtain ⟨k, hk, rfl, hJs, hnx⟩ := hrel
    have HNX := Lib.hid hnx
    have hbs := (hnx.cell 0).trans hBs
    by_cases hlt : k < ps.length
    · obtain ⟨j, hj⟩ : ∃ j, ps.length = j + k + 1 := ⟨ps.length - 1 - k, by omega⟩
      have hjl : j < ps.length := by omega
      obtain ⟨b, off, rfl, hb, hcx⟩ := (hc.below hnx.1).u32 hjl
      have ef : fe ps k = (j, ps.getD j 0) := by unfold fe; rw [show ps.length - 1 - k = j from by omega]
      obtain ⟨fn, tmps, assign, body, hy, hR⟩ := hY _ (fe ps k) wr hJs (by rw [upto_length]; exact hlt)
      rw [ef] at hy hR
      dsimp only at hy
      have e3 : ((ps.length : Int) - 1 - k) = (j : Int) := by omega
      rw [e3]
      obtain ⟨y, hyy⟩ : ∃ y, y = ps.getD j 0 := ⟨_, rfl⟩
      rw [← hyy] at hcx hy hR
      have HYY := Lib.hid hyy; have HEF := Lib.hid ef; have HJ := Lib.hid hj
      clear hyy ef hj e3 hnx
      gi_wp2
      refine hR.mono ?_
      rintro e W3 (⟨rfl, hJ3, hk3⟩ | ⟨rfl, hJx3⟩)
      · gi_wp2
        go_roundw
        case rel => exact ⟨k + 1, by omega, by have := HJ.out; congr 1; omega, by rw [upto_succ, HEF.out, ← HYY.out]; exact hJ3, HNX.out.trans hk3⟩
        case measure => have := HJ.out; simp [intOf]
      · gi_wp2
        refine bodyPost_ret (results_none rfl _ _ _) rfl ?_
        exact ⟨⟨_, rfl⟩, .inr ⟨_, ⟨k + 1, by omega, (upto_succ _ _).symm⟩, by rw [HEF.out, ← HYY.out]; exact hJx3⟩⟩
    · obtain rfl : k = ps.length := by omega
      have e3 : ((ps.length : Int) - 1 - (ps.length : Nat)) = -1 := by omega
      rw [e3]
      gi_wp2
      go_end0
      exact ⟨⟨_, rfl⟩, .inl ⟨_, rfl, hJs⟩⟩

set_option maxHeartbeats 1000000 in
theorem fromEnd_in (F : Fence) (n : Nat) (h5 : F.fn 123) (hro : F.round = none) (a : Option Addr) (len cap : Nat) (w : World) :
    CallsIn F n Tryz.prog 123 #[.slice a len cap] w fun e w' => e = .returned (.func (.func 133) #[] #[.pointer (some ⟨w.heap.size, 0, none⟩)]) ∧ w' = w.alloc (.cells #[.slice a len cap] 103) := by
  refine callsIn_of_wp Tryz.func123 rfl h5 ?_ hro
  simp only [Tryz.ntmps123, List.size_toArray, List.length_cons, List.length_nil, Nat.reduceAdd, Nat.reduceSub, Array.replicate_succ, Array.replicate_zero, List.push_toArray, List.append_toArray, List.nil_append, List.cons_append]
  gi_wp2
  go_ret
  exact ⟨rfl, rfl⟩

/-- The visit from the end: all parts with their places, the last one first; or the first k of these. The box that holds the slice lies below n₀, the parts too. -/
theorem fromEnd_stops (F : Fence) (n : Nat) (h8 : F.fn 133) (hro : F.round = none) (hn : 1 ≤ n) (Bs n₀ cap : Nat) (A : Option Addr) (ps : List Nat) (hreach : ps.length ≤ 1000000) (w : World) (hBs : Bs < w.heap.size) (hn₀ : n₀ ≤ w.heap.size)
    (hc : w.cell? ⟨Bs, 0, none⟩ = some (.slice A ps.length cap)) (hI : Rd w n₀ 129 A (u32s ps)) :
    SeqStopsK F n Tryz.prog 133 #[.pointer (some ⟨Bs, 0, none⟩)] (fun x : Nat × Nat => #[Value.int .i64 (x.1 : Int), Value.int .u32 (x.2 : Int)]) (Keeps n₀ Bs) (fun ys => ys = upto (fe ps) ps.length)
      (fun pre => ∃ k, k ≤ ps.length ∧ pre = upto (fe ps) k) ps.length w := fun l J Jx W hW _ _ hY h0 => by
  have hc' := (hW.cell (p := ⟨Bs, 0, none⟩) hBs).trans hc
  exact fromEnd1_in F n h8 hro hn l Bs n₀ cap A ps hreach J Jx hY W hc' (hI.below (hW.mono hn₀)) h0

theorem keepsK_b {n₀ Bs : Nat} {w : World} (hn : n₀ ≤ w.heap.size) (hs : Bs < w.heap.size) (W : World) (l : Nat) (o o' : Obj) (hl : w.heap.size ≤ l) (h : W.heap[l]? = some o) (h1 : o.isCells = false) (h2 : o.isWalk = false) : Keeps n₀ Bs W (W.putObj l o') :=
  ⟨belowK_b hn W l o o' hl h h1 h2, World.putObj_heap_other (by omega)⟩
/-- What of a list of parts is left when the noughts at its end are cut. -/
def trimLen : List Nat → Nat
  | [] => 0
  | x :: r => if trimLen r = 0 then (if x = 0 then 0 else 1) else trimLen r + 1

set_option maxRecDepth 100000 in
set_option maxHeartbeats 2000000 in
theorem trimmed_in (F : Fence) (n : Nat) (h3 : F.fn 121) (h6 : F.fn 123) (h8 : F.fn 133) (hro : F.round = none) (hn : 3 ≤ n) (A : Option Addr) (cap : Nat) (ps : List Nat) (hreach : ps.length ≤ 1000000) (hcap : ps.length ≤ cap) (hcm : cap ≤ maxLen) (w : World) (hI : Rd w w.heap.size 129 A (u32s ps)) :
    CallsIn F n Tryz.prog 121 #[.slice A ps.length cap] w fun e W' => (∃ k c', e = .returned (.slice A k c') ∧ k ≤ ps.length ∧ (∀ j, k ≤ j → ps.getD j 0 = 0) ∧ (0 < k → ps.getD (k - 1) 0 ≠ 0) ∧ k ≤ c' ∧ c' ≤ maxLen ∧ Rd W' w.heap.size 129 A (u32s (ps.take k))) ∧ Below w.heap.size w W' := by
  have h1 : 1 ≤ n := by omega
  refine callsIn_of_wp_marks Tryz.func121 rfl h3 ?_ hro
  simp only [Tryz.ntmps121, List.size_toArray, List.length_cons, List.length_nil, Nat.reduceAdd, Nat.reduceSub, Array.replicate_succ, Array.replicate_zero, List.push_toArray, List.append_toArray, List.nil_append, List.cons_append]
  gi_wp2_with (gi_at_call 123; refine (fromEnd_in F (n - 1) h6 hro _ _ _ _).mono ?_; rintro e w' ⟨rfl, rfl⟩)
  have bL := Boxed.new w 3 (.int .i64 0)
  have bN := Boxed.new (w.alloc (.cells #[.int .i64 0] 3)) 103 (.slice A ps.length cap)
  rw [World.size_alloc] at bN
  have hB0 : Below w.heap.size w ((w.alloc (.cells #[.int .i64 0] 3)).alloc (.cells #[.slice A ps.length cap] 103)) := ((Below.refl _ w).alloc (Nat.le_refl _) _).alloc (by simp) _
  refine wpIn_rangeFunc_ownG hro h1 (gf := 133) (lb := #[.pointer (some ⟨w.heap.size + 1, 0, none⟩)]) rfl h8 (enters_of Tryz.func133 (by kernel_rfl) rfl)
    (fromEnd_stops F (n - 1) h8 hro (by omega) (w.heap.size + 1) w.heap.size cap A ps hreach _ (by simp) (by simp; omega) bN.cell (hI.below hB0)) Keeps.trans (keepsK_b (by simp; omega) (by simp)) (Below.refl _ _) (fun _ => rfl)
    (fun pre W => ((∀ p ∈ pre, p.2 = 0) ∧ W.cell? ⟨w.heap.size, 0, none⟩ = some (.int .i64 0) ∧ W.frozen? ⟨w.heap.size, 0, none⟩ = false) ∧ Below w.heap.size w W)
    (fun c pre W => (c = .exit 0 ∧ ∃ ini last, pre = ini ++ [last] ∧ (∀ p ∈ ini, p.2 = 0) ∧ last.2 ≠ 0 ∧ W.cell? ⟨w.heap.size, 0, none⟩ = some (.int .i64 (wrap64 ((last.1 : Int) + 1)))) ∧ Below w.heap.size w W)
    (OwnFrom.and (Own.from (fun s A B row hs hg hr => ⟨hs.1, cell_kept hs.2.1 hg hr, (frozen_kept hs.2.1 hg hr).trans hs.2.2⟩) _) (ownFrom_below (Nat.le_refl _) (by simp; omega)))
    (fun c => OwnFrom.and (Own.from (fun s A B row hs hg hr => by obtain ⟨hc, ini, last, e1, e2, e3, e4⟩ := hs; exact ⟨hc, ini, last, e1, e2, e3, cell_kept e4 hg hr⟩) _) (ownFrom_below (Nat.le_refl _) (by simp; omega)))
    ⟨⟨by simp, (bL.alloc _).cell, (bL.alloc _).frozen⟩, hB0⟩
    (fun x => { tmps := #[.slice A ps.length cap, undef, .slice none 0 0, .pointer (some ⟨w.heap.size, 0, none⟩), .int .i64 (x.1 : Int), .int .u32 (x.2 : Int), .slice A ps.length cap, .func (.func 133) #[] #[.pointer (some ⟨w.heap.size + 1, 0, none⟩)], .int .i64 (x.1 : Int), .int .u32 (x.2 : Int), undef, undef, undef, undef, undef, undef, undef, undef], defers := [] }) ?assign ?body ?done ?stop
  case assign =>
    intro l x W K hK
    gi_wp2
    exact hK
  case body =>
    rintro l pre x W ⟨⟨hp, hcr, hfr⟩, hB⟩ _
    by_cases hx : x.2 = 0
    · have hx' : (((x.2 : Nat) : Int) != 0) = false := by simp [hx]
      have HX := Lib.hid hx; clear hx
      gi_wp2
      exact ⟨KeepsFrom.refl _ _, Keeps.refl _ _ _, ⟨fun p hp' => (List.mem_append.1 hp').elim (hp p) (fun e => by simp at e; subst e; exact HX.out), hcr, hfr⟩, hB⟩
    · have hx' : (((x.2 : Nat) : Int) != 0) = true := by rw [bne_iff_ne]; omega
      have HX := Lib.hid hx; clear hx
      gi_wp2
      exact ⟨(KeepsOthers.setCell _ _ _).from _, ⟨rfl, pre, x, rfl, hp, HX.out, World.cell?_setCell_same' _ _ _ (by rw [hcr]; rfl)⟩, hB.setCell (p := ⟨w.heap.size, 0, none⟩) (Nat.le_refl _) _⟩
  case done =>
    rintro D ys W hD rfl ⟨⟨hne, hcr, hfr⟩, hB⟩ hK
    have HNE := Lib.hid hne; have HB := Lib.hid hB; clear hne hB
    gi_wp2
    refine ⟨by simp, .inl ⟨_, _, rfl, run_takeDeferred hK, ?_⟩⟩
    refine ⟨_, results_tmp rfl _ _ _, ⟨0, 0, rfl, Nat.zero_le _, fun j _ => ?_, fun h => absurd h (by omega), by omega, by unfold maxLen; omega, Rd.nil_⟩, HB.out.trans (belowK_b (w := w) (Nat.le_refl _) W D _ _ (by simp at hD; omega) hK rfl rfl)⟩
    by_cases hj : j < ps.length
    · have := HNE.out (fe ps (ps.length - 1 - j)) (by simp only [upto, List.mem_map, List.mem_range]; exact ⟨ps.length - 1 - j, by omega, rfl⟩)
      simp only [fe] at this
      rwa [show ps.length - 1 - (ps.length - 1 - j) = j from by omega] at this
    · simp [List.getD_eq_getElem?_getD, List.getElem?_eq_none (by omega : ps.length ≤ j)]
  case stop =>
    rintro D c pre W hD ⟨k, hk, rfl⟩ ⟨⟨rfl, ini, last, e1, e2, e3, hcr⟩, hB⟩ hK
    obtain ⟨k', rfl⟩ : ∃ k', k = k' + 1 := by
      cases k with
      | zero => simp [upto] at e1
      | succ k' => exact ⟨k', rfl⟩
    rw [upto_succ] at e1
    obtain ⟨rfl, e5⟩ := List.append_inj' e1 rfl
    obtain rfl : fe ps k' = last := by simpa using e5
    have ev : wrap64 (((fe ps k').1 : Int) + 1) = ((ps.length - k' : Nat) : Int) := by
      rw [IntWalk.wrap64_in _ (by simp only [fe]; omega)]; simp only [fe]; omega
    rw [ev] at hcr
    clear ev e5 e1
    obtain ⟨K, hKK⟩ : ∃ K, K = ps.length - k' := ⟨_, rfl⟩
    rw [← hKK] at hcr
    have hKl : K ≤ ps.length := by omega
    have hK0 : 0 < K := by omega
    have HKK := Lib.hid hKK; have HE2 := Lib.hid e2; have HE3 := Lib.hid e3; have HB := Lib.hid hB
    clear hKK e2 e3 hB
    gi_wp2
    refine ⟨by simp, .inl ⟨_, _, rfl, run_takeDeferred hK, ?_⟩⟩
    have hBB := HB.out.trans (belowK_b (w := w) (Nat.le_refl _) W D _ (.deferred none) (by simp at hD; omega) hK rfl rfl)
    refine ⟨_, results_tmp rfl _ _ _, ⟨K, K, rfl, hKl, fun j hjK => ?_, fun _ => ?_, Nat.le_refl _, by omega, ?_⟩, hBB⟩
    · by_cases hj : j < ps.length
      · have hkk := HKK.out
        have := HE2.out (fe ps (ps.length - 1 - j)) (by simp only [upto, List.mem_map, List.mem_range]; exact ⟨ps.length - 1 - j, by omega, rfl⟩)
        simp only [fe] at this
        rwa [show ps.length - 1 - (ps.length - 1 - j) = j from by omega] at this
      · simp [List.getD_eq_getElem?_getD, List.getElem?_eq_none (by omega : ps.length ≤ j)]
    · have := HE3.out
      simp only [fe] at this
      have hkk := HKK.out
      rwa [show ps.length - 1 - k' = K - 1 from by omega] at this
    · rw [← u32s_take]
      exact (hI.below hBB).take K

/-- The base of a part. -/
def b9 : Nat := 1000000000
theorem b9_two : 2 ≤ b9 := by decide
/-- trimmed: the parts of a number, in the one form that it has, where they were. -/
theorem trimmed_at (A : Option Addr) (cap : Nat) (ps : List Nat) (hreach : ps.length ≤ 1000000) (hcap : ps.length ≤ cap) (hcm : cap ≤ maxLen) (w : World) (hI : Rd w w.heap.size 129 A (u32s ps)) (hp : ∀ d ∈ ps, d < b9) :
    Calls Tryz.prog 121 #[.slice A ps.length cap] w fun e W' => (∃ c', e = .returned (.slice A (dg b9 (vl b9 ps)).length c') ∧ (dg b9 (vl b9 ps)).length ≤ c' ∧ c' ≤ maxLen ∧ Rd W' W'.heap.size 129 A (u32s (dg b9 (vl b9 ps)))) ∧ Below w.heap.size w W' := by
  refine (callsIn_wide.1 (trimmed_in Fence.wide 5 trivial trivial trivial rfl (by omega) A cap ps hreach hcap hcm w hI)).mono ?_
  rintro e W' ⟨⟨k, c', rfl, h1, h2, h3, h4, h5, h6⟩, hB⟩
  have e1 : ps.take k = dg b9 (vl b9 ps) := cut_zeros b9_two h1 hp (fun j hj d hd => by have := h2 j hj; rw [List.getD_eq_getElem?_getD, hd] at this; exact this)
    (fun d hd hk => by have := h3 hk; rw [List.getD_eq_getElem?_getD, hd] at this; exact this)
  rw [← e1]
  have e3 : (ps.take k).length = k := by rw [List.length_take]; omega
  rw [e3]
  exact ⟨⟨c', rfl, h4, h5, h6.more hB.size⟩, hB⟩
/-- trimmed: the parts of a number, in the one form that it has. -/
theorem trimmed_any (A : Option Addr) (cap : Nat) (ps : List Nat) (hreach : ps.length ≤ 1000000) (hcap : ps.length ≤ cap) (hcm : cap ≤ maxLen) (w : World) (hI : Rd w w.heap.size 129 A (u32s ps)) (hp : ∀ d ∈ ps, d < b9) :
    Calls Tryz.prog 121 #[.slice A ps.length cap] w fun e W' => (∃ A' c', e = .returned (.slice A' (dg b9 (vl b9 ps)).length c') ∧ (dg b9 (vl b9 ps)).length ≤ c' ∧ c' ≤ maxLen ∧ Rd W' W'.heap.size 129 A' (u32s (dg b9 (vl b9 ps)))) ∧ Below w.heap.size w W' :=
  (trimmed_at A cap ps hreach hcap hcm w hI hp).mono fun _ _ ⟨⟨c', h⟩, hB⟩ => ⟨⟨A, c', h⟩, hB⟩
/-- The address, if there is one, lies at or beyond block N. -/
def Fr (N : Nat) (A : Option Addr) : Prop := ∀ b off, A = some ⟨b, off, none⟩ → N ≤ b
theorem own_fr {w : World} {base n c : Nat} {e : TypeId} {A : Option Addr} {xs : List Value} (h : w.ownsRow base e 1 (.slice A n c) n xs) : Fr base A := by
  intro b off hA
  rcases h.2 with ⟨h', _⟩ | ⟨g, cap, cur, h', hb, _⟩
  · injection h' with h1 _ _; rw [hA] at h1; cases h1
  · injection h' with h1 _ _; rw [hA] at h1; injection h1 with h1; injection h1 with h1 _ _; omega
end Go.Proofs.YtaapppieipfinaaGreatDoor
