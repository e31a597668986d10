/- Package decl: Put. -/
import Derived.Test.YtagmgkkicodbiaaGreatDoorJf
import Derived.Test.YtagmgkkicodbiaaGreatDoorYr
import Derived.RangeFuncNested
import Derived.RangeFuncBound
import Derived.RangeFuncCalls
import Derived.RangeFuncLeaves
import Derived.RangeFuncBox
import Derived.OwnWalkIn
import Derived.TacticsInMore
import Derived.LoopNIn
import Derived.LoopIn
namespace Go.Proofs.YtagmgkkicodbiaaGreatDoor
open Go.RowKit Go.Shelf
open Go
attribute [local go_sem] Oper.semAt_some

def upto {α : Type} (f : Nat → α) (k : Nat) : List α := (List.range k).map f
theorem upto_succ {α : Type} (f : Nat → α) (k : Nat) : upto f (k + 1) = upto f k ++ [f k] := by simp [upto, List.range_succ]
theorem upto_length {α : Type} (f : Nat → α) (k : Nat) : (upto f k).length = k := by simp [upto]
def Keeps (n₀ Bs : Nat) (W W' : World) : Prop := Below n₀ W W' ∧ W'.heap[Bs]? = W.heap[Bs]?
theorem Keeps.refl (n₀ Bs : Nat) (W : World) : Keeps n₀ Bs W W := ⟨Below.refl _ _, rfl⟩
theorem Keeps.trans {n₀ Bs : Nat} {A B C : World} (h : Keeps n₀ Bs A B) (k : Keeps n₀ Bs B C) : Keeps n₀ Bs A C := ⟨h.1.trans k.1, k.2.trans h.2⟩
theorem Keeps.cell {n₀ Bs : Nat} {A B : World} (h : Keeps n₀ Bs A B) (i : Nat) : B.cell? ⟨Bs, i, none⟩ = A.cell? ⟨Bs, i, none⟩ := World.cell?_of_block (a := ⟨Bs, i, none⟩) h.2
theorem keepsK_b {n₀ Bs : Nat} {w : World} (hn : n₀ ≤ w.heap.size) (hs : Bs < w.heap.size) (W : World) (l : Nat) (o o' : Obj) (hl : w.heap.size ≤ l) (h : W.heap[l]? = some o) (h1 : o.isCells = false) (h2 : o.isWalk = false) : Keeps n₀ Bs W (W.putObj l o') :=
  ⟨belowK_b hn W l o o' hl h h1 h2, World.putObj_heap_other (by omega)⟩
/-- A row of texts. -/
def SRep (w : World) (B : Nat) (ps : List ByteArray) (A : Option Addr) (c : Nat) : Prop := ps.length ≤ c ∧ c ≤ maxLen ∧ ∀ i (hi : i < ps.length), ∃ b off, A = some ⟨b, off, none⟩ ∧ b < B ∧ ps[i].size ≤ maxLen ∧ w.cell? ⟨b, off + i, none⟩ = some (.string ps[i])
theorem SRep.under {w w' : World} {B : Nat} {ps : List ByteArray} {A : Option Addr} {c : Nat} (h : SRep w B ps A c) (hb : Below B w w') : SRep w' B ps A c :=
  ⟨h.1, h.2.1, fun i hi => by obtain ⟨b, off, h1, h2, h3, h4⟩ := h.2.2 i hi; exact ⟨b, off, h1, h2, h3, (hb.cell (p := ⟨b, off + i, none⟩) h2).trans h4⟩⟩
theorem SRep.more {w : World} {B B' : Nat} {ps : List ByteArray} {A : Option Addr} {c : Nat} (h : SRep w B ps A c) (hb : B ≤ B') : SRep w B' ps A c :=
  ⟨h.1, h.2.1, fun i hi => by obtain ⟨b, off, h1, h2, h3⟩ := h.2.2 i hi; exact ⟨b, off, h1, by omega, h3⟩⟩
/-- The text of the round, from the end. -/
def atE (ps : List ByteArray) (n x : Nat) : ByteArray := ps.getD (n - 1 - x) ⟨#[]⟩
theorem back_c (A : Option Addr) (n c : Nat) (w : World) : Calls Tryz.prog 14 #[.slice A n c] w fun e w' => e = .returned (.func (.func 33) #[] #[.pointer (some ⟨w.heap.size, 0, none⟩)]) ∧ w' = w.alloc (.cells #[.slice A n c] 25) := by
  go_enter Tryz.func14, Tryz.ntmps14
  go_wp2_with fail
  go_ret
  exact ⟨rfl, rfl⟩
set_option maxRecDepth 100000 in
set_option maxHeartbeats 2000000 in
theorem back1_in (F : Fence) (nn : Nat) (h8 : F.fn 33) (hro : F.round = none) (hn : 1 ≤ nn) (l Bs n₀ cap n : Nat) (A : Option Addr) (ps : List ByteArray) (hnp : n ≤ ps.length) (hreach : n ≤ 1000000) (J Jx : List Nat → World → Prop)
    (hY : ∀ pre x W, J pre W → pre.length < n → YieldAt F (nn - 1) Tryz.prog l #[.int .i64 ((n - 1 - x : Nat) : Int), .string (atE ps n x)] W fun e W' =>
      (e = .returned (.bool true) ∧ J (pre ++ [x]) W' ∧ Keeps n₀ Bs W W') ∨ (e = .returned (.bool false) ∧ Jx (pre ++ [x]) W'))
    (W : World) (hBs : W.cell? ⟨Bs, 0, none⟩ = some (.slice A n cap)) (hc : ∀ V, Below n₀ W V → ∀ i (hi : i < ps.length), ∃ b off, A = some ⟨b, off, none⟩ ∧ V.cell? ⟨b, off + i, none⟩ = some (.string ps[i])) (h0 : J [] W) :
    CallsIn F nn Tryz.prog 33 #[.func (.yield l) #[] #[], .pointer (some ⟨Bs, 0, none⟩)] W fun e W' => (∃ v, e = .returned v) ∧
      ((∃ ys, ys = upto id n ∧ J ys W') ∨ (∃ pre, (∃ k, k ≤ n ∧ pre = upto id k) ∧ Jx pre W')) := by
  refine callsIn_of_wp Tryz.func33 rfl h8 ?_ hro
  simp only [Tryz.ntmps33, List.size_toArray, List.length_cons, List.length_nil, Nat.reduceAdd, Nat.reduceSub, Array.replicate_succ, Array.replicate_zero, List.push_toArray, List.append_toArray, List.nil_append, List.cons_append]
  gi_wp2
  gi_loopw [3] (fun i wr => ∃ k : Nat, k ≤ n ∧ i = .int .i64 ((n : Int) - 1 - k) ∧ J (upto id k) wr ∧ Keeps n₀ Bs W wr)
    (fun i _ => (intOf i + 1).toNat)
  case atStart => exact ⟨0, Nat.zero_le _, by simp, h0, Keeps.refl _ _ _⟩
  case round =>
    obtain ⟨k, hk, rfl, hJs, hnx⟩ := hrel
    have HNX := Lib.hid hnx
    have hbs := (hnx.cell 0).trans hBs
    by_cases hlt : k < n
    · obtain ⟨j, hj⟩ : ∃ j, n = j + k + 1 := ⟨n - 1 - k, by omega⟩
      have hjl : j < ps.length := by omega
      obtain ⟨b, off, rfl, hcx⟩ := hc wr hnx.1 j hjl
      have ef : atE ps n k = ps[j] := by unfold atE; rw [show n - 1 - k = j from by omega]; simp [List.getD_eq_getElem?_getD, hjl]
      obtain ⟨fn, tmps, assign, body, hy, hR⟩ := hY _ k wr hJs (by rw [upto_length]; exact hlt)
      rw [ef, show n - 1 - k = j from by omega] at hy
      have e3 : ((n : Int) - 1 - k) = (j : Int) := by omega
      rw [e3]
      obtain ⟨y, hyy⟩ : ∃ y, y = ps[j] := ⟨_, rfl⟩
      rw [← hyy] at hcx hy
      have HJ := Lib.hid hj
      have hjn : j < n := by omega
      clear hyy ef hj e3 hnx
      gi_wp2
      refine hR.mono ?_
      rintro e W3 (⟨rfl, hJ3, hk3⟩ | ⟨rfl, hJx3⟩)
      · gi_wp2
        go_roundw
        case rel => exact ⟨k + 1, by omega, by have := HJ.out; congr 1; omega, by rw [upto_succ]; exact hJ3, HNX.out.trans hk3⟩
        case measure => have := HJ.out; simp [intOf]
      · gi_wp2
        refine bodyPost_ret (results_none rfl _ _ _) rfl ?_
        exact ⟨⟨_, rfl⟩, .inr ⟨_, ⟨k + 1, by omega, (upto_succ _ _).symm⟩, hJx3⟩⟩
    · obtain rfl : k = n := by omega
      have e3 : ((k : Int) - 1 - (k : Nat)) = -1 := by omega
      rw [e3]
      gi_wp2
      go_end0
      exact ⟨⟨_, rfl⟩, .inl ⟨_, rfl, hJs⟩⟩
/-- The visit from the end: the box that holds the slice lies below, the texts too. -/
theorem back_stops (F : Fence) (nn : Nat) (h8 : F.fn 33) (hro : F.round = none) (hn : 1 ≤ nn) (Bs n₀ cap n : Nat) (A : Option Addr) (ps : List ByteArray) (hnp : n ≤ ps.length) (hreach : n ≤ 1000000) (w : World) (hBs : Bs < w.heap.size) (hn₀ : n₀ ≤ w.heap.size)
    (hc : w.cell? ⟨Bs, 0, none⟩ = some (.slice A n cap)) (c : Nat) (hI : SRep w n₀ ps A c) :
    SeqStopsK F nn Tryz.prog 33 #[.pointer (some ⟨Bs, 0, none⟩)] (fun x : Nat => #[Value.int .i64 ((n - 1 - x : Nat) : Int), Value.string (atE ps n x)]) (Keeps n₀ Bs) (fun ys => ys = upto id n)
      (fun pre => ∃ k, k ≤ n ∧ pre = upto id k) n w := fun l J Jx W hW _ _ hY h0 => by
  have hc' := (hW.cell (p := ⟨Bs, 0, none⟩) hBs).trans hc
  exact back1_in F nn h8 hro hn l Bs n₀ cap n A ps hnp hreach J Jx hY W hc' (fun V hV i hi => by
    obtain ⟨b, off, h1, h2, h3, h4⟩ := ((hI.under (hW.mono hn₀)).under hV).2.2 i hi
    exact ⟨b, off, h1, h4⟩) h0
end Go.Proofs.YtagmgkkicodbiaaGreatDoor
