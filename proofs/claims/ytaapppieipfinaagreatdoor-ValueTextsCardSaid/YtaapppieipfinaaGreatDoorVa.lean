/- Package value: the examples that each law asks first. -/
import Derived.Test.YtaapppieipfinaaGreatDoorVu
import Derived.Test.YtaapppieipfinaaGreatDoorVs4
namespace Go.Proofs.YtaapppieipfinaaGreatDoor
open Go.RowKit Vp
open Go
attribute [local go_sem] Oper.semAt_some

def va : V := .mk 2 3 ⟨#[]⟩ []
def vb : V := .mk 3 0 ⟨#[49, 48]⟩ []
def vc : V := .mk 6 0 ⟨#[99, 111, 110, 115]⟩ [va, vb]
def v0 : V := .mk 0 0 ⟨#[]⟩ []
theorem chk_vc : chkV vc = 0 := by decide +kernel
theorem chk_v0 : chkV v0 = 4 := by decide +kernel
theorem cmp_ab : cmpR zcmp [va] [vb] = -1 := by decide +kernel
theorem cmp_ba : decide (cmpR zcmp [vb] [va] = 0) = false := by decide +kernel
theorem cmp_bb : cmpR zcmp [vb] [vb] = 0 := by decide +kernel
theorem cmp_aab : cmpR zcmp [va] [va, vb] = -1 := by decide +kernel
theorem ok_vc : some_ (fun t => !okT t) vc = false := by decide +kernel
theorem txt_vc : txtV vc = [99, 111, 110, 115, 40, 51, 44, 32, 49, 48, 98, 41] := by decide +kernel
theorem cell_lt {w : World} {g i : Nat} {x : Value} (h : w.cell? ⟨g, i, none⟩ = some x) : g < w.heap.size := by
  rcases Nat.lt_or_ge g w.heap.size with h' | h'
  · exact h'
  · simp [World.cell?, Array.getElem?_eq_none h'] at h
theorem rep_a (w : World) (B : Nat) : VRep w B va (.agg (leaf 2 3 ⟨#[]⟩)) := leaf_rep 2 3 ⟨#[]⟩ (by decide) (by decide) (by decide) w B
theorem rep_b (w : World) (B : Nat) : VRep w B vb (.agg (leaf 3 0 ⟨#[49, 48]⟩)) := leaf_rep 3 0 ⟨#[49, 48]⟩ (by decide) (by decide) (by decide) w B
/-- Two values one behind the other. -/
theorem rrep_two {w : World} {x y : V} {u v : Value} {cu cv : Array Value} {g B : Nat} {t : TypeId} (hx : VRep w B x u) (hy : VRep w B y v) (hu : u.cells = cu) (hv : v.cells = cv) (h4 : cu.size = 4) (hg : g < B) (hb : Blk w g t (cu ++ cv)) : RRep w B [x, y] (some ⟨g, 0, none⟩) 2 := by
  refine ⟨by simp, by decide, fun j => if j = 0 then u else v, fun j hj => ⟨g, 0, rfl, hg, fun i z hz => ?_⟩, fun j hj => ?_⟩
  · have hj2 : j = 0 ∨ j = 1 := by simp at hj; omega
    rcases hj2 with rfl | rfl
    · replace hz : u.cells[i]? = some z := hz
      rw [hu] at hz
      rw [hb.cell]
      simp only [Nat.zero_mul, Nat.zero_add]
      rw [Array.getElem?_append_left (by rcases Nat.lt_or_ge i cu.size with h | h; exact h; rw [Array.getElem?_eq_none h] at hz; cases hz)]
      exact hz
    · replace hz : v.cells[i]? = some z := hz
      rw [hv] at hz
      rw [hb.cell]
      rw [Array.getElem?_append_right (by omega)]
      rw [← hz]; congr 1; omega
  · have hj2 : j = 0 ∨ j = 1 := by simp at hj; omega
    rcases hj2 with rfl | rfl
    · exact hx
    · exact hy

set_option maxRecDepth 100000 in
set_option maxHeartbeats 4000000 in
/-- The memory when the rows are handed over. -/
theorem awake_w (w : World) : ∃ W, W = ((((((((w.alloc (.cells #[.int .u8 2, .int .i64 3, .string ⟨#[]⟩, .slice none 0 0] 28)).alloc (.cells #[.int .u8 3, .int .i64 0, .string ⟨#[49, 48]⟩, .slice none 0 0] 28)).alloc (.cells #[.int .u8 2, .int .i64 3, .string ⟨#[]⟩, .slice none 0 0, .int .u8 3, .int .i64 0, .string ⟨#[49, 48]⟩, .slice none 0 0] 28)).alloc (.cells #[.int .u8 6, .int .i64 0, .string ⟨#[99, 111, 110, 115]⟩, .slice (some ⟨w.heap.size + 1 + 1, 0, none⟩) 2 2] 28)).alloc (.cells #[.int .u8 3, .int .i64 0, .string ⟨#[49, 48]⟩, .slice none 0 0] 28)).alloc (.cells #[.int .u8 2, .int .i64 3, .string ⟨#[]⟩, .slice none 0 0] 28)).alloc (.cells #[.int .u8 3, .int .i64 0, .string ⟨#[49, 48]⟩, .slice none 0 0] 28)).alloc (.cells #[.slice (some ⟨w.heap.size + 1 + 1 + 1 + 1, 0, none⟩) 1 1, .slice (some ⟨w.heap.size + 1 + 1 + 1 + 1 + 1, 0, none⟩) 1 1, .slice (some ⟨w.heap.size + 1 + 1 + 1 + 1 + 1 + 1, 0, none⟩) 1 1] 22)) ∧ W.heap.size = w.heap.size + 1 + 1 + 1 + 1 + 1 + 1 + 1 + 1 ∧ Below w.heap.size w W ∧
    Blk W (w.heap.size) 28 #[.int .u8 2, .int .i64 3, .string ⟨#[]⟩, .slice none 0 0] ∧
    Blk W (w.heap.size + 1) 28 #[.int .u8 3, .int .i64 0, .string ⟨#[49, 48]⟩, .slice none 0 0] ∧
    Blk W (w.heap.size + 1 + 1) 28 #[.int .u8 2, .int .i64 3, .string ⟨#[]⟩, .slice none 0 0, .int .u8 3, .int .i64 0, .string ⟨#[49, 48]⟩, .slice none 0 0] ∧
    Blk W (w.heap.size + 1 + 1 + 1) 28 #[.int .u8 6, .int .i64 0, .string ⟨#[99, 111, 110, 115]⟩, .slice (some ⟨w.heap.size + 1 + 1, 0, none⟩) 2 2] ∧
    Blk W (w.heap.size + 1 + 1 + 1 + 1) 28 #[.int .u8 3, .int .i64 0, .string ⟨#[49, 48]⟩, .slice none 0 0] ∧
    Blk W (w.heap.size + 1 + 1 + 1 + 1 + 1) 28 #[.int .u8 2, .int .i64 3, .string ⟨#[]⟩, .slice none 0 0] ∧
    Blk W (w.heap.size + 1 + 1 + 1 + 1 + 1 + 1) 28 #[.int .u8 3, .int .i64 0, .string ⟨#[49, 48]⟩, .slice none 0 0] ∧
    Blk W (w.heap.size + 1 + 1 + 1 + 1 + 1 + 1 + 1) 22 #[.slice (some ⟨w.heap.size + 1 + 1 + 1 + 1, 0, none⟩) 1 1, .slice (some ⟨w.heap.size + 1 + 1 + 1 + 1 + 1, 0, none⟩) 1 1, .slice (some ⟨w.heap.size + 1 + 1 + 1 + 1 + 1 + 1, 0, none⟩) 1 1] := by
  refine ⟨_, rfl, by simp, ?_, ?_, ?_, ?_, ?_, ?_, ?_, ?_, ?_⟩
  · exact (((((((((Below.refl _ _).alloc (Nat.le_refl _) _).alloc (by simp; try omega) _).alloc (by simp; try omega) _).alloc (by simp; try omega) _).alloc (by simp; try omega) _).alloc (by simp; try omega) _).alloc (by simp; try omega) _).alloc (by simp; try omega) _)
  · simpa using ((((((((Blk.new w 28 #[.int .u8 2, .int .i64 3, .string ⟨#[]⟩, .slice none 0 0]).alloc (.cells #[.int .u8 3, .int .i64 0, .string ⟨#[49, 48]⟩, .slice none 0 0] 28)).alloc (.cells #[.int .u8 2, .int .i64 3, .string ⟨#[]⟩, .slice none 0 0, .int .u8 3, .int .i64 0, .string ⟨#[49, 48]⟩, .slice none 0 0] 28)).alloc (.cells #[.int .u8 6, .int .i64 0, .string ⟨#[99, 111, 110, 115]⟩, .slice (some ⟨w.heap.size + 1 + 1, 0, none⟩) 2 2] 28)).alloc (.cells #[.int .u8 3, .int .i64 0, .string ⟨#[49, 48]⟩, .slice none 0 0] 28)).alloc (.cells #[.int .u8 2, .int .i64 3, .string ⟨#[]⟩, .slice none 0 0] 28)).alloc (.cells #[.int .u8 3, .int .i64 0, .string ⟨#[49, 48]⟩, .slice none 0 0] 28)).alloc (.cells #[.slice (some ⟨w.heap.size + 1 + 1 + 1 + 1, 0, none⟩) 1 1, .slice (some ⟨w.heap.size + 1 + 1 + 1 + 1 + 1, 0, none⟩) 1 1, .slice (some ⟨w.heap.size + 1 + 1 + 1 + 1 + 1 + 1, 0, none⟩) 1 1] 22))
  · simpa using (((((((Blk.new (w.alloc (.cells #[.int .u8 2, .int .i64 3, .string ⟨#[]⟩, .slice none 0 0] 28)) 28 #[.int .u8 3, .int .i64 0, .string ⟨#[49, 48]⟩, .slice none 0 0]).alloc (.cells #[.int .u8 2, .int .i64 3, .string ⟨#[]⟩, .slice none 0 0, .int .u8 3, .int .i64 0, .string ⟨#[49, 48]⟩, .slice none 0 0] 28)).alloc (.cells #[.int .u8 6, .int .i64 0, .string ⟨#[99, 111, 110, 115]⟩, .slice (some ⟨w.heap.size + 1 + 1, 0, none⟩) 2 2] 28)).alloc (.cells #[.int .u8 3, .int .i64 0, .string ⟨#[49, 48]⟩, .slice none 0 0] 28)).alloc (.cells #[.int .u8 2, .int .i64 3, .string ⟨#[]⟩, .slice none 0 0] 28)).alloc (.cells #[.int .u8 3, .int .i64 0, .string ⟨#[49, 48]⟩, .slice none 0 0] 28)).alloc (.cells #[.slice (some ⟨w.heap.size + 1 + 1 + 1 + 1, 0, none⟩) 1 1, .slice (some ⟨w.heap.size + 1 + 1 + 1 + 1 + 1, 0, none⟩) 1 1, .slice (some ⟨w.heap.size + 1 + 1 + 1 + 1 + 1 + 1, 0, none⟩) 1 1] 22))
  · simpa using ((((((Blk.new ((w.alloc (.cells #[.int .u8 2, .int .i64 3, .string ⟨#[]⟩, .slice none 0 0] 28)).alloc (.cells #[.int .u8 3, .int .i64 0, .string ⟨#[49, 48]⟩, .slice none 0 0] 28)) 28 #[.int .u8 2, .int .i64 3, .string ⟨#[]⟩, .slice none 0 0, .int .u8 3, .int .i64 0, .string ⟨#[49, 48]⟩, .slice none 0 0]).alloc (.cells #[.int .u8 6, .int .i64 0, .string ⟨#[99, 111, 110, 115]⟩, .slice (some ⟨w.heap.size + 1 + 1, 0, none⟩) 2 2] 28)).alloc (.cells #[.int .u8 3, .int .i64 0, .string ⟨#[49, 48]⟩, .slice none 0 0] 28)).alloc (.cells #[.int .u8 2, .int .i64 3, .string ⟨#[]⟩, .slice none 0 0] 28)).alloc (.cells #[.int .u8 3, .int .i64 0, .string ⟨#[49, 48]⟩, .slice none 0 0] 28)).alloc (.cells #[.slice (some ⟨w.heap.size + 1 + 1 + 1 + 1, 0, none⟩) 1 1, .slice (some ⟨w.heap.size + 1 + 1 + 1 + 1 + 1, 0, none⟩) 1 1, .slice (some ⟨w.heap.size + 1 + 1 + 1 + 1 + 1 + 1, 0, none⟩) 1 1] 22))
  · simpa using (((((Blk.new (((w.alloc (.cells #[.int .u8 2, .int .i64 3, .string ⟨#[]⟩, .slice none 0 0] 28)).alloc (.cells #[.int .u8 3, .int .i64 0, .string ⟨#[49, 48]⟩, .slice none 0 0] 28)).alloc (.cells #[.int .u8 2, .int .i64 3, .string ⟨#[]⟩, .slice none 0 0, .int .u8 3, .int .i64 0, .string ⟨#[49, 48]⟩, .slice none 0 0] 28)) 28 #[.int .u8 6, .int .i64 0, .string ⟨#[99, 111, 110, 115]⟩, .slice (some ⟨w.heap.size + 1 + 1, 0, none⟩) 2 2]).alloc (.cells #[.int .u8 3, .int .i64 0, .string ⟨#[49, 48]⟩, .slice none 0 0] 28)).alloc (.cells #[.int .u8 2, .int .i64 3, .string ⟨#[]⟩, .slice none 0 0] 28)).alloc (.cells #[.int .u8 3, .int .i64 0, .string ⟨#[49, 48]⟩, .slice none 0 0] 28)).alloc (.cells #[.slice (some ⟨w.heap.size + 1 + 1 + 1 + 1, 0, none⟩) 1 1, .slice (some ⟨w.heap.size + 1 + 1 + 1 + 1 + 1, 0, none⟩) 1 1, .slice (some ⟨w.heap.size + 1 + 1 + 1 + 1 + 1 + 1, 0, none⟩) 1 1] 22))
  · simpa using ((((Blk.new ((((w.alloc (.cells #[.int .u8 2, .int .i64 3, .string ⟨#[]⟩, .slice none 0 0] 28)).alloc (.cells #[.int .u8 3, .int .i64 0, .string ⟨#[49, 48]⟩, .slice none 0 0] 28)).alloc (.cells #[.int .u8 2, .int .i64 3, .string ⟨#[]⟩, .slice none 0 0, .int .u8 3, .int .i64 0, .string ⟨#[49, 48]⟩, .slice none 0 0] 28)).alloc (.cells #[.int .u8 6, .int .i64 0, .string ⟨#[99, 111, 110, 115]⟩, .slice (some ⟨w.heap.size + 1 + 1, 0, none⟩) 2 2] 28)) 28 #[.int .u8 3, .int .i64 0, .string ⟨#[49, 48]⟩, .slice none 0 0]).alloc (.cells #[.int .u8 2, .int .i64 3, .string ⟨#[]⟩, .slice none 0 0] 28)).alloc (.cells #[.int .u8 3, .int .i64 0, .string ⟨#[49, 48]⟩, .slice none 0 0] 28)).alloc (.cells #[.slice (some ⟨w.heap.size + 1 + 1 + 1 + 1, 0, none⟩) 1 1, .slice (some ⟨w.heap.size + 1 + 1 + 1 + 1 + 1, 0, none⟩) 1 1, .slice (some ⟨w.heap.size + 1 + 1 + 1 + 1 + 1 + 1, 0, none⟩) 1 1] 22))
  · simpa using (((Blk.new (((((w.alloc (.cells #[.int .u8 2, .int .i64 3, .string ⟨#[]⟩, .slice none 0 0] 28)).alloc (.cells #[.int .u8 3, .int .i64 0, .string ⟨#[49, 48]⟩, .slice none 0 0] 28)).alloc (.cells #[.int .u8 2, .int .i64 3, .string ⟨#[]⟩, .slice none 0 0, .int .u8 3, .int .i64 0, .string ⟨#[49, 48]⟩, .slice none 0 0] 28)).alloc (.cells #[.int .u8 6, .int .i64 0, .string ⟨#[99, 111, 110, 115]⟩, .slice (some ⟨w.heap.size + 1 + 1, 0, none⟩) 2 2] 28)).alloc (.cells #[.int .u8 3, .int .i64 0, .string ⟨#[49, 48]⟩, .slice none 0 0] 28)) 28 #[.int .u8 2, .int .i64 3, .string ⟨#[]⟩, .slice none 0 0]).alloc (.cells #[.int .u8 3, .int .i64 0, .string ⟨#[49, 48]⟩, .slice none 0 0] 28)).alloc (.cells #[.slice (some ⟨w.heap.size + 1 + 1 + 1 + 1, 0, none⟩) 1 1, .slice (some ⟨w.heap.size + 1 + 1 + 1 + 1 + 1, 0, none⟩) 1 1, .slice (some ⟨w.heap.size + 1 + 1 + 1 + 1 + 1 + 1, 0, none⟩) 1 1] 22))
  · simpa using ((Blk.new ((((((w.alloc (.cells #[.int .u8 2, .int .i64 3, .string ⟨#[]⟩, .slice none 0 0] 28)).alloc (.cells #[.int .u8 3, .int .i64 0, .string ⟨#[49, 48]⟩, .slice none 0 0] 28)).alloc (.cells #[.int .u8 2, .int .i64 3, .string ⟨#[]⟩, .slice none 0 0, .int .u8 3, .int .i64 0, .string ⟨#[49, 48]⟩, .slice none 0 0] 28)).alloc (.cells #[.int .u8 6, .int .i64 0, .string ⟨#[99, 111, 110, 115]⟩, .slice (some ⟨w.heap.size + 1 + 1, 0, none⟩) 2 2] 28)).alloc (.cells #[.int .u8 3, .int .i64 0, .string ⟨#[49, 48]⟩, .slice none 0 0] 28)).alloc (.cells #[.int .u8 2, .int .i64 3, .string ⟨#[]⟩, .slice none 0 0] 28)) 28 #[.int .u8 3, .int .i64 0, .string ⟨#[49, 48]⟩, .slice none 0 0]).alloc (.cells #[.slice (some ⟨w.heap.size + 1 + 1 + 1 + 1, 0, none⟩) 1 1, .slice (some ⟨w.heap.size + 1 + 1 + 1 + 1 + 1, 0, none⟩) 1 1, .slice (some ⟨w.heap.size + 1 + 1 + 1 + 1 + 1 + 1, 0, none⟩) 1 1] 22))
  · simpa using (Blk.new (((((((w.alloc (.cells #[.int .u8 2, .int .i64 3, .string ⟨#[]⟩, .slice none 0 0] 28)).alloc (.cells #[.int .u8 3, .int .i64 0, .string ⟨#[49, 48]⟩, .slice none 0 0] 28)).alloc (.cells #[.int .u8 2, .int .i64 3, .string ⟨#[]⟩, .slice none 0 0, .int .u8 3, .int .i64 0, .string ⟨#[49, 48]⟩, .slice none 0 0] 28)).alloc (.cells #[.int .u8 6, .int .i64 0, .string ⟨#[99, 111, 110, 115]⟩, .slice (some ⟨w.heap.size + 1 + 1, 0, none⟩) 2 2] 28)).alloc (.cells #[.int .u8 3, .int .i64 0, .string ⟨#[49, 48]⟩, .slice none 0 0] 28)).alloc (.cells #[.int .u8 2, .int .i64 3, .string ⟨#[]⟩, .slice none 0 0] 28)).alloc (.cells #[.int .u8 3, .int .i64 0, .string ⟨#[49, 48]⟩, .slice none 0 0] 28)) 22 #[.slice (some ⟨w.heap.size + 1 + 1 + 1 + 1, 0, none⟩) 1 1, .slice (some ⟨w.heap.size + 1 + 1 + 1 + 1 + 1, 0, none⟩) 1 1, .slice (some ⟨w.heap.size + 1 + 1 + 1 + 1 + 1 + 1, 0, none⟩) 1 1])

def r3 (g : Nat) : Nat → Rw
  | 0 => ⟨[vb], some ⟨g, 0, none⟩, 1⟩
  | 1 => ⟨[va], some ⟨g + 1, 0, none⟩, 1⟩
  | _ => ⟨[vb], some ⟨g + 1 + 1, 0, none⟩, 1⟩

set_option maxRecDepth 100000 in
set_option maxHeartbeats 4000000 in
theorem awake_sort (w : World) : ∀ W, W = ((((((((w.alloc (.cells #[.int .u8 2, .int .i64 3, .string ⟨#[]⟩, .slice none 0 0] 28)).alloc (.cells #[.int .u8 3, .int .i64 0, .string ⟨#[49, 48]⟩, .slice none 0 0] 28)).alloc (.cells #[.int .u8 2, .int .i64 3, .string ⟨#[]⟩, .slice none 0 0, .int .u8 3, .int .i64 0, .string ⟨#[49, 48]⟩, .slice none 0 0] 28)).alloc (.cells #[.int .u8 6, .int .i64 0, .string ⟨#[99, 111, 110, 115]⟩, .slice (some ⟨w.heap.size + 1 + 1, 0, none⟩) 2 2] 28)).alloc (.cells #[.int .u8 3, .int .i64 0, .string ⟨#[49, 48]⟩, .slice none 0 0] 28)).alloc (.cells #[.int .u8 2, .int .i64 3, .string ⟨#[]⟩, .slice none 0 0] 28)).alloc (.cells #[.int .u8 3, .int .i64 0, .string ⟨#[49, 48]⟩, .slice none 0 0] 28)).alloc (.cells #[.slice (some ⟨w.heap.size + 1 + 1 + 1 + 1, 0, none⟩) 1 1, .slice (some ⟨w.heap.size + 1 + 1 + 1 + 1 + 1, 0, none⟩) 1 1, .slice (some ⟨w.heap.size + 1 + 1 + 1 + 1 + 1 + 1, 0, none⟩) 1 1] 22)) → Calls Tryz.prog 16 #[.slice (some ⟨w.heap.size + 1 + 1 + 1 + 1 + 1 + 1 + 1, 0, none⟩) 3 3] W fun e w' =>
    (∃ G, e = .returned (.slice (some ⟨G, 0, none⟩) 2 2) ∧ ∃ g1 c1, w'.cell? ⟨G, 0, none⟩ = some (.slice (some ⟨g1, 0, none⟩) 1 c1) ∧ w'.cell? ⟨g1, 1, none⟩ = some (.int .i64 3)) ∧ Below W.heap.size W w' := by
  intro W hW
  obtain ⟨W', hW', hsz, hB, b0, b1, b2, b3, b4, b5, b6, b7⟩ := awake_w w
  rw [← hW] at hW'
  subst hW'
  clear hW
  refine sort3 (r3 (w.heap.size + 1 + 1 + 1 + 1)) (w.heap.size + 1 + 1 + 1 + 1 + 1 + 1 + 1) 3 W' ?_ b7.lt ?_ (-1) 0 cmp_ab (by decide) cmp_bb (by decide) cmp_ba (by rw [show (r3 (w.heap.size + 1 + 1 + 1 + 1) 2).l = [vb] from rfl, show (r3 (w.heap.size + 1 + 1 + 1 + 1) 0).l = [vb] from rfl, cmp_bb]; rfl) 3 ?_
  · intro k hk
    have hk3 : k = 0 ∨ k = 1 ∨ k = 2 := by omega
    rcases hk3 with rfl | rfl | rfl
    · exact b7.cell 0
    · exact b7.cell 1
    · exact b7.cell 2
  · intro k hk
    have hk3 : k = 0 ∨ k = 1 ∨ k = 2 := by omega
    rcases hk3 with rfl | rfl | rfl
    · exact RRep.one (rep_b _ _) b4.lt rfl rfl b4
    · exact RRep.one (rep_a _ _) b5.lt rfl rfl b5
    · exact RRep.one (rep_b _ _) b6.lt rfl rfl b6
  · intro j hj W2 hb
    have hj2 : j = 0 ∨ j = 1 := by omega
    rcases hj2 with rfl | rfl
    · refine (copied_leaf 3 0 ⟨#[49, 48]⟩ (by decide) (by decide) (by decide) (w.heap.size + 1 + 1 + 1 + 1) 1 (invL [vb]) W2 (Nat.lt_of_lt_of_le b4.lt hb.size) (fun i x hx => by rw [(b4.below hb b4.lt).cell i]; exact hx)).mono ?_
      rintro e w' ⟨⟨g, cap, rfl, h1, h2, cur, h3, h4⟩, h5⟩
      exact ⟨⟨g, cap, rfl, h1, h2, cur, h3, fun h => absurd h (by decide)⟩, h5⟩
    · refine (copied_leaf 2 3 ⟨#[]⟩ (by decide) (by decide) (by decide) (w.heap.size + 1 + 1 + 1 + 1 + 1) 1 (invL [va]) W2 (Nat.lt_of_lt_of_le b5.lt hb.size) (fun i x hx => by rw [(b5.below hb b5.lt).cell i]; exact hx)).mono ?_
      rintro e w' ⟨⟨g, cap, rfl, h1, h2, cur, h3, h4⟩, h5⟩
      exact ⟨⟨g, cap, rfl, h1, h2, cur, h3, fun _ => h4⟩, h5⟩

set_option maxRecDepth 100000 in
set_option maxHeartbeats 4000000 in
theorem awake_c (w : World) : Calls Tryz.prog 10 #[] w fun e w' => e = .returned (.bool true) ∧ Below w.heap.size w w' := by
  obtain ⟨W, hW, hsz, hB, b0, b1, b2, b3, b4, b5, b6, b7⟩ := awake_w w
  have hso := awake_sort w W hW
  have hrc : ∀ W', Below W.heap.size W W' → VRep W' W'.heap.size vc (.agg #[.int .u8 6, .int .i64 0, .string ⟨#[99, 111, 110, 115]⟩, .slice (some ⟨w.heap.size + 1 + 1, 0, none⟩) 2 2]) := fun W' hb =>
    ((VRep.of_row (l := [va, vb]) (by decide) (by decide) (by decide) (rrep_two (rep_a W W.heap.size) (rep_b W W.heap.size) rfl rfl rfl b2.lt b2)).under hb).more hb.size
  have B0 := Lib.hid b0; have B1 := Lib.hid b1; have B2 := Lib.hid b2; have B3 := Lib.hid b3; have HB := Lib.hid hB; have HSO := Lib.hid hso; have HRC := Lib.hid hrc; have HW := Lib.hid hW
  clear hW hsz hB b0 b1 b2 b3 b4 b5 b6 b7 hso hrc
  go_enter Tryz.func10, Tryz.ntmps10
  go_wp2_with fail
  rw [← HW.out]
  refine HSO.out.mono ?_
  rintro e w1 ⟨⟨G, rfl, g1, c1, hG, hg1⟩, hb1⟩
  have HG := Lib.hid hG; have HG1 := Lib.hid hg1; have HB1 := Lib.hid hb1
  clear hG hg1 hb1
  have x0 := (B0.out.below HB1.out B0.out.lt).cell 0; have x1 := (B0.out.below HB1.out B0.out.lt).cell 1; have x2 := (B0.out.below HB1.out B0.out.lt).cell 2; have x3 := (B0.out.below HB1.out B0.out.lt).cell 3
  have y0 := (B1.out.below HB1.out B1.out.lt).cell 0; have y1 := (B1.out.below HB1.out B1.out.lt).cell 1; have y2 := (B1.out.below HB1.out B1.out.lt).cell 2; have y3 := (B1.out.below HB1.out B1.out.lt).cell 3
  have z0 := (B3.out.below HB1.out B3.out.lt).cell 0; have z1 := (B3.out.below HB1.out B3.out.lt).cell 1; have z2 := (B3.out.below HB1.out B3.out.lt).cell 2; have z3 := (B3.out.below HB1.out B3.out.lt).cell 3
  simp at x0 x1 x2 x3 y0 y1 y2 y3 z0 z1 z2 z3
  go_wp2_with fail
  refine (check_c vc _ w1 (HRC.out w1 HB1.out)).mono ?_
  rw [chk_vc]
  rintro e w2 ⟨rfl, hb2⟩
  have HB2 := Lib.hid (HB1.out.trans (hb2.mono HB1.out.size)); have HK2 := Lib.hid hb2
  clear hb2
  clear x0 x1 x2 x3 y0 y1 y2 y3 z0 z1 z2 z3
  have x0 := (B0.out.below HB2.out B0.out.lt).cell 0; have x1 := (B0.out.below HB2.out B0.out.lt).cell 1; have x2 := (B0.out.below HB2.out B0.out.lt).cell 2; have x3 := (B0.out.below HB2.out B0.out.lt).cell 3
  have y0 := (B1.out.below HB2.out B1.out.lt).cell 0; have y1 := (B1.out.below HB2.out B1.out.lt).cell 1; have y2 := (B1.out.below HB2.out B1.out.lt).cell 2; have y3 := (B1.out.below HB2.out B1.out.lt).cell 3
  have z0 := (B3.out.below HB2.out B3.out.lt).cell 0; have z1 := (B3.out.below HB2.out B3.out.lt).cell 1; have z2 := (B3.out.below HB2.out B3.out.lt).cell 2; have z3 := (B3.out.below HB2.out B3.out.lt).cell 3
  simp at x0 x1 x2 x3 y0 y1 y2 y3 z0 z1 z2 z3
  go_wp2_with fail
  refine (cmp_c zcmp bigCmp_ok va vb _ _ w2 (rep_a _ _) (rep_b _ _)).mono ?_
  rw [cmp_ab]
  rintro e w3 ⟨rfl, hb3⟩
  have HB3 := Lib.hid (HB2.out.trans (hb3.mono HB2.out.size)); have HK3 := Lib.hid (HK2.out.trans (hb3.mono HK2.out.size))
  clear hb3
  clear x0 x1 x2 x3 y0 y1 y2 y3 z0 z1 z2 z3
  have x0 := (B0.out.below HB3.out B0.out.lt).cell 0; have x1 := (B0.out.below HB3.out B0.out.lt).cell 1; have x2 := (B0.out.below HB3.out B0.out.lt).cell 2; have x3 := (B0.out.below HB3.out B0.out.lt).cell 3
  have y0 := (B1.out.below HB3.out B1.out.lt).cell 0; have y1 := (B1.out.below HB3.out B1.out.lt).cell 1; have y2 := (B1.out.below HB3.out B1.out.lt).cell 2; have y3 := (B1.out.below HB3.out B1.out.lt).cell 3
  have z0 := (B3.out.below HB3.out B3.out.lt).cell 0; have z1 := (B3.out.below HB3.out B3.out.lt).cell 1; have z2 := (B3.out.below HB3.out B3.out.lt).cell 2; have z3 := (B3.out.below HB3.out B3.out.lt).cell 3
  simp at x0 x1 x2 x3 y0 y1 y2 y3 z0 z1 z2 z3
  have HB3a := Lib.hid (HB3.out.alloc HB3.out.size (.cells #[.int .u8 2, .int .i64 3, .string ⟨#[]⟩, .slice none 0 0] 28))
  have u0 := (B0.out.below HB3a.out B0.out.lt).cell 0; have u1 := (B0.out.below HB3a.out B0.out.lt).cell 1; have u2 := (B0.out.below HB3a.out B0.out.lt).cell 2; have u3 := (B0.out.below HB3a.out B0.out.lt).cell 3
  have v0 := (B1.out.below HB3a.out B1.out.lt).cell 0; have v1 := (B1.out.below HB3a.out B1.out.lt).cell 1; have v2 := (B1.out.below HB3a.out B1.out.lt).cell 2; have v3 := (B1.out.below HB3a.out B1.out.lt).cell 3
  have s0 := (B3.out.below HB3a.out B3.out.lt).cell 0; have s1 := (B3.out.below HB3a.out B3.out.lt).cell 1; have s2 := (B3.out.below HB3a.out B3.out.lt).cell 2; have s3 := (B3.out.below HB3a.out B3.out.lt).cell 3
  simp at u0 u1 u2 u3 v0 v1 v2 v3 s0 s1 s2 s3
  go_wp2_with fail
  have hr1 : RRep ((w3.alloc (.cells #[.int .u8 2, .int .i64 3, .string ⟨#[]⟩, .slice none 0 0] 28)).alloc (.cells #[.int .u8 2, .int .i64 3, .string ⟨#[]⟩, .slice none 0 0, .int .u8 3, .int .i64 0, .string ⟨#[49, 48]⟩, .slice none 0 0] 28)) ((w3.alloc (.cells #[.int .u8 2, .int .i64 3, .string ⟨#[]⟩, .slice none 0 0] 28)).alloc (.cells #[.int .u8 2, .int .i64 3, .string ⟨#[]⟩, .slice none 0 0, .int .u8 3, .int .i64 0, .string ⟨#[49, 48]⟩, .slice none 0 0] 28)).heap.size [va] (some ⟨w3.heap.size, 0, none⟩) 1 :=
    RRep.one (rep_a _ _) (by simp; try omega) rfl rfl ((Blk.new w3 28 #[.int .u8 2, .int .i64 3, .string ⟨#[]⟩, .slice none 0 0]).alloc _)
  have hr2 : RRep ((w3.alloc (.cells #[.int .u8 2, .int .i64 3, .string ⟨#[]⟩, .slice none 0 0] 28)).alloc (.cells #[.int .u8 2, .int .i64 3, .string ⟨#[]⟩, .slice none 0 0, .int .u8 3, .int .i64 0, .string ⟨#[49, 48]⟩, .slice none 0 0] 28)) ((w3.alloc (.cells #[.int .u8 2, .int .i64 3, .string ⟨#[]⟩, .slice none 0 0] 28)).alloc (.cells #[.int .u8 2, .int .i64 3, .string ⟨#[]⟩, .slice none 0 0, .int .u8 3, .int .i64 0, .string ⟨#[49, 48]⟩, .slice none 0 0] 28)).heap.size [va, vb] (some ⟨w3.heap.size + 1, 0, none⟩) 2 :=
    rrep_two (rep_a _ _) (rep_b _ _) rfl rfl rfl (by simp) (by have h := Blk.new (w3.alloc (.cells #[.int .u8 2, .int .i64 3, .string ⟨#[]⟩, .slice none 0 0] 28)) 28 #[.int .u8 2, .int .i64 3, .string ⟨#[]⟩, .slice none 0 0, .int .u8 3, .int .i64 0, .string ⟨#[49, 48]⟩, .slice none 0 0]; rw [World.size_alloc] at h; exact h)
  refine (cmpRows_c zcmp bigCmp_ok [va] [va, vb] _ _ 1 2 _ hr1 hr2).mono ?_
  rw [cmp_aab]
  rintro e w4 ⟨rfl, hb4⟩
  have HW3 := Lib.hid (((Below.refl w3.heap.size w3).alloc (Nat.le_refl _) (.cells #[.int .u8 2, .int .i64 3, .string ⟨#[]⟩, .slice none 0 0] 28)).alloc (by simp) (.cells #[.int .u8 2, .int .i64 3, .string ⟨#[]⟩, .slice none 0 0, .int .u8 3, .int .i64 0, .string ⟨#[49, 48]⟩, .slice none 0 0] 28))
  have hb4' := HW3.out.trans (hb4.mono HW3.out.size)
  have HB4 := Lib.hid (HB3.out.trans (hb4'.mono HB3.out.size)); have HK4 := Lib.hid (HK3.out.trans (hb4'.mono HK3.out.size))
  clear hb4 hb4' hr1 hr2 u0 u1 u2 u3 v0 v1 v2 v3 s0 s1 s2 s3
  clear x0 x1 x2 x3 y0 y1 y2 y3 z0 z1 z2 z3
  have x0 := (B0.out.below HB4.out B0.out.lt).cell 0; have x1 := (B0.out.below HB4.out B0.out.lt).cell 1; have x2 := (B0.out.below HB4.out B0.out.lt).cell 2; have x3 := (B0.out.below HB4.out B0.out.lt).cell 3
  have y0 := (B1.out.below HB4.out B1.out.lt).cell 0; have y1 := (B1.out.below HB4.out B1.out.lt).cell 1; have y2 := (B1.out.below HB4.out B1.out.lt).cell 2; have y3 := (B1.out.below HB4.out B1.out.lt).cell 3
  have z0 := (B3.out.below HB4.out B3.out.lt).cell 0; have z1 := (B3.out.below HB4.out B3.out.lt).cell 1; have z2 := (B3.out.below HB4.out B3.out.lt).cell 2; have z3 := (B3.out.below HB4.out B3.out.lt).cell 3
  simp at x0 x1 x2 x3 y0 y1 y2 y3 z0 z1 z2 z3
  go_wp2_with fail
  refine (show_c vc chk_vc ok_vc (by rw [txt_vc]; decide) _ w4 (HRC.out w4 HB4.out)).mono ?_
  rw [txt_vc]
  rintro e w5 ⟨rfl, hb5⟩
  have HB5 := Lib.hid (HB4.out.trans (hb5.mono HB4.out.size)); have HK5 := Lib.hid (HK4.out.trans (hb5.mono HK4.out.size))
  clear hb5
  clear x0 x1 x2 x3 y0 y1 y2 y3 z0 z1 z2 z3
  have hG5 := (HK5.out.cell (p := ⟨G, 0, none⟩) (cell_lt HG.out)).trans HG.out
  have hg5 := (HK5.out.cell (p := ⟨g1, 1, none⟩) (cell_lt HG1.out)).trans HG1.out
  go_wp2_with fail
  refine (check_c v0 _ w5 (leaf_rep 0 0 ⟨#[]⟩ (by decide) (by decide) (by decide) _ _)).mono ?_
  rw [chk_v0]
  rintro e w6 ⟨rfl, hb6⟩
  have HB6 := Lib.hid (HB5.out.trans (hb6.mono HB5.out.size))
  clear hb6
  go_wp2_with fail
  clear HK5 HK4 HK2 HK3 hG5 hg5 HG HG1 HSO HRC
  go_ret
  exact ⟨rfl, HB.out.trans (HB6.out.mono HB.out.size)⟩
end Go.Proofs.YtaapppieipfinaaGreatDoor
