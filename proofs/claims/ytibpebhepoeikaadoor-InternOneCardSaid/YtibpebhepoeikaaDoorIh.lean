/- Package intern: the walk of Put, New, Len. -/
import Derived.Test.YtibpebhepoeikaaDoorIg
namespace Go.Proofs.YtibpebhepoeikaaDoor
open Go.RowKit Go.Shelf Vp Tx
open Go
attribute [local go_sem] Oper.semAt_some

theorem row_oneB {W : World} {B : Nat} {t : V} {u : Value} {x : Nat} {a b c d : Value} (hu : u = .agg #[a, b, c, d]) (hb : Blk W x 42 #[a, b, c, d]) (hx : x < B) (hv : VRep W B t u) : RRep W B [t] (some ⟨x, 0, none⟩) 1 := by
  refine ⟨Nat.le_refl _, by decide, fun _ => u, fun j hj => ⟨x, 0, rfl, hx, fun i y hy => ?_⟩, fun j hj => ?_⟩
  · obtain rfl : j = 0 := by simpa using hj
    rw [hb.cell]
    subst hu
    simpa [Value.cells] using hy
  · obtain rfl : j = 0 := by simpa using hj
    exact hv
theorem errL_one (t : V) : errL [t] = chkV t := by
  rw [errL]
  by_cases h : chkV t = 0
  · rw [if_pos h, h]; rfl
  · rw [if_neg h]
/-- What Put answers. -/
def Told12 (F : Nat → Prop) (ts : List V) (t : V) (g : Nat) (w : World) (e : Ending) (w' : World) : Prop :=
  (chkV t = 0 ∧ e = .returned (.tuple #[.int .i64 (putN ts t : Int), .int .i64 0]) ∧ TabR (fun b => F b ∨ w.heap.size ≤ b) (putL ts t) w' g) ∨
  (chkV t ≠ 0 ∧ e = .returned (.tuple #[.int .i64 0, .int .i64 (chkV t)]) ∧ TabR F ts w' g)
set_option maxRecDepth 100000 in
set_option maxHeartbeats 4000000 in
theorem putv_c (F : Nat → Prop) (ts : List V) (g : Nat) (t : V) (u : Value) (w : World) (hT : TabR F ts w g) (hv : Lies (fun b => ¬ F b) w t u) (hl : ts.length ≤ 80000000) (htx : chkV t = 0 → (txtV t).length ≤ 900000000) (hsl : chkV t = 0 → slim t) (htab : TabF w.heap.size w) :
    Calls Tryd.prog 12 #[.pointer (some ⟨g, 0, none⟩), u] w fun e w' => Told12 F ts t g w e w' ∧ Keep F w w' := by
  obtain ⟨k, n, s, l, A, c, ht, rfl, hk, hn, hs, hR⟩ := hv.rep.open_
  obtain ⟨W2, hW⟩ : ∃ W, W = (w.alloc (.cells #[.int .u8 (k : Int), .int .i64 n, .string s, .slice A l.length c] 42)).alloc (.cells #[.int .u8 (k : Int), .int .i64 n, .string s, .slice A l.length c] 42) := ⟨_, rfl⟩
  have hb : Below w.heap.size w W2 := by rw [hW]; exact ((Below.refl _ _).alloc (Nat.le_refl _) _).alloc (by simp) _
  have hsz : W2.heap.size = w.heap.size + 2 := by rw [hW]; simp
  have hblk : Blk W2 (w.heap.size + 1) 42 #[.int .u8 (k : Int), .int .i64 n, .string s, .slice A l.length c] := by
    have := Blk.new (w.alloc (.cells #[.int .u8 (k : Int), .int .i64 n, .string s, .slice A l.length c] 42)) 42 #[.int .u8 (k : Int), .int .i64 n, .string s, .slice A l.length c]
    rw [World.size_alloc] at this
    rw [hW]; exact this
  have hT0 : TabR (fun b => F b ∧ b < w.heap.size) ts W2 g := (hT.mono fun b hb h => ⟨h, hb⟩).below hb
  have hrow : ∀ w', Keep (fun b => F b ∧ b < w.heap.size) W2 w' → RRep w' W2.heap.size [t] (some ⟨w.heap.size + 1, 0, none⟩) 1 := fun w' hk => by
    refine row_oneB rfl ((hk.block _ (by omega) fun h => by omega).trans hblk) (by omega) ?_
    exact (hv w' fun b hb' hl' => (hk.block b (by omega) fun h => hb' h.1).trans (hb.block b hl')).more (by omega)
  have hput := putrow_c _ ts g [t] (some ⟨w.heap.size + 1, 0, none⟩) 1 W2 hT0 (hrow W2 (Keep.refl _ _)) hrow (by simp; omega) (fun x hx => by rw [List.mem_singleton.1 hx]; exact htx) (fun x hx => by rw [List.mem_singleton.1 hx]; exact hsl) ((htab.below hb).more hb.size)
  have HPUT := Lib.hid hput; have HB := Lib.hid hb; have HT := Lib.hid hT; have HSZ := Lib.hid hsz
  rw [hW] at HPUT
  clear hput hb hT hsz hblk hT0 hrow hv hl htx hsl htab ht hR
  go_enter Tryd.func12, Tryd.ntmps12
  go_wp2_with fail
  refine HPUT.out.mono ?_
  rintro e w1 ⟨h13, hk1⟩
  rw [← hW] at hk1
  have hkk : Keep F w w1 := (Keep.of_new (F := F) HB.out).trans hk1 fun x _ h => h.1
  rcases h13 with ⟨h0, gn, rfl, hn1, hgn, ht1⟩ | ⟨h0, rfl, ht1⟩
  · have c0 := hn1.cell (j := 0) (by simp) (by simp)
    have hnat : numAt ts [t] 0 (by simp) = putN ts t := rfl
    rw [hnat] at c0
    have hgw : w.heap.size ≤ gn := by rw [← hW] at hgn; have := HSZ.out; omega
    have HEND : Hid (chkV t = 0 ∧ TabR (fun b => F b ∨ w.heap.size ≤ b) (putL ts t) w1 g ∧ Keep F w w1) := Lib.hid ⟨by rw [← errL_one]; exact h0, ht1.mono fun x _ h => by
      rcases h with h | h
      · exact .inl h.1
      · exact .inr (by omega), hkk⟩
    clear h0 hn1 hgn ht1 hnat hgw hkk hk1 hW
    go_wp2_with fail
    go_ret2
    exact ⟨.inl ⟨HEND.out.1, rfl, HEND.out.2.1⟩, HEND.out.2.2⟩
  · rw [errL_one] at h0 ⊢
    obtain ⟨z, hz⟩ : ∃ z, z = chkV t := ⟨_, rfl⟩
    rw [← hz] at h0 ⊢
    have hzn : ¬ z = 0 := h0
    have HEND : Hid (z = chkV t ∧ TabR F ts w1 g ∧ Keep F w w1) := Lib.hid ⟨hz, ht1.mono fun x _ h => h.1, hkk⟩
    clear h0 ht1 hkk hk1 hz hW
    go_wp2_with fail
    go_ret2
    exact ⟨.inr ⟨by rw [← HEND.out.1]; assumption, by rw [← HEND.out.1]; rfl, HEND.out.2.1⟩, HEND.out.2.2⟩
theorem new_c (w : World) : Calls Tryd.prog 8 #[] w fun e w' => e = .returned (.pointer (some ⟨w.heap.size, 0, none⟩)) ∧ TabR (fun b => b = w.heap.size) [] w' w.heap.size ∧ Below w.heap.size w w' := by
  go_enter Tryd.func8, Tryd.ntmps8
  go_wp2_with fail
  go_ret
  refine ⟨rfl, ⟨by simp, List.Pairwise.nil, rfl, .map none, .slice none 0 0, Blk.new _ _ _, .inl ⟨rfl, rfl⟩, OwnG.nil _ _ _⟩, (Below.refl _ _).alloc (Nat.le_refl _) _⟩
theorem len_c (F : Nat → Prop) (ts : List V) (g : Nat) (w : World) (hT : TabR F ts w g) : Calls Tryd.prog 16 #[.pointer (some ⟨g, 0, none⟩)] w fun e w' => e = .returned (.int .i64 (ts.length : Int)) ∧ w = w' := by
  obtain ⟨mv, sv, hblk, _, hown⟩ := hT.rep
  obtain ⟨A2, c2, rfl, hrl⟩ := hown.slice
  have hcap := hrl.rep.1
  have d1 := hblk.cell 1
  simp at d1
  clear hT hblk hown hrl
  go_enter Tryd.func16, Tryd.ntmps16
  go_wp2_with fail
  go_ret
  exact ⟨rfl, rfl⟩
end Go.Proofs.YtibpebhepoeikaaDoor
