/- Layer 4's statements: InternNames: nobody's table, an empty one. -/
import Derived.Test.YtibpebhepoeikaaDoorIm
namespace Go.Proofs.YtibpebhepoeikaaDoor
open Go.RowKit Go.Shelf Vp Tx
open Go
attribute [local go_sem] Oper.semAt_some

theorem putrow_nil (v : Value) (w : World) : Calls Tryd.prog 13 #[.pointer none, v] w fun e w' => e = .returned (.tuple #[.slice none 0 0, .int .i64 2]) ∧ w = w' := by
  go_enter Tryd.func13, Tryd.ntmps13
  go_wp2_with fail
  go_ret2
  exact ⟨rfl, rfl⟩
theorem row_nil (v : Value) (w : World) : Calls Tryd.prog 10 #[.pointer none, v] w fun e w' => e = .returned (.tuple #[.slice none 0 0, .int .i64 2]) ∧ w = w' := by
  go_enter Tryd.func10, Tryd.ntmps10
  go_wp2_with fail
  go_ret2
  exact ⟨rfl, rfl⟩
theorem len_nil (w : World) : Calls Tryd.prog 16 #[.pointer none] w fun e w' => e = .returned (.int .i64 0) ∧ w = w' := by
  go_enter Tryd.func16, Tryd.ntmps16
  go_wp2_with fail
  go_ret
  exact ⟨rfl, rfl⟩
theorem find_nil (a b c d : Value) (w : World) : Calls Tryd.prog 15 #[.pointer none, .agg #[a, b, c, d]] w fun e w' => e = .returned (.tuple #[.int .i64 0, .bool false]) ∧ Below w.heap.size w w' := by
  go_enter Tryd.func15, Tryd.ntmps15
  go_wp2_with fail
  go_ret2
  exact ⟨rfl, (Below.refl _ _).alloc (Nat.le_refl _) _⟩
set_option maxRecDepth 100000 in
theorem put_nil (w : World) : Calls Tryd.prog 12 #[.pointer none, .agg #[.int .u8 2, .int .i64 0, .string ⟨#[]⟩, .slice none 0 0]] w fun e w' => e = .returned (.tuple #[.int .i64 0, .int .i64 2]) ∧ Below w.heap.size w w' := by
  go_enter Tryd.func12, Tryd.ntmps12
  go_wp2_with fail
  refine (putrow_nil _ _).mono ?_
  rintro e w1 ⟨rfl, rfl⟩
  go_wp2_with fail
  go_ret2
  exact ⟨rfl, ((Below.refl _ _).alloc (Nat.le_refl _) _).alloc (by simp) _⟩
set_option maxRecDepth 100000 in
theorem at_nil (n : Int) (w : World) : Calls Tryd.prog 14 #[.pointer none, .int .i64 n] w fun e w' => e = .returned (.tuple #[.agg #[.int .u8 0, .int .i64 0, .string ⟨#[]⟩, .slice none 0 0], .int .i64 2]) ∧ Below w.heap.size w w' := by
  obtain ⟨W2, hW⟩ : ∃ W, W = (w.alloc (.cells #[.int .u8 0, .int .i64 0, .string ⟨#[]⟩, .slice none 0 0] 42)).alloc (.cells #[.int .i64 n] 3) := ⟨_, rfl⟩
  have hb : Below w.heap.size w W2 := by rw [hW]; exact ((Below.refl _ _).alloc (Nat.le_refl _) _).alloc (by simp) _
  have hz : Blk W2 w.heap.size 42 #[.int .u8 0, .int .i64 0, .string ⟨#[]⟩, .slice none 0 0] := by rw [hW]; exact (Blk.new w _ _).alloc _
  have HB := Lib.hid hb; have HZ := Lib.hid hz; have HW := Lib.hid hW
  have d0 := hz.cell 0; have d1 := hz.cell 1; have d2 := hz.cell 2; have d3 := hz.cell 3
  have f0 := hz.frozen 0; have f1 := hz.frozen 1; have f2 := hz.frozen 2; have f3 := hz.frozen 3
  simp at d0 d1 d2 d3
  clear hb hz hW
  go_enter Tryd.func14, Tryd.ntmps14
  go_wp2_with fail
  rw [← HW.out]
  refine (row_nil _ _).mono ?_
  rintro e w1 ⟨rfl, rfl⟩
  go_wp2_with fail
  exact bodyPost_ret (retV4 Tryd.results14 rfl rfl HZ.out.store4) rfl ⟨rfl, (((HB.out.setCell (Nat.le_refl _) _).setCell (Nat.le_refl _) _).setCell (Nat.le_refl _) _).setCell (Nat.le_refl _) _⟩

def v0 : V := .mk 2 0 ⟨#[]⟩ []
def vz : V := .mk 0 0 ⟨#[]⟩ []
def u0 : Value := .agg #[.int .u8 2, .int .i64 0, .string ⟨#[]⟩, .slice none 0 0]
def uz : Value := .agg #[.int .u8 0, .int .i64 0, .string ⟨#[]⟩, .slice none 0 0]
theorem ckz : chkV vz = 4 := by kernel_rfl
theorem lies0 (S : Nat → Prop) (w : World) : Lies S w v0 u0 := Lies.of_row (by decide) (by decide) (by decide) (RLies.nil (by decide))
theorem liesz (S : Nat → Prop) (w : World) : Lies S w vz uz := Lies.of_row (by decide) (by decide) (by decide) (RLies.nil (by decide))
theorem sl0 : slim v0 := by unfold slim; kernel_rfl
theorem slz : slim vz := by unfold slim; kernel_rfl
theorem ex_errz : errL [v0, vz] = 4 := by kernel_rfl
theorem tx0 : (txtV v0).length ≤ 900000000 := by
  have h : txtV v0 = [48] := by kernel_rfl
  rw [h]; decide
theorem txz : (txtV vz).length ≤ 900000000 := of_decide_eq_true (by kernel_rfl)
set_option maxRecDepth 100000 in
set_option maxHeartbeats 8000000 in
theorem names_c (w : World) (htab : TabF w.heap.size w) : Calls Tryd.prog 4 #[] w fun e w' => e = .returned (.bool true) ∧ Below w.heap.size w w' := by
  have HTAB := Lib.hid htab
  clear htab
  go_enter Tryd.func4, Tryd.ntmps4
  go_wp2_with fail
  refine (put_nil w).mono ?_
  rintro e w1 ⟨rfl, hb⟩
  have HB1 := Lib.hid hb; clear hb
  go_wp2_with fail
  refine (putrow_nil _ w1).mono ?_
  rintro e w2 ⟨rfl, rfl⟩
  go_wp2_with fail
  refine (at_nil 0 w1).mono ?_
  rintro e w3 ⟨rfl, hb⟩
  have HB3 := Lib.hid ((HB1.out.trans (hb.mono HB1.out.size)).alloc (Nat.le_trans HB1.out.size hb.size) (.cells #[.int .u8 0, .int .i64 0, .string ⟨#[]⟩, .slice none 0 0] 42)); clear hb
  go_wp2_with fail
  refine (row_nil _ _).mono ?_
  rintro e w4 ⟨rfl, rfl⟩
  go_wp2_with fail
  obtain ⟨W3, hW3⟩ : ∃ W, W = w3.alloc (.cells #[.int .u8 0, .int .i64 0, .string ⟨#[]⟩, .slice none 0 0] 42) := ⟨_, rfl⟩
  rw [← hW3]
  rw [← hW3] at HB3
  clear hW3
  refine (find_nil _ _ _ _ W3).mono ?_
  rintro e w5 ⟨rfl, hb⟩
  have HB5 := Lib.hid (HB3.out.trans (hb.mono HB3.out.size)); clear hb
  go_wp2_with fail
  refine (new_c w5).mono ?_
  rintro e w6 ⟨rfl, ht, hb⟩
  have HT6 := Lib.hid ht; have HB6 := Lib.hid (HB5.out.trans (hb.mono HB5.out.size)); have HS6 := Lib.hid hb.size
  clear ht hb
  go_wp2_with fail
  refine (putv_c _ [] w5.heap.size vz _ w6 HT6.out (liesz _ w6) (by decide) txz slz ((HTAB.out.below HB6.out).more HB6.out.size)).mono ?_
  rintro e w7 ⟨h12, hk⟩
  rcases h12 with ⟨h0, _⟩ | ⟨h0, rfl, ht⟩
  · rw [ckz] at h0; cases h0
  rw [ckz]
  have HB7 := Lib.hid (HB6.out.trans (hk.below (B := w.heap.size) (fun x hx e => by have := HB5.out.size; omega) HB6.out.size))
  have HT7 := Lib.hid ht
  clear h0 hk ht
  go_wp2_with fail
  obtain ⟨W8, hW8⟩ : ∃ W, W = w7.alloc (.cells (vcells [u0, uz]).toArray 42) := ⟨_, rfl⟩
  have hb8 : Below w7.heap.size w7 W8 := hW8 ▸ (Below.refl _ _).alloc (Nat.le_refl _) _
  have hbk8 : Blk W8 w7.heap.size 42 (vcells [u0, uz]).toArray := hW8 ▸ Blk.new _ _ _
  have hs8 : W8.heap.size = w7.heap.size + 1 := by rw [hW8]; simp
  have hT8 := HT7.out.below hb8
  have hNe : w5.heap.size < w7.heap.size := HT7.out.lt
  have hrow : ∀ w', Keep (fun b => b = w5.heap.size) W8 w' → RRep w' W8.heap.size [v0, vz] (some ⟨w7.heap.size, 0, none⟩) 2 := fun w' hk => by
    refine row_blk (us := [u0, uz]) rfl (fun u hu => ?_) ((hk.block _ (by omega) (by omega)).trans hbk8) (by omega) (by decide) (fun j h1 h2 => ?_)
    · simp at hu
      rcases hu with rfl | rfl <;> exact ⟨_, _, _, _, rfl⟩
    · match j, h1 with
      | 0, _ => exact (lies0 (fun _ => False) W8) w' fun _ h _ => h.elim
      | 1, _ => exact (liesz (fun _ => False) W8) w' fun _ h _ => h.elim
  have hput := putrow_c _ [] w5.heap.size [v0, vz] (some ⟨w7.heap.size, 0, none⟩) 2 W8 hT8 (hrow W8 (Keep.refl _ _)) hrow (by decide) (fun t ht => by simp at ht; rcases ht with rfl | rfl; exact tx0; exact txz) (fun t ht => by simp at ht; rcases ht with rfl | rfl; exact sl0; exact slz) ((HTAB.out.below (HB7.out.trans (hb8.mono HB7.out.size))).more (Nat.le_trans HB7.out.size hb8.size))
  have HPUT := Lib.hid hput; have HB8 := Lib.hid (HB7.out.trans (hb8.mono HB7.out.size))
  rw [hW8] at HPUT
  clear hb8 hbk8 hs8 hT8 hrow hput hNe
  refine HPUT.out.mono ?_
  rintro e w9 ⟨h13, hk⟩
  rw [← hW8] at h13 hk
  rcases h13 with ⟨h0, _⟩ | ⟨h0, rfl, ht⟩
  · rw [ex_errz] at h0; cases h0
  rw [ex_errz]
  have HB9 := Lib.hid (HB8.out.trans (hk.below (B := w.heap.size) (fun x hx e => by have := HB5.out.size; omega) HB8.out.size))
  have HT9 := Lib.hid ht
  clear h0 hk ht HPUT hW8
  go_wp2_with fail
  refine (at_c _ [] w5.heap.size 0 w9 HT9.out (by decide) (by decide)).mono ?_
  rintro e w10 ⟨h14, hb⟩
  rcases h14 with ⟨t, u, hat, _⟩ | ⟨_, rfl⟩
  · cases hat
  have hb2 := hb.alloc hb.size (.cells #[.int .u8 0, .int .i64 0, .string ⟨#[]⟩, .slice none 0 0] 42)
  have HB10 := Lib.hid (HB9.out.trans (hb2.mono HB9.out.size)); have HT10 := Lib.hid (HT9.out.below hb2)
  clear hb hb2
  go_wp2_with fail
  obtain ⟨W10, hW10⟩ : ∃ W, W = w10.alloc (.cells #[.int .u8 0, .int .i64 0, .string ⟨#[]⟩, .slice none 0 0] 42) := ⟨_, rfl⟩
  rw [← hW10]
  rw [← hW10] at HB10 HT10
  clear hW10
  refine (putrow_c _ [] w5.heap.size [] none 0 W10 HT10.out (RRep.nil (by decide)) (fun w' _ => RRep.nil (by decide)) (by decide) (fun t ht => by cases ht) (fun t ht => by cases ht) ((HTAB.out.below HB10.out).more HB10.out.size)).mono ?_
  rintro e w11 ⟨h13, hk⟩
  rcases h13 with ⟨_, gn, rfl, _, _, ht⟩ | ⟨h0, _⟩
  rotate_left
  · exact absurd rfl h0
  have HB11 := Lib.hid (HB10.out.trans (hk.below (B := w.heap.size) (fun x hx e => by have := HB5.out.size; omega) HB10.out.size))
  have hT11 : TabR (fun b => b = w5.heap.size ∨ gn < b) [] w11 w5.heap.size := ht
  have HT11 := Lib.hid hT11
  have HLN := Lib.hid (len_nil w11)
  have HLT := Lib.hid (len_c _ [] w5.heap.size w11 hT11)
  have HAW := Lib.hid (awake_c w11 ((HTAB.out.below HB11.out).more HB11.out.size))
  clear hk ht hT11
  go_wp2_with fail
  refine HLN.out.mono ?_
  rintro e w12 ⟨rfl, rfl⟩
  go_wp2_with fail
  refine HLT.out.mono ?_
  rintro e w12 ⟨rfl, rfl⟩
  go_wp2_with fail
  refine HAW.out.mono ?_
  rintro e w12 ⟨rfl, hb⟩
  have HB12 := Lib.hid (HB11.out.trans (hb.mono HB11.out.size)); clear hb
  go_wp2_with fail
  go_ret
  exact ⟨rfl, HB12.out⟩
end Go.Proofs.YtibpebhepoeikaaDoor
