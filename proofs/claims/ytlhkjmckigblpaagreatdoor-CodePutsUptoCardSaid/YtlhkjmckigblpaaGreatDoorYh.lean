/- Package code: a Cons is written; any value is. -/
import Derived.Test.YtlhkjmckigblpaaGreatDoorYg
namespace Go.Proofs.YtlhkjmckigblpaaGreatDoor
open Go.RowKit Go.Shelf Vp Cp
open Go
attribute [local go_sem] Oper.semAt_some

set_option maxRecDepth 100000 in
set_option maxHeartbeats 8000000 in
theorem cons_c (B : Nat) (l : List UInt8) (v : Value) (k : Nat) (n : Int) (s : ByteArray) (hs : s.size ≤ 4000000000) (items : List V) (A : Option Addr) (c : Nat) (w : World) (hR : RRep w B items A c) (h : Bys B l w v) (hl : l.length + (strB s.data.toList).length + (tupB items).length ≤ 60000000000000) (hB : B ≤ w.heap.size) (hm : MaxB B w)
    (ih : ∀ x ∈ items, Writes B x) :
    Calls Tryz.prog 121 #[.agg #[.int .u8 (k : Int), .int .i64 n, .string s, .slice A items.length c], v] w fun e w' => Gives B w (l ++ strB s.data.toList ++ tupB items) e w' := by
  have hll : l.length ≤ 140000000000000 := by omega
  have hlt : (l ++ strB s.data.toList).length + (tupB items).length ≤ 60000000000000 := by rw [List.length_append]; exact hl
  have HY := Lib.hid (World.ownsRow.drew (h.alloc_ (.cells #[.int .u8 (k : Int), .int .i64 n, .string s, .slice A items.length c] 79)))
  have HB := Lib.hid (bx_below hB (.cells #[.int .u8 (k : Int), .int .i64 n, .string s, .slice A items.length c] 79)).drew
  have HX := Lib.hid (Blk.new w 79 #[.int .u8 (k : Int), .int .i64 n, .string s, .slice A items.length c]).drew
  have HR := Lib.hid hR; have HM := Lib.hid hm; have HI := Lib.hid ih; have HLT := Lib.hid hlt
  clear h hR hm ih hl hlt
  go_enter Tryz.func121, Tryz.ntmps121
  go_upto_region 1 with fail
  generalize w.alloc (.cells #[.int .u8 (k : Int), .int .i64 n, .string s, .slice A items.length c] 79) = W at HX HB HY ⊢
  refine chain_region (fun W' => W'.cell? ⟨w.heap.size, 0, none⟩ = some (.int .u8 (k : Int)) ∧ W'.cell? ⟨w.heap.size, 1, none⟩ = some (.int .i64 n) ∧ W'.cell? ⟨w.heap.size, 2, none⟩ = some (.string s) ∧ W'.cell? ⟨w.heap.size, 3, none⟩ = some (.slice A items.length c)) 5 (by kernel_rfl) ?_
  refine T_take (i := 0) (v := .agg #[.int .u8 (k : Int), .int .i64 n, .string s, .slice A items.length c]) rfl (by kernel_rfl) (fun _ _ _ h => h) rfl (fun W hS => by obtain ⟨h1, h2, h3, h4⟩ := hS; go_simp) (s_of HX.out) ?_
  refine T_take (i := 1) (v := v) rfl (by kernel_rfl) (fun _ _ _ h => h) rfl (fun W hS => by go_simp) (s_of HX.out) ?_
  refine T_take (i := 2) (v := .pointer (some ⟨w.heap.size, 2, none⟩)) rfl (by kernel_rfl) (fun _ _ _ h => h) rfl (fun W hS => by go_simp) (s_of HX.out) ?_
  refine T_take (i := 3) (v := .string s) rfl (by kernel_rfl) (fun _ _ _ h => h) rfl (fun W hS => by obtain ⟨h1, h2, h3, h4⟩ := hS; go_simp) (s_of HX.out) ?_
  refine T_one (i := 4) rfl (by kernel_rfl) rfl ?_
  refine op_callT #[v, .string s] (by simp [go_sem]) (enters_of Tryz.func66 (by kernel_rfl) rfl _ _) (appendStr2_c B l v s hs _ HY.out hll (Nat.le_trans hB HB.out.size) (HM.out.under HB.out).2) ?_
  rintro e w1 ⟨v1, rfl, hy1, hb1, hk1⟩
  have HX3 := Lib.hid (hk1 _ _ _ (by decide) HX.out)
  have HB3 := Lib.hid (HB.out.trans hb1)
  have HY3 := Lib.hid hy1
  clear hy1 hb1 hk1 HX HB HY
  refine ⟨_, rfl, fun _ => s_of HX3.out, ?_⟩
  refine T_one (i := 5) rfl (by kernel_rfl) rfl ?_
  refine op_callT #[.agg #[.int .u8 (k : Int), .int .i64 n, .string s, .slice A items.length c], v1] (by simp [go_sem]) (enters_of Tryz.func119 (by kernel_rfl) rfl _ _) (tuple_c B _ v1 k n s items A c _ (HR.out.under HB3.out) HY3.out HLT.out (Nat.le_trans hB HB3.out.size) (HM.out.under HB3.out) HI.out) ?_
  rintro e w2 ⟨v2, rfl, hy2, hb2⟩
  have HB4 := Lib.hid (HB3.out.trans hb2)
  have HY4 := Lib.hid hy2
  clear hy2 hb2 HX3 HB3 HY3
  refine ⟨_, rfl, fun hh => absurd hh (by decide), ?_⟩
  refine T_one (i := 6) rfl (by kernel_rfl) rfl ?_
  go_simp
  refine T_done (by kernel_rfl) ?_
  go_wp2_with fail
  go_ret
  exact Gives.mk_ HY4.out HB4.out

theorem cons_app {B : Nat} {w : World} {a b c : List UInt8} {f : FuncId} {args : Array Value} (h : Calls Tryz.prog f args w fun e w' => Gives B w (a ++ b ++ c) e w') : Calls Tryz.prog f args w fun e w' => Gives B w (a ++ (b ++ c)) e w' := by
  rw [← List.append_assoc]; exact h
/-- A value of a kind, with no text longer than a machine's count. -/
inductive Fit : V → Prop
  | mk {k : Nat} {n : Int} {s : ByteArray} {l : List V} (h1 : 1 ≤ k) (h2 : k ≤ 6) (h3 : s.size ≤ 2147483647) (h4 : ∀ x ∈ l, Fit x) : Fit (.mk k n s l)
theorem enc_c (B : Nat) : ∀ t : V, Fit t → Writes B t := by
  intro t
  induction t using V.ind with
  | h k n s l ih =>
    intro hf u l0 v w hv hy hsz hB hm
    have hpar : (1 ≤ k ∧ k ≤ 6 ∧ s.size ≤ 2147483647) ∧ ∀ x ∈ l, Fit x := by cases hf with | mk h1 h2 h3 h4 => exact ⟨⟨h1, h2, h3⟩, h4⟩
    obtain ⟨⟨h1, h2, h3⟩, h4⟩ := hpar
    have hih : ∀ x ∈ l, Writes B x := fun x hx => ih x hx (h4 x hx)
    obtain ⟨k0, n0, s0, l1, A, c, ht, rfl, hk, hn, hs, hR⟩ := hv.open_
    injection ht with e1 e2 e3 e4
    subst e1; subst e2; subst e3; subst e4
    rw [enc_eq] at hsz ⊢
    have hcases : k = 1 ∨ k = 2 ∨ k = 3 ∨ k = 4 ∨ k = 5 ∨ k = 6 := by omega
    rcases hcases with rfl | rfl | rfl | rfl | rfl | rfl
    · refine to_c B l0 _ v 1 (by decide) n s A l.length c 111 _ w hy (by simp at hsz; omega) hB (fun W => form1_c W) (enters_of Tryz.func111 (by kernel_rfl) rfl) ?_
      intro W v' hb hy'
      exact appendBool_c B _ v' 1 n s A l.length c W hy' (by rw [List.length_append]; simp; omega) (Nat.le_trans hB hb.size)
    · refine to_c B l0 _ v 2 (by decide) n s A l.length c 113 _ w hy (by simp at hsz; omega) hB (fun W => form2_c W) (enters_of Tryz.func113 (by kernel_rfl) rfl) ?_
      intro W v' hb hy'
      exact appendInt_c B _ v' 2 n hn s A l.length c W hy' (by rw [List.length_append]; simp; omega) (Nat.le_trans hB hb.size)
    · refine to_c B l0 _ v 3 (by decide) n s A l.length c 115 _ w hy (by simp at hsz; omega) hB (fun W => form3_c W) (enters_of Tryz.func115 (by kernel_rfl) rfl) ?_
      intro W v' hb hy'
      exact appendBig_c B _ v' 3 n s h3 A l.length c W hy' (by rw [List.length_append]; simp; omega) (Nat.le_trans hB hb.size)
    · refine to_c B l0 _ v 4 (by decide) n s A l.length c 117 _ w hy (by simp at hsz; omega) hB (fun W => form4_c W) (enters_of Tryz.func117 (by kernel_rfl) rfl) ?_
      intro W v' hb hy'
      exact appendText_c B _ v' 4 n s (by omega) A l.length c W hy' (by rw [List.length_append]; simp; omega) (Nat.le_trans hB hb.size) (hm.under hb).2
    · refine to_c B l0 _ v 5 (by decide) n s A l.length c 119 _ w hy (by simp at hsz; omega) hB (fun W => form5_c W) (enters_of Tryz.func119 (by kernel_rfl) rfl) ?_
      intro W v' hb hy'
      exact tuple_c B _ v' 5 n s l A c W (hR.under hb) hy' (by rw [List.length_append]; simp at hsz ⊢; omega) (Nat.le_trans hB hb.size) (hm.under hb) hih
    · refine to_c B l0 _ v 6 (by decide) n s A l.length c 121 _ w hy (by simp at hsz; omega) hB (fun W => form6_c W) (enters_of Tryz.func121 (by kernel_rfl) rfl) ?_
      intro W v' hb hy'
      exact cons_app (cons_c B _ v' 6 n s (by omega) l A c W (hR.under hb) hy' (by rw [List.length_append]; simp at hsz ⊢; omega) (Nat.le_trans hB hb.size) (hm.under hb) hih)
end Go.Proofs.YtlhkjmckigblpaaGreatDoor
