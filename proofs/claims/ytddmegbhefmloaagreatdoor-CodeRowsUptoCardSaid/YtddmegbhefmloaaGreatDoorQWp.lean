/- The document's own answers of layer 2: two values that may be anything, in their order. -/
import Derived.Test.YtddmegbhefmloaaGreatDoorQWo
namespace Go.Proofs.YtddmegbhefmloaaGreatDoor
open Go.RowKit Vp Pl
open Go
attribute [local go_sem] Oper.semAt_some

theorem cmpR_last1 {a b : V} {z z' : Int} (ha : chkV a = z) (hb : chkV b = z') (h : z ≠ 0 ∨ z' ≠ 0) : cmpR zcmp [a] [b] = lastI (z == 0) (z' == 0) := by
  refine cmpR_last ?_ ?_ (by rcases h with h | h <;> simp [h])
  · unfold invL; by_cases e : z = 0 <;> simp [ha, e]
  · unfold invL; by_cases e : z' = 0 <;> simp [hb, e]
theorem cmpR_both1 {a b : V} (ha : chkV a = 0) (hb : chkV b = 0) : cmpR zcmp [a] [b] = cmpV zcmp a b := by
  rw [cmpR_both (by unfold invL; simp [ha]) (by unfold invL; simp [hb]), cmpL_cons, cmpL_nil]
  unfold lx; split <;> simp_all
theorem fine_of {a : V} (h : chkV a = 0) : Fine a := by
  obtain ⟨_, h2, h3⟩ := valid_parts h
  exact ⟨h2, h3⟩
set_option maxHeartbeats 2000000 in
theorem refcmp1_c (a b : V) (u u' : Value) (w : World) (da : depth a < 100000000) (db : depth b < 100000000) (h : VRep w w.heap.size a u) (h' : VRep w w.heap.size b u') :
    Calls Tryz.prog 42 #[u, u'] w fun e w' => e = .returned (.int .i64 (cmpR zcmp [a] [b])) ∧ Below w.heap.size w w' := by
  obtain ⟨k, n, s, l, A, c, ha, rfl, hk, hn, hs, hR⟩ := h.open_
  obtain ⟨k', n', s', l', A', c', hb, rfl, hk', hn', hs', hR'⟩ := h'.open_
  obtain ⟨q, hq⟩ : ∃ q, q = cmpR zcmp [a] [b] := ⟨_, rfl⟩
  rw [← hq]
  obtain ⟨W, hW⟩ : ∃ W, W = (w.alloc (.cells #[.int .u8 (k : Int), .int .i64 n, .string s, .slice A l.length c] 34)).alloc (.cells #[.int .u8 (k' : Int), .int .i64 n', .string s', .slice A' l'.length c'] 34) := ⟨_, rfl⟩
  have hB : Below w.heap.size w W := hW ▸ two_new _ _ _
  have hsz : w.heap.size + 1 < W.heap.size := by rw [hW]; simp
  have b0 : Blk W w.heap.size 34 #[.int .u8 (k : Int), .int .i64 n, .string s, .slice A l.length c] := hW ▸ (Blk.new _ _ _).alloc _
  have b1 : Blk W (w.heap.size + 1) 34 #[.int .u8 (k' : Int), .int .i64 n', .string s', .slice A' l'.length c'] := hW ▸ (by have := Blk.new (w.alloc (.cells #[.int .u8 (k : Int), .int .i64 n, .string s, .slice A l.length c] 34)) 34 #[.int .u8 (k' : Int), .int .i64 n', .string s', .slice A' l'.length c']; rw [World.size_alloc] at this; exact this)
  have hcl : ∀ w', Below W.heap.size W w' → w'.cell? ⟨w.heap.size, 0, none⟩ = some (.int .u8 (k : Int)) ∧ w'.cell? ⟨w.heap.size, 1, none⟩ = some (.int .i64 n) ∧ w'.cell? ⟨w.heap.size, 2, none⟩ = some (.string s) ∧ w'.cell? ⟨w.heap.size, 3, none⟩ = some (.slice A l.length c) ∧ w'.cell? ⟨w.heap.size + 1, 0, none⟩ = some (.int .u8 (k' : Int)) ∧ w'.cell? ⟨w.heap.size + 1, 1, none⟩ = some (.int .i64 n') ∧ w'.cell? ⟨w.heap.size + 1, 2, none⟩ = some (.string s') ∧ w'.cell? ⟨w.heap.size + 1, 3, none⟩ = some (.slice A' l'.length c') := fun w' hb => by
    have c0 := b0.below hb (by omega); have c1 := b1.below hb hsz
    have x0 := c0.cell 0; have x1 := c0.cell 1; have x2 := c0.cell 2; have x3 := c0.cell 3
    have y0 := c1.cell 0; have y1 := c1.cell 1; have y2 := c1.cell 2; have y3 := c1.cell 3
    simp at x0 x1 x2 x3 y0 y1 y2 y3
    exact ⟨x0, x1, x2, x3, y0, y1, y2, y3⟩
  have hva : ∀ W', Below W.heap.size W W' → VRep W' W'.heap.size a (.agg #[.int .u8 (k : Int), .int .i64 n, .string s, .slice A l.length c]) := fun W' hb => (h.under (hB.trans (hb.mono hB.size))).more (hB.trans (hb.mono hB.size)).size
  have hvb : ∀ W', Below W.heap.size W W' → VRep W' W'.heap.size b (.agg #[.int .u8 (k' : Int), .int .i64 n', .string s', .slice A' l'.length c']) := fun W' hb => (h'.under (hB.trans (hb.mono hB.size))).more (hB.trans (hb.mono hB.size)).size
  obtain ⟨z, hz⟩ : ∃ z, chkV a = z := ⟨_, rfl⟩
  obtain ⟨z', hz'⟩ : ∃ z, chkV b = z := ⟨_, rfl⟩
  have hca := fun W' hb => refcheck_c a _ W' da (hva W' hb)
  have hcb := fun W' hb => refcheck_c b _ W' db (hvb W' hb)
  rw [hz] at hca; rw [hz'] at hcb
  have hcmp : z = 0 → z' = 0 → ∀ W', Below W.heap.size W W' → Calls Tryz.prog 79 #[(.agg #[.int .u8 (k : Int), .int .i64 n, .string s, .slice A l.length c]), (.agg #[.int .u8 (k' : Int), .int .i64 n', .string s', .slice A' l'.length c'])] W' fun e w' => e = .returned (.int .i64 q) ∧ Below W'.heap.size W' w' := fun e1 e2 W' hb => by
    rw [hq, cmpR_both1 (hz.trans e1) (hz'.trans e2)]
    exact refcmp_c bigs_ok a b _ _ W' (fine_of (hz.trans e1)) (fine_of (hz'.trans e2)) (hva W' hb) (hvb W' hb)
  have hla : z ≠ 0 ∨ z' ≠ 0 → ∀ W', Calls Tryz.prog 78 #[.bool (z == 0), .bool (z' == 0)] W' fun e w' => e = .returned (.int .i64 q) ∧ Below W'.heap.size W' w' := fun h W' => by
    rw [hq, cmpR_last1 hz hz' h]; exact last_c _ _ W'
  have HCL := Lib.hid hcl; have HCA := Lib.hid hca; have HCB := Lib.hid hcb; have HCM := Lib.hid hcmp; have HLA := Lib.hid hla; have HB := Lib.hid hB; have HR0 := Lib.hid (Below.refl W.heap.size W)
  have HW := Lib.hid hW
  obtain ⟨x0, x1, x2, x3, y0, y1, y2, y3⟩ := hcl W (Below.refl _ _)
  clear hcl hva hvb hca hcb hcmp hla hB b0 b1 hsz hR hR' h h' hq hz hz' ha hb da db
  rw [hW] at x0 x1 x2 x3 y0 y1 y2 y3
  clear hW
  go_enter Tryz.func42, Tryz.ntmps42
  go_upto_region 1 with fail
  rw [← HW.out] at x0 x1 x2 x3 y0 y1 y2 y3 ⊢
  go_region_held3 (fun w' => w'.cell? ⟨w.heap.size, 0, none⟩ = some (.int .u8 (k : Int)) ∧ w'.cell? ⟨w.heap.size, 1, none⟩ = some (.int .i64 n) ∧ w'.cell? ⟨w.heap.size, 2, none⟩ = some (.string s) ∧ w'.cell? ⟨w.heap.size, 3, none⟩ = some (.slice A l.length c) ∧ w'.cell? ⟨w.heap.size + 1, 0, none⟩ = some (.int .u8 (k' : Int)) ∧ w'.cell? ⟨w.heap.size + 1, 1, none⟩ = some (.int .i64 n') ∧ w'.cell? ⟨w.heap.size + 1, 2, none⟩ = some (.string s') ∧ w'.cell? ⟨w.heap.size + 1, 3, none⟩ = some (.slice A' l'.length c')) (go_keep)
    (first
      | (have hx := HB1; clear hx; first
          | (go_at_call 45; with_reducible refine (HCA.out _ HB1.out).mono ?_; rintro e w2 ⟨rfl, hb1⟩; have HB2 := Lib.hid (HB1.out.trans (hb1.mono HB1.out.size)); clear hb1; obtain ⟨p0, p1, p2, p3, p4, p5, p6, p7⟩ := HCL.out _ HB2.out)
          | (go_at_call 45; with_reducible refine (HCB.out _ HB1.out).mono ?_; rintro e w2 ⟨rfl, hb1⟩; have HB2 := Lib.hid (HB1.out.trans (hb1.mono HB1.out.size)); clear hb1; obtain ⟨p0, p1, p2, p3, p4, p5, p6, p7⟩ := HCL.out _ HB2.out))
      | (go_at_call 45; with_reducible refine (HCA.out _ HR0.out.drew).mono ?_; rintro e w1 ⟨rfl, hb1⟩; have HB1 := Lib.hid (HR0.out.drew.trans (hb1.mono HR0.out.drew.size)); clear hb1; obtain ⟨o0, o1, o2, o3, o4, o5, o6, o7⟩ := HCL.out _ HB1.out)
      | (go_at_call 45; with_reducible refine (HCB.out _ HR0.out.drew).mono ?_; rintro e w1 ⟨rfl, hb1⟩; have HB1 := Lib.hid (HR0.out.drew.trans (hb1.mono HR0.out.drew.size)); clear hb1; obtain ⟨o0, o1, o2, o3, o4, o5, o6, o7⟩ := HCL.out _ HB1.out))
  all_goals
    by_cases hboth : z = 0 ∧ z' = 0
    · obtain ⟨rfl, rfl⟩ := hboth
      have HX := Lib.hid (HCM.out rfl rfl)
      clear HCM HLA
      go_wp2_with (go_at_call 79; refine (HX.out _ HB2.out).mono ?_; rintro e w3 ⟨rfl, hb3⟩; have HB3 := Lib.hid (HB2.out.trans (hb3.mono HB2.out.size)); clear hb3)
      go_ret
      exact ⟨rfl, HB.out.trans (HB3.out.mono HB.out.size)⟩
    · have hor : z ≠ 0 ∨ z' ≠ 0 := by omega
      have HX := Lib.hid (HLA.out hor)
      clear HCM HLA
      have hnot : ¬ ((z == 0) = true ∧ (z' == 0) = true) := by simpa using hboth
      clear hboth hor
      generalize hp : (z == 0) = p at HX hnot ⊢
      generalize hp' : (z' == 0) = p' at HX hnot ⊢
      clear hp hp'
      cases p <;> cases p'
      all_goals first
        | exact absurd ⟨rfl, rfl⟩ hnot
        | (clear hnot
           go_wp2_with (go_at_call 78; refine (HX.out _).mono ?_; rintro e w3 ⟨rfl, hb3⟩; have HB3 := Lib.hid (HB2.out.trans (hb3.mono HB2.out.size)); clear hb3)
           go_ret
           exact ⟨rfl, HB.out.trans (HB3.out.mono HB.out.size)⟩)
end Go.Proofs.YtddmegbhefmloaaGreatDoor
