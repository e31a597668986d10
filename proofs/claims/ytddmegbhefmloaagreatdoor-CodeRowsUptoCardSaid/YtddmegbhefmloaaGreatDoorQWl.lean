/- The document's own answers of layer 2: values in their order, if Bigs tells numbers' order. -/
import Derived.Test.YtddmegbhefmloaaGreatDoorQWk
namespace Go.Proofs.YtddmegbhefmloaaGreatDoor
open Go.RowKit Vp Pl
open Go
attribute [local go_sem] Oper.semAt_some

theorem two_new (w : World) (o o' : Obj) : Below w.heap.size w ((w.alloc o).alloc o') := ((Below.refl _ _).alloc (Nat.le_refl _) _).alloc (by simp) _
/-- Bigs tells how numbers' texts stand. -/
def BigsOk : Prop := ∀ (s s' : ByteArray) (w : World), chk s.data.toList = 0 → chk s'.data.toList = 0 →
  Calls Tryz.prog 104 #[.string s, .string s'] w fun e w' => e = .returned (.int .i64 (zcmp s.data.toList s'.data.toList)) ∧ Below w.heap.size w w'
theorem cmpV_k (k : Nat) (n n' : Int) (s s' : ByteArray) (l l' : List V) : cmpV zcmp (.mk k n s l) (.mk k n' s' l') = behind k n n' s.data.toList s'.data.toList (cmpL zcmp l l') := by
  rw [cmpV_eq, lx, if_neg]; unfold cmpI; simp
theorem fine_big {n : Int} {s : ByteArray} {l : List V} (h : Fine (.mk 3 n s l)) : chk s.data.toList = 0 := by
  obtain ⟨b1, g1, _⟩ := h.parts
  simp only [bad, Bool.or_eq_false_iff, decide_eq_false_iff_not] at b1
  simp only [long, decide_eq_false_iff_not] at g1
  rcases chk_three s.data.toList with h | h | h
  · exact h
  · exact absurd h b1.2
  · exact absurd h g1
theorem fine_nil4 {n : Int} {s : ByteArray} {l : List V} (h : Fine (.mk 4 n s l)) : l = [] := by
  obtain ⟨b1, _, _⟩ := h.parts
  simp only [bad, Bool.or_eq_false_iff, Bool.not_eq_false', List.isEmpty_iff] at b1
  exact b1.2
theorem fine_nil5 {n : Int} {s : ByteArray} {l : List V} (h : Fine (.mk 5 n s l)) : s.data.toList = [] := by
  obtain ⟨b1, _, _⟩ := h.parts
  simp only [bad, Bool.or_eq_false_iff, decide_eq_false_iff_not, Decidable.not_not] at b1
  exact size_zero b1.1.2

set_option maxHeartbeats 2000000 in
theorem refcmp_c (hbig : BigsOk) (t : V) : RefCmpOn t := by
  induction t using V.ind with
  | h k n s l ih =>
  intro t' u u' w f f' h h'
  obtain ⟨k', n', s', l', A, c, ht, rfl, hk, hn, hs, hR⟩ := h.open_
  obtain ⟨rfl, rfl, rfl, rfl⟩ : k = k' ∧ n = n' ∧ s = s' ∧ l = l' := by cases ht; exact ⟨rfl, rfl, rfl, rfl⟩
  obtain ⟨k', n', s', l', A', c', rfl, rfl, hk', hn', hs', hR'⟩ := h'.open_
  obtain ⟨W, hW⟩ : ∃ W, W = (w.alloc (.cells #[.int .u8 (k : Int), .int .i64 n, .string s, .slice A l.length c] 34)).alloc (.cells #[.int .u8 (k' : Int), .int .i64 n', .string s', .slice A' l'.length c'] 34) := ⟨_, rfl⟩
  have hB : Below w.heap.size w W := hW ▸ two_new _ _ _
  have hsz : w.heap.size + 1 < W.heap.size := by rw [hW]; simp
  have b0 : Blk W w.heap.size 34 #[.int .u8 (k : Int), .int .i64 n, .string s, .slice A l.length c] := hW ▸ (Blk.new _ _ _).alloc _
  have b1 : Blk W (w.heap.size + 1) 34 #[.int .u8 (k' : Int), .int .i64 n', .string s', .slice A' l'.length c'] := hW ▸ (by have := Blk.new (w.alloc (.cells #[.int .u8 (k : Int), .int .i64 n, .string s, .slice A l.length c] 34)) 34 #[.int .u8 (k' : Int), .int .i64 n', .string s', .slice A' l'.length c']; rw [World.size_alloc] at this; exact this)
  have hrows : ∀ W', Below W.heap.size W W' → Calls Tryz.prog 84 #[.slice A l.length c, .slice A' l'.length c'] W' fun e w' => e = .returned (.int .i64 (cmpL zcmp l l')) ∧ Below W'.heap.size W' w' := fun W' hb =>
    refrows_of l ih l' f.parts.2.2 f'.parts.2.2 A A' c c' W' ((hR.under (hB.trans (hb.mono hB.size))).more (hB.trans (hb.mono hB.size)).size) ((hR'.under (hB.trans (hb.mono hB.size))).more (hB.trans (hb.mono hB.size)).size)
  have hcl : ∀ W', Below W.heap.size W W' → W'.cell? ⟨w.heap.size, 3, none⟩ = some (.slice A l.length c) ∧ W'.cell? ⟨w.heap.size + 1, 3, none⟩ = some (.slice A' l'.length c') := fun W' hb => by
    have x3 := (b0.below hb (by omega)).cell 3; have y3 := (b1.below hb hsz).cell 3
    simp at x3 y3
    exact ⟨x3, y3⟩
  have x0 := b0.cell 0; have x1 := b0.cell 1; have x2 := b0.cell 2; have x3 := b0.cell 3
  have y0 := b1.cell 0; have y1 := b1.cell 1; have y2 := b1.cell 2; have y3 := b1.cell 3
  simp at x0 x1 x2 x3 y0 y1 y2 y3
  obtain ⟨q, hq⟩ : ∃ q, q = cmpV zcmp (.mk k n s l) (.mk k' n' s' l') := ⟨_, rfl⟩
  rw [← hq]
  have HRW := Lib.hid hrows; have HB := Lib.hid hB; have HCL := Lib.hid hcl; have HR0 := Lib.hid (Below.refl W.heap.size W)
  rw [hW] at x0 x1 x2 x3 y0 y1 y2 y3
  rw [hW] at HRW HB HCL HR0
  clear hrows hB hcl b0 b1 hR hR' h h' ht ih hW hsz
  by_cases hkk : k = k'
  · subst hkk
    rw [cmpV_k] at hq
    have HFF := Lib.hid f; have HFF' := Lib.hid f'
    clear f f'
    have hcases : k = 1 ∨ k = 2 ∨ k = 3 ∨ k = 4 ∨ k = 5 ∨ k = 6 ∨ (k ≠ 1 ∧ k ≠ 2 ∧ k ≠ 3 ∧ k ≠ 4 ∧ k ≠ 5 ∧ k ≠ 6) := by omega
    rcases hcases with rfl | rfl | rfl | rfl | rfl | rfl | hne
    · have HC := Lib.hid (fun W => ints_c n n' W)
      rw [show cmpI n n' = q by rw [hq]; simp [behind]] at HC
      clear hq
      go_enter Tryz.func79, Tryz.ntmps79
      go_wp2_with (go_at_call 103; refine (HC.out _).mono ?_; rintro e w1 ⟨rfl, hb1⟩; have HB1 := Lib.hid (HB.out.trans (hb1.mono HB.out.size)); clear hb1)
      go_ret
      exact ⟨rfl, HB1.out⟩
    · have HC := Lib.hid (fun W => ints_c n n' W)
      rw [show cmpI n n' = q by rw [hq]; simp [behind]] at HC
      clear hq
      go_enter Tryz.func79, Tryz.ntmps79
      go_wp2_with (go_at_call 103; refine (HC.out _).mono ?_; rintro e w1 ⟨rfl, hb1⟩; have HB1 := Lib.hid (HB.out.trans (hb1.mono HB.out.size)); clear hb1)
      go_ret
      exact ⟨rfl, HB1.out⟩
    · have HC := Lib.hid (fun W => hbig s s' W (fine_big HFF.out) (fine_big HFF'.out))
      rw [show zcmp s.data.toList s'.data.toList = q by rw [hq]; simp [behind]] at HC
      clear hq
      go_enter Tryz.func79, Tryz.ntmps79
      go_wp2_with (go_at_call 104; refine (HC.out _).mono ?_; rintro e w1 ⟨rfl, hb1⟩; have HB1 := Lib.hid (HB.out.trans (hb1.mono HB.out.size)); clear hb1)
      go_ret
      exact ⟨rfl, HB1.out⟩
    · have HC := Lib.hid (fun W => texts_c s s' hs hs' W)
      rw [show Lib.compareBytes s.data.toList s'.data.toList = q by rw [hq, fine_nil4 HFF.out, fine_nil4 HFF'.out, cmpL_nil]; simp [behind, lx]] at HC
      clear hq
      go_enter Tryz.func79, Tryz.ntmps79
      go_wp2_with (go_at_call 105; refine (HC.out _).mono ?_; rintro e w1 ⟨rfl, hb1⟩; have HB1 := Lib.hid (HB.out.trans (hb1.mono HB.out.size)); clear hb1)
      go_ret
      exact ⟨rfl, HB1.out⟩
    · rw [show cmpL zcmp l l' = q by rw [hq, fine_nil5 HFF.out, fine_nil5 HFF'.out]; simp [behind, lx, Lib.compareBytes]] at HRW
      clear hq
      go_enter Tryz.func79, Tryz.ntmps79
      go_wp2_with (go_at_call 84; refine (HRW.out _ HR0.out).mono ?_; rintro e w1 ⟨rfl, hb1⟩; have HB1 := Lib.hid (HB.out.trans (hb1.mono HB.out.size)); clear hb1)
      go_ret
      exact ⟨rfl, HB1.out⟩
    · have HC := Lib.hid (fun W => texts_c s s' hs hs' W)
      obtain ⟨z, hz⟩ : ∃ z, Lib.compareBytes s.data.toList s'.data.toList = z := ⟨_, rfl⟩
      rw [hz] at HC
      by_cases hz0 : z = 0
      · subst hz0
        rw [show cmpL zcmp l l' = q by rw [hq]; simp [behind, lx, hz]] at HRW
        clear hq hz
        go_enter Tryz.func79, Tryz.ntmps79
        go_wp2_with (first
          | (have hx := HB1; clear hx; go_at_call 84; refine (HRW.out _ HB1.out).mono ?_; rintro e w2 ⟨rfl, hb1⟩; have HB2 := Lib.hid (HB1.out.trans (hb1.mono HB1.out.size)); clear hb1)
          | (go_at_call 105; refine (HC.out _).mono ?_; rintro e w1 ⟨rfl, hb1⟩; have HB1 := Lib.hid hb1; clear hb1; obtain ⟨z3, z4⟩ := HCL.out _ HB1.out))
        go_ret
        exact ⟨rfl, HB.out.trans (HB2.out.mono HB.out.size)⟩
      · obtain rfl : q = z := by rw [hq]; simp [behind, lx, hz, hz0]
        clear hq hz
        go_enter Tryz.func79, Tryz.ntmps79
        go_wp2_with (go_at_call 105; refine (HC.out _).mono ?_; rintro e w1 ⟨rfl, hb1⟩; have HB1 := Lib.hid (HB.out.trans (hb1.mono HB.out.size)); clear hb1)
        go_ret
        exact ⟨rfl, HB1.out⟩
    · have : bad Pl.chk (.mk k n s l) = true := by unfold bad; split <;> simp_all
      have h1 := HFF.out.parts.1
      rw [this] at h1; cases h1
  · have hkz : ¬ (k : Int) = (k' : Int) := by omega
    have HC := Lib.hid (fun W => ints_c (k : Int) (k' : Int) W)
    rw [show cmpI (k : Int) k' = q by rw [hq, cmpV_eq, lx, if_pos fun e => hkz (cmpI_zero e)]] at HC
    have v1 : IntKind.i64.wrap (k : Int) = (k : Int) := IntWalk.i64_in _ (by omega)
    have v2 : IntKind.i64.wrap (k' : Int) = (k' : Int) := IntWalk.i64_in _ (by omega)
    clear hq f f' hkk
    go_enter Tryz.func79, Tryz.ntmps79
    go_wp2_with (go_at_call 103; refine (HC.out _).mono ?_; rintro e w1 ⟨rfl, hb1⟩; have HB1 := Lib.hid (HB.out.trans (hb1.mono HB.out.size)); clear hb1)
    go_ret
    exact ⟨rfl, HB1.out⟩
end Go.Proofs.YtddmegbhefmloaaGreatDoor
