/- Layer 4's statements: the example (awake). -/
import Derived.Test.YtibpebhepoeikaaDoorIl
namespace Go.Proofs.YtibpebhepoeikaaDoor
open Go.RowKit Go.Shelf Vp Tx
open Go
attribute [local go_sem] Oper.semAt_some

theorem TabR.trim {F : Nat → Prop} {ts : List V} {w : World} {g : Nat} (h : TabR F ts w g) : TabR (fun b => F b ∧ b < w.heap.size) ts w g := h.mono fun _ hb h => ⟨h, hb⟩
theorem row_blk {W : World} {B x : Nat} {ts : List V} {us : List Value} (hl : us.length = ts.length) (h4 : ∀ u ∈ us, ∃ a b c d, u.cells = #[a, b, c, d]) (hb : Blk W x 42 (vcells us).toArray) (hx : x < B) (hn : ts.length ≤ maxLen) (hv : ∀ (j : Nat) (h1 : j < ts.length) (h2 : j < us.length), VRep W B ts[j] us[j]) : RRep W B ts (some ⟨x, 0, none⟩) ts.length := by
  refine ⟨Nat.le_refl _, hn, fun j => us.getD j undef, fun j hj => ?_, fun j hj => ?_⟩
  · have hj' : j < us.length := by omega
    refine ⟨x, 0, rfl, hx, fun i y hy => ?_⟩
    have hgd : us.getD j undef = us[j] := by rw [List.getD_eq_getElem?_getD, List.getElem?_eq_getElem hj', Option.getD_some]
    simp only [hgd] at hy
    obtain ⟨e1, e2⟩ := vcells_at us h4 j hj' i y hy
    rw [hb.cell, Nat.zero_add]
    simpa using e1
  · have hj' : j < us.length := by omega
    have hgd : us.getD j undef = us[j] := by rw [List.getD_eq_getElem?_getD, List.getElem?_eq_getElem hj', Option.getD_some]
    simp only [hgd]
    exact hv j hj hj'
theorem keep_N {N : Nat} {w w' : World} (h : Keep (fun b => N ≤ b) w w') (hN : N ≤ w.heap.size) : Below N w w' := h.below (fun x hx hn => by omega) hN
set_option maxRecDepth 100000 in
set_option maxHeartbeats 8000000 in
theorem awake_c (w : World) (htab : TabF w.heap.size w) : Calls Tryd.prog 7 #[] w fun e w' => e = .returned (.bool true) ∧ Below w.heap.size w w' := by
  obtain ⟨W1, hW1⟩ : ∃ W, W = ((w.alloc (.cells #[.int .u8 2, .int .i64 5, .string ⟨#[]⟩, .slice none 0 0] 42)).alloc (.cells #[.int .u8 4, .int .i64 0, .string ⟨#[97]⟩, .slice none 0 0] 42)).alloc (.cells #[.int .u8 1, .int .i64 1, .string ⟨#[]⟩, .slice none 0 0] 42) := ⟨_, rfl⟩
  have hb1 : Below w.heap.size w W1 := by rw [hW1]; exact (((Below.refl _ _).alloc (Nat.le_refl _) _).alloc (by simp) _).alloc (by simp; omega) _
  have hs1 : W1.heap.size = w.heap.size + 3 := by rw [hW1]; simp
  have k5 : Blk W1 w.heap.size 42 #[.int .u8 2, .int .i64 5, .string ⟨#[]⟩, .slice none 0 0] := by rw [hW1]; exact ((Blk.new w _ _).alloc _).alloc _
  have ka : Blk W1 (w.heap.size + 1) 42 #[.int .u8 4, .int .i64 0, .string ⟨#[97]⟩, .slice none 0 0] := by
    have := (Blk.new (w.alloc (.cells #[.int .u8 2, .int .i64 5, .string ⟨#[]⟩, .slice none 0 0] 42)) 42 #[.int .u8 4, .int .i64 0, .string ⟨#[97]⟩, .slice none 0 0]).alloc (.cells #[.int .u8 1, .int .i64 1, .string ⟨#[]⟩, .slice none 0 0] 42)
    rw [World.size_alloc] at this
    rw [hW1]; exact this
  have ky : Blk W1 (w.heap.size + 1 + 1) 42 #[.int .u8 1, .int .i64 1, .string ⟨#[]⟩, .slice none 0 0] := by
    have := Blk.new ((w.alloc (.cells #[.int .u8 2, .int .i64 5, .string ⟨#[]⟩, .slice none 0 0] 42)).alloc (.cells #[.int .u8 4, .int .i64 0, .string ⟨#[97]⟩, .slice none 0 0] 42)) 42 #[.int .u8 1, .int .i64 1, .string ⟨#[]⟩, .slice none 0 0]
    rw [World.size_alloc, World.size_alloc] at this
    rw [hW1]; exact this
  have HW1 := Lib.hid hW1; have HB1 := Lib.hid hb1; have HS1 := Lib.hid hs1; have HK5 := Lib.hid k5; have HKA := Lib.hid ka; have HKY := Lib.hid ky; have HTAB := Lib.hid htab
  -- what stays of the boxes
  have hst : ∀ W', Below W1.heap.size W1 W' → (W'.cell? ⟨w.heap.size, 0, none⟩ = some (.int .u8 2) ∧ W'.cell? ⟨w.heap.size, 1, none⟩ = some (.int .i64 5) ∧ W'.cell? ⟨w.heap.size, 2, none⟩ = some (.string ⟨#[]⟩) ∧ W'.cell? ⟨w.heap.size, 3, none⟩ = some (.slice none 0 0)) ∧
      (W'.cell? ⟨w.heap.size + 1, 0, none⟩ = some (.int .u8 4) ∧ W'.cell? ⟨w.heap.size + 1, 1, none⟩ = some (.int .i64 0) ∧ W'.cell? ⟨w.heap.size + 1, 2, none⟩ = some (.string ⟨#[97]⟩) ∧ W'.cell? ⟨w.heap.size + 1, 3, none⟩ = some (.slice none 0 0)) ∧
      (W'.cell? ⟨w.heap.size + 1 + 1, 0, none⟩ = some (.int .u8 1) ∧ W'.cell? ⟨w.heap.size + 1 + 1, 1, none⟩ = some (.int .i64 1) ∧ W'.cell? ⟨w.heap.size + 1 + 1, 2, none⟩ = some (.string ⟨#[]⟩) ∧ W'.cell? ⟨w.heap.size + 1 + 1, 3, none⟩ = some (.slice none 0 0)) := fun W' hb => by
    have x5 := HK5.out.below hb HK5.out.lt; have xa := HKA.out.below hb HKA.out.lt; have xy := HKY.out.below hb HKY.out.lt
    refine ⟨⟨?_, ?_, ?_, ?_⟩, ⟨?_, ?_, ?_, ?_⟩, ⟨?_, ?_, ?_, ?_⟩⟩ <;> first | (rw [x5.cell]; rfl) | (rw [xa.cell]; rfl) | (rw [xy.cell]; rfl)
  have HST := Lib.hid hst
  obtain ⟨⟨p0, p1, p2, p3⟩, ⟨q0, q1, q2, q3⟩, ⟨r0, r1, r2, r3⟩⟩ := hst W1 (Below.refl _ _)
  rw [hW1] at p0 p1 p2 p3 q0 q1 q2 q3 r0 r1 r2 r3
  clear hb1 hs1 k5 ka ky htab hst hW1
  go_enter Tryd.func7, Tryd.ntmps7
  go_wp2_with fail
  rw [← HW1.out]
  refine (new_c W1).mono ?_
  rintro e w2 ⟨rfl, ht, hb⟩
  have HB2 := Lib.hid hb
  have hT : TabR (fun b => W1.heap.size ≤ b) [] w2 W1.heap.size := ht.mono fun x _ h => Nat.le_of_eq h.symm
  have HT2 := Lib.hid hT
  clear ht hT hb p0 p1 p2 p3 q0 q1 q2 q3 r0 r1 r2 r3
  obtain ⟨⟨p0, p1, p2, p3⟩, ⟨q0, q1, q2, q3⟩, ⟨r0, r1, r2, r3⟩⟩ := HST.out w2 HB2.out
  go_wp2_with fail
  refine (putv_c _ [] W1.heap.size v5 _ w2 HT2.out (lies5 _ w2) (by decide) (fun _ => ex_tx v5 (by simp)) (fun _ => sl5) ((HTAB.out.below (HB1.out.trans (HB2.out.mono HB1.out.size))).more (Nat.le_trans HB1.out.size HB2.out.size))).mono ?_
  rintro e w3 ⟨h12, hk⟩
  rcases h12 with ⟨h0, rfl, ht⟩ | ⟨h0, _, _⟩
  rotate_left
  · exact absurd ck5 h0
  have HB3 := Lib.hid (HB2.out.trans (keep_N hk HB2.out.size))
  have hT : TabR (fun b => W1.heap.size ≤ b) (putL [] v5) w3 W1.heap.size := ht.mono fun x _ h => by
    rcases h with h | h
    · exact h
    · exact Nat.le_trans HB2.out.size h
  rw [ex_put1.2] at hT
  rw [ex_put1.1]
  have HT3 := Lib.hid hT
  clear ht hT hk h0
  clear p0 p1 p2 p3 q0 q1 q2 q3 r0 r1 r2 r3
  obtain ⟨⟨p0, p1, p2, p3⟩, ⟨q0, q1, q2, q3⟩, ⟨r0, r1, r2, r3⟩⟩ := HST.out w3 HB3.out
  go_wp2_with fail
  refine (putv_c _ [v5] W1.heap.size va _ w3 HT3.out (liesa _ w3) (by decide) (fun _ => ex_tx va (by simp)) (fun _ => sla) ((HTAB.out.below (HB1.out.trans (HB3.out.mono HB1.out.size))).more (Nat.le_trans HB1.out.size HB3.out.size))).mono ?_
  rintro e w4 ⟨h12, hk⟩
  rcases h12 with ⟨h0, rfl, ht⟩ | ⟨h0, _, _⟩
  rotate_left
  · exact absurd cka h0
  have HB4 := Lib.hid (HB3.out.trans (keep_N hk HB3.out.size))
  have hT : TabR (fun b => W1.heap.size ≤ b) (putL [v5] va) w4 W1.heap.size := ht.mono fun x _ h => by
    rcases h with h | h
    · exact h
    · exact Nat.le_trans HB3.out.size h
  rw [ex_put2.2] at hT
  rw [ex_put2.1]
  have HT4 := Lib.hid hT
  clear ht hT hk h0
  clear p0 p1 p2 p3 q0 q1 q2 q3 r0 r1 r2 r3
  obtain ⟨⟨p0, p1, p2, p3⟩, ⟨q0, q1, q2, q3⟩, ⟨r0, r1, r2, r3⟩⟩ := HST.out w4 HB4.out
  go_wp2_with fail
  refine (putv_c _ [v5, va] W1.heap.size v5 _ w4 HT4.out (lies5 _ w4) (by decide) (fun _ => ex_tx v5 (by simp)) (fun _ => sl5) ((HTAB.out.below (HB1.out.trans (HB4.out.mono HB1.out.size))).more (Nat.le_trans HB1.out.size HB4.out.size))).mono ?_
  rintro e w5 ⟨h12, hk⟩
  rcases h12 with ⟨h0, rfl, ht⟩ | ⟨h0, _, _⟩
  rotate_left
  · exact absurd ck5 h0
  have HB5 := Lib.hid (HB4.out.trans (keep_N hk HB4.out.size))
  have hT : TabR (fun b => W1.heap.size ≤ b) (putL [v5, va] v5) w5 W1.heap.size := ht.mono fun x _ h => by
    rcases h with h | h
    · exact h
    · exact Nat.le_trans HB4.out.size h
  rw [ex_put3.2] at hT
  rw [ex_put3.1]
  have HT5 := Lib.hid hT
  clear ht hT hk h0
  clear p0 p1 p2 p3 q0 q1 q2 q3 r0 r1 r2 r3
  obtain ⟨⟨p0, p1, p2, p3⟩, ⟨q0, q1, q2, q3⟩, ⟨r0, r1, r2, r3⟩⟩ := HST.out w5 HB5.out
  go_wp2_with fail
  obtain ⟨W6, hW6⟩ : ∃ W, W = w5.alloc (.cells (vcells [ua, uy, u5]).toArray 42) := ⟨_, rfl⟩
  have hb6 : Below w5.heap.size w5 W6 := hW6 ▸ (Below.refl _ _).alloc (Nat.le_refl _) _
  have hs6 : W6.heap.size = w5.heap.size + 1 := by rw [hW6]; simp
  have hbk6 : Blk W6 w5.heap.size 42 (vcells [ua, uy, u5]).toArray := hW6 ▸ Blk.new _ _ _
  have hT6 : TabR (fun b => W1.heap.size ≤ b ∧ b < w5.heap.size) [v5, va] W6 W1.heap.size := HT5.out.trim.below hb6
  have hrow : ∀ w', Keep (fun b => W1.heap.size ≤ b ∧ b < w5.heap.size) W6 w' → RRep w' W6.heap.size [va, vy, v5] (some ⟨w5.heap.size, 0, none⟩) 3 := fun w' hk => by
    refine row_blk (us := [ua, uy, u5]) rfl (fun u hu => ?_) ((hk.block _ (by omega) (by omega)).trans hbk6) (by omega) (by decide) (fun j h1 h2 => ?_)
    · simp at hu
      rcases hu with rfl | rfl | rfl <;> exact ⟨_, _, _, _, rfl⟩
    · match j, h1 with
      | 0, _ => exact (liesa (fun _ => False) W6) w' fun _ h _ => h.elim
      | 1, _ => exact (liesy (fun _ => False) W6) w' fun _ h _ => h.elim
      | 2, _ => exact (lies5 (fun _ => False) W6) w' fun _ h _ => h.elim
  have hput := putrow_c _ [v5, va] W1.heap.size [va, vy, v5] (some ⟨w5.heap.size, 0, none⟩) 3 W6 hT6 (hrow W6 (Keep.refl _ _)) hrow (by decide) (fun t ht _ => ex_tx t (by simp at ht ⊢; rcases ht with rfl | rfl | rfl <;> simp)) (fun t ht _ => by simp at ht; rcases ht with rfl | rfl | rfl; exact sla; exact sly; exact sl5) ((HTAB.out.below (HB1.out.trans ((HB5.out.trans (hb6.mono HB5.out.size)).mono HB1.out.size))).more (Nat.le_trans HB1.out.size (Nat.le_trans HB5.out.size hb6.size)))
  have HPUT := Lib.hid hput
  have HB6 := Lib.hid (HB5.out.trans (hb6.mono HB5.out.size)); have HS6 := Lib.hid hs6
  rw [hW6] at HPUT
  clear hput hrow hT6 hbk6 hb6 hs6
  refine HPUT.out.mono ?_
  rintro e w7 ⟨h13, hk7⟩
  rw [← hW6] at hk7 h13
  rcases h13 with ⟨h0, gn, rfl, hn7, hgn, ht7⟩ | ⟨h0, _, _⟩
  rotate_left
  · exact absurd ex_err h0
  rw [ex_puts] at ht7
  have HB7 := Lib.hid (HB6.out.trans (hk7.below (B := W1.heap.size) (fun x hx hn => by omega) HB6.out.size))
  have hN7 : IRep w7 w7.heap.size [1, 2, 0] (some ⟨gn, 0, none⟩) 3 := by
    refine ⟨by decide, by decide, by decide, fun j hj => ⟨gn, 0, rfl, hn7.lt, ?_⟩⟩
    rw [Nat.zero_add]
    have h3 : ([1, 2, 0] : List Int).length = 3 := rfl
    match j, hj with
    | 0, _ => have := hn7.cell (j := 0) (by decide) (by decide); rw [ex_nums.1] at this; exact this
    | 1, _ => have := hn7.cell (j := 1) (by decide) (by decide); rw [ex_nums.2.1] at this; exact this
    | 2, _ => have := hn7.cell (j := 2) (by decide) (by decide); rw [ex_nums.2.2] at this; exact this
  have HN7 := Lib.hid hN7; have HT7 := Lib.hid ht7
  clear h0 hn7 hgn ht7 hk7 hN7 HPUT hW6
  clear p0 p1 p2 p3 q0 q1 q2 q3 r0 r1 r2 r3
  obtain ⟨⟨p0, p1, p2, p3⟩, ⟨q0, q1, q2, q3⟩, ⟨r0, r1, r2, r3⟩⟩ := HST.out w7 HB7.out
  go_wp2_with fail
  refine (at_c _ [v5, va, vy] W1.heap.size 2 w7 HT7.out (by decide) (by decide)).mono ?_
  rintro e w8 ⟨h14, hb8⟩
  rcases h14 with ⟨t, u, hat, _, rfl, hv⟩ | ⟨hat, _⟩
  rotate_left
  · rw [ex_at2] at hat; cases hat
  rw [ex_at2] at hat
  injection hat with hat
  subst hat
  obtain ⟨k, n, s, l, A, c, hvy, rfl, _, _, _, _⟩ := hv.open_
  obtain ⟨rfl, rfl, rfl, rfl⟩ : k = 1 ∧ n = 1 ∧ s = ⟨#[]⟩ ∧ l = [] := by unfold vy at hvy; cases hvy; exact ⟨rfl, rfl, rfl, rfl⟩
  obtain ⟨W8, hW8⟩ : ∃ W, W = w8.alloc (.cells #[.int .u8 1, .int .i64 1, .string ⟨#[]⟩, .slice A 0 c] 42) := ⟨_, rfl⟩
  have hb9 : Below w8.heap.size w8 W8 := hW8 ▸ (Below.refl _ _).alloc (Nat.le_refl _) _
  have hbv : Blk W8 w8.heap.size 42 #[.int .u8 1, .int .i64 1, .string ⟨#[]⟩, .slice A 0 c] := hW8 ▸ Blk.new _ _ _
  have hv9 := (hv.under hb9).more hb9.size
  have hb79 := hb8.trans (hb9.mono hb8.size)
  have HB8 := Lib.hid (HB7.out.trans (hb79.mono HB7.out.size)); have HT8 := Lib.hid (HT7.out.below hb79); have HN8 := Lib.hid ((HN7.out.keep hb79).2.2.2)
  have HV8 := Lib.hid hv9; have HBV := Lib.hid hbv; have H79 := Lib.hid hb79; have HW8 := Lib.hid hW8
  clear hvy hv hb8 hb9 hbv hv9 hb79 hW8
  clear p0 p1 p2 p3 q0 q1 q2 q3 r0 r1 r2 r3
  obtain ⟨⟨p0, p1, p2, p3⟩, ⟨q0, q1, q2, q3⟩, ⟨r0, r1, r2, r3⟩⟩ := HST.out W8 HB8.out
  rw [HW8.out] at p0 p1 p2 p3 q0 q1 q2 q3 r0 r1 r2 r3
  go_wp2_with fail
  rw [← HW8.out]
  refine (at_c _ [v5, va, vy] W1.heap.size 3 W8 HT8.out (by decide) (by decide)).mono ?_
  rintro e w9 ⟨h14, hb9⟩
  rcases h14 with ⟨t, u, hat, _⟩ | ⟨hat, rfl⟩
  · rw [ex_at3] at hat; cases hat
  clear hat
  obtain ⟨W9, hW9⟩ : ∃ W, W = w9.alloc (.cells #[.int .u8 0, .int .i64 0, .string ⟨#[]⟩, .slice none 0 0] 42) := ⟨_, rfl⟩
  have hba : Below w9.heap.size w9 W9 := hW9 ▸ (Below.refl _ _).alloc (Nat.le_refl _) _
  have hb89 := hb9.trans (hba.mono hb9.size)
  obtain ⟨W10, hW10⟩ : ∃ W, W = W9.alloc (.cells #[.int .i64 1, .int .i64 2, .int .i64 0] 3) := ⟨_, rfl⟩
  have hbb : Below W9.heap.size W9 W10 := hW10 ▸ (Below.refl _ _).alloc (Nat.le_refl _) _
  have hb810 := hb89.trans (hbb.mono hb89.size)
  have HB10 := Lib.hid (HB8.out.trans (hb810.mono HB8.out.size)); have HT10 := Lib.hid (HT8.out.below hb810)
  have hn10 : IRep W10 W10.heap.size [1, 2, 0] (some ⟨gn, 0, none⟩) 3 := by
    have h1 := HN7.out.keep (H79.out.trans (hb810.mono H79.out.size))
    refine ⟨h1.1, h1.2.1, h1.2.2.1, fun j hj => ?_⟩
    obtain ⟨b, off, e1, e2, e3⟩ := h1.2.2.2 j hj
    exact ⟨b, off, e1, Nat.lt_of_lt_of_le e2 (Nat.le_trans H79.out.size hb810.size), e3⟩
  have hm10 : IRep W10 W10.heap.size [1, 2, 0] (some ⟨W9.heap.size, 0, none⟩) 3 := by
    have hbk : Blk W10 W9.heap.size 3 #[.int .i64 1, .int .i64 2, .int .i64 0] := hW10 ▸ Blk.new _ _ _
    refine ⟨by decide, by decide, by decide, fun j hj => ⟨_, 0, rfl, hbk.lt, ?_⟩⟩
    rw [Nat.zero_add, hbk.cell]
    match j, hj with
    | 0, _ => rfl
    | 1, _ => rfl
    | 2, _ => rfl
  have hbv10 := HBV.out.below hb810 HBV.out.lt
  have hv10 := (HV8.out.under hb810).more hb810.size
  have HI := Lib.hid ((ints_c [1, 2, 0] [1, 2, 0] _ _ _ _ W10 hn10 hm10).mono fun e w' h => And.intro (h.1.yes rfl) h.2)
  have HBV10 := Lib.hid hbv10; have HV10 := Lib.hid hv10; have H810 := Lib.hid hb810; have HS9 : Hid (W9.heap.size = w9.heap.size + 1) := Lib.hid (by rw [hW9]; simp)
  have HW9 := Lib.hid hW9; have HW10 := Lib.hid hW10
  clear hb9 hba hb89 hbb hb810 hn10 hm10 hbv10 hv10 p0 p1 p2 p3 q0 q1 q2 q3 r0 r1 r2 r3
  obtain ⟨⟨p0, p1, p2, p3⟩, ⟨q0, q1, q2, q3⟩, ⟨r0, r1, r2, r3⟩⟩ := HST.out W10 HB10.out
  rw [hW10, hW9] at p0 p1 p2 p3 q0 q1 q2 q3 r0 r1 r2 r3
  clear hW9 hW10
  go_wp2_with fail
  rw [← HW9.out, ← HW10.out, ← HS9.out]
  refine HI.out.mono ?_
  rintro e w11 ⟨rfl, hb11⟩
  have HB11 := Lib.hid (HB10.out.trans (hb11.mono HB10.out.size)); have HT11 := Lib.hid (HT10.out.below hb11)
  have hx := HBV10.out.below hb11 HBV10.out.lt
  have HSM := Lib.hid (((same_c vy) vy _ uy w11 ((HV10.out.under hb11).more hb11.size) (((liesy (fun _ => False) w11).rep))).mono fun e w' h => And.intro (h.1.yes rfl) h.2)
  have x0 := hx.cell 0; have x1 := hx.cell 1; have x2 := hx.cell 2; have x3 := hx.cell 3
  simp at x0 x1 x2 x3
  clear hb11 hx p0 p1 p2 p3 q0 q1 q2 q3 r0 r1 r2 r3
  obtain ⟨_, _, ⟨r0, r1, r2, r3⟩⟩ := HST.out w11 HB11.out
  go_wp2_with fail
  refine HSM.out.mono ?_
  rintro e w12 ⟨rfl, hb12⟩
  have HB12 := Lib.hid (HB11.out.trans (hb12.mono HB11.out.size)); have HT12 := Lib.hid (HT11.out.below hb12)
  clear hb12 x0 x1 x2 x3 r0 r1 r2 r3
  go_wp2_with fail
  refine (len_c _ [v5, va, vy] W1.heap.size w12 HT12.out).mono ?_
  rintro e w13 ⟨rfl, rfl⟩
  go_wp2_with fail
  go_ret
  exact ⟨rfl, HB1.out.trans (HB12.out.mono HB1.out.size)⟩
end Go.Proofs.YtibpebhepoeikaaDoor
