/- Package value: Check. -/
import Derived.Test.YtibpebhepoeikaaDoorVk
namespace Go.Proofs.YtibpebhepoeikaaDoor
open Go.RowKit Vp
open Go

theorem texts_ok : TextsOk Pl.chk maxLen := ⟨fun s w h => big_check s w h, fun s w h => isCons_c s w h⟩
theorem empty_size (s : ByteArray) : s.toList.isEmpty = decide (s.size = 0) := by
  by_cases h0 : 0 < s.size
  · rw [show s.toList.isEmpty = false by simpa using vtoList_ne h0]; simp; intro h; rw [h] at h0; exact absurd h0 (by decide)
  · rw [show s.toList.isEmpty = true by simpa using vtoList_nil h0]; simp; exact ByteArray.size_eq_zero_iff.1 (by omega)
theorem empty_len (l : List V) : l.isEmpty = decide (l.length = 0) := by cases l <;> simp

set_option maxHeartbeats 2000000 in
theorem bad1_c (n : Int) (s : ByteArray) (l : List V) (A : Option Addr) (c : Nat) (w : World) (hs : s.size ≤ maxLen) :
    Calls Tryd.prog 33 #[.agg #[.int .u8 1, .int .i64 n, .string s, .slice A l.length c]] w fun e w' => e = .returned (.bool (decide (n ≠ 0) && decide (n ≠ 1) || !s.toList.isEmpty || decide (0 < l.length))) ∧ Below w.heap.size w w' := by
  have hB : Below w.heap.size w (w.alloc (.cells #[.int .u8 1, .int .i64 n, .string s, .slice A l.length c] 42)) := (Below.refl _ _).alloc (Nat.le_refl _) _
  have HB := Lib.hid hB; have HC := Lib.hid (fun W => big_check s W hs); have HN := Lib.hid (fun W => isCons_c s W hs)
  clear hB hs
  go_enter Tryd.func33, Tryd.ntmps33
  go_upto_region 1 with fail
  go_region
  all_goals
    go_wp2_with fail
    all_goals
      go_ret
      refine ⟨?_, ?_⟩
      · show Ending.returned (Value.bool _) = Ending.returned (Value.bool _)
        congr 1
        simp_all
      · first | exact HB.out.drew | exact HB.out.drew.trans (HB1.out.mono HB.out.drew.size) | (simp_all; exact HB.out.drew)

set_option maxHeartbeats 2000000 in
theorem bad2_c (n : Int) (s : ByteArray) (l : List V) (A : Option Addr) (c : Nat) (w : World) (hs : s.size ≤ maxLen) :
    Calls Tryd.prog 33 #[.agg #[.int .u8 2, .int .i64 n, .string s, .slice A l.length c]] w fun e w' => e = .returned (.bool (!s.toList.isEmpty || decide (0 < l.length))) ∧ Below w.heap.size w w' := by
  have hB : Below w.heap.size w (w.alloc (.cells #[.int .u8 2, .int .i64 n, .string s, .slice A l.length c] 42)) := (Below.refl _ _).alloc (Nat.le_refl _) _
  have HB := Lib.hid hB; have HC := Lib.hid (fun W => big_check s W hs); have HN := Lib.hid (fun W => isCons_c s W hs)
  clear hB hs
  go_enter Tryd.func33, Tryd.ntmps33
  go_upto_region 1 with fail
  go_region
  all_goals
    go_wp2_with fail
    all_goals
      go_ret
      refine ⟨?_, ?_⟩
      · show Ending.returned (Value.bool _) = Ending.returned (Value.bool _)
        congr 1
        simp_all
      · first | exact HB.out.drew | exact HB.out.drew.trans (HB1.out.mono HB.out.drew.size) | (simp_all; exact HB.out.drew)

set_option maxHeartbeats 2000000 in
theorem bad4_c (n : Int) (s : ByteArray) (l : List V) (A : Option Addr) (c : Nat) (w : World) (hs : s.size ≤ maxLen) :
    Calls Tryd.prog 33 #[.agg #[.int .u8 4, .int .i64 n, .string s, .slice A l.length c]] w fun e w' => e = .returned (.bool (decide (n ≠ 0) || decide (0 < l.length))) ∧ Below w.heap.size w w' := by
  have hB : Below w.heap.size w (w.alloc (.cells #[.int .u8 4, .int .i64 n, .string s, .slice A l.length c] 42)) := (Below.refl _ _).alloc (Nat.le_refl _) _
  have HB := Lib.hid hB; have HC := Lib.hid (fun W => big_check s W hs); have HN := Lib.hid (fun W => isCons_c s W hs)
  clear hB hs
  go_enter Tryd.func33, Tryd.ntmps33
  go_upto_region 1 with fail
  go_region
  all_goals
    go_wp2_with fail
    all_goals
      go_ret
      refine ⟨?_, ?_⟩
      · show Ending.returned (Value.bool _) = Ending.returned (Value.bool _)
        congr 1
        simp_all
      · first | exact HB.out.drew | exact HB.out.drew.trans (HB1.out.mono HB.out.drew.size) | (simp_all; exact HB.out.drew)

set_option maxHeartbeats 2000000 in
theorem bad3_c (n : Int) (s : ByteArray) (l : List V) (A : Option Addr) (c : Nat) (w : World) (hs : s.size ≤ maxLen) :
    Calls Tryd.prog 33 #[.agg #[.int .u8 3, .int .i64 n, .string s, .slice A l.length c]] w fun e w' => e = .returned (.bool (decide (n ≠ 0) || decide (0 < l.length) || decide (Pl.chk s.data.toList = 4))) ∧ Below w.heap.size w w' := by
  have hB : Below w.heap.size w (w.alloc (.cells #[.int .u8 3, .int .i64 n, .string s, .slice A l.length c] 42)) := (Below.refl _ _).alloc (Nat.le_refl _) _
  have HB := Lib.hid hB; have HC := Lib.hid (fun W => big_check s W hs); have HN := Lib.hid (fun W => isCons_c s W hs)
  clear hB hs
  by_cases hn : n = 0
  · by_cases hl : 0 < l.length
    · rw [decide_eq_true hl, Bool.or_true, Bool.true_or]
      subst hn
      go_enter Tryd.func33, Tryd.ntmps33
      go_upto_region 1 with fail
      go_region
      all_goals
        go_wp2_with fail
        all_goals
          go_ret
          exact ⟨by first | rfl | (simp; done) | simp_all, HB.out.drew⟩
    · have hl' : l.length = 0 := by omega
      subst hn
      rw [decide_eq_false hl]
      clear hl
      generalize l.length = m at *
      subst hl'
      generalize Pl.chk s.data.toList = q at HC ⊢
      go_enter Tryd.func33, Tryd.ntmps33
      go_upto_region 1 with fail
      go_region
      all_goals
        go_wp2_with (go_at_call 40; refine (HC.out _).mono ?_; rintro e w1 ⟨rfl, hb1⟩; have HB1 := Lib.hid (HB.out.drew.trans (hb1.mono HB.out.drew.size)); clear hb1)
        all_goals
          go_ret
          exact ⟨by first | rfl | (simp; done) | simp_all, HB1.out⟩
  · rw [decide_eq_true (show n ≠ 0 from hn), Bool.true_or, Bool.true_or]
    go_enter Tryd.func33, Tryd.ntmps33
    go_upto_region 1 with fail
    go_region
    all_goals
      go_wp2_with fail
      all_goals
        go_ret
        exact ⟨by first | rfl | (simp; done) | simp_all, HB.out.drew⟩
set_option maxHeartbeats 2000000 in
theorem bad5_c (n : Int) (s : ByteArray) (l : List V) (A : Option Addr) (c : Nat) (w : World) (hs : s.size ≤ maxLen) :
    Calls Tryd.prog 33 #[.agg #[.int .u8 5, .int .i64 n, .string s, .slice A l.length c]] w fun e w' => e = .returned (.bool (decide (n ≠ 0) || !s.toList.isEmpty || decide (l.length = 1))) ∧ Below w.heap.size w w' := by
  have hB : Below w.heap.size w (w.alloc (.cells #[.int .u8 5, .int .i64 n, .string s, .slice A l.length c] 42)) := (Below.refl _ _).alloc (Nat.le_refl _) _
  have HB := Lib.hid hB; have HC := Lib.hid (fun W => big_check s W hs); have HN := Lib.hid (fun W => isCons_c s W hs)
  clear hB hs
  by_cases hn : n = 0
  · cases hse : s.toList.isEmpty with
    | false =>
      subst hn
      go_enter Tryd.func33, Tryd.ntmps33
      go_upto_region 1 with fail
      go_region
      all_goals
        go_wp2_with fail
        all_goals
          go_ret
          exact ⟨by first | rfl | (simp; done) | simp_all, HB.out.drew⟩
    | true =>
      subst hn
      generalize l.length = m at *
      have hq : ((m : Int) == 1) = decide (m = 1) := by by_cases h : m = 1 <;> simp [h]; omega
      have HQ := Lib.hid hq
      clear hq
      go_enter Tryd.func33, Tryd.ntmps33
      go_upto_region 1 with fail
      go_region
      all_goals
        go_wp2_with fail
        all_goals
          go_ret
          exact ⟨by first | rfl | (simp; exact HQ.out), HB.out.drew⟩
  · rw [decide_eq_true (show n ≠ 0 from hn), Bool.true_or, Bool.true_or]
    go_enter Tryd.func33, Tryd.ntmps33
    go_upto_region 1 with fail
    go_region
    all_goals
      go_wp2_with fail
      all_goals
        go_ret
        exact ⟨by first | rfl | (simp; done) | simp_all, HB.out.drew⟩
set_option maxHeartbeats 2000000 in
theorem bad6_c (n : Int) (s : ByteArray) (l : List V) (A : Option Addr) (c : Nat) (w : World) (hs : s.size ≤ maxLen) :
    Calls Tryd.prog 33 #[.agg #[.int .u8 6, .int .i64 n, .string s, .slice A l.length c]] w fun e w' => e = .returned (.bool (decide (n ≠ 0) || !cons s.data.toList)) ∧ Below w.heap.size w w' := by
  have hB : Below w.heap.size w (w.alloc (.cells #[.int .u8 6, .int .i64 n, .string s, .slice A l.length c] 42)) := (Below.refl _ _).alloc (Nat.le_refl _) _
  have HB := Lib.hid hB; have HC := Lib.hid (fun W => big_check s W hs); have HN := Lib.hid (fun W => isCons_c s W hs)
  clear hB hs
  by_cases hn : n = 0
  · subst hn
    generalize cons s.data.toList = q at HN ⊢
    go_enter Tryd.func33, Tryd.ntmps33
    go_upto_region 1 with fail
    go_region
    all_goals
      go_wp2_with (go_at_call 41; refine (HN.out _).mono ?_; rintro e w1 ⟨rfl, hb1⟩; have HB1 := Lib.hid (HB.out.drew.trans (hb1.mono HB.out.drew.size)); clear hb1)
      all_goals
        go_ret
        exact ⟨by first | rfl | (simp; done) | simp_all, HB1.out⟩
  · rw [decide_eq_true (show n ≠ 0 from hn), Bool.true_or]
    go_enter Tryd.func33, Tryd.ntmps33
    go_upto_region 1 with fail
    go_region
    all_goals
      go_wp2_with fail
      all_goals
        go_ret
        exact ⟨by first | rfl | (simp; done) | simp_all, HB.out.drew⟩
set_option maxHeartbeats 2000000 in
theorem bad0_c (k : Nat) (h1 : k ≠ 1 ∧ k ≠ 2 ∧ k ≠ 3 ∧ k ≠ 4 ∧ k ≠ 5 ∧ k ≠ 6) (n : Int) (s : ByteArray) (l : List V) (A : Option Addr) (c : Nat) (w : World) :
    Calls Tryd.prog 33 #[.agg #[.int .u8 (k : Int), .int .i64 n, .string s, .slice A l.length c]] w fun e w' => e = .returned (.bool true) ∧ Below w.heap.size w w' := by
  have hB : Below w.heap.size w (w.alloc (.cells #[.int .u8 (k : Int), .int .i64 n, .string s, .slice A l.length c] 42)) := (Below.refl _ _).alloc (Nat.le_refl _) _
  have HB := Lib.hid hB
  clear hB
  have e1 : ¬ (k : Int) = 1 := by omega
  have e2 : ¬ (k : Int) = 2 := by omega
  have e3 : ¬ (k : Int) = 3 := by omega
  have e4 : ¬ (k : Int) = 4 := by omega
  have e5 : ¬ (k : Int) = 5 := by omega
  have e6 : ¬ (k : Int) = 6 := by omega
  clear h1
  generalize (k : Int) = q at *
  go_enter Tryd.func33, Tryd.ntmps33
  go_upto_region 1 with fail
  go_region
  all_goals
    go_wp2_with fail
    all_goals
      go_ret
      exact ⟨by first | rfl | (simp; done) | simp_all, HB.out.drew⟩
theorem bad_c (t : V) (u : Value) (w : World) (h : VRep w w.heap.size t u) :
    Calls Tryd.prog 33 #[u] w fun e w' => e = .returned (.bool (bad Pl.chk t)) ∧ Below w.heap.size w w' := by
  obtain ⟨k, n, s, l, A, c, rfl, rfl, hk, hn, hs, hR⟩ := h.open_
  have a1 := empty_size s
  have a2 : decide (0 < l.length) = !l.isEmpty := by cases l <;> simp
  have a3 : (!s.toList.isEmpty) = decide (s.size ≠ 0) := by rw [a1]; by_cases h : s.size = 0 <;> simp [h]
  have hcases : k = 1 ∨ k = 2 ∨ k = 3 ∨ k = 4 ∨ k = 5 ∨ k = 6 ∨ (k ≠ 1 ∧ k ≠ 2 ∧ k ≠ 3 ∧ k ≠ 4 ∧ k ≠ 5 ∧ k ≠ 6) := by omega
  rcases hcases with rfl | rfl | rfl | rfl | rfl | rfl | hne
  · have := bad1_c n s l A c w hs; rw [a2, a3] at this; exact this
  · have := bad2_c n s l A c w hs; rw [a2, a3] at this; exact this
  · have := bad3_c n s l A c w hs; rw [a2] at this; exact this
  · have := bad4_c n s l A c w hs; rw [a2] at this; exact this
  · have := bad5_c n s l A c w hs; rw [a3] at this; exact this
  · have := bad6_c n s l A c w hs; exact this
  · have hres : bad Pl.chk (.mk k n s l) = true := by
      unfold bad; split <;> simp_all
    rw [hres]
    exact bad0_c k hne n s l A c w

/-- What Check tells. -/
def chkV (t : V) : Int := if deeper 64 t then 65 else if some_ (bad Pl.chk) t then 4 else if some_ (long Pl.chk) t then 40 else 0
theorem none_some : ∀ t : V, some_ (fun _ => false) t = false := by
  intro t
  induction t using V.ind with
  | h k n s l ih =>
    rw [some_eq, Bool.false_or, List.any_eq_false]
    intro x hx
    rw [ih x hx]; simp
set_option maxHeartbeats 1000000 in
theorem check_c (t : V) (u : Value) (w : World) (h : VRep w w.heap.size t u) :
    Calls Tryd.prog 18 #[u] w fun e w' => e = .returned (.int .i64 (chkV t)) ∧ Below w.heap.size w w' := by
  obtain ⟨k, n, s, l, A, c, rfl, rfl, hk, hn, hs, hR⟩ := h.open_
  obtain ⟨W, hW⟩ : ∃ W, W = w.alloc (.cells #[.int .u8 (k : Int), .int .i64 n, .string s, .slice A l.length c] 42) := ⟨_, rfl⟩
  have hB : Below w.heap.size w W := by rw [hW]; exact (Below.refl _ _).alloc (Nat.le_refl _) _
  have hcell : ∀ W', Below W.heap.size W W' → ∀ i, W'.cell? ⟨w.heap.size, i, none⟩ = (#[.int .u8 (k : Int), .int .i64 n, .string s, .slice A l.length c] : Array Value)[i]? := by
    intro W' hb i
    rw [hb.cell (p := ⟨w.heap.size, i, none⟩) (by rw [hW]; simp)]
    rw [hW]; simp
  have hD := fun W' (hb : Below W.heap.size W W') => deeper_c 64 _ _ W' (by decide) ((h.under (hB.trans (hb.mono hB.size))).more (hB.trans (hb.mono hB.size)).size)
  have hM := fun W' (hb : Below W.heap.size W W') => somewhere_c 33 (bad Pl.chk) (fun _ => false) (enters_of Tryd.func33 (by kernel_rfl) rfl) (fun t u w _ h => bad_c t u w h) _ (none_some _) _ W' ((h.under (hB.trans (hb.mono hB.size))).more (hB.trans (hb.mono hB.size)).size)
  have hL := fun W' (hb : Below W.heap.size W W') => somewhere_c 34 (long Pl.chk) (fun _ => false) (enters_of Tryd.func34 (by kernel_rfl) rfl) (fun t u w _ h => long_c Pl.chk maxLen texts_ok t u w h) _ (none_some _) _ W' ((h.under (hB.trans (hb.mono hB.size))).more (hB.trans (hb.mono hB.size)).size)
  have hres : chkV (.mk k n s l) = if deeper 64 (.mk k n s l) then 65 else if some_ (bad Pl.chk) (.mk k n s l) then 4 else if some_ (long Pl.chk) (.mk k n s l) then 40 else 0 := rfl
  rw [hres]
  have HB := Lib.hid hB; have HD := Lib.hid hD; have HM := Lib.hid hM; have HL := Lib.hid hL; have HCELL := Lib.hid hcell; have HW := Lib.hid hW
  clear hD hM hL hres hR h hcell hB hW
  generalize deeper 64 (.mk k n s l) = q1 at HD ⊢
  generalize some_ (bad Pl.chk) (.mk k n s l) = q2 at HM ⊢
  generalize some_ (long Pl.chk) (.mk k n s l) = q3 at HL ⊢
  go_enter Tryd.func18, Tryd.ntmps18
  go_upto_region 1 with fail
  rw [← HW.out]
  have c := HCELL.out W (Below.refl _ _)
  have c0 := c 0; have c1 := c 1; have c2 := c 2; have c3 := c 3
  simp at c0 c1 c2 c3
  clear c
  go_wp2_with fail
  refine (HD.out W (Below.refl _ _)).mono ?_
  rintro e w1 ⟨rfl, hb1⟩
  have HB1 := Lib.hid hb1
  clear c0 c1 c2 c3
  have c := HCELL.out w1 hb1
  have c0 := c 0; have c1 := c 1; have c2 := c 2; have c3 := c 3
  simp at c0 c1 c2 c3
  clear c hb1
  cases q1 with
  | true =>
    go_wp2_with fail
    go_ret
    exact ⟨rfl, HB.out.trans (HB1.out.mono HB.out.size)⟩
  | false =>
    go_wp2_with fail
    refine (HM.out w1 HB1.out).mono ?_
    rintro e w2 ⟨rfl, hb2⟩
    have hb2 := HB1.out.trans (hb2.mono HB1.out.size)
    have HB2 := Lib.hid hb2
    clear c0 c1 c2 c3
    have c := HCELL.out w2 hb2
    have c0 := c 0; have c1 := c 1; have c2 := c 2; have c3 := c 3
    simp at c0 c1 c2 c3
    clear c hb2
    cases q2 with
    | true =>
      go_wp2_with fail
      go_ret
      exact ⟨rfl, HB.out.trans (HB2.out.mono HB.out.size)⟩
    | false =>
      go_wp2_with fail
      refine (HL.out w2 HB2.out).mono ?_
      rintro e w3 ⟨rfl, hb3⟩
      have HB3 := Lib.hid (HB2.out.trans (hb3.mono HB2.out.size))
      clear c0 c1 c2 c3 hb3
      cases q3 <;>
      · go_wp2_with fail
        go_ret
        exact ⟨rfl, HB.out.trans (HB3.out.mono HB.out.size)⟩
end Go.Proofs.YtibpebhepoeikaaDoor
