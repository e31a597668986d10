/- The law on orders: its walk. -/
import Derived.Test.YtcclclginhhlaaaDoorBigL
import Derived.Test.YtcclclginhhlaaaDoorChecksW
namespace Go.Proofs.YtcclclginhhlaaaDoor
open Go.RowKit
open Pl Dig

theorem text_num (z : Int) (v : Value) (w : World) (h : NumIs w z v) (hl : (dg 10 z.natAbs).length ≤ 200) :
    Calls Tryd.prog 28 #[v] w fun e w' => e = .returned (.tuple #[.string ⟨(txt z).toArray⟩, .int .i64 0]) ∧ Below w.heap.size w w' := by
  obtain ⟨A, c, rfl, h1, h2, h3⟩ := h
  have hs : sgn (decide (z < 0)) (vl 10 (dg 10 z.natAbs)) = z := by
    rw [dg_vl (by decide)]
    unfold sgn
    by_cases h : z < 0
    · rw [decide_eq_true h]; simp; omega
    · rw [decide_eq_false h]; simp; omega
  have ho : txtOut z = (txt z, 0) := by unfold txtOut; rw [if_pos hl]
  refine (text_any (decide (z < 0)) A c (dg 10 z.natAbs) w h3 h1 h2 (dg_lt (by decide) _) (by omega)).mono ?_
  rw [hs, ho]
  rintro e w' ⟨rfl, hB⟩
  exact ⟨rfl, hB⟩

theorem ref_chk2 (s : ByteArray) (w : World) (hs : s.size ≤ maxLen) : Calls Tryd.prog 23 #[.string s] w fun e w' => e = .returned (.int .i64 (chk s.data.toList)) ∧ w = w' :=
  (ref_check_any s w hs).mono fun _ _ ⟨a, b⟩ => ⟨a, b.symm⟩
set_option maxRecDepth 100000 in
set_option maxHeartbeats 1000000 in
theorem pair_bad2 (a b : ByteArray) (w : World) (ha : a.size ≤ maxLen) (hb : b.size ≤ maxLen) (h : pairE a.data.toList b.data.toList ≠ 0) :
    Calls Tryd.prog 47 #[.string a, .string b] w fun e w' => e = .returned (.tuple #[zero39, zero39, .int .i64 (pairE a.data.toList b.data.toList)]) ∧ Below w.heap.size w w' := by
  unfold zero39
  have bR := (Blk.new w 39 #[.bool false, .slice none 0 0]).alloc (.cells #[.bool false, .slice none 0 0] 39)
  have bS := Blk.new (w.alloc (.cells #[.bool false, .slice none 0 0] 39)) 39 #[.bool false, .slice none 0 0]
  have hB := ((Below.refl w.heap.size w).alloc (Nat.le_refl _) (.cells #[.bool false, .slice none 0 0] 39)).alloc (by simp) (.cells #[.bool false, .slice none 0 0] 39)
  simp only [World.size_alloc] at bS
  have BR := Lib.hid bR; have BS := Lib.hid bS; have HB := Lib.hid hB; clear bR bS hB
  unfold pairE at h ⊢
  generalize hk : chk a.data.toList = ka at h ⊢
  generalize hk' : chk b.data.toList = kb at h ⊢
  have HK := Lib.hid hk; have HK' := Lib.hid hk'; clear hk hk'
  by_cases hz : ka = 0
  · have hz1 : (ka == 0) = true := by simpa using hz
    rw [if_neg (by omega)] at h ⊢
    have hz2 : (kb != 0) = true := by simpa using h
    clear h
    have HZ := Lib.hid hz; clear hz
    go_enter Tryd.func47, Tryd.ntmps47
    go_wp2_with fail
    refine (ref_chk2 a _ ha).mono ?_
    rw [HK.out]
    rintro e w1 ⟨rfl, rfl⟩
    go_wp2_with fail
    refine (ref_chk2 b _ hb).mono ?_
    rw [HK'.out]
    rintro e w1 ⟨rfl, rfl⟩
    go_wp2_with fail
    exact bodyPost_ret (ret39_3 (g := w.heap.size) (k := w.heap.size + 1) Tryd.results47 rfl rfl rfl BR.out BS.out) rfl ⟨rfl, HB.out⟩
  · have hz1 : (ka == 0) = false := by simpa using hz
    have hz2 : (ka != 0) = true := by simpa using hz
    rw [if_pos hz] at h ⊢
    clear h hz
    go_enter Tryd.func47, Tryd.ntmps47
    go_wp2_with fail
    refine (ref_chk2 a _ ha).mono ?_
    rw [HK.out]
    rintro e w1 ⟨rfl, rfl⟩
    go_wp2_with fail
    exact bodyPost_ret (ret39_3 (g := w.heap.size) (k := w.heap.size + 1) Tryd.results47 rfl rfl rfl BR.out BS.out) rfl ⟨rfl, HB.out⟩

set_option maxRecDepth 100000 in
set_option maxHeartbeats 1000000 in
theorem refcmp_bad2 (a b : ByteArray) (w : World) (ha : a.size ≤ maxLen) (hb : b.size ≤ maxLen) (h : pairE a.data.toList b.data.toList ≠ 0) :
    Calls Tryd.prog 26 #[.string a, .string b] w fun e w' => e = .returned (.tuple #[.int .i64 0, .int .i64 (pairE a.data.toList b.data.toList)]) ∧ Below w.heap.size w w' := by
  have hc := pair_bad2 a b w ha hb h
  unfold zero39 at hc
  generalize hk : pairE a.data.toList b.data.toList = k at h hc ⊢
  have HC := Lib.hid hc; clear hc hk
  have hne : (k != 0) = true := by simpa using h
  clear h
  go_enter Tryd.func26, Tryd.ntmps26
  go_wp2_with fail
  refine HC.out.mono ?_
  rintro e w1 ⟨rfl, hB1⟩
  have HB := Lib.hid (((hB1).alloc hB1.size (.cells #[.bool false, .slice none 0 0] 39)).alloc (by have := hB1.size; simp; omega) (.cells #[.bool false, .slice none 0 0] 39)); clear hB1
  go_wp2_with fail
  go_ret2
  exact ⟨rfl, HB.out⟩


def cz (a b : List UInt8) : Int := if pairE a b = 0 then cmpI (valL a) (valL b) else 0
theorem cmp25 (a b : ByteArray) (w : World) (ha : a.size ≤ maxLen) (hb : b.size ≤ maxLen) :
    Calls Tryd.prog 25 #[.string a, .string b] w fun e w' => e = .returned (.tuple #[.int .i64 (cz a.data.toList b.data.toList), .int .i64 (pairE a.data.toList b.data.toList)]) ∧ Below w.heap.size w w' := by
  unfold cz
  by_cases h : pairE a.data.toList b.data.toList = 0
  · obtain ⟨h1, h2⟩ := pairE_zero.1 h
    rw [h, if_pos rfl]
    exact bigcmp_good a b w h1 h2
  · rw [if_neg h]
    exact bigcmp_bad a b w ha hb h
theorem cmp26 (a b : ByteArray) (w : World) (ha : a.size ≤ maxLen) (hb : b.size ≤ maxLen) :
    Calls Tryd.prog 26 #[.string a, .string b] w fun e w' => e = .returned (.tuple #[.int .i64 (cz a.data.toList b.data.toList), .int .i64 (pairE a.data.toList b.data.toList)]) ∧ Below w.heap.size w w' := by
  unfold cz
  by_cases h : pairE a.data.toList b.data.toList = 0
  · obtain ⟨h1, h2⟩ := pairE_zero.1 h
    rw [h, if_pos rfl]
    exact refcmp_good a b w h1 h2
  · rw [if_neg h]
    exact refcmp_bad2 a b w ha hb h

set_option maxRecDepth 100000 in
set_option maxHeartbeats 1000000 in
theorem law_orders (a b : ByteArray) (w : World) (ha0 : a.size ≤ maxLen) (hb0 : b.size ≤ maxLen)
    (htab : ∀ W, Below w.heap.size w W → Lib.TabIs Tryd.prog W "internal/strconv.uint64pow10" .u64 Lib.pow10Tab) :
    Calls Tryd.prog 5 #[.string a, .string b] w fun e w' => e = .returned (.bool true) ∧ Below w.heap.size w w' := by
  have HT := Lib.hid htab; clear htab
  by_cases hl : 1000 < wrap64 ((a.size : Int) + (b.size : Int))
  · go_enter Tryd.func5, Tryd.ntmps5
    go_wp2_with fail
    go_ret
    exact ⟨rfl, Below.refl _ _⟩
  · have H25 := Lib.hid (cmp25 a b w ha0 hb0)
    have H26 := Lib.hid (fun W => cmp26 a b W ha0 hb0)
    generalize cz a.data.toList b.data.toList = c at H25 H26
    generalize pairE a.data.toList b.data.toList = p at H25 H26
    have HA := Lib.hid ha0
    by_cases hc : chk a.data.toList = 0
    · have hval := val_len hc
      have H27 := Lib.hid (fun W h => neg_good a W hc h)
      have H30 := Lib.hid (fun W => of_num a W hc)
      generalize valL a.data.toList = z at H27 H30 hval
      obtain ⟨nz, hnz⟩ : ∃ nz, nz = -z := ⟨_, rfl⟩
      have hnl : (dg 10 nz.natAbs).length ≤ 200 := by rw [hnz, Int.natAbs_neg]; exact hval
      rw [← hnz] at H27
      have HC := Lib.hid hc; have HNZ := Lib.hid hnz; have HNL := Lib.hid hnl
      clear hc hnz hnl hval ha0 hb0
      go_enter Tryd.func5, Tryd.ntmps5
      go_wp2_with fail
      refine H25.out.mono ?_
      rintro e w1 ⟨rfl, hB1⟩
      have HB1 := Lib.hid hB1; clear hB1
      go_wp2_with fail
      refine (H26.out _).mono ?_
      rintro e w2 ⟨rfl, hB2⟩
      have HB2 := Lib.hid (HB1.out.trans (hB2.mono HB1.out.size)); clear hB2
      go_wp2_with fail
      refine (H27.out _ (fun W h => HT.out W (HB2.out.trans (h.mono HB2.out.size)))).mono ?_
      rintro e w3 ⟨rfl, hB3⟩
      have HB3 := Lib.hid (HB2.out.trans (hB3.mono HB2.out.size)); clear hB3
      go_wp2_with fail
      refine (ref_chk2 a _ HA.out).mono ?_
      rw [HC.out]
      rintro e w4 ⟨rfl, rfl⟩
      go_wp2_with fail
      refine (H30.out _).mono ?_
      rintro e w5 ⟨v5, rfl, hN5, hB5⟩
      have HN5 := Lib.hid hN5; have HB5 := Lib.hid (HB3.out.trans (hB5.mono HB3.out.size)); clear hN5 hB5
      go_wp2_with fail
      refine (turned_num z _ _ HN5.out).mono ?_
      rw [← HNZ.out]
      rintro e w6 ⟨v6, rfl, hN6, hB6⟩
      have HN6 := Lib.hid hN6; have HB6 := Lib.hid (HB5.out.trans (hB6.mono HB5.out.size)); clear hN6 hB6
      go_wp2_with fail
      refine (text_num nz _ _ HN6.out HNL.out).mono ?_
      rintro e w7 ⟨rfl, hB7⟩
      have HB7 := Lib.hid (HB6.out.trans (hB7.mono HB6.out.size)); clear hB7
      go_wp2_with fail
      go_ret
      exact ⟨by simp, HB7.out⟩
    · have H27 := Lib.hid (fun W => neg_bad a W ha0 hc)
      generalize hk : chk a.data.toList = k at H27 hc
      have hz1 : (k == 0) = false := by simpa using hc
      have HK := Lib.hid hk
      clear hc hk ha0 hb0
      go_enter Tryd.func5, Tryd.ntmps5
      go_wp2_with fail
      refine H25.out.mono ?_
      rintro e w1 ⟨rfl, hB1⟩
      have HB1 := Lib.hid hB1; clear hB1
      go_wp2_with fail
      refine (H26.out _).mono ?_
      rintro e w2 ⟨rfl, hB2⟩
      have HB2 := Lib.hid (HB1.out.trans (hB2.mono HB1.out.size)); clear hB2
      go_wp2_with fail
      refine (H27.out _).mono ?_
      rintro e w3 ⟨rfl, hB3⟩
      have HB3 := Lib.hid (HB2.out.trans (hB3.mono HB2.out.size)); clear hB3
      go_wp2_with fail
      refine (ref_chk2 a _ HA.out).mono ?_
      rw [HK.out]
      rintro e w4 ⟨rfl, rfl⟩
      go_wp2_with fail
      go_ret
      exact ⟨by simp, HB3.out⟩
end Go.Proofs.YtcclclginhhlaaaDoor
