/- The walk over the document own answer for layer 1: the int of a text. -/
import Derived.Test.YtcclclginhhlaaaDoorRefE
namespace Go.Proofs.YtcclclginhhlaaaDoor
open Go.RowKit
open Pl Dig

/-- The number of a text. -/
def valL (l : List UInt8) : Int := sgn (decide (l.head? = some 45)) (vl 10 ((mag l).reverse.map dig))

theorem chk_good {l : List UInt8} (h : chk l = 0) : mag l ≠ [] ∧ ¬ ((mag l).head? = some 48 ∧ l ≠ [48]) ∧ (mag l).all isDig = true ∧ (mag l).length ≤ 200 := by
  unfold chk at h
  split at h
  · cases h
  · split at h
    · cases h
    · split at h
      · cases h
      · split at h
        · cases h
        · rename_i h1 h2 h3 h4
          exact ⟨h1, h2, by simpa using h3, by omega⟩
theorem mag_drop (s : ByteArray) : mag s.data.toList = s.data.toList.drop (frm s) := by
  unfold mag frm negB
  by_cases h : s.data.toList.head? = some 45 <;> simp [h]
theorem val_digs (s : ByteArray) : sgn (negB s) (vl 10 (digs s (frm s))) = valL s.data.toList := by
  unfold valL negB digs; rw [mag_drop]
theorem mag_len_le (l : List UInt8) : l.length ≤ (mag l).length + 1 := by unfold mag; split <;> simp; omega
theorem good_size {s : ByteArray} (h : chk s.data.toList = 0) : s.size ≤ 201 ∧ 0 < s.size := by
  obtain ⟨h1, _, _, h4⟩ := chk_good h
  have := mag_len_le s.data.toList
  rw [← size_len] at this
  refine ⟨by omega, ?_⟩
  rw [size_len]
  rcases Nat.eq_zero_or_pos s.data.toList.length with h0 | h0
  · have := List.eq_nil_of_length_eq_zero h0
    rw [this] at h1; exact absurd rfl h1
  · exact h0
theorem good_digs {s : ByteArray} (h : chk s.data.toList = 0) : ∀ j, (hj : j < s.size) → frm s ≤ j → isDig s[j] = true := by
  intro j hj hf
  obtain ⟨_, _, h3, _⟩ := chk_good h
  rw [mag_drop, List.all_eq_true] at h3
  refine h3 _ ?_
  rw [List.mem_iff_getElem?]
  refine ⟨j - frm s, ?_⟩
  rw [List.getElem?_drop, show frm s + (j - frm s) = j from by omega, List.getElem?_eq_getElem (by rw [← size_len]; exact hj)]
  rfl
/-- The number of a text that is one. -/
theorem of_num (s : ByteArray) (w : World) (h : chk s.data.toList = 0) :
    Calls Tryd.prog 30 #[.string s] w fun e w' => ∃ v, e = .returned v ∧ NumIs w' (valL s.data.toList) v ∧ Below w.heap.size w w' := by
  rw [← val_digs]
  exact of_any s w (by have := (good_size h).1; omega) (good_size h).2 (good_digs h)
theorem val_len {l : List UInt8} (h : chk l = 0) : (dg 10 (valL l).natAbs).length ≤ 200 := by
  obtain ⟨_, _, h3, h4⟩ := chk_good h
  unfold valL; rw [sgn_abs, dg_len (by decide)]
  have := vl_lt 10 ((mag l).reverse.map dig) (fun d hd => by
    rw [List.mem_map] at hd
    obtain ⟨c, hc, rfl⟩ := hd
    rw [List.all_eq_true] at h3
    have := h3 c (by simpa using hc)
    unfold isDig at this; unfold dig; have := of_decide_eq_true this; omega)
  exact Nat.lt_of_lt_of_le this (Nat.pow_le_pow_right (by decide) (by simpa using h4))

/-- Size, of two numbers. -/
theorem size_num (z z' : Int) (v v' : Value) (w : World) (h : NumIs w z v) (h' : NumIs w z' v') (hl : (dg 10 z.natAbs).length ≤ 40000) (hl' : (dg 10 z'.natAbs).length ≤ 40000) :
    Calls Tryd.prog 44 #[v, v'] w fun e w' => e = .returned (.int .i64 (cmpN z.natAbs z'.natAbs)) ∧ Below w.heap.size w w' := by
  obtain ⟨A, c, rfl, h1, h2, h3⟩ := h
  obtain ⟨A', c', rfl, h1', h2', h3'⟩ := h'
  have := size_any (decide (z < 0)) (decide (z' < 0)) A A' c c' (dg 10 z.natAbs) (dg 10 z'.natAbs) w h3 h3' hl hl' (dg_lt (by decide) _) (dg_lt (by decide) _)
  rw [dg_vl (by decide), dg_vl (by decide)] at this
  exact this

def lowS : ByteArray := ⟨#[45, 57, 50, 50, 51, 51, 55, 50, 48, 51, 54, 56, 53, 52, 55, 55, 53, 56, 48, 56]⟩
theorem low_ok : chk [45, 57, 50, 50, 51, 51, 55, 50, 48, 51, 54, 56, 53, 52, 55, 55, 53, 56, 48, 56] = 0 := by decide +kernel
theorem low_val : valL [45, 57, 50, 50, 51, 51, 55, 50, 48, 51, 54, 56, 53, 52, 55, 55, 53, 56, 48, 56] = -9223372036854775808 := by decide +kernel
theorem high_ok : chk [57, 50, 50, 51, 51, 55, 50, 48, 51, 54, 56, 53, 52, 55, 55, 53, 56, 48, 55] = 0 := by decide +kernel
theorem high_val : valL [57, 50, 50, 51, 51, 55, 50, 48, 51, 54, 56, 53, 52, 55, 55, 53, 56, 48, 55] = 9223372036854775807 := by decide +kernel

theorem vl_drop_step (b : Nat) {ds : List Nat} {k : Nat} (hk : k < ds.length) : vl b (ds.drop k) = ds[k] + b * vl b (ds.drop (k + 1)) := by
  rw [List.drop_eq_getElem_cons hk]; rfl
theorem vl_drop_le {b : Nat} (hb : 2 ≤ b) (ds : List Nat) (k : Nat) : vl b (ds.drop k) ≤ vl b ds := by
  conv => rhs; rw [← List.take_append_drop k ds, vl_append]
  have : 1 * vl b (ds.drop k) ≤ b ^ (ds.take k).length * vl b (ds.drop k) := Nat.mul_le_mul_right _ (Nat.pow_pos (by omega))
  omega
theorem ref_chk (s : ByteArray) (w : World) (hs : s.size ≤ 1000) : Calls Tryd.prog 23 #[.string s] w fun e w' => e = .returned (.int .i64 (chk s.data.toList)) ∧ w = w' :=
  (ref_check_any s w (by unfold maxLen; omega)).mono fun _ _ ⟨a, b⟩ => ⟨a, b.symm⟩
def intOut (l : List UInt8) : Int × Int := if chk l ≠ 0 then (0, chk l) else if valL l < -9223372036854775808 ∨ 9223372036854775807 < valL l then (0, 80) else (valL l, 0)

set_option maxRecDepth 100000 in
set_option maxHeartbeats 400000 in
theorem refint_any (s : ByteArray) (w : World) (hs : s.size ≤ 1000) :
    Calls Tryd.prog 22 #[.string s] w fun e w' => e = .returned (.tuple #[.int .i64 (intOut s.data.toList).1, .int .i64 (intOut s.data.toList).2]) ∧ Below w.heap.size w w' := by
  by_cases hc : chk s.data.toList = 0
  · have hz := val_len hc
    generalize hzv : valL s.data.toList = z at hz
    have HZV := Lib.hid hzv; clear hzv
    have HC := Lib.hid hc; clear hc
    go_enter Tryd.func22, Tryd.ntmps22
    go_wp2_with (go_at_call 23; refine (ref_chk s _ hs).mono ?_; rw [HC.out]; rintro e w' ⟨rfl, rfl⟩)
    obtain ⟨zl, hzl⟩ : ∃ zl : Int, zl = -9223372036854775808 := ⟨_, rfl⟩
    obtain ⟨zh, hzh⟩ : ∃ zh : Int, zh = 9223372036854775807 := ⟨_, rfl⟩
    have hll : (dg 10 zl.natAbs).length ≤ 200 := by rw [hzl, dg_len (by decide)]; decide +kernel
    have hlh : (dg 10 zh.natAbs).length ≤ 200 := by rw [hzh, dg_len (by decide)]; decide +kernel
    have HZL := Lib.hid hzl; have HZH := Lib.hid hzh; clear hzl hzh
    refine (of_num s _ HC.out).mono ?_
    rintro e w1 ⟨v1, rfl, hN, hB1⟩
    rw [HZV.out] at hN
    obtain ⟨A1, c1, rfl, hN2⟩ := hN
    have N1 : NumIs w1 z (.agg #[.bool (decide (z < 0)), .slice A1 (dg 10 z.natAbs).length c1]) := ⟨A1, c1, rfl, hN2⟩
    have b1 := Blk.new w1 39 #[.bool (decide (z < 0)), .slice A1 (dg 10 z.natAbs).length c1]
    have N1 := Lib.hid (N1.alloc (.cells #[.bool (decide (z < 0)), .slice A1 (dg 10 z.natAbs).length c1] 39)); have B1 := Lib.hid b1; have HB1 := Lib.hid (hB1.alloc hB1.size (.cells #[.bool (decide (z < 0)), .slice A1 (dg 10 z.natAbs).length c1] 39)); clear hN2 hB1 b1
    go_wp2_with fail
    refine (of_num _ _ low_ok).mono ?_
    rintro e w2 ⟨v2, rfl, hN, hB2⟩
    rw [low_val, ← HZL.out] at hN
    obtain ⟨A2, c2, rfl, hN2⟩ := hN
    have N2 : NumIs w2 zl (.agg #[.bool (decide (zl < 0)), .slice A2 (dg 10 zl.natAbs).length c2]) := ⟨A2, c2, rfl, hN2⟩
    have b2 := Blk.new w2 39 #[.bool (decide (zl < 0)), .slice A2 (dg 10 zl.natAbs).length c2]
    have hs2 := hB2.size
    have b1 := (B1.out.below hB2 (by simp)).alloc (.cells #[.bool (decide (zl < 0)), .slice A2 (dg 10 zl.natAbs).length c2] 39)
    have N1' := (N1.out.below hB2).alloc (.cells #[.bool (decide (zl < 0)), .slice A2 (dg 10 zl.natAbs).length c2] 39)
    have N2' := N2.alloc (.cells #[.bool (decide (zl < 0)), .slice A2 (dg 10 zl.natAbs).length c2] 39)
    have hBB := (HB1.out.trans (hB2.mono HB1.out.size)).alloc (HB1.out.trans (hB2.mono HB1.out.size)).size (.cells #[.bool (decide (zl < 0)), .slice A2 (dg 10 zl.natAbs).length c2] 39)
    have hlt12 : w1.heap.size < w2.heap.size := by simp at hs2; omega
    clear N2 hN2 hB2 hs2
    have B1 := Lib.hid b1; have B2 := Lib.hid b2; have N1 := Lib.hid N1'; have N2 := Lib.hid N2'; have HB2 := Lib.hid hBB; clear b1 b2 N1' N2' hBB
    go_wp2_with fail
    refine (of_num _ _ high_ok).mono ?_
    rintro e w3 ⟨v3, rfl, hN, hB3⟩
    rw [high_val, ← HZH.out] at hN
    obtain ⟨A3, c3, rfl, hN2⟩ := hN
    have N3 : NumIs w3 zh (.agg #[.bool (decide (zh < 0)), .slice A3 (dg 10 zh.natAbs).length c3]) := ⟨A3, c3, rfl, hN2⟩
    have hs3 := hB3.size
    have hlt23 : w2.heap.size < w3.heap.size := by simp at hs3; omega
    obtain ⟨W3, hW3⟩ : ∃ W, W = w3.alloc (.cells #[.bool (decide (zh < 0)), .slice A3 (dg 10 zh.natAbs).length c3] 39) := ⟨_, rfl⟩
    have b3 := Blk.new w3 39 #[.bool (decide (zh < 0)), .slice A3 (dg 10 zh.natAbs).length c3]
    have b1 := (B1.out.below hB3 (by simp; omega)).alloc (.cells #[.bool (decide (zh < 0)), .slice A3 (dg 10 zh.natAbs).length c3] 39)
    have b2 := (B2.out.below hB3 (by simp)).alloc (.cells #[.bool (decide (zh < 0)), .slice A3 (dg 10 zh.natAbs).length c3] 39)
    have n1 := (N1.out.below hB3).alloc (.cells #[.bool (decide (zh < 0)), .slice A3 (dg 10 zh.natAbs).length c3] 39)
    have n2 := (N2.out.below hB3).alloc (.cells #[.bool (decide (zh < 0)), .slice A3 (dg 10 zh.natAbs).length c3] 39)
    have n3 := N3.alloc (.cells #[.bool (decide (zh < 0)), .slice A3 (dg 10 zh.natAbs).length c3] 39)
    have hBB := (HB2.out.trans (hB3.mono HB2.out.size)).alloc (HB2.out.trans (hB3.mono HB2.out.size)).size (.cells #[.bool (decide (zh < 0)), .slice A3 (dg 10 zh.natAbs).length c3] 39)
    rw [← hW3] at b1 b2 b3 n1 n2 n3 hBB
    have HW3 := Lib.hid hW3
    clear N3 hN2 hB3 hs3
    have HB := Lib.hid hBB
    have x0 := b1.cell0; have x1 := b1.cell1; have y0 := b2.cell0; have y1 := b2.cell1; have z0 := b3.cell0; have z1 := b3.cell1
    have B1 := Lib.hid b1; have B2 := Lib.hid b2; have B3 := Lib.hid b3; have N1 := Lib.hid n1; have N2 := Lib.hid n2; have N3 := Lib.hid n3
    clear hBB b1 b2 b3 n1 n2 n3
    go_upto_region 7 with fail
    rw [← hW3]
    clear hW3
    go_cut [37] (fun s37 wx => s37 = .bool (decide (z < -9223372036854775808 ∨ 9223372036854775807 < z)) ∧ Blk wx w1.heap.size 39 #[.bool (decide (z < 0)), .slice A1 (dg 10 z.natAbs).length c1] ∧ NumIs wx z (.agg #[.bool (decide (z < 0)), .slice A1 (dg 10 z.natAbs).length c1]) ∧ Below w.heap.size w wx)
    case first =>
      have hS1 := size_num z zl _ _ W3 N1.out N2.out (by omega) (by omega)
      have hS2 := size_num z zh _ _ W3 N1.out N3.out (by omega) (by omega)
      have hnl : zl.natAbs = 9223372036854775808 := by rw [HZL.out]; rfl
      have hnh : zh.natAbs = 9223372036854775807 := by rw [HZH.out]; rfl
      have HNL := Lib.hid hnl; have HNH := Lib.hid hnh; clear hnl hnh
      by_cases hneg : z < 0
      · have hd : decide (z < 0) = true := by simpa using hneg
        rw [hd] at x0 hS1 hS2
        have HS1 := Lib.hid hS1; clear hS1 hS2
        have HD := Lib.hid hd; clear hd
        have hres : decide (z < -9223372036854775808 ∨ 9223372036854775807 < z) = decide (0 < cmpN z.natAbs zl.natAbs) := by
          rw [decide_eq_decide, HNL.out]; unfold cmpN; split
          · omega
          · split <;> omega
        have HRES := Lib.hid hres; clear hres
        by_cases hbig : 0 < cmpN z.natAbs zl.natAbs
        all_goals
          go_wp2_with (go_at_call 44; refine HS1.out.mono ?_; rintro e w4 ⟨rfl, hB4⟩; have b1 := B1.out.below hB4 (by have := B1.out.lt; omega); have x0 := b1.cell0; rw [HD.out] at x0; have BB := Lib.hid b1; have HB4 := Lib.hid hB4; clear b1 hB4)
          go_meet
          refine ⟨by first | (rw [HRES.out]; done) | (rw [HRES.out]; simp [hbig]), BB.out, N1.out.below HB4.out, HB.out.trans (HB4.out.mono HB.out.size)⟩
      · have hd : decide (z < 0) = false := by simpa using hneg
        rw [hd] at x0 hS1 hS2
        have HS2 := Lib.hid hS2; clear hS1 hS2
        have HD := Lib.hid hd; clear hd
        have hres : decide (z < -9223372036854775808 ∨ 9223372036854775807 < z) = decide (0 < cmpN z.natAbs zh.natAbs) := by
          rw [decide_eq_decide, HNH.out]; unfold cmpN; split
          · omega
          · split <;> omega
        have HRES := Lib.hid hres; clear hres
        by_cases hbig : 0 < cmpN z.natAbs zh.natAbs
        all_goals
          go_wp2_with (go_at_call 44; refine HS2.out.mono ?_; rintro e w4 ⟨rfl, hB4⟩; have b1 := B1.out.below hB4 (by have := B1.out.lt; omega); have x0 := b1.cell0; rw [HD.out] at x0; have BB := Lib.hid b1; have HB4 := Lib.hid hB4; clear b1 hB4)
          go_meet
          refine ⟨by first | (rw [HRES.out]; done) | (rw [HRES.out]; simp [hbig]), BB.out, N1.out.below HB4.out, HB.out.trans (HB4.out.mono HB.out.size)⟩
    case rest =>
      obtain ⟨rfl, b1, n1, hB⟩ := hcut
      have hlt := b1.lt
      have hzD : (dg 10 z.natAbs).length ≤ 200 := hz
      by_cases hover : z < -9223372036854775808 ∨ 9223372036854775807 < z
      · have hout : intOut s.data.toList = (0, 80) := by unfold intOut; rw [if_neg (by rw [HC.out]; simp), HZV.out, if_pos hover]
        have HO := Lib.hid hout
        have ht : decide (z < -9223372036854775808 ∨ 9223372036854775807 < z) = true := by simpa using hover
        rw [ht]
        have HB4 := Lib.hid hB
        clear b1 n1 hB hover ht hout
        go_wp2_with fail
        go_ret2
        exact ⟨by rw [HO.out]; rfl, HB4.out⟩
      · have hout : intOut s.data.toList = (z, 0) := by unfold intOut; rw [if_neg (by rw [HC.out]; simp), HZV.out, if_neg hover]
        have HO := Lib.hid hout
        have ht : decide (z < -9223372036854775808 ∨ 9223372036854775807 < z) = false := by simpa using hover
        rw [ht]
        have hzn : z.natAbs ≤ 9223372036854775808 ∧ (0 ≤ z → z.natAbs ≤ 9223372036854775807) := by omega
        have HZN := Lib.hid hzn
        have b1' := b1; have hB' := hB; have n1' := n1
        have B4 := Lib.hid b1; have HB4 := Lib.hid hB; have N4 := Lib.hid n1
        have x0 := b1'.cell0; have x1 := b1'.cell1
        obtain ⟨_, _, _, _, _, hrd⟩ := n1'
        clear b1 n1 hB hover ht hout b1' hB' hzn
        go_wp2_with fail
        go_loopg [8, 9] ((dg 10 z.natAbs).length + 1) (fun g s8 s9 wr => ∃ (j : Nat) (m : Int), g = j + 1 ∧ j ≤ (dg 10 z.natAbs).length ∧ s9 = .int .i64 ((j : Int) - 1) ∧ s8 = .int .i64 m ∧ m = sgn (decide (z < 0)) (vl 10 ((dg 10 z.natAbs).drop j)) ∧ wc = wr)
        case atStart =>
          refine ⟨(dg 10 z.natAbs).length, 0, rfl, Nat.le_refl _, rfl, rfl, ?_, rfl⟩
          rw [List.drop_length]; simp [sgn, vl]
        case round =>
          obtain ⟨j, m, hg, hj, rfl, rfl, hm, rfl⟩ := hrel
          have HG := Lib.hid hg; clear hg
          by_cases h0 : j = 0
          · subst h0
            have hmz : m = z := by
              rw [hm, List.drop_zero, dg_vl (by decide)]; unfold sgn; split
              · rename_i h; have := of_decide_eq_true h; omega
              · rename_i h; have : ¬ z < 0 := by simpa using h
                omega
            have HMZ := Lib.hid hmz; clear hm hmz
            go_wp2_with fail
            go_ret2
            exact ⟨by rw [HO.out, HMZ.out]; rfl, HB4.out⟩
          · obtain ⟨k, rfl⟩ : ∃ k, j = k + 1 := ⟨j - 1, by omega⟩
            have hk : k < (dg 10 z.natAbs).length := by omega
            obtain ⟨bb, off, rfl, hbb, hcell⟩ := hrd.int hk
            have hd10 := dg_lt (b := 10) (by decide) z.natAbs _ (List.getElem_mem hk)
            have hst := vl_drop_step 10 hk
            have hle := vl_drop_le (b := 10) (by decide) (dg 10 z.natAbs) k
            rw [dg_vl (by decide)] at hle
            obtain ⟨y, hy⟩ : ∃ y : Nat, y = (dg 10 z.natAbs)[k] := ⟨_, rfl⟩
            obtain ⟨u, hu⟩ : ∃ u : Nat, u = vl 10 ((dg 10 z.natAbs).drop (k + 1)) := ⟨_, rfl⟩
            rw [← hy] at hcell hd10 hst
            rw [← hu] at hm hst
            rw [hst] at hle
            have hzn := HZN.out
            by_cases hneg : z < 0
            · have hd : decide (z < 0) = true := by simpa using hneg
              have hm' : m = -(u : Int) := by rw [hm, hd]; rfl
              have b1 : -9223372036854775808 ≤ m * 10 ∧ m * 10 ≤ 0 := by omega
              have b2 : -9223372036854775808 ≤ m * 10 - (y : Int) ∧ m * 10 - (y : Int) ≤ 0 := by omega
              rw [hd] at x0
              have HM := Lib.hid hm'; have HD := Lib.hid hd; have HU := Lib.hid hu; have HY := Lib.hid hy; have HST := Lib.hid hst
              clear hm hm' hd hu hy hst hle hzn
              obtain ⟨b1, b1'⟩ := b1; obtain ⟨b2, b2'⟩ := b2
              go_wp2_with fail
              go_roundg (k + 1)
              case measure => have := HG.out; omega
              case rel =>
                refine ⟨k, _, rfl, by omega, rfl, rfl, ?_, rfl⟩
                rw [HD.out, HM.out, HST.out]; unfold sgn; rw [if_pos rfl]; omega
            · have hd : decide (z < 0) = false := by simpa using hneg
              have hm' : m = (u : Int) := by rw [hm, hd]; rfl
              have hz0 := hzn.2 (by omega)
              have b1 : 0 ≤ m * 10 ∧ m * 10 ≤ 9223372036854775807 := by omega
              have b2 : 0 ≤ m * 10 + (y : Int) ∧ m * 10 + (y : Int) ≤ 9223372036854775807 := by omega
              rw [hd] at x0
              have HM := Lib.hid hm'; have HD := Lib.hid hd; have HU := Lib.hid hu; have HY := Lib.hid hy; have HST := Lib.hid hst
              clear hm hm' hd hu hy hst hle hzn hz0
              obtain ⟨b1, b1'⟩ := b1; obtain ⟨b2, b2'⟩ := b2
              go_wp2_with fail
              go_roundg (k + 1)
              case measure => have := HG.out; omega
              case rel =>
                refine ⟨k, _, rfl, by omega, rfl, rfl, ?_, rfl⟩
                rw [HD.out, HM.out, HST.out]; unfold sgn; rw [if_neg (by decide)]; omega
  · generalize hk : chk s.data.toList = k at hc
    have hne : (k != 0) = true := by simpa using hc
    have hout : intOut s.data.toList = (0, k) := by unfold intOut; rw [hk, if_pos hc]
    have HK := Lib.hid hk; have HO := Lib.hid hout; clear hk hout
    go_enter Tryd.func22, Tryd.ntmps22
    go_wp2_with (go_at_call 23; refine (ref_chk s _ hs).mono ?_; rw [HK.out]; rintro e w' ⟨rfl, rfl⟩)
    go_ret2
    exact ⟨by rw [HO.out]; rfl, Below.refl _ _⟩
end Go.Proofs.YtcclclginhhlaaaDoor
