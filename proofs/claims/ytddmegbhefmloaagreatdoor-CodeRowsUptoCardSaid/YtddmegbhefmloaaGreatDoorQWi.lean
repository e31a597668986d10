/- The document's own answers of layer 2: which values fit. -/
import Derived.Test.YtddmegbhefmloaaGreatDoorQWg
namespace Go.Proofs.YtddmegbhefmloaaGreatDoor
open Go.RowKit Vp Pl
open Go
attribute [local go_sem] Oper.semAt_some

theorem chk_big {l : List UInt8} (h : chk l ≠ 4) : decide (chk l = 80) = !decide (((mag l).length : Int) ≤ 200) := by
  unfold chk at h ⊢
  split at h
  · exact absurd rfl h
  · rename_i h1; rw [if_neg h1]
    split at h
    · exact absurd rfl h
    · rename_i h2; rw [if_neg h2]
      split at h
      · exact absurd rfl h
      · rename_i h3; rw [if_neg h3]
        by_cases h4 : 200 < (mag l).length
        · rw [if_pos h4, decide_eq_true rfl, decide_eq_false (by omega)]; rfl
        · rw [if_neg h4, decide_eq_false (by decide), decide_eq_true (by omega)]; rfl
theorem chk_pos {s : ByteArray} (h : chk s.data.toList ≠ 4) : 0 < s.size := by
  rcases Nat.eq_zero_or_pos s.size with h0 | h0
  · rw [size_zero h0] at h; exact absurd (by decide) h
  · exact h0

set_option maxHeartbeats 8000000 in
theorem fits_c (t : V) : ∀ (u : Value) (w : World), some_ (bad chk) t = false → VRep w w.heap.size t u → Calls Tryz.prog 82 #[u] w fun e w' => e = .returned (.bool (!some_ (long chk) t)) ∧ Below w.heap.size w w' := by
  induction t using V.ind with
  | h k n s l ih =>
  intro u w hbd h
  obtain ⟨k', n', s', l', A, c, ht, rfl, hk, hn, hs, hR⟩ := h.open_
  obtain ⟨rfl, rfl, rfl, rfl⟩ : k = k' ∧ n = n' ∧ s = s' ∧ l = l' := by cases ht; exact ⟨rfl, rfl, rfl, rfl⟩
  have hl := hR.1; have hm := hR.2.1
  have hmax : maxLen = 9223372036854775807 := rfl
  obtain ⟨q, hq⟩ : ∃ q, q = !some_ (long chk) (.mk k n s l) := ⟨_, rfl⟩
  rw [← hq]
  rw [form_eq] at hq
  have HQ := Lib.hid hq
  clear hq
  obtain ⟨W, hW⟩ : ∃ W, W = w.alloc (.cells #[.int .u8 (k : Int), .int .i64 n, .string s, .slice A l.length c] 34) := ⟨_, rfl⟩
  have hBW : Below w.heap.size w W := hW ▸ (Below.refl _ _).alloc (Nat.le_refl _) _
  have hsz : W.heap.size = w.heap.size + 1 := by rw [hW]; simp
  have hblk : Blk W w.heap.size 34 #[.int .u8 (k : Int), .int .i64 n, .string s, .slice A l.length c] := hW ▸ Blk.new _ _ _
  have hRW := (hR.under hBW).more hBW.size
  have hbd0 := hbd
  rw [some_eq, Bool.or_eq_false_iff] at hbd0
  have hch : ∀ t ∈ l, some_ (bad chk) t = false := fun t ht => by
    have h3 := hbd0.2; rw [List.any_eq_false] at h3; exact Bool.eq_false_iff.2 (h3 t ht)
  have HCH := Lib.hid hch; have HB0 := Lib.hid hbd0.1
  clear hch hbd0 hbd
  have HW := Lib.hid hW; have HBW := Lib.hid hBW; have HK := Lib.hid hblk; have HR := Lib.hid hRW; have IH := Lib.hid ih; have HSZ := Lib.hid hsz; have HSS := Lib.hid hs
  clear hW hBW hblk hRW hR h ih ht hsz
  have hcases : k = 1 ∨ k = 2 ∨ k = 3 ∨ k = 4 ∨ k = 5 ∨ k = 6 ∨ (k ≠ 1 ∧ k ≠ 2 ∧ k ≠ 3 ∧ k ≠ 4 ∧ k ≠ 5 ∧ k ≠ 6) := by omega
  rcases hcases with rfl | rfl | rfl | rfl | rfl | rfl | hne
  · have hbad : (long chk) (.mk 1 n s l) = false := rfl
    have HBAD := Lib.hid hbad
    clear hbad
    all_goals
      go_enter Tryz.func82, Tryz.ntmps82
      go_upto_region 11 with (fail)
    all_goals
      go_wp2_with fail
      go_loopg [3, 4] (l.length + 1) (fun gg s5 s6 wr => ∃ (kk : Nat) (b : Bool), kk ≤ l.length ∧ gg = l.length + 1 - kk ∧ s5 = .bool b ∧ s6 = .int .i64 (kk : Int) ∧ Below W.heap.size W wr ∧ b = ((!(long chk) (.mk _ n s l)) && (l.take kk).all fun c => !some_ (long chk) c))
      case atStart => exact ⟨0, _, Nat.zero_le _, by omega, rfl, rfl, (by first | exact HB1.out | (have h := Below.refl W.heap.size W; rw [HW.out] at h ⊢; exact h)), by rw [HBAD.out]; rfl⟩
      case round =>
        obtain ⟨kk, b, hkk, hg, rfl, rfl, hB, hS⟩ := hrel
        have HB := Lib.hid hB; have HG := Lib.hid hg; have HS := Lib.hid hS
        clear hB hg hS
        have x3 := (HK.out.below HB.out (by rw [HSZ.out]; omega)).cell 3
        simp at x3
        cases b with
        | false =>
          have hq0 : q = false := by rw [HQ.out]; exact take_false HS.out
          subst hq0
          by_cases hlt : kk < l.length
          · have hltz : (kk : Int) < (l.length : Int) := by omega
            go_wp2_with fail
            go_ret
            exact ⟨rfl, HBW.out.trans (HB.out.mono HBW.out.size)⟩
          · have hltz : ¬ (kk : Int) < (l.length : Int) := by omega
            go_wp2_with fail
            go_ret
            exact ⟨rfl, HBW.out.trans (HB.out.mono HBW.out.size)⟩
        | true =>
          by_cases hlt : kk < l.length
          · have hltz : (kk : Int) < (l.length : Int) := by omega
            obtain ⟨bb, off, rfl, hb, k', n', s', l', A', c', ht, hv, c0, c1, c2, c3⟩ := (HR.out.under HB.out).at_ hlt
            have hcall := IH.out _ (List.getElem_mem hlt) _ wr (HCH.out _ (List.getElem_mem hlt)) (hv.more HB.out.size)
            obtain ⟨z, hz⟩ : ∃ z, (!some_ (long chk) l[kk]) = z := ⟨_, rfl⟩
            rw [hz] at hcall
            have HC := Lib.hid hcall; have HZ := Lib.hid (take_step hlt HS.out hz)
            clear hcall hv ht hz
            go_wp2_with (go_at_call 82; refine HC.out.mono ?_; rintro e w' ⟨rfl, hb'⟩; have HB' := Lib.hid hb'; clear hb')
            go_roundg (l.length + 1 - (kk + 1))
            case measure => have := HG.out; omega
            case rel => exact ⟨kk + 1, _, by omega, rfl, rfl, by go_num, HB.out.trans (HB'.out.mono HB.out.size), HZ.out⟩
          · have hltz : ¬ (kk : Int) < (l.length : Int) := by omega
            obtain rfl : kk = l.length := by omega
            have hq0 : q = true := by
              rw [HQ.out]; have := HS.out; rw [List.take_length] at this; exact this.symm
            subst hq0
            go_wp2_with fail
            go_ret
            exact ⟨rfl, HBW.out.trans (HB.out.mono HBW.out.size)⟩
  · have hbad : (long chk) (.mk 2 n s l) = false := rfl
    have HBAD := Lib.hid hbad
    clear hbad
    all_goals
      go_enter Tryz.func82, Tryz.ntmps82
      go_upto_region 11 with (fail)
    all_goals
      go_wp2_with fail
      go_loopg [3, 4] (l.length + 1) (fun gg s5 s6 wr => ∃ (kk : Nat) (b : Bool), kk ≤ l.length ∧ gg = l.length + 1 - kk ∧ s5 = .bool b ∧ s6 = .int .i64 (kk : Int) ∧ Below W.heap.size W wr ∧ b = ((!(long chk) (.mk _ n s l)) && (l.take kk).all fun c => !some_ (long chk) c))
      case atStart => exact ⟨0, _, Nat.zero_le _, by omega, rfl, rfl, (by first | exact HB1.out | (have h := Below.refl W.heap.size W; rw [HW.out] at h ⊢; exact h)), by rw [HBAD.out]; rfl⟩
      case round =>
        obtain ⟨kk, b, hkk, hg, rfl, rfl, hB, hS⟩ := hrel
        have HB := Lib.hid hB; have HG := Lib.hid hg; have HS := Lib.hid hS
        clear hB hg hS
        have x3 := (HK.out.below HB.out (by rw [HSZ.out]; omega)).cell 3
        simp at x3
        cases b with
        | false =>
          have hq0 : q = false := by rw [HQ.out]; exact take_false HS.out
          subst hq0
          by_cases hlt : kk < l.length
          · have hltz : (kk : Int) < (l.length : Int) := by omega
            go_wp2_with fail
            go_ret
            exact ⟨rfl, HBW.out.trans (HB.out.mono HBW.out.size)⟩
          · have hltz : ¬ (kk : Int) < (l.length : Int) := by omega
            go_wp2_with fail
            go_ret
            exact ⟨rfl, HBW.out.trans (HB.out.mono HBW.out.size)⟩
        | true =>
          by_cases hlt : kk < l.length
          · have hltz : (kk : Int) < (l.length : Int) := by omega
            obtain ⟨bb, off, rfl, hb, k', n', s', l', A', c', ht, hv, c0, c1, c2, c3⟩ := (HR.out.under HB.out).at_ hlt
            have hcall := IH.out _ (List.getElem_mem hlt) _ wr (HCH.out _ (List.getElem_mem hlt)) (hv.more HB.out.size)
            obtain ⟨z, hz⟩ : ∃ z, (!some_ (long chk) l[kk]) = z := ⟨_, rfl⟩
            rw [hz] at hcall
            have HC := Lib.hid hcall; have HZ := Lib.hid (take_step hlt HS.out hz)
            clear hcall hv ht hz
            go_wp2_with (go_at_call 82; refine HC.out.mono ?_; rintro e w' ⟨rfl, hb'⟩; have HB' := Lib.hid hb'; clear hb')
            go_roundg (l.length + 1 - (kk + 1))
            case measure => have := HG.out; omega
            case rel => exact ⟨kk + 1, _, by omega, rfl, rfl, by go_num, HB.out.trans (HB'.out.mono HB.out.size), HZ.out⟩
          · have hltz : ¬ (kk : Int) < (l.length : Int) := by omega
            obtain rfl : kk = l.length := by omega
            have hq0 : q = true := by
              rw [HQ.out]; have := HS.out; rw [List.take_length] at this; exact this.symm
            subst hq0
            go_wp2_with fail
            go_ret
            exact ⟨rfl, HBW.out.trans (HB.out.mono HBW.out.size)⟩
  · have hck : chk s.data.toList ≠ 4 := by
      have h := HB0.out; simp only [bad, Bool.or_eq_false_iff, decide_eq_false_iff_not] at h; exact h.2
    have HN := Lib.hid (fun W => digits_c s hs (chk_pos hck) W)
    have hbig := chk_big hck
    obtain ⟨D, hD⟩ : ∃ D : Int, ((mag s.data.toList).length : Int) = D := ⟨_, rfl⟩
    rw [hD] at HN hbig
    obtain ⟨b5, h5⟩ : ∃ b, decide (D ≤ 200) = b := ⟨_, rfl⟩
    rw [h5] at hbig
    have hbad : (long chk) (.mk 3 n s l) = (!b5) := by simp only [long]; exact hbig
    have HBAD := Lib.hid hbad
    clear hbad hbig hD hck
    cases b5
    all_goals
      go_enter Tryz.func82, Tryz.ntmps82
      go_upto_region 11 with (go_at_call 108; refine (HN.out _).mono ?_; rintro e w1 ⟨rfl, hb1⟩; have HB1 := Lib.hid (show Below W.heap.size W w1 by have h := hb1; rw [HW.out]; exact h); clear hb1)
    all_goals
      go_wp2_with fail
      go_loopg [3, 4] (l.length + 1) (fun gg s5 s6 wr => ∃ (kk : Nat) (b : Bool), kk ≤ l.length ∧ gg = l.length + 1 - kk ∧ s5 = .bool b ∧ s6 = .int .i64 (kk : Int) ∧ Below W.heap.size W wr ∧ b = ((!(long chk) (.mk _ n s l)) && (l.take kk).all fun c => !some_ (long chk) c))
      case atStart => exact ⟨0, _, Nat.zero_le _, by omega, rfl, rfl, (by first | exact HB1.out | (have h := Below.refl W.heap.size W; rw [HW.out] at h ⊢; exact h)), by rw [HBAD.out]; rfl⟩
      case round =>
        obtain ⟨kk, b, hkk, hg, rfl, rfl, hB, hS⟩ := hrel
        have HB := Lib.hid hB; have HG := Lib.hid hg; have HS := Lib.hid hS
        clear hB hg hS
        have x3 := (HK.out.below HB.out (by rw [HSZ.out]; omega)).cell 3
        simp at x3
        cases b with
        | false =>
          have hq0 : q = false := by rw [HQ.out]; exact take_false HS.out
          subst hq0
          by_cases hlt : kk < l.length
          · have hltz : (kk : Int) < (l.length : Int) := by omega
            go_wp2_with fail
            go_ret
            exact ⟨rfl, HBW.out.trans (HB.out.mono HBW.out.size)⟩
          · have hltz : ¬ (kk : Int) < (l.length : Int) := by omega
            go_wp2_with fail
            go_ret
            exact ⟨rfl, HBW.out.trans (HB.out.mono HBW.out.size)⟩
        | true =>
          by_cases hlt : kk < l.length
          · have hltz : (kk : Int) < (l.length : Int) := by omega
            obtain ⟨bb, off, rfl, hb, k', n', s', l', A', c', ht, hv, c0, c1, c2, c3⟩ := (HR.out.under HB.out).at_ hlt
            have hcall := IH.out _ (List.getElem_mem hlt) _ wr (HCH.out _ (List.getElem_mem hlt)) (hv.more HB.out.size)
            obtain ⟨z, hz⟩ : ∃ z, (!some_ (long chk) l[kk]) = z := ⟨_, rfl⟩
            rw [hz] at hcall
            have HC := Lib.hid hcall; have HZ := Lib.hid (take_step hlt HS.out hz)
            clear hcall hv ht hz
            go_wp2_with (go_at_call 82; refine HC.out.mono ?_; rintro e w' ⟨rfl, hb'⟩; have HB' := Lib.hid hb'; clear hb')
            go_roundg (l.length + 1 - (kk + 1))
            case measure => have := HG.out; omega
            case rel => exact ⟨kk + 1, _, by omega, rfl, rfl, by go_num, HB.out.trans (HB'.out.mono HB.out.size), HZ.out⟩
          · have hltz : ¬ (kk : Int) < (l.length : Int) := by omega
            obtain rfl : kk = l.length := by omega
            have hq0 : q = true := by
              rw [HQ.out]; have := HS.out; rw [List.take_length] at this; exact this.symm
            subst hq0
            go_wp2_with fail
            go_ret
            exact ⟨rfl, HBW.out.trans (HB.out.mono HBW.out.size)⟩
  · obtain ⟨b5, h5⟩ : ∃ b, decide ((s.size : Int) ≤ 4096) = b := ⟨_, rfl⟩
    have hbad : (long chk) (.mk 4 n s l) = (!b5) := by
      simp only [long]; rw [← h5]; by_cases h : s.size ≤ 4096
      · rw [decide_eq_false (by omega), decide_eq_true (by omega)]; rfl
      · rw [decide_eq_true (by omega), decide_eq_false (by omega)]; rfl
    have HBAD := Lib.hid hbad
    clear hbad
    cases b5
    all_goals
      go_enter Tryz.func82, Tryz.ntmps82
      go_upto_region 11 with (fail)
    all_goals
      go_wp2_with fail
      go_loopg [3, 4] (l.length + 1) (fun gg s5 s6 wr => ∃ (kk : Nat) (b : Bool), kk ≤ l.length ∧ gg = l.length + 1 - kk ∧ s5 = .bool b ∧ s6 = .int .i64 (kk : Int) ∧ Below W.heap.size W wr ∧ b = ((!(long chk) (.mk _ n s l)) && (l.take kk).all fun c => !some_ (long chk) c))
      case atStart => exact ⟨0, _, Nat.zero_le _, by omega, rfl, rfl, (by first | exact HB1.out | (have h := Below.refl W.heap.size W; rw [HW.out] at h ⊢; exact h)), by rw [HBAD.out]; rfl⟩
      case round =>
        obtain ⟨kk, b, hkk, hg, rfl, rfl, hB, hS⟩ := hrel
        have HB := Lib.hid hB; have HG := Lib.hid hg; have HS := Lib.hid hS
        clear hB hg hS
        have x3 := (HK.out.below HB.out (by rw [HSZ.out]; omega)).cell 3
        simp at x3
        cases b with
        | false =>
          have hq0 : q = false := by rw [HQ.out]; exact take_false HS.out
          subst hq0
          by_cases hlt : kk < l.length
          · have hltz : (kk : Int) < (l.length : Int) := by omega
            go_wp2_with fail
            go_ret
            exact ⟨rfl, HBW.out.trans (HB.out.mono HBW.out.size)⟩
          · have hltz : ¬ (kk : Int) < (l.length : Int) := by omega
            go_wp2_with fail
            go_ret
            exact ⟨rfl, HBW.out.trans (HB.out.mono HBW.out.size)⟩
        | true =>
          by_cases hlt : kk < l.length
          · have hltz : (kk : Int) < (l.length : Int) := by omega
            obtain ⟨bb, off, rfl, hb, k', n', s', l', A', c', ht, hv, c0, c1, c2, c3⟩ := (HR.out.under HB.out).at_ hlt
            have hcall := IH.out _ (List.getElem_mem hlt) _ wr (HCH.out _ (List.getElem_mem hlt)) (hv.more HB.out.size)
            obtain ⟨z, hz⟩ : ∃ z, (!some_ (long chk) l[kk]) = z := ⟨_, rfl⟩
            rw [hz] at hcall
            have HC := Lib.hid hcall; have HZ := Lib.hid (take_step hlt HS.out hz)
            clear hcall hv ht hz
            go_wp2_with (go_at_call 82; refine HC.out.mono ?_; rintro e w' ⟨rfl, hb'⟩; have HB' := Lib.hid hb'; clear hb')
            go_roundg (l.length + 1 - (kk + 1))
            case measure => have := HG.out; omega
            case rel => exact ⟨kk + 1, _, by omega, rfl, rfl, by go_num, HB.out.trans (HB'.out.mono HB.out.size), HZ.out⟩
          · have hltz : ¬ (kk : Int) < (l.length : Int) := by omega
            obtain rfl : kk = l.length := by omega
            have hq0 : q = true := by
              rw [HQ.out]; have := HS.out; rw [List.take_length] at this; exact this.symm
            subst hq0
            go_wp2_with fail
            go_ret
            exact ⟨rfl, HBW.out.trans (HB.out.mono HBW.out.size)⟩
  · obtain ⟨b5, h5⟩ : ∃ b, decide ((l.length : Int) ≤ 16) = b := ⟨_, rfl⟩
    have hbad : (long chk) (.mk 5 n s l) = (!b5) := by
      simp only [long]; rw [← h5]; by_cases h : l.length ≤ 16
      · rw [decide_eq_false (by omega), decide_eq_true (by omega)]; rfl
      · rw [decide_eq_true (by omega), decide_eq_false (by omega)]; rfl
    have HBAD := Lib.hid hbad
    clear hbad
    cases b5
    all_goals
      go_enter Tryz.func82, Tryz.ntmps82
      go_upto_region 11 with (fail)
    all_goals
      go_wp2_with fail
      go_loopg [3, 4] (l.length + 1) (fun gg s5 s6 wr => ∃ (kk : Nat) (b : Bool), kk ≤ l.length ∧ gg = l.length + 1 - kk ∧ s5 = .bool b ∧ s6 = .int .i64 (kk : Int) ∧ Below W.heap.size W wr ∧ b = ((!(long chk) (.mk _ n s l)) && (l.take kk).all fun c => !some_ (long chk) c))
      case atStart => exact ⟨0, _, Nat.zero_le _, by omega, rfl, rfl, (by first | exact HB1.out | (have h := Below.refl W.heap.size W; rw [HW.out] at h ⊢; exact h)), by rw [HBAD.out]; rfl⟩
      case round =>
        obtain ⟨kk, b, hkk, hg, rfl, rfl, hB, hS⟩ := hrel
        have HB := Lib.hid hB; have HG := Lib.hid hg; have HS := Lib.hid hS
        clear hB hg hS
        have x3 := (HK.out.below HB.out (by rw [HSZ.out]; omega)).cell 3
        simp at x3
        cases b with
        | false =>
          have hq0 : q = false := by rw [HQ.out]; exact take_false HS.out
          subst hq0
          by_cases hlt : kk < l.length
          · have hltz : (kk : Int) < (l.length : Int) := by omega
            go_wp2_with fail
            go_ret
            exact ⟨rfl, HBW.out.trans (HB.out.mono HBW.out.size)⟩
          · have hltz : ¬ (kk : Int) < (l.length : Int) := by omega
            go_wp2_with fail
            go_ret
            exact ⟨rfl, HBW.out.trans (HB.out.mono HBW.out.size)⟩
        | true =>
          by_cases hlt : kk < l.length
          · have hltz : (kk : Int) < (l.length : Int) := by omega
            obtain ⟨bb, off, rfl, hb, k', n', s', l', A', c', ht, hv, c0, c1, c2, c3⟩ := (HR.out.under HB.out).at_ hlt
            have hcall := IH.out _ (List.getElem_mem hlt) _ wr (HCH.out _ (List.getElem_mem hlt)) (hv.more HB.out.size)
            obtain ⟨z, hz⟩ : ∃ z, (!some_ (long chk) l[kk]) = z := ⟨_, rfl⟩
            rw [hz] at hcall
            have HC := Lib.hid hcall; have HZ := Lib.hid (take_step hlt HS.out hz)
            clear hcall hv ht hz
            go_wp2_with (go_at_call 82; refine HC.out.mono ?_; rintro e w' ⟨rfl, hb'⟩; have HB' := Lib.hid hb'; clear hb')
            go_roundg (l.length + 1 - (kk + 1))
            case measure => have := HG.out; omega
            case rel => exact ⟨kk + 1, _, by omega, rfl, rfl, by go_num, HB.out.trans (HB'.out.mono HB.out.size), HZ.out⟩
          · have hltz : ¬ (kk : Int) < (l.length : Int) := by omega
            obtain rfl : kk = l.length := by omega
            have hq0 : q = true := by
              rw [HQ.out]; have := HS.out; rw [List.take_length] at this; exact this.symm
            subst hq0
            go_wp2_with fail
            go_ret
            exact ⟨rfl, HBW.out.trans (HB.out.mono HBW.out.size)⟩
  · obtain ⟨b5, h5⟩ : ∃ b, decide ((l.length : Int) ≤ 8) = b := ⟨_, rfl⟩
    have hbad : (long chk) (.mk 6 n s l) = (!b5) := by
      simp only [long]; rw [← h5]; by_cases h : l.length ≤ 8
      · rw [decide_eq_false (by omega), decide_eq_true (by omega)]; rfl
      · rw [decide_eq_true (by omega), decide_eq_false (by omega)]; rfl
    have HBAD := Lib.hid hbad
    clear hbad
    cases b5
    all_goals
      go_enter Tryz.func82, Tryz.ntmps82
      go_upto_region 11 with (fail)
    all_goals
      go_wp2_with fail
      go_loopg [3, 4] (l.length + 1) (fun gg s5 s6 wr => ∃ (kk : Nat) (b : Bool), kk ≤ l.length ∧ gg = l.length + 1 - kk ∧ s5 = .bool b ∧ s6 = .int .i64 (kk : Int) ∧ Below W.heap.size W wr ∧ b = ((!(long chk) (.mk _ n s l)) && (l.take kk).all fun c => !some_ (long chk) c))
      case atStart => exact ⟨0, _, Nat.zero_le _, by omega, rfl, rfl, (by first | exact HB1.out | (have h := Below.refl W.heap.size W; rw [HW.out] at h ⊢; exact h)), by rw [HBAD.out]; rfl⟩
      case round =>
        obtain ⟨kk, b, hkk, hg, rfl, rfl, hB, hS⟩ := hrel
        have HB := Lib.hid hB; have HG := Lib.hid hg; have HS := Lib.hid hS
        clear hB hg hS
        have x3 := (HK.out.below HB.out (by rw [HSZ.out]; omega)).cell 3
        simp at x3
        cases b with
        | false =>
          have hq0 : q = false := by rw [HQ.out]; exact take_false HS.out
          subst hq0
          by_cases hlt : kk < l.length
          · have hltz : (kk : Int) < (l.length : Int) := by omega
            go_wp2_with fail
            go_ret
            exact ⟨rfl, HBW.out.trans (HB.out.mono HBW.out.size)⟩
          · have hltz : ¬ (kk : Int) < (l.length : Int) := by omega
            go_wp2_with fail
            go_ret
            exact ⟨rfl, HBW.out.trans (HB.out.mono HBW.out.size)⟩
        | true =>
          by_cases hlt : kk < l.length
          · have hltz : (kk : Int) < (l.length : Int) := by omega
            obtain ⟨bb, off, rfl, hb, k', n', s', l', A', c', ht, hv, c0, c1, c2, c3⟩ := (HR.out.under HB.out).at_ hlt
            have hcall := IH.out _ (List.getElem_mem hlt) _ wr (HCH.out _ (List.getElem_mem hlt)) (hv.more HB.out.size)
            obtain ⟨z, hz⟩ : ∃ z, (!some_ (long chk) l[kk]) = z := ⟨_, rfl⟩
            rw [hz] at hcall
            have HC := Lib.hid hcall; have HZ := Lib.hid (take_step hlt HS.out hz)
            clear hcall hv ht hz
            go_wp2_with (go_at_call 82; refine HC.out.mono ?_; rintro e w' ⟨rfl, hb'⟩; have HB' := Lib.hid hb'; clear hb')
            go_roundg (l.length + 1 - (kk + 1))
            case measure => have := HG.out; omega
            case rel => exact ⟨kk + 1, _, by omega, rfl, rfl, by go_num, HB.out.trans (HB'.out.mono HB.out.size), HZ.out⟩
          · have hltz : ¬ (kk : Int) < (l.length : Int) := by omega
            obtain rfl : kk = l.length := by omega
            have hq0 : q = true := by
              rw [HQ.out]; have := HS.out; rw [List.take_length] at this; exact this.symm
            subst hq0
            go_wp2_with fail
            go_ret
            exact ⟨rfl, HBW.out.trans (HB.out.mono HBW.out.size)⟩
  · have hbad : (long chk) (.mk k n s l) = false := by unfold long; split <;> simp_all
    have HBAD := Lib.hid hbad
    clear hbad
    have g1 : ((k : Int) == 1) = false := by rw [beq_eq_false_iff_ne]; omega
    have g2 : ((k : Int) == 2) = false := by rw [beq_eq_false_iff_ne]; omega
    have g3 : ((k : Int) == 3) = false := by rw [beq_eq_false_iff_ne]; omega
    have g4 : ((k : Int) == 4) = false := by rw [beq_eq_false_iff_ne]; omega
    have g5 : ((k : Int) == 5) = false := by rw [beq_eq_false_iff_ne]; omega
    have g6 : ((k : Int) == 6) = false := by rw [beq_eq_false_iff_ne]; omega
    all_goals
      go_enter Tryz.func82, Tryz.ntmps82
      go_upto_region 11 with (fail)
    all_goals
      go_wp2_with fail
      go_loopg [3, 4] (l.length + 1) (fun gg s5 s6 wr => ∃ (kk : Nat) (b : Bool), kk ≤ l.length ∧ gg = l.length + 1 - kk ∧ s5 = .bool b ∧ s6 = .int .i64 (kk : Int) ∧ Below W.heap.size W wr ∧ b = ((!(long chk) (.mk _ n s l)) && (l.take kk).all fun c => !some_ (long chk) c))
      case atStart => exact ⟨0, _, Nat.zero_le _, by omega, rfl, rfl, (by first | exact HB1.out | (have h := Below.refl W.heap.size W; rw [HW.out] at h ⊢; exact h)), by rw [HBAD.out]; rfl⟩
      case round =>
        obtain ⟨kk, b, hkk, hg, rfl, rfl, hB, hS⟩ := hrel
        have HB := Lib.hid hB; have HG := Lib.hid hg; have HS := Lib.hid hS
        clear hB hg hS
        have x3 := (HK.out.below HB.out (by rw [HSZ.out]; omega)).cell 3
        simp at x3
        cases b with
        | false =>
          have hq0 : q = false := by rw [HQ.out]; exact take_false HS.out
          subst hq0
          by_cases hlt : kk < l.length
          · have hltz : (kk : Int) < (l.length : Int) := by omega
            go_wp2_with fail
            go_ret
            exact ⟨rfl, HBW.out.trans (HB.out.mono HBW.out.size)⟩
          · have hltz : ¬ (kk : Int) < (l.length : Int) := by omega
            go_wp2_with fail
            go_ret
            exact ⟨rfl, HBW.out.trans (HB.out.mono HBW.out.size)⟩
        | true =>
          by_cases hlt : kk < l.length
          · have hltz : (kk : Int) < (l.length : Int) := by omega
            obtain ⟨bb, off, rfl, hb, k', n', s', l', A', c', ht, hv, c0, c1, c2, c3⟩ := (HR.out.under HB.out).at_ hlt
            have hcall := IH.out _ (List.getElem_mem hlt) _ wr (HCH.out _ (List.getElem_mem hlt)) (hv.more HB.out.size)
            obtain ⟨z, hz⟩ : ∃ z, (!some_ (long chk) l[kk]) = z := ⟨_, rfl⟩
            rw [hz] at hcall
            have HC := Lib.hid hcall; have HZ := Lib.hid (take_step hlt HS.out hz)
            clear hcall hv ht hz
            go_wp2_with (go_at_call 82; refine HC.out.mono ?_; rintro e w' ⟨rfl, hb'⟩; have HB' := Lib.hid hb'; clear hb')
            go_roundg (l.length + 1 - (kk + 1))
            case measure => have := HG.out; omega
            case rel => exact ⟨kk + 1, _, by omega, rfl, rfl, by go_num, HB.out.trans (HB'.out.mono HB.out.size), HZ.out⟩
          · have hltz : ¬ (kk : Int) < (l.length : Int) := by omega
            obtain rfl : kk = l.length := by omega
            have hq0 : q = true := by
              rw [HQ.out]; have := HS.out; rw [List.take_length] at this; exact this.symm
            subst hq0
            go_wp2_with fail
            go_ret
            exact ⟨rfl, HBW.out.trans (HB.out.mono HBW.out.size)⟩
end Go.Proofs.YtddmegbhefmloaaGreatDoor
