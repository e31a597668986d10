/- The document's own answers of layer 2: which values have the right form, and fit. -/
import Derived.Test.YtddmegbhefmloaaGreatDoorQWf
namespace Go.Proofs.YtddmegbhefmloaaGreatDoor
open Go.RowKit Vp Pl
open Go
attribute [local go_sem] Oper.semAt_some

theorem take_false {p : Bool} {f : V → Bool} {l : List V} {k : Nat} (h : false = (p && (l.take k).all f)) : (p && l.all f) = false := by
  cases p with
  | false => rfl
  | true =>
    rw [Bool.true_and] at h ⊢
    cases hl : l.all f with
    | false => rfl
    | true =>
      have : (l.take k).all f = true := by
        rw [List.all_eq_true] at hl ⊢
        exact fun x hx => hl x (List.mem_of_mem_take hx)
      rw [this] at h; cases h
theorem take_step {p z : Bool} {f : V → Bool} {l : List V} {k : Nat} (hk : k < l.length) (h : true = (p && (l.take k).all f)) (hz : f l[k] = z) : z = (p && (l.take (k + 1)).all f) := by
  rw [List.take_add_one, List.getElem?_eq_getElem hk, List.all_append, ← Bool.and_assoc, ← h]
  simp [hz]
theorem form_eq (p : V → Bool) (k : Nat) (n : Int) (s : ByteArray) (l : List V) : (!some_ p (.mk k n s l)) = ((!p (.mk k n s l)) && l.all fun c => !some_ p c) := by
  rw [some_eq, Bool.not_or]
  congr 1
  induction l with
  | nil => rfl
  | cons x xs ih => rw [List.all_cons, ← ih]; simp [V.lst]
theorem empty_iff (s : ByteArray) : s.toList.isEmpty = decide (s.size = 0) := by
  rw [Lib.toList_data, size_len]; cases s.data.toList <;> simp

set_option maxHeartbeats 8000000 in
theorem form_c (t : V) : ∀ (u : Value) (w : World), VRep w w.heap.size t u → Calls Tryz.prog 81 #[u] w fun e w' => e = .returned (.bool (!some_ (bad chk) t)) ∧ Below w.heap.size w w' := by
  induction t using V.ind with
  | h k n s l ih =>
  intro u w h
  obtain ⟨k', n', s', l', A, c, ht, rfl, hk, hn, hs, hR⟩ := h.open_
  obtain ⟨rfl, rfl, rfl, rfl⟩ : k = k' ∧ n = n' ∧ s = s' ∧ l = l' := by cases ht; exact ⟨rfl, rfl, rfl, rfl⟩
  have hl := hR.1; have hm := hR.2.1
  have hmax : maxLen = 9223372036854775807 := rfl
  obtain ⟨q, hq⟩ : ∃ q, q = !some_ (bad chk) (.mk k n s l) := ⟨_, rfl⟩
  rw [← hq]
  rw [form_eq] at hq
  have HQ := Lib.hid hq
  clear hq
  obtain ⟨W, hW⟩ : ∃ W, W = w.alloc (.cells #[.int .u8 (k : Int), .int .i64 n, .string s, .slice A l.length c] 34) := ⟨_, rfl⟩
  have hBW : Below w.heap.size w W := hW ▸ (Below.refl _ _).alloc (Nat.le_refl _) _
  have hsz : W.heap.size = w.heap.size + 1 := by rw [hW]; simp
  have hblk : Blk W w.heap.size 34 #[.int .u8 (k : Int), .int .i64 n, .string s, .slice A l.length c] := hW ▸ Blk.new _ _ _
  have hRW := (hR.under hBW).more hBW.size
  have HW := Lib.hid hW; have HBW := Lib.hid hBW; have HK := Lib.hid hblk; have HR := Lib.hid hRW; have IH := Lib.hid ih; have HSZ := Lib.hid hsz; have HSS := Lib.hid hs
  clear hW hBW hblk hRW hR h ih ht hsz
  have hcases : k = 1 ∨ k = 2 ∨ k = 3 ∨ k = 4 ∨ k = 5 ∨ k = 6 ∨ (k ≠ 1 ∧ k ≠ 2 ∧ k ≠ 3 ∧ k ≠ 4 ∧ k ≠ 5 ∧ k ≠ 6) := by omega
  rcases hcases with rfl | rfl | rfl | rfl | rfl | rfl | hne
  · obtain ⟨b1, h1⟩ : ∃ b, (n == 0) = b := ⟨_, rfl⟩
    have e1 : decide (n ≠ 0) = !b1 := by rw [← h1]; by_cases h : n = 0 <;> simp [h]
    obtain ⟨b2, h2⟩ : ∃ b, (n == 1) = b := ⟨_, rfl⟩
    have e2 : decide (n ≠ 1) = !b2 := by rw [← h2]; by_cases h : n = 1 <;> simp [h]
    obtain ⟨b3, h3⟩ : ∃ b, s.toList.isEmpty = b := ⟨_, rfl⟩
    have e3 : decide (s.size ≠ 0) = !b3 := by rw [← h3, empty_iff]; by_cases h : s.size = 0 <;> simp [h]
    obtain ⟨b4, h4⟩ : ∃ b, ((l.length : Int) == 0) = b := ⟨_, rfl⟩
    have e4 : l.isEmpty = b4 := by rw [← h4]; cases l <;> simp; omega
    have hbad : (bad chk) (.mk 1 n s l) = ((!b1 && !b2) || !b3 || !b4) := by simp only [bad, e1, e2, e3, e4]
    have HBAD := Lib.hid hbad
    clear hbad e1 e2 e3 e4
    have hsp : (b1 = true ∧ b3 = false) ∨ (b1 = true ∧ b3 = true ∧ b4 = false) ∨ (b1 = true ∧ b3 = true ∧ b4 = true) ∨ (b1 = false ∧ b2 = false) ∨ (b1 = false ∧ b2 = true ∧ b3 = false) ∨ (b1 = false ∧ b2 = true ∧ b3 = true ∧ b4 = false) ∨ (b1 = false ∧ b2 = true ∧ b3 = true ∧ b4 = true) := by cases b1 <;> cases b2 <;> cases b3 <;> cases b4 <;> simp
    rcases hsp with ⟨rfl, rfl⟩ | ⟨rfl, rfl, rfl⟩ | ⟨rfl, rfl, rfl⟩ | ⟨rfl, rfl⟩ | ⟨rfl, rfl, rfl⟩ | ⟨rfl, rfl, rfl, rfl⟩ | ⟨rfl, rfl, rfl, rfl⟩
    all_goals
      go_enter Tryz.func81, Tryz.ntmps81
      go_upto_region 15 with (fail)
    all_goals
      go_wp2_with fail
      go_loopg [3, 4] (l.length + 1) (fun gg s5 s6 wr => ∃ (kk : Nat) (b : Bool), kk ≤ l.length ∧ gg = l.length + 1 - kk ∧ s5 = .bool b ∧ s6 = .int .i64 (kk : Int) ∧ Below W.heap.size W wr ∧ b = ((!(bad chk) (.mk _ n s l)) && (l.take kk).all fun c => !some_ (bad chk) c))
      case atStart => exact ⟨0, _, Nat.zero_le _, by omega, rfl, rfl, (by first | exact HB1.out | (have h := Below.refl W.heap.size W; rw [HW.out] at h ⊢; exact h)), by rw [HBAD.out]; rfl⟩
      case round =>
        obtain ⟨kk, b, hkk, hg, rfl, rfl, hB, hS⟩ := hrel
        have HB := Lib.hid hB; have HG := Lib.hid hg; have HS := Lib.hid hS
        clear hB hg hS
        have x3 := (HK.out.below HB.out (by rw [HSZ.out]; omega)).cell 3
        simp at x3
        cases b with
        | false =>
          have hq0 : q = false := by rw [HQ.out]; exact take_false HS.out
          subst hq0
          by_cases hlt : kk < l.length
          · have hltz : (kk : Int) < (l.length : Int) := by omega
            go_wp2_with fail
            go_ret
            exact ⟨rfl, HBW.out.trans (HB.out.mono HBW.out.size)⟩
          · have hltz : ¬ (kk : Int) < (l.length : Int) := by omega
            go_wp2_with fail
            go_ret
            exact ⟨rfl, HBW.out.trans (HB.out.mono HBW.out.size)⟩
        | true =>
          by_cases hlt : kk < l.length
          · have hltz : (kk : Int) < (l.length : Int) := by omega
            obtain ⟨bb, off, rfl, hb, k', n', s', l', A', c', ht, hv, c0, c1, c2, c3⟩ := (HR.out.under HB.out).at_ hlt
            have hcall := IH.out _ (List.getElem_mem hlt) _ wr (hv.more HB.out.size)
            obtain ⟨z, hz⟩ : ∃ z, (!some_ (bad chk) l[kk]) = z := ⟨_, rfl⟩
            rw [hz] at hcall
            have HC := Lib.hid hcall; have HZ := Lib.hid (take_step hlt HS.out hz)
            clear hcall hv ht hz
            go_wp2_with (go_at_call 81; refine HC.out.mono ?_; rintro e w' ⟨rfl, hb'⟩; have HB' := Lib.hid hb'; clear hb')
            go_roundg (l.length + 1 - (kk + 1))
            case measure => have := HG.out; omega
            case rel => exact ⟨kk + 1, _, by omega, rfl, rfl, by go_num, HB.out.trans (HB'.out.mono HB.out.size), HZ.out⟩
          · have hltz : ¬ (kk : Int) < (l.length : Int) := by omega
            obtain rfl : kk = l.length := by omega
            have hq0 : q = true := by
              rw [HQ.out]; have := HS.out; rw [List.take_length] at this; exact this.symm
            subst hq0
            go_wp2_with fail
            go_ret
            exact ⟨rfl, HBW.out.trans (HB.out.mono HBW.out.size)⟩
  · obtain ⟨b3, h3⟩ : ∃ b, s.toList.isEmpty = b := ⟨_, rfl⟩
    have e3 : decide (s.size ≠ 0) = !b3 := by rw [← h3, empty_iff]; by_cases h : s.size = 0 <;> simp [h]
    obtain ⟨b4, h4⟩ : ∃ b, ((l.length : Int) == 0) = b := ⟨_, rfl⟩
    have e4 : l.isEmpty = b4 := by rw [← h4]; cases l <;> simp; omega
    have hbad : (bad chk) (.mk 2 n s l) = (!b3 || !b4) := by simp only [bad, e3, e4]
    have HBAD := Lib.hid hbad
    clear hbad e3 e4
    have hsp : (b3 = false) ∨ (b3 = true ∧ b4 = false) ∨ (b3 = true ∧ b4 = true) := by cases b3 <;> cases b4 <;> simp
    rcases hsp with rfl | ⟨rfl, rfl⟩ | ⟨rfl, rfl⟩
    all_goals
      go_enter Tryz.func81, Tryz.ntmps81
      go_upto_region 15 with (fail)
    all_goals
      go_wp2_with fail
      go_loopg [3, 4] (l.length + 1) (fun gg s5 s6 wr => ∃ (kk : Nat) (b : Bool), kk ≤ l.length ∧ gg = l.length + 1 - kk ∧ s5 = .bool b ∧ s6 = .int .i64 (kk : Int) ∧ Below W.heap.size W wr ∧ b = ((!(bad chk) (.mk _ n s l)) && (l.take kk).all fun c => !some_ (bad chk) c))
      case atStart => exact ⟨0, _, Nat.zero_le _, by omega, rfl, rfl, (by first | exact HB1.out | (have h := Below.refl W.heap.size W; rw [HW.out] at h ⊢; exact h)), by rw [HBAD.out]; rfl⟩
      case round =>
        obtain ⟨kk, b, hkk, hg, rfl, rfl, hB, hS⟩ := hrel
        have HB := Lib.hid hB; have HG := Lib.hid hg; have HS := Lib.hid hS
        clear hB hg hS
        have x3 := (HK.out.below HB.out (by rw [HSZ.out]; omega)).cell 3
        simp at x3
        cases b with
        | false =>
          have hq0 : q = false := by rw [HQ.out]; exact take_false HS.out
          subst hq0
          by_cases hlt : kk < l.length
          · have hltz : (kk : Int) < (l.length : Int) := by omega
            go_wp2_with fail
            go_ret
            exact ⟨rfl, HBW.out.trans (HB.out.mono HBW.out.size)⟩
          · have hltz : ¬ (kk : Int) < (l.length : Int) := by omega
            go_wp2_with fail
            go_ret
            exact ⟨rfl, HBW.out.trans (HB.out.mono HBW.out.size)⟩
        | true =>
          by_cases hlt : kk < l.length
          · have hltz : (kk : Int) < (l.length : Int) := by omega
            obtain ⟨bb, off, rfl, hb, k', n', s', l', A', c', ht, hv, c0, c1, c2, c3⟩ := (HR.out.under HB.out).at_ hlt
            have hcall := IH.out _ (List.getElem_mem hlt) _ wr (hv.more HB.out.size)
            obtain ⟨z, hz⟩ : ∃ z, (!some_ (bad chk) l[kk]) = z := ⟨_, rfl⟩
            rw [hz] at hcall
            have HC := Lib.hid hcall; have HZ := Lib.hid (take_step hlt HS.out hz)
            clear hcall hv ht hz
            go_wp2_with (go_at_call 81; refine HC.out.mono ?_; rintro e w' ⟨rfl, hb'⟩; have HB' := Lib.hid hb'; clear hb')
            go_roundg (l.length + 1 - (kk + 1))
            case measure => have := HG.out; omega
            case rel => exact ⟨kk + 1, _, by omega, rfl, rfl, by go_num, HB.out.trans (HB'.out.mono HB.out.size), HZ.out⟩
          · have hltz : ¬ (kk : Int) < (l.length : Int) := by omega
            obtain rfl : kk = l.length := by omega
            have hq0 : q = true := by
              rw [HQ.out]; have := HS.out; rw [List.take_length] at this; exact this.symm
            subst hq0
            go_wp2_with fail
            go_ret
            exact ⟨rfl, HBW.out.trans (HB.out.mono HBW.out.size)⟩
  · obtain ⟨b1, h1⟩ : ∃ b, (n == 0) = b := ⟨_, rfl⟩
    have e1 : decide (n ≠ 0) = !b1 := by rw [← h1]; by_cases h : n = 0 <;> simp [h]
    obtain ⟨b4, h4⟩ : ∃ b, ((l.length : Int) == 0) = b := ⟨_, rfl⟩
    have e4 : l.isEmpty = b4 := by rw [← h4]; cases l <;> simp; omega
    obtain ⟨b5, h5⟩ : ∃ b, decide (chk s.data.toList ≠ 4) = b := ⟨_, rfl⟩
    have e5 : decide (chk s.data.toList = 4) = !b5 := by rw [← h5]; by_cases h : chk s.data.toList = 4 <;> simp [h]
    have HN := Lib.hid (fun W => number_c s hs W)
    rw [h5] at HN
    have hbad : (bad chk) (.mk 3 n s l) = (!b1 || !b4 || !b5) := by simp only [bad, e1, e4, e5]
    have HBAD := Lib.hid hbad
    clear hbad e1 e4 e5 h5
    have hsp : (b1 = false) ∨ (b1 = true ∧ b4 = false) ∨ (b1 = true ∧ b4 = true ∧ b5 = false) ∨ (b1 = true ∧ b4 = true ∧ b5 = true) := by cases b1 <;> cases b4 <;> cases b5 <;> simp
    rcases hsp with rfl | ⟨rfl, rfl⟩ | ⟨rfl, rfl, rfl⟩ | ⟨rfl, rfl, rfl⟩
    all_goals
      go_enter Tryz.func81, Tryz.ntmps81
      go_upto_region 15 with (go_at_call 106; refine (HN.out _).mono ?_; rintro e w1 ⟨rfl, hb1⟩; have HB1 := Lib.hid (show Below W.heap.size W w1 by have h := hb1; rw [HW.out]; exact h); clear hb1)
    all_goals
      go_wp2_with fail
      go_loopg [3, 4] (l.length + 1) (fun gg s5 s6 wr => ∃ (kk : Nat) (b : Bool), kk ≤ l.length ∧ gg = l.length + 1 - kk ∧ s5 = .bool b ∧ s6 = .int .i64 (kk : Int) ∧ Below W.heap.size W wr ∧ b = ((!(bad chk) (.mk _ n s l)) && (l.take kk).all fun c => !some_ (bad chk) c))
      case atStart => exact ⟨0, _, Nat.zero_le _, by omega, rfl, rfl, (by first | exact HB1.out | (have h := Below.refl W.heap.size W; rw [HW.out] at h ⊢; exact h)), by rw [HBAD.out]; rfl⟩
      case round =>
        obtain ⟨kk, b, hkk, hg, rfl, rfl, hB, hS⟩ := hrel
        have HB := Lib.hid hB; have HG := Lib.hid hg; have HS := Lib.hid hS
        clear hB hg hS
        have x3 := (HK.out.below HB.out (by rw [HSZ.out]; omega)).cell 3
        simp at x3
        cases b with
        | false =>
          have hq0 : q = false := by rw [HQ.out]; exact take_false HS.out
          subst hq0
          by_cases hlt : kk < l.length
          · have hltz : (kk : Int) < (l.length : Int) := by omega
            go_wp2_with fail
            go_ret
            exact ⟨rfl, HBW.out.trans (HB.out.mono HBW.out.size)⟩
          · have hltz : ¬ (kk : Int) < (l.length : Int) := by omega
            go_wp2_with fail
            go_ret
            exact ⟨rfl, HBW.out.trans (HB.out.mono HBW.out.size)⟩
        | true =>
          by_cases hlt : kk < l.length
          · have hltz : (kk : Int) < (l.length : Int) := by omega
            obtain ⟨bb, off, rfl, hb, k', n', s', l', A', c', ht, hv, c0, c1, c2, c3⟩ := (HR.out.under HB.out).at_ hlt
            have hcall := IH.out _ (List.getElem_mem hlt) _ wr (hv.more HB.out.size)
            obtain ⟨z, hz⟩ : ∃ z, (!some_ (bad chk) l[kk]) = z := ⟨_, rfl⟩
            rw [hz] at hcall
            have HC := Lib.hid hcall; have HZ := Lib.hid (take_step hlt HS.out hz)
            clear hcall hv ht hz
            go_wp2_with (go_at_call 81; refine HC.out.mono ?_; rintro e w' ⟨rfl, hb'⟩; have HB' := Lib.hid hb'; clear hb')
            go_roundg (l.length + 1 - (kk + 1))
            case measure => have := HG.out; omega
            case rel => exact ⟨kk + 1, _, by omega, rfl, rfl, by go_num, HB.out.trans (HB'.out.mono HB.out.size), HZ.out⟩
          · have hltz : ¬ (kk : Int) < (l.length : Int) := by omega
            obtain rfl : kk = l.length := by omega
            have hq0 : q = true := by
              rw [HQ.out]; have := HS.out; rw [List.take_length] at this; exact this.symm
            subst hq0
            go_wp2_with fail
            go_ret
            exact ⟨rfl, HBW.out.trans (HB.out.mono HBW.out.size)⟩
  · obtain ⟨b1, h1⟩ : ∃ b, (n == 0) = b := ⟨_, rfl⟩
    have e1 : decide (n ≠ 0) = !b1 := by rw [← h1]; by_cases h : n = 0 <;> simp [h]
    obtain ⟨b4, h4⟩ : ∃ b, ((l.length : Int) == 0) = b := ⟨_, rfl⟩
    have e4 : l.isEmpty = b4 := by rw [← h4]; cases l <;> simp; omega
    have hbad : (bad chk) (.mk 4 n s l) = (!b1 || !b4) := by simp only [bad, e1, e4]
    have HBAD := Lib.hid hbad
    clear hbad e1 e4
    have hsp : (b1 = false) ∨ (b1 = true ∧ b4 = false) ∨ (b1 = true ∧ b4 = true) := by cases b1 <;> cases b4 <;> simp
    rcases hsp with rfl | ⟨rfl, rfl⟩ | ⟨rfl, rfl⟩
    all_goals
      go_enter Tryz.func81, Tryz.ntmps81
      go_upto_region 15 with (fail)
    all_goals
      go_wp2_with fail
      go_loopg [3, 4] (l.length + 1) (fun gg s5 s6 wr => ∃ (kk : Nat) (b : Bool), kk ≤ l.length ∧ gg = l.length + 1 - kk ∧ s5 = .bool b ∧ s6 = .int .i64 (kk : Int) ∧ Below W.heap.size W wr ∧ b = ((!(bad chk) (.mk _ n s l)) && (l.take kk).all fun c => !some_ (bad chk) c))
      case atStart => exact ⟨0, _, Nat.zero_le _, by omega, rfl, rfl, (by first | exact HB1.out | (have h := Below.refl W.heap.size W; rw [HW.out] at h ⊢; exact h)), by rw [HBAD.out]; rfl⟩
      case round =>
        obtain ⟨kk, b, hkk, hg, rfl, rfl, hB, hS⟩ := hrel
        have HB := Lib.hid hB; have HG := Lib.hid hg; have HS := Lib.hid hS
        clear hB hg hS
        have x3 := (HK.out.below HB.out (by rw [HSZ.out]; omega)).cell 3
        simp at x3
        cases b with
        | false =>
          have hq0 : q = false := by rw [HQ.out]; exact take_false HS.out
          subst hq0
          by_cases hlt : kk < l.length
          · have hltz : (kk : Int) < (l.length : Int) := by omega
            go_wp2_with fail
            go_ret
            exact ⟨rfl, HBW.out.trans (HB.out.mono HBW.out.size)⟩
          · have hltz : ¬ (kk : Int) < (l.length : Int) := by omega
            go_wp2_with fail
            go_ret
            exact ⟨rfl, HBW.out.trans (HB.out.mono HBW.out.size)⟩
        | true =>
          by_cases hlt : kk < l.length
          · have hltz : (kk : Int) < (l.length : Int) := by omega
            obtain ⟨bb, off, rfl, hb, k', n', s', l', A', c', ht, hv, c0, c1, c2, c3⟩ := (HR.out.under HB.out).at_ hlt
            have hcall := IH.out _ (List.getElem_mem hlt) _ wr (hv.more HB.out.size)
            obtain ⟨z, hz⟩ : ∃ z, (!some_ (bad chk) l[kk]) = z := ⟨_, rfl⟩
            rw [hz] at hcall
            have HC := Lib.hid hcall; have HZ := Lib.hid (take_step hlt HS.out hz)
            clear hcall hv ht hz
            go_wp2_with (go_at_call 81; refine HC.out.mono ?_; rintro e w' ⟨rfl, hb'⟩; have HB' := Lib.hid hb'; clear hb')
            go_roundg (l.length + 1 - (kk + 1))
            case measure => have := HG.out; omega
            case rel => exact ⟨kk + 1, _, by omega, rfl, rfl, by go_num, HB.out.trans (HB'.out.mono HB.out.size), HZ.out⟩
          · have hltz : ¬ (kk : Int) < (l.length : Int) := by omega
            obtain rfl : kk = l.length := by omega
            have hq0 : q = true := by
              rw [HQ.out]; have := HS.out; rw [List.take_length] at this; exact this.symm
            subst hq0
            go_wp2_with fail
            go_ret
            exact ⟨rfl, HBW.out.trans (HB.out.mono HBW.out.size)⟩
  · obtain ⟨b1, h1⟩ : ∃ b, (n == 0) = b := ⟨_, rfl⟩
    have e1 : decide (n ≠ 0) = !b1 := by rw [← h1]; by_cases h : n = 0 <;> simp [h]
    obtain ⟨b3, h3⟩ : ∃ b, s.toList.isEmpty = b := ⟨_, rfl⟩
    have e3 : decide (s.size ≠ 0) = !b3 := by rw [← h3, empty_iff]; by_cases h : s.size = 0 <;> simp [h]
    obtain ⟨b7, h7⟩ : ∃ b, ((l.length : Int) == 1) = b := ⟨_, rfl⟩
    have e7 : decide (l.length = 1) = b7 := by rw [← h7]; by_cases h : l.length = 1 <;> simp [h]; omega
    have h7n : ((l.length : Int) != 1) = !b7 := by rw [← h7]; rfl
    have hbad : (bad chk) (.mk 5 n s l) = (!b1 || !b3 || b7) := by simp only [bad, e1, e3, e7]
    have HBAD := Lib.hid hbad
    clear hbad e1 e3 e7
    have hsp : (b1 = false) ∨ (b1 = true ∧ b3 = false) ∨ (b1 = true ∧ b3 = true ∧ b7 = false) ∨ (b1 = true ∧ b3 = true ∧ b7 = true) := by cases b1 <;> cases b3 <;> cases b7 <;> simp
    rcases hsp with rfl | ⟨rfl, rfl⟩ | ⟨rfl, rfl, rfl⟩ | ⟨rfl, rfl, rfl⟩
    all_goals
      go_enter Tryz.func81, Tryz.ntmps81
      go_upto_region 15 with (fail)
    all_goals
      go_wp2_with fail
      go_loopg [3, 4] (l.length + 1) (fun gg s5 s6 wr => ∃ (kk : Nat) (b : Bool), kk ≤ l.length ∧ gg = l.length + 1 - kk ∧ s5 = .bool b ∧ s6 = .int .i64 (kk : Int) ∧ Below W.heap.size W wr ∧ b = ((!(bad chk) (.mk _ n s l)) && (l.take kk).all fun c => !some_ (bad chk) c))
      case atStart => exact ⟨0, _, Nat.zero_le _, by omega, rfl, rfl, (by first | exact HB1.out | (have h := Below.refl W.heap.size W; rw [HW.out] at h ⊢; exact h)), by rw [HBAD.out]; rfl⟩
      case round =>
        obtain ⟨kk, b, hkk, hg, rfl, rfl, hB, hS⟩ := hrel
        have HB := Lib.hid hB; have HG := Lib.hid hg; have HS := Lib.hid hS
        clear hB hg hS
        have x3 := (HK.out.below HB.out (by rw [HSZ.out]; omega)).cell 3
        simp at x3
        cases b with
        | false =>
          have hq0 : q = false := by rw [HQ.out]; exact take_false HS.out
          subst hq0
          by_cases hlt : kk < l.length
          · have hltz : (kk : Int) < (l.length : Int) := by omega
            go_wp2_with fail
            go_ret
            exact ⟨rfl, HBW.out.trans (HB.out.mono HBW.out.size)⟩
          · have hltz : ¬ (kk : Int) < (l.length : Int) := by omega
            go_wp2_with fail
            go_ret
            exact ⟨rfl, HBW.out.trans (HB.out.mono HBW.out.size)⟩
        | true =>
          by_cases hlt : kk < l.length
          · have hltz : (kk : Int) < (l.length : Int) := by omega
            obtain ⟨bb, off, rfl, hb, k', n', s', l', A', c', ht, hv, c0, c1, c2, c3⟩ := (HR.out.under HB.out).at_ hlt
            have hcall := IH.out _ (List.getElem_mem hlt) _ wr (hv.more HB.out.size)
            obtain ⟨z, hz⟩ : ∃ z, (!some_ (bad chk) l[kk]) = z := ⟨_, rfl⟩
            rw [hz] at hcall
            have HC := Lib.hid hcall; have HZ := Lib.hid (take_step hlt HS.out hz)
            clear hcall hv ht hz
            go_wp2_with (go_at_call 81; refine HC.out.mono ?_; rintro e w' ⟨rfl, hb'⟩; have HB' := Lib.hid hb'; clear hb')
            go_roundg (l.length + 1 - (kk + 1))
            case measure => have := HG.out; omega
            case rel => exact ⟨kk + 1, _, by omega, rfl, rfl, by go_num, HB.out.trans (HB'.out.mono HB.out.size), HZ.out⟩
          · have hltz : ¬ (kk : Int) < (l.length : Int) := by omega
            obtain rfl : kk = l.length := by omega
            have hq0 : q = true := by
              rw [HQ.out]; have := HS.out; rw [List.take_length] at this; exact this.symm
            subst hq0
            go_wp2_with fail
            go_ret
            exact ⟨rfl, HBW.out.trans (HB.out.mono HBW.out.size)⟩
  · obtain ⟨b1, h1⟩ : ∃ b, (n == 0) = b := ⟨_, rfl⟩
    have e1 : decide (n ≠ 0) = !b1 := by rw [← h1]; by_cases h : n = 0 <;> simp [h]
    obtain ⟨b6, h6⟩ : ∃ b, cons s.data.toList = b := ⟨_, rfl⟩
    have HN := Lib.hid (fun W => names_c s hs W)
    rw [h6] at HN
    have hbad : (bad chk) (.mk 6 n s l) = (!b1 || !b6) := by simp only [bad, e1, h6]
    have HBAD := Lib.hid hbad
    clear hbad e1 h6
    have hsp : (b1 = false) ∨ (b1 = true ∧ b6 = false) ∨ (b1 = true ∧ b6 = true) := by cases b1 <;> cases b6 <;> simp
    rcases hsp with rfl | ⟨rfl, rfl⟩ | ⟨rfl, rfl⟩
    all_goals
      go_enter Tryz.func81, Tryz.ntmps81
      go_upto_region 15 with (go_at_call 107; refine (HN.out _).mono ?_; rintro e w1 ⟨rfl, hb1⟩; have HB1 := Lib.hid (show Below W.heap.size W w1 by have h := hb1; rw [HW.out]; exact h); clear hb1)
    all_goals
      go_wp2_with fail
      go_loopg [3, 4] (l.length + 1) (fun gg s5 s6 wr => ∃ (kk : Nat) (b : Bool), kk ≤ l.length ∧ gg = l.length + 1 - kk ∧ s5 = .bool b ∧ s6 = .int .i64 (kk : Int) ∧ Below W.heap.size W wr ∧ b = ((!(bad chk) (.mk _ n s l)) && (l.take kk).all fun c => !some_ (bad chk) c))
      case atStart => exact ⟨0, _, Nat.zero_le _, by omega, rfl, rfl, (by first | exact HB1.out | (have h := Below.refl W.heap.size W; rw [HW.out] at h ⊢; exact h)), by rw [HBAD.out]; rfl⟩
      case round =>
        obtain ⟨kk, b, hkk, hg, rfl, rfl, hB, hS⟩ := hrel
        have HB := Lib.hid hB; have HG := Lib.hid hg; have HS := Lib.hid hS
        clear hB hg hS
        have x3 := (HK.out.below HB.out (by rw [HSZ.out]; omega)).cell 3
        simp at x3
        cases b with
        | false =>
          have hq0 : q = false := by rw [HQ.out]; exact take_false HS.out
          subst hq0
          by_cases hlt : kk < l.length
          · have hltz : (kk : Int) < (l.length : Int) := by omega
            go_wp2_with fail
            go_ret
            exact ⟨rfl, HBW.out.trans (HB.out.mono HBW.out.size)⟩
          · have hltz : ¬ (kk : Int) < (l.length : Int) := by omega
            go_wp2_with fail
            go_ret
            exact ⟨rfl, HBW.out.trans (HB.out.mono HBW.out.size)⟩
        | true =>
          by_cases hlt : kk < l.length
          · have hltz : (kk : Int) < (l.length : Int) := by omega
            obtain ⟨bb, off, rfl, hb, k', n', s', l', A', c', ht, hv, c0, c1, c2, c3⟩ := (HR.out.under HB.out).at_ hlt
            have hcall := IH.out _ (List.getElem_mem hlt) _ wr (hv.more HB.out.size)
            obtain ⟨z, hz⟩ : ∃ z, (!some_ (bad chk) l[kk]) = z := ⟨_, rfl⟩
            rw [hz] at hcall
            have HC := Lib.hid hcall; have HZ := Lib.hid (take_step hlt HS.out hz)
            clear hcall hv ht hz
            go_wp2_with (go_at_call 81; refine HC.out.mono ?_; rintro e w' ⟨rfl, hb'⟩; have HB' := Lib.hid hb'; clear hb')
            go_roundg (l.length + 1 - (kk + 1))
            case measure => have := HG.out; omega
            case rel => exact ⟨kk + 1, _, by omega, rfl, rfl, by go_num, HB.out.trans (HB'.out.mono HB.out.size), HZ.out⟩
          · have hltz : ¬ (kk : Int) < (l.length : Int) := by omega
            obtain rfl : kk = l.length := by omega
            have hq0 : q = true := by
              rw [HQ.out]; have := HS.out; rw [List.take_length] at this; exact this.symm
            subst hq0
            go_wp2_with fail
            go_ret
            exact ⟨rfl, HBW.out.trans (HB.out.mono HBW.out.size)⟩
  · have hbad : (bad chk) (.mk k n s l) = true := by unfold bad; split <;> simp_all
    have HBAD := Lib.hid hbad
    clear hbad
    have g1 : ((k : Int) == 1) = false := by rw [beq_eq_false_iff_ne]; omega
    have g2 : ((k : Int) == 2) = false := by rw [beq_eq_false_iff_ne]; omega
    have g3 : ((k : Int) == 3) = false := by rw [beq_eq_false_iff_ne]; omega
    have g4 : ((k : Int) == 4) = false := by rw [beq_eq_false_iff_ne]; omega
    have g5 : ((k : Int) == 5) = false := by rw [beq_eq_false_iff_ne]; omega
    have g6 : ((k : Int) == 6) = false := by rw [beq_eq_false_iff_ne]; omega
    all_goals
      go_enter Tryz.func81, Tryz.ntmps81
      go_upto_region 15 with (fail)
    all_goals
      go_wp2_with fail
      go_loopg [3, 4] (l.length + 1) (fun gg s5 s6 wr => ∃ (kk : Nat) (b : Bool), kk ≤ l.length ∧ gg = l.length + 1 - kk ∧ s5 = .bool b ∧ s6 = .int .i64 (kk : Int) ∧ Below W.heap.size W wr ∧ b = ((!(bad chk) (.mk _ n s l)) && (l.take kk).all fun c => !some_ (bad chk) c))
      case atStart => exact ⟨0, _, Nat.zero_le _, by omega, rfl, rfl, (by first | exact HB1.out | (have h := Below.refl W.heap.size W; rw [HW.out] at h ⊢; exact h)), by rw [HBAD.out]; rfl⟩
      case round =>
        obtain ⟨kk, b, hkk, hg, rfl, rfl, hB, hS⟩ := hrel
        have HB := Lib.hid hB; have HG := Lib.hid hg; have HS := Lib.hid hS
        clear hB hg hS
        have x3 := (HK.out.below HB.out (by rw [HSZ.out]; omega)).cell 3
        simp at x3
        cases b with
        | false =>
          have hq0 : q = false := by rw [HQ.out]; exact take_false HS.out
          subst hq0
          by_cases hlt : kk < l.length
          · have hltz : (kk : Int) < (l.length : Int) := by omega
            go_wp2_with fail
            go_ret
            exact ⟨rfl, HBW.out.trans (HB.out.mono HBW.out.size)⟩
          · have hltz : ¬ (kk : Int) < (l.length : Int) := by omega
            go_wp2_with fail
            go_ret
            exact ⟨rfl, HBW.out.trans (HB.out.mono HBW.out.size)⟩
        | true =>
          by_cases hlt : kk < l.length
          · have hltz : (kk : Int) < (l.length : Int) := by omega
            obtain ⟨bb, off, rfl, hb, k', n', s', l', A', c', ht, hv, c0, c1, c2, c3⟩ := (HR.out.under HB.out).at_ hlt
            have hcall := IH.out _ (List.getElem_mem hlt) _ wr (hv.more HB.out.size)
            obtain ⟨z, hz⟩ : ∃ z, (!some_ (bad chk) l[kk]) = z := ⟨_, rfl⟩
            rw [hz] at hcall
            have HC := Lib.hid hcall; have HZ := Lib.hid (take_step hlt HS.out hz)
            clear hcall hv ht hz
            go_wp2_with (go_at_call 81; refine HC.out.mono ?_; rintro e w' ⟨rfl, hb'⟩; have HB' := Lib.hid hb'; clear hb')
            go_roundg (l.length + 1 - (kk + 1))
            case measure => have := HG.out; omega
            case rel => exact ⟨kk + 1, _, by omega, rfl, rfl, by go_num, HB.out.trans (HB'.out.mono HB.out.size), HZ.out⟩
          · have hltz : ¬ (kk : Int) < (l.length : Int) := by omega
            obtain rfl : kk = l.length := by omega
            have hq0 : q = true := by
              rw [HQ.out]; have := HS.out; rw [List.take_length] at this; exact this.symm
            subst hq0
            go_wp2_with fail
            go_ret
            exact ⟨rfl, HBW.out.trans (HB.out.mono HBW.out.size)⟩
end Go.Proofs.YtddmegbhefmloaaGreatDoor
