/- The statements' own bounds: weight and heavy; may; the same row. -/
import Derived.Test.YtaapppieipfinaaGreatDoorVw
namespace Go.Proofs.YtaapppieipfinaaGreatDoor
open Go.RowKit Vp
open Go
attribute [local go_sem] Oper.semAt_some

set_option maxHeartbeats 1000000 in
theorem weight_c (t : V) : ∀ (u : Value) (m : Int) (w : World), VRep w w.heap.size t u → Calls Tryz.prog 30 #[u, .int .i64 m] w fun e w' => (∃ r : Int, e = .returned (.int .i64 r)) ∧ Below w.heap.size w w' := by
  induction t using V.ind with
  | h k n s l ih =>
  intro u m w h
  obtain ⟨k', n', s', l', A, c, ht, rfl, hk, hn, hs, hR⟩ := h.open_
  obtain ⟨rfl, rfl, rfl, rfl⟩ : k = k' ∧ n = n' ∧ s = s' ∧ l = l' := by cases ht; exact ⟨rfl, rfl, rfl, rfl⟩
  have hl := hR.1; have hm := hR.2.1
  have hmax : maxLen = 9223372036854775807 := rfl
  obtain ⟨W, hW⟩ : ∃ W, W = w.alloc (.cells #[.int .u8 (k : Int), .int .i64 n, .string s, .slice A l.length c] 28) := ⟨_, rfl⟩
  have hBW : Below w.heap.size w W := hW ▸ (Below.refl _ _).alloc (Nat.le_refl _) _
  have hsz : W.heap.size = w.heap.size + 1 := by rw [hW]; simp
  have hblk : Blk W w.heap.size 28 #[.int .u8 (k : Int), .int .i64 n, .string s, .slice A l.length c] := hW ▸ Blk.new _ _ _
  have hRW := (hR.under hBW).more hBW.size
  have HW := Lib.hid hW; have HBW := Lib.hid hBW; have HK := Lib.hid hblk; have HR := Lib.hid hRW; have IH := Lib.hid ih; have HSZ := Lib.hid hsz
  clear hW hBW hblk hRW hR h ih ht hsz
  have x2 := HK.out.cell 2; have x3 := HK.out.cell 3
  simp at x2 x3
  rw [HW.out] at x2 x3
  go_enter Tryz.func30, Tryz.ntmps30
  go_wp2_with fail
  rw [← HW.out]
  clear x2 x3
  go_loopg [5, 6] (l.length + 1) (fun gg s5 s6 wr => ∃ (kk : Nat) (nn : Int), kk ≤ l.length ∧ gg = l.length + 1 - kk ∧ s5 = .int .i64 nn ∧ s6 = .int .i64 (kk : Int) ∧ Below W.heap.size W wr)
  case atStart => exact ⟨0, _, Nat.zero_le _, by omega, rfl, rfl, Below.refl _ W⟩
  case round =>
    obtain ⟨kk, nn, hkk, hg, rfl, rfl, hB⟩ := hrel
    have HB := Lib.hid hB; have HG := Lib.hid hg
    clear hB hg
    have x3 := (HK.out.below HB.out (by rw [HSZ.out]; omega)).cell 3
    simp at x3
    by_cases hlt : kk < l.length
    · have hltz : (kk : Int) < (l.length : Int) := by omega
      obtain ⟨b, off, rfl, hb, k', n', s', l', A', c', ht, hv, c0, c1, c2, c3⟩ := (HR.out.under HB.out).at_ hlt
      by_cases hnm : nn < m
      · obtain ⟨d, hd⟩ : ∃ d, IntKind.i64.wrap (m - nn) = d := ⟨_, rfl⟩
        have hcall := IH.out _ (List.getElem_mem hlt) _ d wr (hv.more HB.out.size)
        have HC := Lib.hid hcall
        clear hcall hv ht
        go_wp2_with (go_at_call 30; refine HC.out.mono ?_; rintro e w' ⟨⟨r, rfl⟩, hb'⟩; have HB' := Lib.hid hb'; clear hb')
        go_roundg (l.length + 1 - (kk + 1))
        case measure => have := HG.out; omega
        case rel => exact ⟨kk + 1, _, by omega, rfl, rfl, by go_num, HB.out.trans (HB'.out.mono HB.out.size)⟩
      · clear hv ht
        go_wp2_with fail
        go_ret
        exact ⟨⟨_, rfl⟩, HBW.out.trans (HB.out.mono HBW.out.size)⟩
    · have hltz : ¬ (kk : Int) < (l.length : Int) := by omega
      obtain rfl : kk = l.length := by omega
      go_wp2_with fail
      go_ret
      exact ⟨⟨_, rfl⟩, HBW.out.trans (HB.out.mono HBW.out.size)⟩

/-- A truth value is told. -/
def Tells (e : Ending) : Prop := ∃ q : Bool, e = .returned (.bool q)
set_option maxHeartbeats 1000000 in
theorem heavy_c (l : List V) (A : Option Addr) (c : Nat) (w : World) (hR : RRep w w.heap.size l A c) :
    Calls Tryz.prog 9 #[.slice A l.length c] w fun e w' => Tells e ∧ Below w.heap.size w w' := by
  have hl := hR.1; have hm := hR.2.1
  have hmax : maxLen = 9223372036854775807 := rfl
  have HR := Lib.hid hR
  clear hR
  go_enter Tryz.func9, Tryz.ntmps9
  go_wp2_with fail
  go_loopg [3, 4] (l.length + 1) (fun gg s5 s6 wr => ∃ (kk : Nat) (nn : Int), kk ≤ l.length ∧ gg = l.length + 1 - kk ∧ s5 = .int .i64 nn ∧ s6 = .int .i64 (kk : Int) ∧ Below w.heap.size w wr)
  case atStart => exact ⟨0, _, Nat.zero_le _, by omega, rfl, rfl, Below.refl _ w⟩
  case round =>
    obtain ⟨kk, nn, hkk, hg, rfl, rfl, hB⟩ := hrel
    have HB := Lib.hid hB; have HG := Lib.hid hg
    clear hB hg
    by_cases hlt : kk < l.length
    · have hltz : (kk : Int) < (l.length : Int) := by omega
      obtain ⟨b, off, rfl, hb, k', n', s', l', A', c', ht, hv, c0, c1, c2, c3⟩ := (HR.out.under HB.out).at_ hlt
      by_cases hnm : nn < 600
      · have hcall := weight_c _ _ 600 wr (hv.more HB.out.size)
        have HC := Lib.hid hcall
        clear hcall hv ht
        go_wp2_with (go_at_call 30; refine HC.out.mono ?_; rintro e w' ⟨⟨r, rfl⟩, hb'⟩; have HB' := Lib.hid hb'; clear hb')
        go_roundg (l.length + 1 - (kk + 1))
        case measure => have := HG.out; omega
        case rel => exact ⟨kk + 1, _, by omega, rfl, rfl, by go_num, HB.out.trans (HB'.out.mono HB.out.size)⟩
      · clear hv ht
        go_wp2_with fail
        go_ret
        exact ⟨⟨_, rfl⟩, HB.out⟩
    · have hltz : ¬ (kk : Int) < (l.length : Int) := by omega
      obtain rfl : kk = l.length := by omega
      go_wp2_with fail
      go_ret
      exact ⟨⟨_, rfl⟩, HB.out⟩

set_option maxHeartbeats 1000000 in
theorem may_c (l : List V) (A : Option Addr) (c : Nat) (w : World) (hR : RRep w w.heap.size l A c) :
    Calls Tryz.prog 27 #[.slice A l.length c] w fun e w' => e = .returned (.bool (!invL l)) ∧ Below w.heap.size w w' := by
  have hl := hR.1; have hm := hR.2.1
  have hmax : maxLen = 9223372036854775807 := rfl
  have HR := Lib.hid hR
  clear hR
  obtain ⟨q, hq⟩ : ∃ q, q = (!invL l) := ⟨_, rfl⟩
  rw [← hq]
  have HQ := Lib.hid hq
  clear hq
  go_enter Tryz.func27, Tryz.ntmps27
  go_wp2_with fail
  go_loopg [3] (l.length + 1) (fun gg s6 wr => ∃ (kk : Nat), kk ≤ l.length ∧ gg = l.length + 1 - kk ∧ s6 = .int .i64 (kk : Int) ∧ Below w.heap.size w wr ∧ ∀ j (hj : j < l.length), j < kk → decide (chkV l[j] ≠ 0) = false)
  case atStart => exact ⟨0, Nat.zero_le _, by omega, rfl, Below.refl _ w, fun j _ hj => absurd hj (Nat.not_lt_zero _)⟩
  case round =>
    obtain ⟨kk, hkk, hg, rfl, hB, hA⟩ := hrel
    have HB := Lib.hid hB; have HG := Lib.hid hg; have HA := Lib.hid hA
    clear hB hg hA
    by_cases hlt : kk < l.length
    · have hltz : (kk : Int) < (l.length : Int) := by omega
      obtain ⟨b, off, rfl, hb, k', n', s', l', A', c', ht, hv, c0, c1, c2, c3⟩ := (HR.out.under HB.out).at_ hlt
      have hcall := check_c _ _ wr (hv.more HB.out.size)
      obtain ⟨z, hz⟩ : ∃ z, chkV l[kk] = z := ⟨_, rfl⟩
      rw [hz] at hcall
      have HC := Lib.hid hcall; have HZ := Lib.hid hz
      clear hcall hv ht hz
      by_cases hz0 : z = 0
      · subst hz0
        go_wp2_with (go_at_call 25; refine HC.out.mono ?_; rintro e w' ⟨rfl, hb'⟩; have HB' := Lib.hid hb'; clear hb')
        go_roundg (l.length + 1 - (kk + 1))
        case measure => have := HG.out; omega
        case rel =>
          refine ⟨kk + 1, by omega, rfl, by go_num, HB.out.trans (HB'.out.mono HB.out.size), fun j hj hjk => ?_⟩
          by_cases e : j = kk
          · subst e; rw [HZ.out]; rfl
          · exact HA.out j hj (by omega)
      · have hz1 : ¬ (z : Int) = 0 := by omega
        go_wp2_with (go_at_call 25; refine HC.out.mono ?_; rintro e w' ⟨rfl, hb'⟩; have HB' := Lib.hid hb'; clear hb')
        go_ret
        refine ⟨?_, HB.out.trans (HB'.out.mono HB.out.size)⟩
        rw [HQ.out, invL, any_at (fun t => decide (chkV t ≠ 0)) l hlt (by rw [HZ.out]; simpa using hz0)]; rfl
    · have hltz : ¬ (kk : Int) < (l.length : Int) := by omega
      obtain rfl : kk = l.length := by omega
      go_wp2_with fail
      go_ret
      refine ⟨?_, HB.out⟩
      have := any_take (fun t => decide (chkV t ≠ 0)) l l.length HA.out
      rw [List.take_length] at this
      rw [HQ.out, invL, this]; rfl
end Go.Proofs.YtaapppieipfinaaGreatDoor
