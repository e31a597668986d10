/- Package code: how many parts a value has, as the statements count them. -/
import Derived.Test.YtlhkjmckigblpaaGreatDoorYi
namespace Go.Proofs.YtlhkjmckigblpaaGreatDoor
open Go.RowKit Vp
open Go
namespace Tx
attribute [local go_sem] Oper.semAt_some

mutual
/-- How many parts a value has. -/
def pts : V → Nat
  | .mk _ _ s l => 1 + s.size / 64 + ptsL l
def ptsL : List V → Nat
  | [] => 0
  | v :: vs => pts v + ptsL vs
end
theorem ptsL_snoc (v : V) : ∀ l : List V, ptsL (l ++ [v]) = ptsL l + pts v
  | [] => by simp [ptsL]
  | x :: xs => by rw [List.cons_append, ptsL, ptsL, ptsL_snoc v xs]; omega
theorem ptsL_take (l : List V) {kk : Nat} (hk : kk < l.length) : ptsL (l.take (kk + 1)) = ptsL (l.take kk) + pts l[kk] := by
  rw [List.take_succ_eq_append_getElem hk, ptsL_snoc]
theorem depth_mem : ∀ (l : List V) (x : V), x ∈ l → depth x ≤ depthL l
  | [], _, h => by cases h
  | y :: ys, x, h => by
    rw [depthL]
    rcases List.mem_cons.1 h with h | h
    · rw [h]; omega
    · have := depth_mem ys x h; omega
/-- How many parts are told of a value: 3000 or more, or just those; of a value that is not too deep. -/
def Parts (t : V) (r : Int) : Prop := (-9223372036854775808 ≤ r ∧ r ≤ 9223372036854775807) ∧ (depth t ≤ 100000000 → 1 ≤ r ∧ r ≤ 200000000000000000 + 3000 * depth t ∧ (3000 ≤ r ∨ (pts t : Int) = r))
/-- What has been counted of a row. -/
def Sofar (d : Nat) (l : List V) (kk : Nat) (n : Int) : Prop := (-9223372036854775808 ≤ n ∧ n ≤ 9223372036854775807) ∧ (depthL l ≤ 100000000 → 1 ≤ n ∧ n ≤ 200000000000000000 + 3000 * depthL l + 3000 ∧ (3000 ≤ n ∨ ((1 + d + ptsL (l.take kk) : Nat) : Int) = n))
theorem Sofar.done {k : Nat} {a : Int} {s : ByteArray} {l : List V} {n : Int} (h : Sofar (s.size / 64) l l.length n) : Parts (.mk k a s l) n := by
  obtain ⟨h1, h2⟩ := h
  refine ⟨h1, fun hd => ?_⟩
  rw [depth] at hd ⊢
  obtain ⟨g1, g2, g3⟩ := h2 (by omega)
  rw [List.take_length] at g3
  exact ⟨g1, by omega, g3⟩
theorem Sofar.over {k : Nat} {a : Int} {s : ByteArray} {l : List V} {kk d : Nat} {n : Int} (h : Sofar d l kk n) (hn : ¬ n < 3000) : Parts (.mk k a s l) n := by
  obtain ⟨h1, h2⟩ := h
  refine ⟨h1, fun hd => ?_⟩
  rw [depth] at hd ⊢
  obtain ⟨g1, g2, g3⟩ := h2 (by omega)
  exact ⟨g1, by omega, .inl (by omega)⟩
theorem wrap_range (z : Int) : -9223372036854775808 ≤ wrap64 z ∧ wrap64 z ≤ 9223372036854775807 := by unfold wrap64; omega
theorem wrap_same {z : Int} (h0 : -9223372036854775808 ≤ z) (h1 : z ≤ 9223372036854775807) : wrap64 z = z := by unfold wrap64; omega
theorem Sofar.step {l : List V} {kk d : Nat} {n r : Int} (hk : kk < l.length) (h : Sofar d l kk n) (hn : n < 3000) (hr : Parts l[kk] r) : Sofar d l (kk + 1) (wrap64 (n + r)) := by
  obtain ⟨h1, h2⟩ := h
  obtain ⟨r1, r2⟩ := hr
  refine ⟨wrap_range _, fun hd => ?_⟩
  have hdm := depth_mem l l[kk] (List.getElem_mem hk)
  obtain ⟨g1, g2, g3⟩ := h2 hd
  obtain ⟨q1, q2, q3⟩ := r2 (by omega)
  rw [wrap_same (by omega) (by omega)]
  refine ⟨by omega, by omega, ?_⟩
  rcases q3 with q3 | q3
  · exact .inl (by omega)
  · rcases g3 with g3 | g3
    · exact absurd g3 (by omega)
    · refine .inr ?_
      rw [ptsL_take l hk]; omega

set_option maxHeartbeats 1000000 in
theorem parts_c (t : V) : ∀ (u : Value) (w : World), VRep w w.heap.size t u → Calls Tryz.prog 62 #[u] w fun e w' => (∃ r : Int, e = .returned (.int .i64 r) ∧ Parts t r) ∧ Below w.heap.size w w' := by
  induction t using V.ind with
  | h k n s l ih =>
  intro u w h
  obtain ⟨k', n', s', l', A, c, ht, rfl, hk, hn, hs, hR⟩ := h.open_
  obtain ⟨rfl, rfl, rfl, rfl⟩ : k = k' ∧ n = n' ∧ s = s' ∧ l = l' := by cases ht; exact ⟨rfl, rfl, rfl, rfl⟩
  have hl := hR.1; have hm := hR.2.1
  have hmax : maxLen = 9223372036854775807 := rfl
  obtain ⟨W, hW⟩ : ∃ W, W = w.alloc (.cells #[.int .u8 (k : Int), .int .i64 n, .string s, .slice A l.length c] 34) := ⟨_, rfl⟩
  have hBW : Below w.heap.size w W := hW ▸ (Below.refl _ _).alloc (Nat.le_refl _) _
  have hsz : W.heap.size = w.heap.size + 1 := by rw [hW]; simp
  have hblk : Blk W w.heap.size 34 #[.int .u8 (k : Int), .int .i64 n, .string s, .slice A l.length c] := hW ▸ Blk.new _ _ _
  have hRW := (hR.under hBW).more hBW.size
  obtain ⟨d0, hd0⟩ : ∃ d0 : Int, d0 = (s.size : Int) / 64 := ⟨_, rfl⟩
  have hd1 : 0 ≤ d0 ∧ d0 < 190000000000000000 := by omega
  have hq0 : IntKind.i64.wrap (Int.tdiv (s.size : Int) 64) = d0 := by rw [Int.tdiv_eq_ediv_of_nonneg (by omega), ← hd0, IntWalk.i64_in _ (by omega)]
  have HW := Lib.hid hW; have HBW := Lib.hid hBW; have HK := Lib.hid hblk; have HR := Lib.hid hRW; have IH := Lib.hid ih; have HSZ := Lib.hid hsz; have HD := Lib.hid hd1; have HD0 := Lib.hid hd0
  clear hW hBW hblk hRW hR h ih ht hsz hd1 hd0
  have x2 := HK.out.cell 2; have x3 := HK.out.cell 3
  simp at x2 x3
  rw [HW.out] at x2 x3
  go_enter Tryz.func62, Tryz.ntmps62
  go_wp2_with fail
  rw [← HW.out]
  clear x2 x3
  go_loopg [3, 4] (l.length + 1) (fun gg s5 s6 wr => ∃ (kk : Nat) (nn : Int), kk ≤ l.length ∧ gg = l.length + 1 - kk ∧ s5 = .int .i64 nn ∧ s6 = .int .i64 (kk : Int) ∧ Below W.heap.size W wr ∧ Sofar (s.size / 64) l kk nn)
  case atStart =>
    refine ⟨0, _, Nat.zero_le _, by omega, rfl, rfl, Below.refl _ W, ?_⟩
    have := HD.out; have := HD0.out
    exact ⟨by omega, fun _ => ⟨by omega, by omega, .inr (by rw [List.take_zero, ptsL]; omega)⟩⟩
  case round =>
    obtain ⟨kk, nn, hkk, hg, rfl, rfl, hB, hS⟩ := hrel
    have HB := Lib.hid hB; have HG := Lib.hid hg; have HS := Lib.hid hS
    clear hB hg hS
    have x3 := (HK.out.below HB.out (by rw [HSZ.out]; omega)).cell 3
    simp at x3
    by_cases hlt : kk < l.length
    · have hltz : (kk : Int) < (l.length : Int) := by omega
      obtain ⟨b, off, rfl, hb, k', n', s', l', A', c', ht, hv, c0, c1, c2, c3⟩ := (HR.out.under HB.out).at_ hlt
      by_cases hnm : nn < 3000
      · have hcall := IH.out _ (List.getElem_mem hlt) _ wr (hv.more HB.out.size)
        have HC := Lib.hid hcall
        clear hcall hv ht
        go_wp2_with (go_at_call 62; refine HC.out.mono ?_; rintro e w' ⟨⟨r, rfl, hr⟩, hb'⟩; have HB' := Lib.hid hb'; clear hb'; have hS1 := HS.out.step hlt hnm hr; have HS1 := Lib.hid hS1; clear hS1 hr)
        go_roundg (l.length + 1 - (kk + 1))
        case measure => have := HG.out; omega
        case rel => exact ⟨kk + 1, _, by omega, rfl, rfl, by go_num, HB.out.trans (HB'.out.mono HB.out.size), HS1.out⟩
      · clear hv ht
        go_wp2_with fail
        go_ret
        exact ⟨⟨_, rfl, HS.out.over (by omega)⟩, HBW.out.trans (HB.out.mono HBW.out.size)⟩
    · have hltz : ¬ (kk : Int) < (l.length : Int) := by omega
      obtain rfl : kk = l.length := by omega
      go_wp2_with fail
      go_ret
      exact ⟨⟨_, rfl, HS.out.done⟩, HBW.out.trans (HB.out.mono HBW.out.size)⟩


/-- Whether a value is wide: of one that is not too deep. -/
def Narrow (t : V) (q : Bool) : Prop := q = false → depth t ≤ 100000000 → pts t ≤ 2000
def TellsWide (t : V) (e : Ending) : Prop := ∃ p : Bool, e = .returned (.bool p) ∧ Narrow t p
set_option maxHeartbeats 1000000 in
theorem wide_c (t : V) (u : Value) (w : World) (h : VRep w w.heap.size t u) : Calls Tryz.prog 27 #[u] w fun e w' => TellsWide t e ∧ Below w.heap.size w w' := by
  obtain ⟨k, n, s, l, A, c, ht, rfl, hk, hn, hs, hR⟩ := h.open_
  have hB : Below w.heap.size w (w.alloc (.cells #[.int .u8 (k : Int), .int .i64 n, .string s, .slice A l.length c] 34)) := (Below.refl _ _).alloc (Nat.le_refl _) _
  have HC := Lib.hid (parts_c t _ _ ((h.under hB).more hB.size))
  have HB := Lib.hid hB
  clear hB h ht hR
  go_enter Tryz.func27, Tryz.ntmps27
  go_wp2_with fail
  refine HC.out.mono ?_
  rintro e w1 ⟨⟨r, rfl, hr⟩, hb⟩
  have HR := Lib.hid hr; have HB1 := Lib.hid (HB.out.trans (hb.mono HB.out.size))
  clear hr hb
  go_wp2_with fail
  go_ret
  refine ⟨⟨_, rfl, fun h0 hd => ?_⟩, HB1.out⟩
  obtain ⟨g1, g2, g3⟩ := HR.out.2 hd
  have : ¬ 2000 < r := by simpa using h0
  rcases g3 with g3 | g3 <;> omega
end Tx
end Go.Proofs.YtlhkjmckigblpaaGreatDoor
