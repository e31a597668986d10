/- The document's own answers of layer 2: how deep a value is. -/
import Derived.Test.YtddmegbhefmloaaGreatDoorQWb
namespace Go.Proofs.YtddmegbhefmloaaGreatDoor
open Go.RowKit Vp
open Go
attribute [local go_sem] Oper.semAt_some

theorem depthL_snoc : ∀ (l : List V) (v : V), depthL (l ++ [v]) = max (depthL l) (depth v)
  | [], v => by simp [depthL]
  | x :: xs, v => by rw [List.cons_append, depthL, depthL, depthL_snoc xs v]; omega
theorem depthL_take (l : List V) {k : Nat} (h : k < l.length) : depthL (l.take (k + 1)) = max (depthL (l.take k)) (depth l[k]) := by
  rw [List.take_add_one, List.getElem?_eq_getElem h, ← depthL_snoc]; rfl
theorem depthL_mem (l : List V) : ∀ t ∈ l, depth t ≤ depthL l := by
  induction l with
  | nil => intro t ht; cases ht
  | cons v vs ih =>
    intro t ht
    rw [depthL]
    rcases List.mem_cons.1 ht with rfl | ht
    · omega
    · have := ih t ht; omega

set_option maxHeartbeats 1000000 in
theorem depth_c (t : V) : ∀ (u : Value) (w : World), depth t < 100000000 → VRep w w.heap.size t u → Calls Tryz.prog 80 #[u] w fun e w' => e = .returned (.int .i64 (depth t : Int)) ∧ Below w.heap.size w w' := by
  induction t using V.ind with
  | h k n s l ih =>
  intro u w hd h
  obtain ⟨k', n', s', l', A, c, ht, rfl, hk, hn, hs, hR⟩ := h.open_
  obtain ⟨rfl, rfl, rfl, rfl⟩ : k = k' ∧ n = n' ∧ s = s' ∧ l = l' := by cases ht; exact ⟨rfl, rfl, rfl, rfl⟩
  have hl := hR.1; have hm := hR.2.1
  have hmax : maxLen = 9223372036854775807 := rfl
  rw [depth] at hd ⊢
  obtain ⟨q, hq⟩ : ∃ q : Int, q = ((depthL l + 1 : Nat) : Int) := ⟨_, rfl⟩
  rw [← hq]
  have HQ := Lib.hid hq; have HD := Lib.hid hd
  clear hq hd
  obtain ⟨W, hW⟩ : ∃ W, W = w.alloc (.cells #[.int .u8 (k : Int), .int .i64 n, .string s, .slice A l.length c] 34) := ⟨_, rfl⟩
  have hBW : Below w.heap.size w W := hW ▸ (Below.refl _ _).alloc (Nat.le_refl _) _
  have hsz : W.heap.size = w.heap.size + 1 := by rw [hW]; simp
  have hblk : Blk W w.heap.size 34 #[.int .u8 (k : Int), .int .i64 n, .string s, .slice A l.length c] := hW ▸ Blk.new _ _ _
  have hRW := (hR.under hBW).more hBW.size
  have HW := Lib.hid hW; have HBW := Lib.hid hBW; have HK := Lib.hid hblk; have HR := Lib.hid hRW; have IH := Lib.hid ih; have HSZ := Lib.hid hsz
  clear hW hBW hblk hRW hR h ih ht hsz
  go_enter Tryz.func80, Tryz.ntmps80
  go_wp2_with fail
  rw [← HW.out]
  go_loopg [3, 4] (l.length + 1) (fun gg s5 s6 wr => ∃ (kk : Nat) (nn : Int), kk ≤ l.length ∧ gg = l.length + 1 - kk ∧ s5 = .int .i64 nn ∧ s6 = .int .i64 (kk : Int) ∧ Below W.heap.size W wr ∧ nn = (depthL (l.take kk) : Int))
  case atStart => exact ⟨0, 0, Nat.zero_le _, by omega, rfl, rfl, Below.refl _ W, by simp [depthL]⟩
  case round =>
    obtain ⟨kk, nn, hkk, hg, rfl, rfl, hB, hS⟩ := hrel
    have HB := Lib.hid hB; have HG := Lib.hid hg; have HS := Lib.hid hS
    clear hB hg hS
    have x3 := (HK.out.below HB.out (by rw [HSZ.out]; omega)).cell 3
    simp at x3
    by_cases hlt : kk < l.length
    · have hltz : (kk : Int) < (l.length : Int) := by omega
      obtain ⟨b, off, rfl, hb, k', n', s', l', A', c', ht, hv, c0, c1, c2, c3⟩ := (HR.out.under HB.out).at_ hlt
      have hcall := IH.out _ (List.getElem_mem hlt) _ wr (by have := depthL_mem l _ (List.getElem_mem hlt); have := HD.out; omega) (hv.more HB.out.size)
      obtain ⟨z, hz⟩ : ∃ z, (depth l[kk] : Int) = z := ⟨_, rfl⟩
      rw [hz] at hcall
      have HC := Lib.hid hcall; have HZ := Lib.hid hz
      clear hcall hv ht hz
      go_wp2_with (go_at_call 80; refine HC.out.mono ?_; rintro e w' ⟨rfl, hb'⟩; have HB' := Lib.hid hb'; clear hb')
      go_roundg (l.length + 1 - (kk + 1))
      case measure => have := HG.out; omega
      case rel => exact ⟨kk + 1, _, by omega, rfl, rfl, by go_num, HB.out.trans (HB'.out.mono HB.out.size), by rw [HS.out, ← HZ.out, depthL_take l hlt]; omega⟩
    · have hltz : ¬ (kk : Int) < (l.length : Int) := by omega
      obtain rfl : kk = l.length := by omega
      have hn1 : nn + 1 = q := by rw [HS.out, HQ.out, List.take_length]; rfl
      have hw1 : IntKind.i64.wrap (nn + 1) = nn + 1 := IntWalk.i64_in _ (by have := HD.out; have := HQ.out; omega)
      have HN := Lib.hid hn1
      clear hn1
      go_wp2_with fail
      go_ret
      exact ⟨by rw [← HN.out]; rfl, HBW.out.trans (HB.out.mono HBW.out.size)⟩
end Go.Proofs.YtddmegbhefmloaaGreatDoor
