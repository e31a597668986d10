/- The statements' bound, told exactly enough: who is not heavy is not deep. -/
import Derived.Test.YtaapppieipfinaaGreatDoorWb
namespace Go.Proofs.YtaapppieipfinaaGreatDoor
open Go.RowKit Vp
open Go
attribute [local go_sem] Oper.semAt_some

/-- What a value weighs, as far as a bound m. -/
def Weighs (t : V) (m r : Int) : Prop := 1 ≤ r ∧ r ≤ 200000000000000000 + 600 * m ∧ (m ≤ r ∨ (depth t : Int) ≤ r)
/-- What has been weighed of a row, as far as a bound m. -/
def Sofar (l : List V) (kk : Nat) (m n : Int) : Prop := 1 ≤ n ∧ n ≤ 200000000000000000 + 600 * m ∧ (m ≤ n ∨ ∀ j (hj : j < l.length), j < kk → (depth l[j] : Int) + 1 ≤ n)
theorem depthL_le (l : List V) (n : Nat) (h : ∀ t ∈ l, depth t ≤ n) : depthL l ≤ n := by
  induction l with
  | nil => simp [depthL]
  | cons v vs ih =>
    rw [depthL]
    have h1 := h v (by simp); have h2 := ih fun t ht => h t (by simp [ht])
    omega
theorem Sofar.done {k : Nat} {a : Int} {s : ByteArray} {l : List V} {m n : Int} (h : Sofar l l.length m n) : Weighs (.mk k a s l) m n := by
  obtain ⟨h1, h2, h3⟩ := h
  refine ⟨h1, h2, ?_⟩
  rcases h3 with h3 | h3
  · exact .inl h3
  · refine .inr ?_
    have := depthL_le l (n - 1).toNat fun t ht => by
      obtain ⟨j, hj, rfl⟩ := List.mem_iff_getElem.1 ht
      have := h3 j hj hj; omega
    rw [depth]; omega
theorem Sofar.over {k : Nat} {a : Int} {s : ByteArray} {l : List V} {kk : Nat} {m n : Int} (h : Sofar l kk m n) (hn : ¬ n < m) : Weighs (.mk k a s l) m n :=
  ⟨h.1, h.2.1, .inl (by omega)⟩
theorem Sofar.step {l : List V} {kk : Nat} {m n r : Int} (hk : kk < l.length) (_hm : 0 ≤ m) (h : Sofar l kk m n) (hn : n < m) (hr : Weighs l[kk] (m - n) r) : Sofar l (kk + 1) m (n + r) := by
  obtain ⟨h1, h2, h3⟩ := h
  obtain ⟨r1, r2, r3⟩ := hr
  refine ⟨by omega, by omega, ?_⟩
  rcases r3 with r3 | r3
  · exact .inl (by omega)
  · rcases h3 with h3 | h3
    · exact absurd h3 (by omega)
    · refine .inr fun j hj hjk => ?_
      by_cases e : j = kk
      · subst e; omega
      · have := h3 j hj (by omega); omega

set_option maxHeartbeats 1000000 in
theorem weight2_c (t : V) : ∀ (u : Value) (m : Int) (w : World), 0 ≤ m → m ≤ 600 → VRep w w.heap.size t u → Calls Tryz.prog 30 #[u, .int .i64 m] w fun e w' => (∃ r : Int, e = .returned (.int .i64 r) ∧ Weighs t m r) ∧ Below w.heap.size w w' := by
  induction t using V.ind with
  | h k n s l ih =>
  intro u m w hm0 hm6 h
  obtain ⟨k', n', s', l', A, c, ht, rfl, hk, hn, hs, hR⟩ := h.open_
  obtain ⟨rfl, rfl, rfl, rfl⟩ : k = k' ∧ n = n' ∧ s = s' ∧ l = l' := by cases ht; exact ⟨rfl, rfl, rfl, rfl⟩
  have hl := hR.1; have hm := hR.2.1
  have hmax : maxLen = 9223372036854775807 := rfl
  obtain ⟨W, hW⟩ : ∃ W, W = w.alloc (.cells #[.int .u8 (k : Int), .int .i64 n, .string s, .slice A l.length c] 28) := ⟨_, rfl⟩
  have hBW : Below w.heap.size w W := hW ▸ (Below.refl _ _).alloc (Nat.le_refl _) _
  have hsz : W.heap.size = w.heap.size + 1 := by rw [hW]; simp
  have hblk : Blk W w.heap.size 28 #[.int .u8 (k : Int), .int .i64 n, .string s, .slice A l.length c] := hW ▸ Blk.new _ _ _
  have hRW := (hR.under hBW).more hBW.size
  obtain ⟨d0, hd0⟩ : ∃ d0 : Int, d0 = (s.size : Int) / 50 := ⟨_, rfl⟩
  have hd1 : 0 ≤ d0 ∧ d0 < 190000000000000000 := by omega
  have hq0 : IntKind.i64.wrap (Int.tdiv (s.size : Int) 50) = d0 := by rw [Int.tdiv_eq_ediv_of_nonneg (by omega), ← hd0, IntWalk.i64_in _ (by omega)]
  have HW := Lib.hid hW; have HBW := Lib.hid hBW; have HK := Lib.hid hblk; have HR := Lib.hid hRW; have IH := Lib.hid ih; have HSZ := Lib.hid hsz; have HD := Lib.hid hd1; have HD0 := Lib.hid hd0; have HM := Lib.hid (And.intro hm0 hm6)
  clear hW hBW hblk hRW hR h ih ht hsz hd1 hd0 hm0 hm6
  have x2 := HK.out.cell 2; have x3 := HK.out.cell 3
  simp at x2 x3
  rw [HW.out] at x2 x3
  go_enter Tryz.func30, Tryz.ntmps30
  go_wp2_with fail
  rw [← HW.out]
  clear x2 x3
  go_loopg [5, 6] (l.length + 1) (fun gg s5 s6 wr => ∃ (kk : Nat) (nn : Int), kk ≤ l.length ∧ gg = l.length + 1 - kk ∧ s5 = .int .i64 nn ∧ s6 = .int .i64 (kk : Int) ∧ Below W.heap.size W wr ∧ Sofar l kk m nn)
  case atStart =>
    refine ⟨0, _, Nat.zero_le _, by omega, rfl, rfl, Below.refl _ W, ?_⟩
    have := HD.out; have := HM.out; have := HD0.out
    exact ⟨by omega, by omega, .inr fun j _ hj => absurd hj (Nat.not_lt_zero _)⟩
  case round =>
    obtain ⟨kk, nn, hkk, hg, rfl, rfl, hB, hS⟩ := hrel
    have HB := Lib.hid hB; have HG := Lib.hid hg; have HS := Lib.hid hS
    clear hB hg hS
    have x3 := (HK.out.below HB.out (by rw [HSZ.out]; omega)).cell 3
    simp at x3
    by_cases hlt : kk < l.length
    · have hltz : (kk : Int) < (l.length : Int) := by omega
      obtain ⟨b, off, rfl, hb, k', n', s', l', A', c', ht, hv, c0, c1, c2, c3⟩ := (HR.out.under HB.out).at_ hlt
      by_cases hnm : nn < m
      · have hdd : 0 ≤ m - nn ∧ m - nn ≤ 600 := by have := HS.out.1; have := HM.out; omega
        obtain ⟨d, hd⟩ : ∃ d, IntKind.i64.wrap (m - nn) = d := ⟨_, rfl⟩
        have hdm : d = m - nn := by rw [← hd]; exact IntWalk.i64_in _ (by omega)
        have hcall := IH.out _ (List.getElem_mem hlt) _ d wr (by omega) (by omega) (hv.more HB.out.size)
        have HC := Lib.hid hcall; have HDM := Lib.hid hdm
        clear hcall hv ht hdd hdm
        go_wp2_with (go_at_call 30; refine HC.out.mono ?_; rintro e w' ⟨⟨r, rfl, hr⟩, hb'⟩; have HB' := Lib.hid hb'; clear hb'; have hS1 := HS.out.step hlt HM.out.1 hnm (by rw [← HDM.out]; exact hr); have hrw : IntKind.i64.wrap (nn + r) = nn + r := IntWalk.i64_in _ (by have := hS1.1; have := hS1.2.1; have := HM.out; omega); have HS1 := Lib.hid hS1; clear hS1 hr)
        go_roundg (l.length + 1 - (kk + 1))
        case measure => have := HG.out; omega
        case rel => exact ⟨kk + 1, _, by omega, rfl, rfl, by go_num, HB.out.trans (HB'.out.mono HB.out.size), HS1.out⟩
      · clear hv ht
        go_wp2_with fail
        go_ret
        exact ⟨⟨_, rfl, HS.out.over (by omega)⟩, HBW.out.trans (HB.out.mono HBW.out.size)⟩
    · have hltz : ¬ (kk : Int) < (l.length : Int) := by omega
      obtain rfl : kk = l.length := by omega
      go_wp2_with fail
      go_ret
      exact ⟨⟨_, rfl, HS.out.done⟩, HBW.out.trans (HB.out.mono HBW.out.size)⟩

/-- What is told of a row: heavy, or no value of it is deep. -/
def Light (l : List V) (q : Bool) : Prop := q = false → ∀ t ∈ l, depth t < 600
def Summed (l : List V) (kk : Nat) (n : Int) : Prop := 0 ≤ n ∧ n ≤ 300000000000000000 ∧ (600 ≤ n ∨ ∀ j (hj : j < l.length), j < kk → depth l[j] < 600)
theorem Summed.step {l : List V} {kk : Nat} {n r : Int} (hk : kk < l.length) (h : Summed l kk n) (hn : n < 600) (hr : Weighs l[kk] 600 r) : Summed l (kk + 1) (n + r) := by
  obtain ⟨h1, h2, h3⟩ := h
  obtain ⟨r1, r2, r3⟩ := hr
  refine ⟨by omega, by omega, ?_⟩
  by_cases h6 : 600 ≤ n + r
  · exact .inl h6
  · refine .inr fun j hj hjk => ?_
    by_cases e : j = kk
    · subst e; omega
    · rcases h3 with h3 | h3
      · omega
      · exact h3 j hj (by omega)
theorem Summed.light {l : List V} {n : Int} {q : Bool} (h : Summed l l.length n) (hq : q = decide (600 ≤ n)) : Light l q := by
  intro h0 t ht
  obtain ⟨j, hj, rfl⟩ := List.mem_iff_getElem.1 ht
  rcases h.2.2 with h3 | h3
  · rw [hq, decide_eq_true h3] at h0; cases h0
  · exact h3 j hj hj
theorem light_true (l : List V) : Light l true := fun h => by cases h
/-- A truth value is told that says so. -/
def TellsLight (l : List V) (e : Ending) : Prop := ∃ p : Bool, e = .returned (.bool p) ∧ Light l p
set_option maxHeartbeats 1000000 in
theorem heavy2_c (l : List V) (A : Option Addr) (c : Nat) (w : World) (hR : RRep w w.heap.size l A c) :
    Calls Tryz.prog 9 #[.slice A l.length c] w fun e w' => TellsLight l e ∧ Below w.heap.size w w' := by
  have hl := hR.1; have hm := hR.2.1
  have hmax : maxLen = 9223372036854775807 := rfl
  have HR := Lib.hid hR
  clear hR
  go_enter Tryz.func9, Tryz.ntmps9
  go_wp2_with fail
  go_loopg [3, 4] (l.length + 1) (fun gg s5 s6 wr => ∃ (kk : Nat) (nn : Int), kk ≤ l.length ∧ gg = l.length + 1 - kk ∧ s5 = .int .i64 nn ∧ s6 = .int .i64 (kk : Int) ∧ Below w.heap.size w wr ∧ Summed l kk nn)
  case atStart => exact ⟨0, 0, Nat.zero_le _, by omega, rfl, rfl, Below.refl _ w, by omega, by omega, .inr fun j _ hj => absurd hj (Nat.not_lt_zero _)⟩
  case round =>
    obtain ⟨kk, nn, hkk, hg, rfl, rfl, hB, hS⟩ := hrel
    have HB := Lib.hid hB; have HG := Lib.hid hg; have HS := Lib.hid hS
    clear hB hg hS
    by_cases hlt : kk < l.length
    · have hltz : (kk : Int) < (l.length : Int) := by omega
      obtain ⟨b, off, rfl, hb, k', n', s', l', A', c', ht, hv, c0, c1, c2, c3⟩ := (HR.out.under HB.out).at_ hlt
      by_cases hnm : nn < 600
      · have hcall := weight2_c _ _ 600 wr (by decide) (by decide) (hv.more HB.out.size)
        have HC := Lib.hid hcall
        clear hcall hv ht
        go_wp2_with (go_at_call 30; refine HC.out.mono ?_; rintro e w' ⟨⟨r, rfl, hr⟩, hb'⟩; have HB' := Lib.hid hb'; clear hb'; have hS1 := HS.out.step hlt hnm hr; have hrw : IntKind.i64.wrap (nn + r) = nn + r := IntWalk.i64_in _ (by have := hS1.1; have := hS1.2.1; omega); have HS1 := Lib.hid hS1; clear hS1 hr)
        go_roundg (l.length + 1 - (kk + 1))
        case measure => have := HG.out; omega
        case rel => exact ⟨kk + 1, _, by omega, rfl, rfl, by go_num, HB.out.trans (HB'.out.mono HB.out.size), HS1.out⟩
      · clear hv ht
        go_wp2_with fail
        go_ret
        exact ⟨⟨true, rfl, light_true l⟩, HB.out⟩
    · have hltz : ¬ (kk : Int) < (l.length : Int) := by omega
      obtain rfl : kk = l.length := by omega
      go_wp2_with fail
      go_ret
      exact ⟨⟨_, rfl, HS.out.light rfl⟩, HB.out⟩
end Go.Proofs.YtaapppieipfinaaGreatDoor
