/- The statements' bound, told exactly: who is not heavy has a short text. -/
import Derived.Test.YtibpebhepoeikaaDoorIxc
namespace Go.Proofs.YtibpebhepoeikaaDoor
open Go.RowKit Vp
open Go
namespace Tx
attribute [local go_sem] Oper.semAt_some

mutual
/-- What a value weighs. -/
def bulk : V → Nat
  | .mk _ _ s l => 1 + s.size / 50 + bulkL l
def bulkL : List V → Nat
  | [] => 0
  | v :: vs => bulk v + bulkL vs
end
theorem bulkL_snoc (v : V) : ∀ l : List V, bulkL (l ++ [v]) = bulkL l + bulk v
  | [] => by simp [bulkL]
  | x :: xs => by rw [List.cons_append, bulkL, bulkL, bulkL_snoc v xs]; omega
theorem bulkL_take (l : List V) {kk : Nat} (hk : kk < l.length) : bulkL (l.take (kk + 1)) = bulkL (l.take kk) + bulk l[kk] := by
  rw [List.take_succ_eq_append_getElem hk, bulkL_snoc]
/-- What a value weighs, as far as a bound m. -/
def Weighs3 (t : V) (m r : Int) : Prop := 1 ≤ r ∧ r ≤ 200000000000000000 + 600 * m ∧ (m ≤ r ∨ (bulk t : Int) = r)
/-- What has been weighed of a row, as far as a bound m. -/
def Sofar3 (d : Nat) (l : List V) (kk : Nat) (m n : Int) : Prop := 1 ≤ n ∧ n ≤ 200000000000000000 + 600 * m ∧ (m ≤ n ∨ ((1 + d + bulkL (l.take kk) : Nat) : Int) = n)
theorem Sofar3.done {k : Nat} {a : Int} {s : ByteArray} {l : List V} {m n : Int} (h : Sofar3 (s.size / 50) l l.length m n) : Weighs3 (.mk k a s l) m n := by
  obtain ⟨h1, h2, h3⟩ := h
  rw [List.take_length] at h3
  exact ⟨h1, h2, h3⟩
theorem Sofar3.over {k : Nat} {a : Int} {s : ByteArray} {l : List V} {kk d : Nat} {m n : Int} (h : Sofar3 d l kk m n) (hn : ¬ n < m) : Weighs3 (.mk k a s l) m n :=
  ⟨h.1, h.2.1, .inl (by omega)⟩
theorem Sofar3.step {l : List V} {kk d : Nat} {m n r : Int} (hk : kk < l.length) (_hm : 0 ≤ m) (h : Sofar3 d l kk m n) (hn : n < m) (hr : Weighs3 l[kk] (m - n) r) : Sofar3 d l (kk + 1) m (n + r) := by
  obtain ⟨h1, h2, h3⟩ := h
  obtain ⟨r1, r2, r3⟩ := hr
  refine ⟨by omega, by omega, ?_⟩
  rcases r3 with r3 | r3
  · exact .inl (by omega)
  · rcases h3 with h3 | h3
    · exact absurd h3 (by omega)
    · refine .inr ?_
      rw [bulkL_take l hk]; omega

set_option maxHeartbeats 1000000 in
theorem weight3_c (t : V) : ∀ (u : Value) (m : Int) (w : World), 0 ≤ m → m ≤ 600 → VRep w w.heap.size t u → Calls Tryd.prog 17 #[u, .int .i64 m] w fun e w' => (∃ r : Int, e = .returned (.int .i64 r) ∧ Weighs3 t m r) ∧ Below w.heap.size w w' := by
  induction t using V.ind with
  | h k n s l ih =>
  intro u m w hm0 hm6 h
  obtain ⟨k', n', s', l', A, c, ht, rfl, hk, hn, hs, hR⟩ := h.open_
  obtain ⟨rfl, rfl, rfl, rfl⟩ : k = k' ∧ n = n' ∧ s = s' ∧ l = l' := by cases ht; exact ⟨rfl, rfl, rfl, rfl⟩
  have hl := hR.1; have hm := hR.2.1
  have hmax : maxLen = 9223372036854775807 := rfl
  obtain ⟨W, hW⟩ : ∃ W, W = w.alloc (.cells #[.int .u8 (k : Int), .int .i64 n, .string s, .slice A l.length c] 42) := ⟨_, rfl⟩
  have hBW : Below w.heap.size w W := hW ▸ (Below.refl _ _).alloc (Nat.le_refl _) _
  have hsz : W.heap.size = w.heap.size + 1 := by rw [hW]; simp
  have hblk : Blk W w.heap.size 42 #[.int .u8 (k : Int), .int .i64 n, .string s, .slice A l.length c] := hW ▸ Blk.new _ _ _
  have hRW := (hR.under hBW).more hBW.size
  obtain ⟨d0, hd0⟩ : ∃ d0 : Int, d0 = (s.size : Int) / 50 := ⟨_, rfl⟩
  have hd1 : 0 ≤ d0 ∧ d0 < 190000000000000000 := by omega
  have hq0 : IntKind.i64.wrap (Int.tdiv (s.size : Int) 50) = d0 := by rw [Int.tdiv_eq_ediv_of_nonneg (by omega), ← hd0, IntWalk.i64_in _ (by omega)]
  have HW := Lib.hid hW; have HBW := Lib.hid hBW; have HK := Lib.hid hblk; have HR := Lib.hid hRW; have IH := Lib.hid ih; have HSZ := Lib.hid hsz; have HD := Lib.hid hd1; have HD0 := Lib.hid hd0; have HM := Lib.hid (And.intro hm0 hm6)
  clear hW hBW hblk hRW hR h ih ht hsz hd1 hd0 hm0 hm6
  have x2 := HK.out.cell 2; have x3 := HK.out.cell 3
  simp at x2 x3
  rw [HW.out] at x2 x3
  go_enter Tryd.func17, Tryd.ntmps17
  go_wp2_with fail
  rw [← HW.out]
  clear x2 x3
  go_loopg [5, 6] (l.length + 1) (fun gg s5 s6 wr => ∃ (kk : Nat) (nn : Int), kk ≤ l.length ∧ gg = l.length + 1 - kk ∧ s5 = .int .i64 nn ∧ s6 = .int .i64 (kk : Int) ∧ Below W.heap.size W wr ∧ Sofar3 (s.size / 50) l kk m nn)
  case atStart =>
    refine ⟨0, _, Nat.zero_le _, by omega, rfl, rfl, Below.refl _ W, ?_⟩
    have := HD.out; have := HM.out; have := HD0.out
    exact ⟨by omega, by omega, .inr (by rw [List.take_zero, bulkL]; omega)⟩
  case round =>
    obtain ⟨kk, nn, hkk, hg, rfl, rfl, hB, hS⟩ := hrel
    have HB := Lib.hid hB; have HG := Lib.hid hg; have HS := Lib.hid hS
    clear hB hg hS
    have x3 := (HK.out.below HB.out (by rw [HSZ.out]; omega)).cell 3
    simp at x3
    by_cases hlt : kk < l.length
    · have hltz : (kk : Int) < (l.length : Int) := by omega
      obtain ⟨b, off, rfl, hb, k', n', s', l', A', c', ht, hv, c0, c1, c2, c3⟩ := (HR.out.under HB.out).at_ hlt
      by_cases hnm : nn < m
      · have hdd : 0 ≤ m - nn ∧ m - nn ≤ 600 := by have := HS.out.1; have := HM.out; omega
        obtain ⟨d, hd⟩ : ∃ d, IntKind.i64.wrap (m - nn) = d := ⟨_, rfl⟩
        have hdm : d = m - nn := by rw [← hd]; exact IntWalk.i64_in _ (by omega)
        have hcall := IH.out _ (List.getElem_mem hlt) _ d wr (by omega) (by omega) (hv.more HB.out.size)
        have HC := Lib.hid hcall; have HDM := Lib.hid hdm
        clear hcall hv ht hdd hdm
        go_wp2_with (go_at_call 17; refine HC.out.mono ?_; rintro e w' ⟨⟨r, rfl, hr⟩, hb'⟩; have HB' := Lib.hid hb'; clear hb'; have hS1 := HS.out.step hlt HM.out.1 hnm (by rw [← HDM.out]; exact hr); have hrw : IntKind.i64.wrap (nn + r) = nn + r := IntWalk.i64_in _ (by have := hS1.1; have := hS1.2.1; have := HM.out; omega); have HS1 := Lib.hid hS1; clear hS1 hr)
        go_roundg (l.length + 1 - (kk + 1))
        case measure => have := HG.out; omega
        case rel => exact ⟨kk + 1, _, by omega, rfl, rfl, by go_num, HB.out.trans (HB'.out.mono HB.out.size), HS1.out⟩
      · clear hv ht
        go_wp2_with fail
        go_ret
        exact ⟨⟨_, rfl, HS.out.over (by omega)⟩, HBW.out.trans (HB.out.mono HBW.out.size)⟩
    · have hltz : ¬ (kk : Int) < (l.length : Int) := by omega
      obtain rfl : kk = l.length := by omega
      go_wp2_with fail
      go_ret
      exact ⟨⟨_, rfl, HS.out.done⟩, HBW.out.trans (HB.out.mono HBW.out.size)⟩

/-- What is told of a row: heavy, or its values weigh little. -/
def Light3 (l : List V) (q : Bool) : Prop := q = false → bulkL l < 600
def Summed3 (l : List V) (kk : Nat) (n : Int) : Prop := 0 ≤ n ∧ n ≤ 300000000000000000 ∧ (600 ≤ n ∨ (bulkL (l.take kk) : Int) = n)
theorem Summed3.step {l : List V} {kk : Nat} {n r : Int} (hk : kk < l.length) (h : Summed3 l kk n) (hn : n < 600) (hr : Weighs3 l[kk] 600 r) : Summed3 l (kk + 1) (n + r) := by
  obtain ⟨h1, h2, h3⟩ := h
  obtain ⟨r1, r2, r3⟩ := hr
  refine ⟨by omega, by omega, ?_⟩
  by_cases h6 : 600 ≤ n + r
  · exact .inl h6
  · refine .inr ?_
    rw [bulkL_take l hk]; omega
theorem Summed3.light {l : List V} {n : Int} {q : Bool} (h : Summed3 l l.length n) (hq : q = decide (600 ≤ n)) : Light3 l q := by
  intro h0
  rcases h.2.2 with h3 | h3
  · rw [hq, decide_eq_true h3] at h0; cases h0
  · rw [List.take_length] at h3
    have : ¬ 600 ≤ n := fun h6 => by rw [hq, decide_eq_true h6] at h0; cases h0
    omega
theorem light3_true (l : List V) : Light3 l true := fun h => by cases h
/-- A truth value is told that says so. -/
def TellsLight3 (l : List V) (e : Ending) : Prop := ∃ p : Bool, e = .returned (.bool p) ∧ Light3 l p
def rngB (n : Int) : Bool := decide (-9223372036854775808 ≤ n ∧ n ≤ 9223372036854775807)
/-- The numbers are an int64's. -/
def rng (t : V) : Bool := !some_ (fun v => !rngB v.num) t
theorem rng_of {k : Nat} {n : Int} {s : ByteArray} {l : List V} (h : rng (.mk k n s l) = true) : (-9223372036854775808 ≤ n ∧ n ≤ 9223372036854775807) ∧ ∀ t ∈ l, rng t = true := by
  unfold rng at h
  rw [some_eq, Bool.not_eq_true', Bool.or_eq_false_iff] at h
  refine ⟨of_decide_eq_true (show rngB n = true by simpa [V.num] using h.1), fun t ht => ?_⟩
  have h2 : l.any (some_ (fun v => !rngB v.num)) = false := h.2
  rw [List.any_eq_false] at h2
  unfold rng
  simpa using h2 t ht
theorem VRep.rng {w : World} {B : Nat} {t : V} {u : Value} (h : VRep w B t u) : rng t = true := by
  induction h with
  | @mk k n s l A c E hk hn hs hc hm hcell hel ih =>
    unfold Go.Proofs.YtibpebhepoeikaaDoor.Tx.rng
    rw [some_eq, Bool.not_eq_true', Bool.or_eq_false_iff]
    refine ⟨by simpa [V.num] using (show rngB n = true from decide_eq_true hn), ?_⟩
    show l.any _ = false
    rw [List.any_eq_false]
    intro t ht
    obtain ⟨j, hj, rfl⟩ := List.mem_iff_getElem.1 ht
    have := ih j hj
    unfold Go.Proofs.YtibpebhepoeikaaDoor.Tx.rng at this
    simpa using this
theorem txtR_bulk : ∀ (l : List V) (f : Bool), (∀ t ∈ l, (txtV t).length + 2 ≤ 250 * bulk t) → (txtR f l).length ≤ 250 * bulkL l
  | [], f, _ => by simp [txtR]
  | v :: vs, f, h => by
    rw [txtR, bulkL, List.length_append, List.length_append]
    have h1 := h v (by simp)
    have h2 := txtR_bulk vs true fun t ht => h t (by simp [ht])
    have h3 : (if f = true then ([44, 32] : List UInt8) else []).length ≤ 2 := by split <;> simp
    omega
/-- A text is not longer than its value weighs. -/
theorem txt_bulk (t : V) : fine t = true → rng t = true → (txtV t).length + 2 ≤ 250 * bulk t := by
  induction t using V.ind with
  | h k n s l ih =>
  intro hf hr
  obtain ⟨hb, hl⟩ := fine_of hf
  obtain ⟨hn, hl2⟩ := rng_of hr
  have hR := txtR_bulk l false fun t ht => ih t ht (hl t ht) (hl2 t ht)
  have hsz := vsize_len s
  rw [txt_eq, bulk]
  rcases bad_of hb with ⟨rfl, h1, _, _⟩ | ⟨rfl, _, _⟩ | ⟨rfl, _, _, hc⟩ | ⟨rfl, _, _⟩ | ⟨rfl, _, _, _⟩ | ⟨rfl, _, hc⟩
  · rcases h1 with rfl | rfl
    · have : (tFalse).length = 5 := rfl
      simp [this]; omega
    · have : (tTrue).length = 4 := rfl
      simp [this]; omega
  · have := Lib.itoa_length_le n hn.1 hn.2
    simp; omega
  · simp; omega
  · have := quoteL_len s.data.toList
    simp; omega
  · simp; omega
  · simp only [show (6 : Nat) ≠ 1 by decide, show (6 : Nat) ≠ 2 by decide, show (6 : Nat) ≠ 3 by decide, show (6 : Nat) ≠ 4 by decide, show (6 : Nat) ≠ 5 by decide, if_false, if_true, List.length_append]
    split
    · simp; omega
    · simp; omega
theorem txt_light {l : List V} {t : V} (h : bulkL l < 600) (ht : t ∈ l) (hf : fine t = true) (hr : rng t = true) : (txtV t).length ≤ 200000 := by
  have h1 := txt_bulk t hf hr
  have h2 : bulk t ≤ bulkL l := by
    clear h
    induction l with
    | nil => cases ht
    | cons v vs ih =>
      rw [bulkL]
      rcases List.mem_cons.1 ht with rfl | ht
      · omega
      · have := ih ht; omega
  omega
end Tx
end Go.Proofs.YtibpebhepoeikaaDoor
