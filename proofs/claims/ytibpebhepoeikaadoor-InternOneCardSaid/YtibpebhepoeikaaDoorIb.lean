/- Package intern: the walk of copied: a row in new memory. -/
import Derived.Test.YtibpebhepoeikaaDoorIa
namespace Go.Proofs.YtibpebhepoeikaaDoor
open Go.RowKit Vp
open Go
attribute [local go_sem] Oper.semAt_some

theorem vcells_inv : ∀ (us : List Value), (∀ u ∈ us, ∃ a b c d, u.cells = #[a, b, c, d]) → ∀ (j : Nat) (v : Value), (vcells us)[j]? = some v → ∃ (q r : Nat) (hq : q < us.length), j = q * 4 + r ∧ us[q].cells[r]? = some v
  | [], _, j, v, h => by simp [vcells] at h
  | u :: us, h, j, v, hj => by
    obtain ⟨a, b, c, d, hu⟩ := h u (by simp)
    have hv : vcells (u :: us) = [a, b, c, d] ++ vcells us := by simp [vcells, hu]
    rw [hv] at hj
    rcases Nat.lt_or_ge j 4 with h4 | h4
    · rw [List.getElem?_append_left (by simpa using h4)] at hj
      exact ⟨0, j, by simp, by omega, by simpa [hu] using hj⟩
    · rw [List.getElem?_append_right (by simpa using h4)] at hj
      obtain ⟨q, r, hq, e1, e2⟩ := vcells_inv us (fun u hu => h u (by simp [hu])) (j - 4) v (by simpa using hj)
      exact ⟨q + 1, r, by simp; omega, by omega, by simpa using e2⟩
theorem vcells_set : ∀ (us : List Value) (j : Nat) (hj : j < us.length) (a b c d x : Value), us[j].cells = #[a, b, c, d] → (∀ u ∈ us, ∃ a b c d, u.cells = #[a, b, c, d]) →
    (vcells us).set (j * 4 + 3) x = vcells (us.set j (.agg #[a, b, c, x])) 
  | [], j, hj, _, _, _, _, _, _, _ => by simp at hj
  | u :: us, 0, _, a, b, c, d, x, hu, _ => by
    simp only [List.getElem_cons_zero] at hu
    have h1 : vcells (u :: us) = [a, b, c, d] ++ vcells us := by simp [vcells, hu]
    have h2 : vcells ((u :: us).set 0 (.agg #[a, b, c, x])) = [a, b, c, x] ++ vcells us := rfl
    rw [h1, h2]
    rfl
  | u :: us, j + 1, hj, a, b, c, d, x, hu, h => by
    obtain ⟨a', b', c', d', hu'⟩ := h u (by simp)
    have ih := vcells_set us j (by simpa using hj) a b c d x (by simpa using hu) fun u hu => h u (by simp [hu])
    have hv : ∀ us', vcells (u :: us') = [a', b', c', d'] ++ vcells us' := fun us' => by simp [vcells, hu']
    rw [List.set_cons_succ, hv, hv, List.set_append_right _ _ (by simp; omega), ← ih]
    congr 2
    simp
    omega

/-- What is claimed of one row. -/
def CopyOn (l : List V) : Prop := ∀ (A : Option Addr) (c : Nat) (w : World), RRep w w.heap.size l A c →
  Calls Tryd.prog 27 #[.slice A l.length c] w fun e w' => ∃ A', e = .returned (.slice A' l.length l.length) ∧ CopyR w.heap.size w' l A' ∧ Below w.heap.size w w'

theorem one_int (k : IntKind) (n : Int) : (Value.int k n).oneCell' = true := rfl
/-- Round i: block g has the cells, the first i of them with lists in new memory. -/
def Mid (g B : Nat) (w0 wr : World) (l : List V) (i : Nat) : Prop := ∃ us : List Value, us.length = l.length ∧ Blk wr g 42 (vcells us).toArray ∧
  ∀ (j : Nat) (h1 : j < l.length) (h2 : j < us.length), ∃ (k : Nat) (n : Int) (s : ByteArray) (l' : List V) (A' : Option Addr) (c' : Nat), k < 256 ∧ (-9223372036854775808 ≤ n ∧ n ≤ 9223372036854775807) ∧ s.size ≤ maxLen ∧ l[j] = .mk k n s l' ∧ us[j] = .agg #[.int .u8 (k : Int), .int .i64 n, .string s, .slice A' l'.length c'] ∧
    (j < i → Lies (fun b => g < b) wr l[j] us[j]) ∧ (i ≤ j → RRep w0 B l' A' c')
theorem Mid.cells {g B : Nat} {w0 wr : World} {l : List V} {i : Nat} (h : Mid g B w0 wr l i) : ∃ us : List Value, us.length = l.length ∧ (∀ u ∈ us, ∃ a b c d, u.cells = #[a, b, c, d]) ∧ Blk wr g 42 (vcells us).toArray := by
  obtain ⟨us, h1, h2, h3⟩ := h
  refine ⟨us, h1, fun u hu => ?_, h2⟩
  obtain ⟨j, hj, rfl⟩ := List.getElem_of_mem hu
  obtain ⟨k, n, s, l', A', c', _, _, _, _, e, _⟩ := h3 j (by omega) hj
  exact ⟨_, _, _, _, by rw [e]; rfl⟩
theorem Mid.step {g B : Nat} {w0 wr w1 : World} {l us : List V} {vs : List Value} {i : Nat} (hi : i < l.length) (hvs : vs.length = l.length)
    (hel : ∀ (j : Nat) (h1 : j < l.length) (h2 : j < vs.length), ∃ (k : Nat) (n : Int) (s : ByteArray) (l' : List V) (A' : Option Addr) (c' : Nat), k < 256 ∧ (-9223372036854775808 ≤ n ∧ n ≤ 9223372036854775807) ∧ s.size ≤ maxLen ∧ l[j] = .mk k n s l' ∧ vs[j] = .agg #[.int .u8 (k : Int), .int .i64 n, .string s, .slice A' l'.length c'] ∧
      (j < i → Lies (fun b => g < b) wr l[j] vs[j]) ∧ (i ≤ j → RRep w0 B l' A' c'))
    (hB1 : Below wr.heap.size wr w1) (hg : g < wr.heap.size) (hbk : Blk w1 g 42 (vcells vs).toArray) {k : Nat} {n : Int} {s : ByteArray} (ht : l[i] = .mk k n s us) (hus : us.length ≤ 100000000) {A2 : Option Addr} (hcr : CopyR wr.heap.size w1 us A2) :
    Mid g B w0 (w1.setCell ⟨g, i * 4 + 3, none⟩ (.slice A2 us.length us.length)) l (i + 1) := by
  obtain ⟨k', n', s', l', A', c', g1, g2, g3, g4, g5, _, _⟩ := hel i hi (by omega)
  obtain ⟨rfl, rfl, rfl, rfl⟩ : k' = k ∧ n' = n ∧ s' = s ∧ l' = us := by rw [g4] at ht; cases ht; exact ⟨rfl, rfl, rfl, rfl⟩
  have h4 : ∀ u ∈ vs, ∃ a b c d, u.cells = #[a, b, c, d] := fun u hu => by
    obtain ⟨j, hj, rfl⟩ := List.getElem_of_mem hu
    obtain ⟨k, n, s, l', A', c', _, _, _, _, e, _⟩ := hel j (by omega) hj
    exact ⟨_, _, _, _, by rw [e]; rfl⟩
  have hst := vcells_set vs i (by omega) _ _ _ _ (.slice A2 l'.length l'.length) (by rw [g5]; rfl) h4
  have hlies : ∀ (t : V) (u : Value), Lies (fun b => g < b) wr t u → Lies (fun b => g < b) (w1.setCell ⟨g, i * 4 + 3, none⟩ (.slice A2 l'.length l'.length)) t u := fun t u h =>
    (h.keep (fun b _ hb => hB1.block b hb) hB1.size).keep (fun b hb _ => Below.heap_setCell _ _ _ _ (by show b ≠ g; omega)) (by simp [World.setCell])
  refine ⟨vs.set i (.agg #[.int .u8 (k' : Int), .int .i64 n', .string s', .slice A2 l'.length l'.length]), by simpa using hvs, ?_, fun j h1 h2 => ?_⟩
  · have := hbk.set_ (i * 4 + 3) (.slice A2 l'.length l'.length)
    rw [List.setIfInBounds_toArray, hst] at this
    exact this
  · by_cases hji : j = i
    · subst hji
      refine ⟨k', n', s', l', A2, l'.length, g1, g2, g3, g4, by simp, fun _ => ?_, fun h => by omega⟩
      rw [g4]
      simp only [List.getElem_set_self]
      refine Lies.of_row g1 g2 g3 (RLies.set ?_ _ (by show ¬ g < g; omega) _)
      exact (hcr.rlies hus).mono fun b _ hb => Nat.lt_of_lt_of_le hg hb
    · obtain ⟨k, n, s, l2, A3, c3, e1, e2, e3, e4, e5, e6, e7⟩ := hel j h1 (by simpa using h2)
      have hne : (vs.set i (.agg #[.int .u8 (k' : Int), .int .i64 n', .string s', .slice A2 l'.length l'.length]))[j] = vs[j]'(by simpa using h2) := List.getElem_set_ne (Ne.symm hji) _
      refine ⟨k, n, s, l2, A3, c3, e1, e2, e3, e4, hne.trans e5, fun h => ?_, fun h => e7 (by omega)⟩
      rw [hne]
      exact hlies _ _ (e6 (by omega))
theorem slim_lst {t : V} (h : slim t) : t.lst.length ≤ 100000000 ∧ ∀ x ∈ t.lst, slim x := by
  cases t; exact slim_parts h
set_option maxRecDepth 100000 in
set_option maxHeartbeats 2000000 in
theorem copied_of (l : List V) (hn : l.length ≤ 100000000) (hsl : ∀ t ∈ l, slim t) (ih : ∀ t ∈ l, CopyOn t.lst) : CopyOn l := by
  intro A c w hR
  obtain ⟨i0, hi, hz0, hz1, hz2⟩ := info_parts infoV
  rcases Nat.eq_zero_or_pos l.length with h0 | hpos
  · obtain rfl : l = [] := List.eq_nil_of_length_eq_zero h0
    clear hi hz0 hz1 hz2 ih hR h0 hsl
    simp only [List.length_nil]
    go_enter Tryd.func27, Tryd.ntmps27
    go_wp2_with fail
    go_ret
    exact ⟨none, rfl, .inl ⟨rfl, rfl⟩, Below.refl _ _⟩
  · have hl0 : ¬ (l.length : Int) = 0 := by omega
    obtain ⟨hc, hm, E, hE, hV⟩ := hR
    obtain ⟨b, off, rfl, hb, _⟩ := hE 0 hpos
    have hE2 : ∀ j, j < l.length → ∃ (k : Nat) (n : Int) (s : ByteArray) (l' : List V) (A' : Option Addr) (c' : Nat), ∃ hj : j < l.length, l[j] = .mk k n s l' ∧ E j = .agg #[.int .u8 (k : Int), .int .i64 n, .string s, .slice A' l'.length c'] ∧ k < 256 ∧ (-9223372036854775808 ≤ n ∧ n ≤ 9223372036854775807) ∧ s.size ≤ maxLen ∧ RRep w w.heap.size l' A' c' := fun j hj => by
      obtain ⟨k, n, s, l', A', c', e1, e2, e3, e4, e5, e6⟩ := (hV j hj).open_
      exact ⟨k, n, s, l', A', c', hj, e1, e2, e3, e4, e5, e6⟩
    have hus : ∀ u ∈ (List.range l.length).map E, ∃ a b c d, u = .agg #[a, b, c, d] ∧ u.cells = #[a, b, c, d] ∧ a.oneCell' = true ∧ b.oneCell' = true ∧ c.oneCell' = true ∧ d.oneCell' = true := fun u hu => by
      obtain ⟨j, hj, rfl⟩ := List.mem_map.1 hu
      obtain ⟨k, n, s, l', A', c', _, e1, e2, _⟩ := hE2 j (List.mem_range.1 hj)
      exact ⟨_, _, _, _, e2, by rw [e2]; rfl, rfl, rfl, rfl, rfl⟩
    have hus4 : ∀ u ∈ (List.range l.length).map E, ∃ a b c d, u.cells = #[a, b, c, d] := fun u hu => by
      obtain ⟨a, b, c, d, _, h, _⟩ := hus u hu
      exact ⟨a, b, c, d, h⟩
    have hlen4 : (vcells ((List.range l.length).map E)).length = l.length * 4 := by rw [vcells_len hus4]; simp
    have hmk : (Instr.makeSlice 28 (.int .i64 (l.length : Int)) (.int .i64 (l.length : Int))).run Tryd.prog w =
        .ok (.slice (some ⟨w.heap.size, 0, none⟩) l.length l.length) (w.alloc (.cells (madeCells #[.int .u8 0, .int .i64 0, .string ⟨#[]⟩, .slice none 0 0] (l.length * 4)) 42)) := by
      have h := run_make (P := Tryd.prog) w 28 42 i0 _ Tryd.underlying28 hi hz0 .i64 .i64 (l.length : Int) (l.length : Int) (by omega) (Int.le_refl _) (by rw [hz2]; omega) (by omega)
      simpa [hz1, Value.cells] using h
    have hcp : ∀ ty, (Builtin.copy_ #[28, 28] ty #[.slice (some ⟨w.heap.size, 0, none⟩) l.length l.length, .slice (some ⟨b, off, none⟩) l.length c]).run Tryd.prog (w.alloc (.cells (madeCells #[.int .u8 0, .int .i64 0, .string ⟨#[]⟩, .slice none 0 0] (l.length * 4)) 42)) = .ok (goInt l.length) (w.alloc (.cells (vcells ((List.range l.length).map E)).toArray 42)) := fun ty => by
      rw [run_copyV _ ty w.heap.size l.length ⟨b, off, none⟩ c _ _ (heap_alloc_new w _) hlen4 (size_madeCells _ _) (fun j v hj => ?_) (cells4_one hus), setRow_alloc]
      obtain ⟨q, r, hq, rfl, e2⟩ := vcells_inv _ hus4 j v hj
      have hq' : q < l.length := by simpa using hq
      obtain ⟨b', off', e, hb', hcell⟩ := hE q hq'
      obtain ⟨rfl, rfl⟩ : b' = b ∧ off' = off := by injection e with e; injection e with e1 e2; exact ⟨e1.symm, e2.symm⟩
      have e2' : (E q).cells[r]? = some v := by simpa using e2
      have h := hcell r v e2'
      have ha : (⟨b', off', none⟩ : Addr).add (q * 4 + r) = ⟨b', off' + q * 4 + r, none⟩ := by unfold Addr.add; simp [Nat.add_assoc]
      rw [ha]
      exact ((Below.refl w.heap.size w).alloc (Nat.le_refl _) _).cell (p := ⟨b', off' + q * 4 + r, none⟩) hb' |>.trans h
    have hmid : Mid w.heap.size w.heap.size w (w.alloc (.cells (vcells ((List.range l.length).map E)).toArray 42)) l 0 := ⟨(List.range l.length).map E, by simp, Blk.new _ _ _, fun j h1 h2 => by
      obtain ⟨k, n, s, l', A', c', _, e1, e2, e3, e4, e5, e6⟩ := hE2 j h1
      exact ⟨k, n, s, l', A', c', e3, e4, e5, e1, by simpa using e2, fun h => absurd h (Nat.not_lt_zero _), fun _ => e6⟩⟩
    have hB0 : Below w.heap.size w (w.alloc (.cells (vcells ((List.range l.length).map E)).toArray 42)) := (Below.refl _ _).alloc (Nat.le_refl _) _
    have HMK := Lib.hid hmk; have HCP := Lib.hid hcp; have HMID := Lib.hid hmid; have HB0 := Lib.hid hB0; have IH := Lib.hid ih; have HSL := Lib.hid hsl
    clear hsl hmk hcp hmid hB0 ih hus hus4 hlen4 hE2 hE hV hi hz0 hz1 hz2
    go_enter Tryd.func27, Tryd.ntmps27
    go_wp2_with fail
    rw [HMK.out]
    simp only [Result.andThen]
    rw [Oper.upon_value]
    go_wp2_with fail
    rw [HCP.out]
    simp only [Result.andThen]
    rw [Oper.upon_value]
    go_wp2_with fail
    go_loopg [16] (l.length + 1) (fun gg s16 wr => ∃ i : Nat, i ≤ l.length ∧ gg = l.length + 1 - i ∧ s16 = .int .i64 (i : Int) ∧ Mid w.heap.size w.heap.size w wr l i ∧ Below w.heap.size w wr)
    case atStart => exact ⟨0, Nat.zero_le _, by omega, rfl, HMID.out, HB0.out⟩
    case round =>
      clear HMID HB0 HCP
      obtain ⟨i, hi, hg, rfl, hmi, hu⟩ := hrel
      have HG := Lib.hid hg; have HM := Lib.hid hmi; have HU := Lib.hid hu
      clear hg hmi hu
      by_cases hlt : i < l.length
      · have hltz : (i : Int) < (l.length : Int) := by omega
        obtain ⟨us, hus, hblk, hel⟩ := HM.out
        obtain ⟨k, n, s, l', A', c', g1, g2, g3, g4, g5, g6, g7⟩ := hel i hlt (by omega)
        have hcell : wr.cell? ⟨w.heap.size, i * 4 + 3, none⟩ = some (.slice A' l'.length c') := by
          rw [hblk.cell]
          have h4 : ∀ u ∈ us, ∃ a b c d, u.cells = #[a, b, c, d] := fun u hu => by
            obtain ⟨j, hj, rfl⟩ := List.getElem_of_mem hu
            obtain ⟨k, n, s, l', A', c', _, _, _, _, e, _⟩ := hel j (by omega) hj
            exact ⟨_, _, _, _, by rw [e]; rfl⟩
          have := (vcells_at us h4 i (by omega) 3 (.slice A' l'.length c') (by rw [g5]; rfl)).1
          simpa using this
        have hcall := IH.out l[i] (List.getElem_mem hlt)
        rw [g4] at hcall
        have hcall2 := hcall A' c' wr (((g7 (Nat.le_refl _)).under HU.out).more HU.out.size)
        have HC := Lib.hid hcall2; have HBK := Lib.hid hblk
        simp only [V.lst] at HC
        have hgw : w.heap.size < wr.heap.size := hblk.lt
        have HGW := Lib.hid hgw
        have hus8 : l'.length ≤ 100000000 := by have := (slim_lst (HSL.out l[i] (List.getElem_mem hlt))).1; rw [g4] at this; exact this
        have HU8 := Lib.hid hus8; have HT := Lib.hid g4
        have hi4 : (i : Int) * 4 + 3 = ((i * 4 + 3 : Nat) : Int) := by omega
        have HUS := Lib.hid hus; have HEL := Lib.hid hel
        clear hcall hcall2 hus hel g1 g2 g3 g4 g5 g6 g7 hblk hgw hus8
        go_wp2_with (go_at_call 27; refine HC.out.mono ?_; rintro e w1 ⟨A2, rfl, hcr, hb1⟩; have HCR := Lib.hid hcr; have HB1 := Lib.hid hb1; have HBK1 := Lib.hid (HBK.out.below hb1 HGW.out); have hcell1 := (hb1.cell (p := ⟨w.heap.size, i * 4 + 3, none⟩) HGW.out).trans hcell; clear hcell; have hfr1 := HBK1.out.frozen (i * 4 + 3); clear hcr hb1)
        go_roundg (l.length + 1 - (i + 1))
        case measure => have := HG.out; omega
        case rel =>
          refine ⟨i + 1, by omega, rfl, by go_num, Mid.step hlt HUS.out HEL.out HB1.out HGW.out HBK1.out HT.out HU8.out HCR.out, (HU.out.trans (HB1.out.mono HU.out.size)).setCell (Nat.le_refl _) _⟩
      · have hltz : ¬ (i : Int) < (l.length : Int) := by omega
        obtain rfl : i = l.length := by omega
        go_wp2_with fail
        go_ret
        refine ⟨some ⟨w.heap.size, 0, none⟩, rfl, .inr ⟨fun e => by simp [e] at hpos, rfl, ?_⟩, HU.out⟩
        obtain ⟨us, h1, h2, h3⟩ := HM.out
        refine ⟨us, h1, fun u hu => ?_, h2, fun j g1 g2 => ?_⟩
        · obtain ⟨j, hj, rfl⟩ := List.getElem_of_mem hu
          obtain ⟨k, n, s, l', A', c', _, _, _, _, e, _⟩ := h3 j (by omega) hj
          exact ⟨_, _, _, _, by rw [e]; rfl⟩
        · obtain ⟨k, n, s, l', A', c', _, _, _, _, e, e6, _⟩ := h3 j g1 g2
          exact e6 g1
theorem copied_v (t : V) : slim t → CopyOn t.lst := by
  induction t using V.ind with
  | h k n s l ih =>
    intro h
    exact copied_of l (slim_parts h).1 (slim_parts h).2 fun t ht => ih t ht ((slim_parts h).2 t ht)
/-- A row in new memory. -/
theorem copied_c (l : List V) (hn : l.length ≤ 100000000) (hs : ∀ t ∈ l, slim t) : CopyOn l := copied_of l hn hs fun t ht => copied_v t (hs t ht)
end Go.Proofs.YtibpebhepoeikaaDoor
