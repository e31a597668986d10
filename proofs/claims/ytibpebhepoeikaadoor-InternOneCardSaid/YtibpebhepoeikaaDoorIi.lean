/- Package intern: the walk of Row: numbers' values. -/
import Derived.Test.YtibpebhepoeikaaDoorIg
namespace Go.Proofs.YtibpebhepoeikaaDoor
open Go.RowKit Go.Shelf Vp Tx
open Go
attribute [local go_sem] Oper.semAt_some

/-- A slice of ints, in the world. -/
def IRep (w : World) (B : Nat) (ns : List Int) (A : Option Addr) (c : Nat) : Prop :=
  ns.length ≤ c ∧ c ≤ maxLen ∧ (∀ n ∈ ns, -9223372036854775808 ≤ n ∧ n ≤ 9223372036854775807) ∧ ∀ j (hj : j < ns.length), ∃ b off, A = some ⟨b, off, none⟩ ∧ b < B ∧ w.cell? ⟨b, off + j, none⟩ = some (.int .i64 ns[j])
theorem IRep.keep {w w' : World} {B : Nat} {ns : List Int} {A : Option Addr} {c : Nat} (h : IRep w B ns A c) (hb : Below B w w') : IRep w' B ns A c := by
  obtain ⟨h1, h2, h3, h4⟩ := h
  refine ⟨h1, h2, h3, fun j hj => ?_⟩
  obtain ⟨b, off, e, hlt, hc⟩ := h4 j hj
  exact ⟨b, off, e, hlt, (hb.cell (p := ⟨b, off + j, none⟩) hlt).trans hc⟩
/-- A number's value. -/
def atN (ts : List V) (n : Int) : Option V := if 0 ≤ n then ts[n.toNat]? else none
def rowL (ts : List V) (ns : List Int) : Option (List V) := ns.mapM (atN ts)
theorem atN_some {ts : List V} {n : Int} {t : V} (h : atN ts n = some t) : 0 ≤ n ∧ ∃ h : n.toNat < ts.length, ts[n.toNat] = t := by
  unfold atN at h
  split at h
  · obtain ⟨h1, h2⟩ := List.getElem?_eq_some_iff.1 h
    exact ⟨by assumption, h1, h2⟩
  · cases h
theorem atN_none {ts : List V} {n : Int} (h : atN ts n = none) : n < 0 ∨ (ts.length : Int) ≤ n := by
  unfold atN at h
  split at h
  · have := List.getElem?_eq_none_iff.1 h
    omega
  · omega
theorem rowL_some {ts : List V} : ∀ {ns : List Int} {l : List V}, l.length = ns.length → (∀ j (h1 : j < ns.length) (h2 : j < l.length), atN ts ns[j] = some l[j]) → rowL ts ns = some l
  | [], [], _, _ => rfl
  | n :: ns, t :: l, hl, h => by
    have h0 := h 0 (by simp) (by simp)
    simp only [List.getElem_cons_zero] at h0
    have ih := rowL_some (ts := ts) (ns := ns) (l := l) (by simpa using hl) fun j h1 h2 => by have := h (j + 1) (by simpa using h1) (by simpa using h2); simpa using this
    unfold rowL at ih ⊢
    rw [List.mapM_cons, h0, ih]
    rfl
  | [], _ :: _, hl, _ => by simp at hl
  | _ :: _, [], hl, _ => by simp at hl
theorem rowL_none {ts : List V} : ∀ {ns : List Int} {j : Nat} (h : j < ns.length), atN ts ns[j] = none → rowL ts ns = none
  | [], _, h, _ => by simp at h
  | n :: ns, 0, _, h => by
    simp only [List.getElem_cons_zero] at h
    unfold rowL
    rw [List.mapM_cons, h]
    rfl
  | n :: ns, j + 1, hj, h => by
    have ih := rowL_none (ts := ts) (ns := ns) (j := j) (by simpa using hj) (by simpa using h)
    unfold rowL at ih ⊢
    rw [List.mapM_cons, ih]
    cases atN ts n <;> rfl
/-- Block g has the cells of a row's values, the first i of them put. -/
def Mid2 (g : Nat) (w wr : World) (ts : List V) (ns : List Int) (i : Nat) : Prop := ∃ us : List Value, us.length = ns.length ∧ (∀ u ∈ us, ∃ a b c d, u = .agg #[a, b, c, d]) ∧ Blk wr g 42 (vcells us).toArray ∧
  ∀ (j : Nat) (h1 : j < ns.length) (h2 : j < us.length), j < i → ∃ t, atN ts ns[j] = some t ∧ VRep w w.heap.size t us[j]
theorem cells_agg {us : List Value} (h : ∀ u ∈ us, ∃ a b c d, u = .agg #[a, b, c, d]) : ∀ u ∈ us, ∃ a b c d, u.cells = #[a, b, c, d] := fun u hu => by
  obtain ⟨a, b, c, d, e⟩ := h u hu
  exact ⟨a, b, c, d, by rw [e]; rfl⟩
theorem vcells_set4 : ∀ (us : List Value) (i : Nat) (_ : i < us.length) (a b c d : Value), (∀ u ∈ us, ∃ a b c d, u.cells = #[a, b, c, d]) →
    ((((vcells us).set (i * 4) a).set (i * 4 + 1) b).set (i * 4 + 2) c).set (i * 4 + 3) d = vcells (us.set i (.agg #[a, b, c, d]))
  | [], i, hi, _, _, _, _, _ => by simp at hi
  | u :: us, 0, _, a, b, c, d, h => by
    obtain ⟨a', b', c', d', hu⟩ := h u (by simp)
    have h1 : vcells (u :: us) = [a', b', c', d'] ++ vcells us := by simp [vcells, hu]
    have h2 : vcells ((u :: us).set 0 (.agg #[a, b, c, d])) = [a, b, c, d] ++ vcells us := rfl
    rw [h1, h2]
    rfl
  | u :: us, i + 1, hi, a, b, c, d, h => by
    obtain ⟨a', b', c', d', hu'⟩ := h u (by simp)
    have ih := vcells_set4 us i (by simpa using hi) a b c d fun u hu => h u (by simp [hu])
    have hv : ∀ us', vcells (u :: us') = [a', b', c', d'] ++ vcells us' := fun us' => by simp [vcells, hu']
    have hs : ∀ (l : List Value) (k : Nat) (x : Value), ([a', b', c', d'] ++ l).set (k + 4) x = [a', b', c', d'] ++ l.set k x := fun l k x => by simp
    rw [List.set_cons_succ, hv, hv, ← ih, show (i + 1) * 4 = i * 4 + 4 by omega, hs, show i * 4 + 4 + 1 = (i * 4 + 1) + 4 by omega, hs, show i * 4 + 4 + 2 = (i * 4 + 2) + 4 by omega, hs, show i * 4 + 4 + 3 = (i * 4 + 3) + 4 by omega, hs]
theorem Mid2.cell {g : Nat} {w wr : World} {ts : List V} {ns : List Int} {i : Nat} (h : Mid2 g w wr ts ns i) {j : Nat} (hj : j < ns.length) (r : Nat) (hr : r < 4) : ∃ x, wr.cell? ⟨g, j * 4 + r, none⟩ = some x := by
  obtain ⟨us, h1, h2, h3, _⟩ := h
  rw [h3.cell]
  have := vcells_len (cells_agg h2)
  exact ⟨(vcells us)[j * 4 + r]'(by omega), by simp⟩
theorem Mid2.step {g : Nat} {w wr : World} {ts : List V} {ns : List Int} {i : Nat} (h : Mid2 g w wr ts ns i) (hi : i < ns.length) {t : V} (ht : atN ts ns[i] = some t) {a b c d : Value} (hv : VRep w w.heap.size t (.agg #[a, b, c, d])) :
    Mid2 g w ((((wr.setCell ⟨g, i * 4, none⟩ a).setCell ⟨g, i * 4 + 1, none⟩ b).setCell ⟨g, i * 4 + 2, none⟩ c).setCell ⟨g, i * 4 + 3, none⟩ d) ts ns (i + 1) := by
  obtain ⟨us, h1, h2, h3, h4⟩ := h
  refine ⟨us.set i (.agg #[a, b, c, d]), by simpa using h1, fun u hu => ?_, ?_, fun j g1 g2 hji => ?_⟩
  · rcases List.mem_or_eq_of_mem_set hu with hu | rfl
    · exact h2 u hu
    · exact ⟨a, b, c, d, rfl⟩
  · have := (((h3.set_ (i * 4) a).set_ (i * 4 + 1) b).set_ (i * 4 + 2) c).set_ (i * 4 + 3) d
    simp only [List.setIfInBounds_toArray] at this
    rw [vcells_set4 us i (by omega) a b c d (cells_agg h2)] at this
    exact this
  · by_cases e : j = i
    · subst e
      exact ⟨t, ht, by simpa using hv⟩
    · obtain ⟨t', e1, e2⟩ := h4 j g1 (by omega) (by omega)
      exact ⟨t', e1, by rw [List.getElem_set_ne (Ne.symm e)]; exact e2⟩
theorem Mid2.row {g : Nat} {w wr : World} {ts : List V} {ns : List Int} (h : Mid2 g w wr ts ns ns.length) (hm : ns.length ≤ maxLen) (hb : Below w.heap.size w wr) : ∃ l : List V, l.length = ns.length ∧ rowL ts ns = some l ∧ (∀ t ∈ l, t ∈ ts) ∧ RRep wr wr.heap.size l (some ⟨g, 0, none⟩) ns.length := by
  obtain ⟨us, h1, h2, h3, h4⟩ := h
  have hall : ∀ j, j < ns.length → ∃ t, ∃ (h1 : j < ns.length) (h2 : j < us.length), atN ts ns[j] = some t ∧ VRep w w.heap.size t us[j] := fun j hj => by
    obtain ⟨t, e1, e2⟩ := h4 j hj (by omega) hj
    exact ⟨t, hj, by omega, e1, e2⟩
  have hl : ∀ j, ∃ t, j < ns.length → ∃ (h1 : j < ns.length) (h2 : j < us.length), atN ts ns[j] = some t ∧ VRep w w.heap.size t us[j] := fun j => by
    rcases Nat.lt_or_ge j ns.length with h | h
    · obtain ⟨t, ht⟩ := hall j h
      exact ⟨t, fun _ => ht⟩
    · exact ⟨.mk 0 0 ⟨#[]⟩ [], fun h' => by omega⟩
  obtain ⟨f, hf⟩ := Classical.axiomOfChoice hl
  refine ⟨(List.range ns.length).map f, by simp, rowL_some (by simp) fun j g1 g2 => ?_, fun t ht => ?_, by simp, ?_, fun j => us.getD j undef, fun j hj => ?_, fun j hj => ?_⟩
  · obtain ⟨_, _, e1, _⟩ := hf j g1
    simpa using e1
  · obtain ⟨j, hj, rfl⟩ := List.mem_map.1 ht
    obtain ⟨_, _, e1, _⟩ := hf j (List.mem_range.1 hj)
    obtain ⟨_, hlt, e⟩ := atN_some e1
    rw [← e]
    exact List.getElem_mem hlt
  · exact hm
  · have hj' : j < us.length := by simp at hj; omega
    refine ⟨g, 0, rfl, h3.lt, fun i x hx => ?_⟩
    have hgd : us.getD j undef = us[j] := by rw [List.getD_eq_getElem?_getD, List.getElem?_eq_getElem hj', Option.getD_some]
    simp only [hgd] at hx
    obtain ⟨e1, e2⟩ := vcells_at us (cells_agg h2) j hj' i x hx
    rw [h3.cell, Nat.zero_add]
    simpa using e1
  · have hj' : j < us.length := by simp at hj; omega
    obtain ⟨_, _, _, e2⟩ := hf j (by simpa using hj)
    have hgd : us.getD j undef = us[j] := by rw [List.getD_eq_getElem?_getD, List.getElem?_eq_getElem hj', Option.getD_some]
    simp only [hgd]
    have := (e2.under hb).more hb.size
    simpa using this
theorem made_v (n : Nat) : (vcells (List.replicate n (.agg #[.int .u8 0, .int .i64 0, .string ⟨#[]⟩, .slice none 0 0]))).toArray = madeCells #[.int .u8 0, .int .i64 0, .string ⟨#[]⟩, .slice none 0 0] (n * 4) := by
  have h4 : ∀ u ∈ List.replicate n (Value.agg #[.int .u8 0, .int .i64 0, .string ⟨#[]⟩, .slice none 0 0]), ∃ a b c d, u.cells = #[a, b, c, d] := fun u hu => by
    rw [(List.mem_replicate.1 hu).2]; exact ⟨_, _, _, _, rfl⟩
  apply Array.ext
  · rw [size_madeCells]
    simpa using vcells_len h4
  · intro i h1 h2
    rw [size_madeCells] at h2
    have hv := vcells_at _ h4 (i / 4) (by simp; omega) (i % 4) ((#[.int .u8 0, .int .i64 0, .string ⟨#[]⟩, .slice none 0 0] : Array Value)[i % 4]'(by simp; omega)) (by simp [Value.cells])
    have hi : i / 4 * 4 + i % 4 = i := by omega
    rw [hi] at hv
    have h3 := hv.1
    rw [List.getElem?_eq_getElem (by simpa using h1)] at h3
    simp only [madeCells, Array.getElem_map, Array.getElem_range, List.getElem_toArray]
    injection h3 with h3
    rw [h3]
    have h4' : i % 4 < 4 := Nat.mod_lt _ (by decide)
    symm
    exact getElem!_pos (#[Value.int .u8 0, .int .i64 0, .string ⟨#[]⟩, .slice none 0 0] : Array Value) (i % 4) (by simpa using h4')
/-- What Row answers. -/
def Told10 (ts : List V) (ns : List Int) (w : World) (e : Ending) (w' : World) : Prop :=
  (∃ l A, rowL ts ns = some l ∧ l.length = ns.length ∧ (∀ t ∈ l, t ∈ ts) ∧ e = .returned (.tuple #[.slice A l.length l.length, .int .i64 0]) ∧ ∃ gg, w.heap.size ≤ gg ∧ CopyR gg w' l A) ∨
  (rowL ts ns = none ∧ e = .returned (.tuple #[.slice none 0 0, .int .i64 5]))
set_option maxRecDepth 100000 in
set_option maxHeartbeats 4000000 in
theorem row_c (F : Nat → Prop) (ts : List V) (g : Nat) (ns : List Int) (A : Option Addr) (c : Nat) (w : World) (hT : TabR F ts w g) (hI : IRep w w.heap.size ns A c) (hl : ns.length ≤ 90000000) (ht : ts.length ≤ 100000000) :
    Calls Tryd.prog 10 #[.pointer (some ⟨g, 0, none⟩), .slice A ns.length c] w fun e w' => Told10 ts ns w e w' ∧ Below w.heap.size w w' := by
  obtain ⟨i0, hi, hz0, hz1, hz2⟩ := info_parts infoV
  obtain ⟨mv, sv, hblk, _, hown⟩ := hT.rep
  obtain ⟨A2, c2, rfl, hrl⟩ := hown.slice
  have hrow := hrl.rep
  have hcap := hrow.1
  have hmk : ∀ u : World, (Instr.makeSlice 28 (.int .i64 (ns.length : Int)) (.int .i64 (ns.length : Int))).run Tryd.prog u =
      .ok (.slice (some ⟨u.heap.size, 0, none⟩) ns.length ns.length) (u.alloc (.cells (madeCells #[.int .u8 0, .int .i64 0, .string ⟨#[]⟩, .slice none 0 0] (ns.length * 4)) 42)) := fun u => by
    have h := run_make (P := Tryd.prog) u 28 42 i0 _ Tryd.underlying28 hi hz0 .i64 .i64 (ns.length : Int) (ns.length : Int) (by omega) (Int.le_refl _) (by rw [hz2]; omega) (by omega)
    simpa [hz1, Value.cells] using h
  have hm0 : Mid2 w.heap.size w (w.alloc (.cells (madeCells #[.int .u8 0, .int .i64 0, .string ⟨#[]⟩, .slice none 0 0] (ns.length * 4)) 42)) ts ns 0 := by
    refine ⟨List.replicate ns.length (.agg #[.int .u8 0, .int .i64 0, .string ⟨#[]⟩, .slice none 0 0]), by simp, fun u hu => ⟨_, _, _, _, (List.mem_replicate.1 hu).2⟩, ?_, fun _ _ _ h => absurd h (Nat.not_lt_zero _)⟩
    have e : (vcells (List.replicate ns.length (.agg #[.int .u8 0, .int .i64 0, .string ⟨#[]⟩, .slice none 0 0]))).toArray = madeCells #[.int .u8 0, .int .i64 0, .string ⟨#[]⟩, .slice none 0 0] (ns.length * 4) := made_v ns.length
    rw [e]
    exact Blk.new w _ _
  have hb0 : Below w.heap.size w (w.alloc (.cells (madeCells #[.int .u8 0, .int .i64 0, .string ⟨#[]⟩, .slice none 0 0] (ns.length * 4)) 42)) := (Below.refl _ _).alloc (Nat.le_refl _) _
  have HMK := Lib.hid hmk; have HM0 := Lib.hid hm0; have HB0 := Lib.hid hb0; have HT := Lib.hid hT; have HI := Lib.hid hI; have HBLK := Lib.hid hblk; have HROW := Lib.hid hrow; have HTL := Lib.hid ht
  have hncap := hI.1
  clear hmk hm0 hb0 hT hI hblk hrow ht hown hrl hi hz0 hz1 hz2
  go_enter Tryd.func10, Tryd.ntmps10
  go_wp2_with fail
  rw [HMK.out]
  simp only [Result.andThen]
  rw [Oper.upon_value]
  go_wp2_with fail
  go_loopg [16] (ns.length + 1) (fun gg s16 wr => ∃ i : Nat, i ≤ ns.length ∧ gg = ns.length + 1 - i ∧ s16 = .int .i64 (i : Int) ∧ Mid2 w.heap.size w wr ts ns i ∧ Below w.heap.size w wr)
  case atStart => exact ⟨0, Nat.zero_le _, by omega, rfl, HM0.out, HB0.out⟩
  case round =>
    clear HM0 HB0
    obtain ⟨i, hi, hg, rfl, hm, hu⟩ := hrel
    have HG := Lib.hid hg; have HM := Lib.hid hm; have HU := Lib.hid hu
    clear hg hm hu
    by_cases hlt : i < ns.length
    · have hltz : (i : Int) < (ns.length : Int) := by omega
      obtain ⟨b, off, rfl, hb, ci⟩ := (HI.out.keep HU.out).2.2.2 i hlt
      obtain ⟨hn0, hn1⟩ := HI.out.2.2.1 _ (List.getElem_mem hlt)
      have g1 := (HBLK.out.below HU.out HBLK.out.lt).cell 1
      simp at g1
      obtain ⟨n, hn⟩ : ∃ n, n = ns[i] := ⟨_, rfl⟩
      rw [← hn] at ci hn0 hn1
      cases hat : atN ts n with
      | none =>
        rcases atN_none hat with hneg | hge
        · have HAT := Lib.hid hat; have HN := Lib.hid hn
          clear hat hn hb
          go_wp2_with fail
          go_ret2
          exact ⟨.inr ⟨rowL_none hlt (by rw [← HN.out]; exact HAT.out), rfl⟩, HU.out⟩
        · have hneg : ¬ n < 0 := by omega
          have HAT := Lib.hid hat; have HN := Lib.hid hn
          clear hat hn hb
          go_wp2_with fail
          go_ret2
          exact ⟨.inr ⟨rowL_none hlt (by rw [← HN.out]; exact HAT.out), rfl⟩, HU.out⟩
      | some t =>
        obtain ⟨hpos, hlt2, het⟩ := atN_some hat
        have hneg : ¬ n < 0 := by omega
        have hlt3 : ¬ (ts.length : Int) ≤ n := by omega
        obtain ⟨m, rfl⟩ : ∃ m : Nat, n = (m : Int) := ⟨n.toNat, by omega⟩
        simp only [Int.toNat_natCast] at hlt2 het
        obtain ⟨b2, off2, rfl, hb2, k, nn, s, l', A', c', ht2, hv, c0, c1, c2', c3⟩ := HROW.out.at_ hlt2
        have c0 := (HU.out.cell (p := ⟨b2, off2 + m * 4, none⟩) hb2).trans c0; have c1 := (HU.out.cell (p := ⟨b2, off2 + m * 4 + 1, none⟩) hb2).trans c1; have c2' := (HU.out.cell (p := ⟨b2, off2 + m * 4 + 2, none⟩) hb2).trans c2'; have c3 := (HU.out.cell (p := ⟨b2, off2 + m * 4 + 3, none⟩) hb2).trans c3
        have hv0 : VRep w w.heap.size t (.agg #[.int .u8 (k : Int), .int .i64 nn, .string s, .slice A' l'.length c']) := by rw [← het]; exact hv
        have HV0 := Lib.hid hv0; have HAT := Lib.hid hat; have HN := Lib.hid hn
        obtain ⟨x0, y0⟩ := HM.out.cell hlt 0 (by omega); obtain ⟨x1, y1⟩ := HM.out.cell hlt 1 (by omega); obtain ⟨x2, y2⟩ := HM.out.cell hlt 2 (by omega); obtain ⟨x3, y3⟩ := HM.out.cell hlt 3 (by omega)
        have hfr : ∀ r, wr.frozen? ⟨w.heap.size, r, none⟩ = false := fun r => by obtain ⟨us, _, _, h3, _⟩ := HM.out; exact h3.frozen r
        rw [Nat.add_zero] at y0
        clear hat hn hb hv0 hv ht2 hb2
        go_wp2_with fail
        go_roundg (ns.length + 1 - (i + 1))
        case measure => have := HG.out; omega
        case rel =>
          refine ⟨i + 1, by omega, rfl, by go_num, HM.out.step hlt (by rw [← HN.out]; exact HAT.out) HV0.out, (((HU.out.setCell (Nat.le_refl _) _).setCell (Nat.le_refl _) _).setCell (Nat.le_refl _) _).setCell (Nat.le_refl _) _⟩
    · have hltz : ¬ (i : Int) < (ns.length : Int) := by omega
      obtain rfl : i = ns.length := by omega
      obtain ⟨l, e2, e1, e3, e4⟩ := HM.out.row (by unfold maxLen; omega) HU.out
      have hcp := copied_c l (by omega) (fun t ht => (HT.out.ok t (e3 t ht)).2) (some ⟨w.heap.size, 0, none⟩) ns.length wr e4
      rw [e2] at hcp
      have HCP := Lib.hid hcp; have HE := Lib.hid (And.intro e1 (And.intro e2 e3))
      clear hcp e1 e2 e3 e4
      go_wp2_with fail
      refine HCP.out.mono ?_
      rintro e w2 ⟨A3, rfl, hcr, hb2⟩
      have HCR := Lib.hid hcr; have HB2 := Lib.hid hb2
      clear hcr hb2
      go_wp2_with fail
      go_ret2
      exact ⟨.inl ⟨l, A3, HE.out.1, HE.out.2.1, HE.out.2.2, by rw [HE.out.2.1]; rfl, wr.heap.size, HU.out.size, HCR.out⟩, HU.out.trans (HB2.out.mono HU.out.size)⟩
end Go.Proofs.YtibpebhepoeikaaDoor
