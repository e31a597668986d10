/- What comes in, and how much of it there is (for statements over inputs of a bounded bulk). -/
import Derived.Test.YtlhkjmckigblpaaGreatDoorCz
import Derived.Test.YtlhkjmckigblpaaGreatDoorVr
import Derived.Test.YtlhkjmckigblpaaGreatDoorCo
import Derived.Test.YtlhkjmckigblpaaGreatDoorYg
import Derived.ChangeArms
import Derived.DataReads
import Derived.Deep.Slices
import Derived.JoinedCond
import Derived.ChangeSlices
namespace Go.Proofs.YtlhkjmckigblpaaGreatDoor
open Go.ChangeShapes Go.WideShapes Go.ChangeAt Go.RowKit Go.Deep Vp Cp

theorem depthL_le {n : Nat} : ∀ {l : List V}, (∀ t ∈ l, depth t ≤ n) → depthL l ≤ n
  | [], _ => by simp [depthL]
  | t :: l, h => by
    rw [depthL]
    exact Nat.max_le.2 ⟨h t (by simp), depthL_le fun x hx => h x (by simp [hx])⟩
theorem le_depthL : ∀ {l : List V} {t : V}, t ∈ l → depth t ≤ depthL l
  | [], _, h => by simp at h
  | x :: l, t, h => by
    rw [depthL]
    rcases List.mem_cons.1 h with rfl | h
    · exact Nat.le_max_left _ _
    · exact Nat.le_trans (le_depthL h) (Nat.le_max_right _ _)
theorem part_le {H : Type} {d : DataW H} {l : List (DataW H)} (h : d ∈ l) : Rows.uptoBulk d ≤ Rows.uptoBulkAll l := by
  induction l with
  | nil => cases h
  | cons x r ih =>
    simp only [Rows.uptoBulkAll]
    cases List.mem_cons.1 h with
    | inl e => subst e; omega
    | inr e => have := ih e; omega
section
variable {H : Type} {enc : TypeId × Value → H} {P : Program} {w : World} {spare : Nat → Bool} {held : Bool}
theorem open_row_b {tV tL : TypeId} (u3 : P.underlying tL = some (.slice tV)) (c4 : P.cellsOf tV = 4) (fuel : Nat)
    (ih : ∀ m, m < fuel → ∀ (cs : List Value) (x : DataW H × List MemPlace), DataW.trod enc P w 0 spare held m tV cs = some x → ∃ t : V, VRep w w.heap.size t (.agg cs.toArray) ∧ (Value.agg cs.toArray).cells.toList = cs ∧ depth t ≤ Rows.uptoBulk x.1)
    (cs : List Value) (x : DataW H × List MemPlace) (h : DataW.trod enc P w 0 spare held fuel tL cs = some x) : ∃ (l : List V) (A : Option Addr) (c : Nat), cs = [.slice A l.length c] ∧ RRep w w.heap.size l A c ∧ depthL l ≤ Rows.uptoBulk x.1 := by
  rcases DataW.trod_slice u3 h with ⟨rfl, rfl⟩ | ⟨a, len, cap, elems, rest, n, hn, rfl, rfl, _, hlc, hcm, hlen, hel, _⟩
  · exact ⟨[], none, 0, rfl, RRep.nil (by decide), by simp [depthL]⟩
  · rw [c4] at hel
    obtain ⟨F, hF⟩ := choose_lt (α := V × Value) (n := len) (p := fun i y => VRep w w.heap.size y.1 y.2 ∧ depth y.1 ≤ Rows.uptoBulkAll (elems.map (·.1)) ∧ ∃ b off, a = ⟨b, off, none⟩ ∧ b < w.heap.size ∧ ∀ k z, y.2.cells[k]? = some z → w.cell? ⟨b, off + i * 4 + k, none⟩ = some z) (fun i hi => by
      have h1 := hel i hi
      rw [List.getElem?_eq_getElem (by omega)] at h1
      obtain ⟨cs', h2, h3⟩ := Option.bind_eq_some_iff.1 h1
      obtain ⟨_, hl4, hc4⟩ := World.cells?_some h2
      obtain ⟨t, ht, hcs, hdp⟩ := ih n (by omega) cs' _ h3
      refine ⟨(t, .agg cs'.toArray), ht, Nat.le_trans hdp (part_le (List.mem_map.2 ⟨_, List.getElem_mem (by omega), rfl⟩)), ?_⟩
      have hspot : a.spot = none ∧ a.block < w.heap.size := by
        have h0 := hel 0 (by omega)
        rw [List.getElem?_eq_getElem (by omega)] at h0
        obtain ⟨cs0, h02, _⟩ := Option.bind_eq_some_iff.1 h0
        obtain ⟨_, hl0, hc0⟩ := World.cells?_some h02
        have h00 := hc0 0 (by omega)
        rw [List.getElem?_eq_getElem (by omega)] at h00
        have e0 : (a.add (0 * 4)).add 0 = a := by simp [Addr.add]
        rw [e0] at h00
        unfold World.cell? at h00
        split at h00
        · rename_i hb
          refine ⟨?_, ?_⟩
          · cases hs : a.spot with
            | none => rfl
            | some q => simp [hs] at h00
          · rw [Array.getElem?_eq_some_iff] at hb
            exact hb.1
        · simp at h00
      refine ⟨a.block, a.off, by cases a; simp_all, hspot.2, fun k z hz => ?_⟩
      have hk : (Value.agg cs'.toArray).cells.toList[k]? = some z := by simpa using hz
      rw [hcs] at hk
      have hk4 : k < 4 := by
        rw [List.getElem?_eq_some_iff] at hk
        obtain ⟨h, _⟩ := hk; omega
      have := hc4 k hk4
      rw [hk, add_add] at this
      rw [← this]
      congr 1
      unfold Addr.add
      split
      · rename_i hz0
        have : i * 4 = 0 ∧ k = 0 := by omega
        cases a; simp_all
      · simp)
    refine ⟨(List.range len).map fun i => (F i).1, some a, cap, by simp, ⟨by simpa using hlc, hcm, fun i => (F i).2, ?_, ?_⟩, ?_⟩
    · intro j hj
      obtain ⟨_, _, b, off, rfl, hb, hc⟩ := hF j (by simpa using hj)
      exact ⟨b, off, rfl, hb, hc⟩
    · intro j hj
      have := (hF j (by simpa using hj)).1
      simpa using this
    · rw [Rows.uptoBulk]
      refine Nat.le_trans (depthL_le fun t ht => ?_) (Nat.le_trans (Nat.le_add_right _ _) (Nat.le_add_right _ _))
      obtain ⟨i, hi, rfl⟩ := List.mem_map.1 ht
      exact (hF i (by simpa using hi)).2.1
/-- What a caller hands in as a value: its tree. -/
theorem open_val_b {tV tL t0 t1 t2 : TypeId} {f0 f1 f2 f3 : Field} (hV : P.underlying tV = some (.struct #[f0, f1, f2, f3])) (c4 : P.cellsOf tV = 4)
    (o0 : f0.offset = 0) (o1 : f1.offset = 1) (o2 : f2.offset = 2) (o3 : f3.offset = 3) (c0 : P.cellsOf t0 = 1) (c1 : P.cellsOf t1 = 1) (c2 : P.cellsOf t2 = 1) (c3 : P.cellsOf tL = 1)
    (e0 : f0.type = t0) (e1 : f1.type = t1) (e2 : f2.type = t2) (e3 : f3.type = tL)
    (u0 : P.underlying t0 = some (.int .u8)) (u1 : P.underlying t1 = some (.int .i64)) (u2 : P.underlying t2 = some .string) (u3 : P.underlying tL = some (.slice tV)) :
    ∀ (fuel : Nat) (cs : List Value) (x : DataW H × List MemPlace), DataW.trod enc P w 0 spare held fuel tV cs = some x → ∃ t : V, VRep w w.heap.size t (.agg cs.toArray) ∧ (Value.agg cs.toArray).cells.toList = cs ∧ depth t ≤ Rows.uptoBulk x.1 := by
  intro fuel
  induction fuel using Nat.strongRecOn with
  | ind fuel ih =>
    intro cs x h
    obtain ⟨xs, n, rfl, rfl, hl, hlen, hf⟩ := DataW.trod_struct hV h
    rw [c4] at hl
    match cs, hl with
    | [a, b, c, d], _ =>
      have hx : xs.length = 4 := hlen
      have g0 := hf 0 f0 rfl; have g1 := hf 1 f1 rfl; have g2 := hf 2 f2 rfl; have g3 := hf 3 f3 rfl
      rw [List.getElem?_eq_getElem (by omega), e0, o0, c0] at g0
      rw [List.getElem?_eq_getElem (by omega), e1, o1, c1] at g1
      rw [List.getElem?_eq_getElem (by omega), e2, o2, c2] at g2
      rw [List.getElem?_eq_getElem (by omega), e3, o3, c3] at g3
      obtain ⟨k, hk, _, wk⟩ := DataW.trod_int u0 g0
      obtain ⟨m, hm, _, wm⟩ := DataW.trod_int u1 g1
      obtain ⟨s, hs, _, ws⟩ := DataW.trod_string u2 g2
      obtain ⟨l, A, cc, hd, hr, hdp⟩ := open_row_b u3 c4 n (fun m hm => ih m (by omega)) _ _ g3
      simp at hk hm hs hd
      subst hk; subst hm; subst hs; subst hd
      have hk' : 0 ≤ k ∧ k < 256 := by
        simp only [Lit.wf, Bool.and_eq_true, decide_eq_true_eq] at wk
        have h1 : IntKind.u8.min = 0 := by decide
        have h2 : IntKind.u8.max = 255 := by decide
        omega
      have hm' : -9223372036854775808 ≤ m ∧ m ≤ 9223372036854775807 := by
        simp only [Lit.wf, Bool.and_eq_true, decide_eq_true_eq] at wm
        have h1 : IntKind.i64.min = -9223372036854775808 := by decide
        have h2 : IntKind.i64.max = 9223372036854775807 := by decide
        omega
      refine ⟨.mk k.toNat m s l, ?_, rfl, ?_⟩
      rotate_left
      · rw [depth, Rows.uptoBulk]
        have := part_le (H := H) (d := (xs[3]).1) (l := xs.map (·.1)) (List.mem_map.2 ⟨xs[3], List.getElem_mem (by omega), rfl⟩)
        omega
      have := VRep.of_row (k := k.toNat) (by omega) hm' ws hr
      rwa [Int.toNat_of_nonneg hk'.1] at this
end
theorem bulk_one {H : Type} (d : DataW H) : 1 ≤ Rows.uptoBulk d := by
  cases d with
  | lit l => cases l <;> simp [Rows.uptoBulk]
  | _ => simp [Rows.uptoBulk]
theorem bulkAll_len {H : Type} : ∀ l : List (DataW H), l.length ≤ Rows.uptoBulkAll l
  | [] => by simp
  | d :: l => by
    have h1 := bulk_one d
    have h2 := bulkAll_len l
    rw [Rows.uptoBulkAll, List.length_cons]
    omega
section
variable {H : Type} {enc : TypeId × Value → H}
theorem cellsV4 : Tryz.prog.cellsOf 34 = 4 := by kernel_rfl
set_option maxRecDepth 100000 in
/-- A value that is handed in, and how deep it is. -/
theorem open_value_d {w : World} {b0 : Nat} {r : Reach} {v : Value} {d : DataW H} {ps : List MemPlace} {sp : Nat → Bool} {held : Bool}
    (hval : Value.okWide Tryz.prog w r b0 34 v) (hd : DataW.Trod enc Tryz.prog w 0 sp held 34 v d ps) : ∃ t : V, VRep w w.heap.size t v ∧ depth t ≤ Rows.uptoBulk d := by
  obtain ⟨cs, rfl, _⟩ := okWide_struct Tryz.underlying34 hval
  obtain ⟨fuel, hf⟩ := hd
  obtain ⟨t, ht, _, hdp⟩ := open_val_b Tryz.underlying34 cellsV4 rfl rfl rfl rfl (by kernel_rfl) (by kernel_rfl) (by kernel_rfl) (by kernel_rfl) rfl rfl rfl rfl Tryz.underlying5 Tryz.underlying2 Tryz.underlying9 Tryz.underlying32 fuel _ _ hf
  exact ⟨t, by simpa [Value.cells] using ht, hdp⟩
set_option maxRecDepth 100000 in
theorem value_stays {W W' : World} {v : Value} {d : DataW H} {ps : List MemPlace} (h : DataW.Trod enc Tryz.prog W 0 (fun _ => true) true 34 v d ps) (hb : Below W.heap.size W W') (hlt : ∀ x ∈ ps, x.block < W.heap.size)
    {sp : Nat → Bool} (hs : ∀ p ∈ ps, sp p.block = true) : DataW.Trod enc Tryz.prog W' 0 sp true 34 v d ps :=
  WideElems.Trod_stays laidOut (by kernel_rfl) (of_decide_eq_true (by kernel_rfl)) h (fun x hx => hb.same (hlt x hx)) hs
theorem cellsB : Tryz.prog.cellsOf 5 = 1 := by kernel_rfl
set_option maxRecDepth 100000 in
/-- A slice of bytes that comes in, and how long it is. -/
theorem open_hands_d {w : World} {b0 : Nat} {r : Reach} {v : Value} {d : DataW H} {ps : List MemPlace} {sp : Nat → Bool} {held : Bool}
    (hval : Value.okWide Tryz.prog w r b0 23 v) (hd : DataW.Trod enc Tryz.prog w 0 sp held 23 v d ps) : ∃ l : List UInt8, Hands w v l ∧ l.length ≤ Rows.uptoBulk d := by
  obtain ⟨A, len, cap, rfl⟩ := okWide_slice Tryz.underlying23 hval
  obtain ⟨fuel, hf⟩ := hd
  rcases open_ints Tryz.underlying23 Tryz.underlying5 cellsB hf with ⟨hcs, _⟩ | ⟨a, len', cap', zs, hcs, _, hlc, hcm, hzl, hx, hcell, hwf⟩
  · simp only [Value.cells, List.cons.injEq, Value.slice.injEq, and_true] at hcs
    obtain ⟨rfl, rfl, rfl⟩ := hcs
    exact ⟨[], .inl ⟨rfl, rfl⟩, by simp⟩
  · simp only [Value.cells, List.cons.injEq, Value.slice.injEq, and_true] at hcs
    obtain ⟨rfl, rfl, rfl⟩ := hcs
    have hle : len ≤ zs.length := by rw [hzl]; split <;> omega
    have hlen : ((zs.take len).map fun z => UInt8.ofNat z.toNat).length = len := by simp; omega
    have hbulk : len ≤ Rows.uptoBulk d := by
      have hd : d = DataW.slice (lits IntKind.u8 (List.take len zs)) (lits IntKind.u8 (List.drop len zs)) := congrArg Prod.fst hx
      have h1 := bulkAll_len (H := H) (lits IntKind.u8 (List.take len zs))
      have h2 : (lits (H := H) IntKind.u8 (List.take len zs)).length = len := by simp [lits]; omega
      rw [hd, Rows.uptoBulk]
      omega
    refine ⟨(zs.take len).map fun z => UInt8.ofNat z.toNat, .inr ⟨a, cap, by rw [hlen], fun i hi => ?_, fun hne => ?_⟩, by rw [hlen]; exact hbulk⟩
    · rw [hlen] at hi
      rw [hcell i (by omega)]
      have hmem : zs[i]'(by omega) ∈ zs := List.getElem_mem (by omega)
      have hw := hwf _ hmem
      have h8 : IntKind.u8.min = 0 := by decide
      have h9 : IntKind.u8.max = 255 := by decide
      simp only [Lit.wf, Bool.and_eq_true, decide_eq_true_eq, h8, h9] at hw
      simp only [List.getElem_map, List.getElem_take, UInt8.toNat_ofNat']
      rw [List.getD_eq_getElem?_getD, List.getElem?_eq_getElem (by omega)]
      simp only [Option.getD_some]
      congr 2
      omega
    · have h0 : 0 < len := by
        rcases Nat.eq_zero_or_pos len with h | h
        · subst h; exact absurd (by simp) hne
        · exact h
      have hc := hcell 0 (by omega)
      have e0 : a.add 0 = a := by simp [Addr.add]
      rw [e0] at hc
      rcases Nat.lt_or_ge a.block w.heap.size with h | h
      · exact h
      · simp [World.cell?, Array.getElem?_eq_none h] at hc
set_option maxRecDepth 100000 in
theorem hands_stays {W W' : World} {v : Value} {d : DataW H} {ps : List MemPlace} (h : DataW.Trod enc Tryz.prog W 0 (fun _ => true) true 23 v d ps) (hb : Below W.heap.size W W') (hlt : ∀ x ∈ ps, x.block < W.heap.size)
    {sp : Nat → Bool} (hs : ∀ p ∈ ps, sp p.block = true) : DataW.Trod enc Tryz.prog W' 0 sp true 23 v d ps :=
  WideElems.Trod_stays laidOut (by kernel_rfl) (of_decide_eq_true (by kernel_rfl)) h (fun x hx => hb.same (hlt x hx)) hs
end
theorem maxb_of {w : World} (h : MaxAt w) : MaxB w.heap.size w := by
  refine ⟨?_, h⟩
  obtain ⟨m, h⟩ := h
  rcases Nat.lt_or_ge 0 w.heap.size with h' | h'
  · exact h'
  · simp [World.cell?, Array.getElem?_eq_none h'] at h
end Go.Proofs.YtlhkjmckigblpaaGreatDoor
