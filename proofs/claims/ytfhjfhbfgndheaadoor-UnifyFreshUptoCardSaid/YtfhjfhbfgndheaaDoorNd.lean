/- Package unify: the bindings in memory. -/
import Derived.Test.YtfhjfhbfgndheaaDoorNu
namespace Go.Proofs.YtfhjfhbfgndheaaDoor
open Go.RowKit Go.Shelf Un
open Go
attribute [local go_sem] Oper.semAt_some

/-! ### What stays as it was laid -/
def ErrV (w : World) (b : Nat) : Prop := ∃ ev, w.cell? ⟨b, 0, none⟩ = some ev ∧ (ev = .nilIface ∨ ∃ te pe, ev = .iface te pe)
def GlobF (B : Nat) (w : World) : Prop := ∀ w', Below B w w' → Lib.TabIs Tryd.prog w' "internal/strconv.uint64pow10" .u64 Lib.pow10Tab ∧ ErrV w' 0 ∧ ErrV w' 1
theorem GlobF.below {B : Nat} {w w' : World} (h : GlobF B w) (hb : Below B w w') : GlobF B w' := fun w2 h2 => h w2 (hb.trans h2)

/-! ### Terms as data -/
def numD (n : Nat) : Gd.D := .int .i64 (n : Int)
def termD (t : Tm) (i : Bool) : Gd.D := .tup [.str t.1, .seq 1 (t.2.map numD), .bool i]
def termsD (ts : List Tm) (ins : List Bool) : List Gd.D := (ts.zip ins).map fun p => termD p.1 p.2
theorem termsD_len {ts : List Tm} {ins : List Bool} (h : ins.length = ts.length) : (termsD ts ins).length = ts.length := by simp [termsD, h]
theorem termsD_at {ts : List Tm} {ins : List Bool} {j : Nat} (h : j < ts.length) (h' : j < ins.length) : (termsD ts ins)[j]'(by simp [termsD]; omega) = termD ts[j] ins[j] := by simp [termsD]

/-- The bindings of a table: terms, what they lead to, numbers of new variables. -/
structure St where
  ts : List Tm
  ρ : Nat → Nat
  last : Int
  tk : Int → Bool
def tkF (tk : Int → Bool) (k : Int) : Option Bool := bif tk k then some true else none
/-- Where what is within the terms may lie. -/
def SF (F : Nat → Prop) (g mb kb : Nat) (ov : Value) (x : Nat) : Prop := F x ∧ x ≠ g ∧ x ≠ mb ∧ x ≠ kb ∧ ov.ownBlock ≠ some x
/-- How many arguments there are in all. -/
def argSum : List Tm → Nat
  | [] => 0
  | t :: l => t.2.length + argSum l
theorem argSum_app : ∀ a b : List Tm, argSum (a ++ b) = argSum a + argSum b
  | [], b => by simp [argSum]
  | t :: a, b => by rw [List.cons_append, argSum, argSum, argSum_app a b]; omega
/-- The bindings at block g, in blocks that meet F alone; up is what each term leads to. -/
structure BRx (B0 : Nat) (F : Nat → Prop) (K : Nat) (st : St) (up : List Nat) (rk : Nat → Nat) (ins : List Bool) (tv ov : Value) (mb kb : Nat) (w : World) (g : Nat) : Prop where
  glob : GlobF B0 w
  base : ∀ x, F x → B0 ≤ x
  fg : F g
  fm : F mb
  fk : F kb
  mkb : mb ≠ kb
  blk : Blk w g 60 #[tv, ov, .map (some mb), .int .i64 st.last, .map (some kb)]
  map : Gm.MapR Tryd.prog 9 (plainElem (H := Unit) Tryd.prog 3) Gm.kS (fun n : Nat => Gm.eI n) w mb K (vidx st.ts)
  tak : Gm.MapR Tryd.prog 3 (plainElem (H := Unit) Tryd.prog 4) Gm.kI Gm.eB w kb K (tkF st.tk)
  upR : Gd.Own F (fun _ => False) 3 1 (up.map numD) w ov
  tsR : Gd.Own F (SF F g mb kb ov) 81 3 (termsD st.ts ins) w tv
  len : up.length = st.ts.length
  for_ : Forest st.ρ rk up
  ins_ : InsOk st.ρ st.ts ins
  wf : WF st.ts
  few : st.ts.length ≤ K
  sum : argSum st.ts ≤ K
  lim : K ≤ 50000000
  las : 0 ≤ st.last ∧ st.last ≤ K
def BR (B0 : Nat) (F : Nat → Prop) (K : Nat) (st : St) (w : World) (g : Nat) : Prop := ∃ up rk ins tv ov mb kb, BRx B0 F K st up rk ins tv ov mb kb w g
section
variable {B0 K : Nat} {F : Nat → Prop} {st : St} {up : List Nat} {rk : Nat → Nat} {ins : List Bool} {tv ov : Value} {mb kb g : Nat} {w w' : World}
theorem BRx.tn (h : BRx B0 F K st up rk ins tv ov mb kb w g) : tv.ownBlock ≠ some g := own_ne_blk h.tsR h.blk (by decide)
theorem BRx.on (h : BRx B0 F K st up rk ins tv ov mb kb w g) : ov.ownBlock ≠ some g := own_ne_blk h.upR h.blk (by decide)
theorem BRx.tm (h : BRx B0 F K st up rk ins tv ov mb kb w g) : tv.ownBlock ≠ some mb := own_ne_map h.map h.tsR
theorem BRx.om (h : BRx B0 F K st up rk ins tv ov mb kb w g) : ov.ownBlock ≠ some mb := own_ne_map h.map h.upR
theorem BRx.tkn (h : BRx B0 F K st up rk ins tv ov mb kb w g) : tv.ownBlock ≠ some kb := own_ne_map h.tak h.tsR
theorem BRx.okn (h : BRx B0 F K st up rk ins tv ov mb kb w g) : ov.ownBlock ≠ some kb := own_ne_map h.tak h.upR
theorem BRx.gm (h : BRx B0 F K st up rk ins tv ov mb kb w g) : g ≠ mb := map_ne_blk h.map h.blk
theorem BRx.gk (h : BRx B0 F K st up rk ins tv ov mb kb w g) : g ≠ kb := map_ne_blk h.tak h.blk
theorem BRx.to_ (h : BRx B0 F K st up rk ins tv ov mb kb w g) : ∀ b, tv.ownBlock = some b → ov.ownBlock ≠ some b := fun b hb => by
  rcases h.tsR.val with ⟨rfl, _⟩ | ⟨b', c, rfl, _, _, _, _, cur, hblk⟩
  · cases hb
  · injection hb with hb
    subst hb
    exact own_ne_blk h.upR hblk (by decide)
/-- The blocks of a table. -/
theorem BRx.keep (h : BRx B0 F K st up rk ins tv ov mb kb w g) (hb : ∀ b, F b → b < w.heap.size → w'.heap[b]? = w.heap[b]?) (hb0 : Below B0 w w') : BRx B0 F K st up rk ins tv ov mb kb w' g :=
  { h with
    glob := h.glob.below hb0
    blk := (hb _ h.fg h.blk.lt).trans h.blk
    map := h.map.keep (hb _ h.fm h.map.lt)
    tak := h.tak.keep (hb _ h.fk h.tak.lt)
    upR := h.upR.keep (fun b hk => hb b (own_lt h.upR b hk).2 (own_lt h.upR b hk).1) (fun _ h _ => h.elim) hb0.size
    tsR := h.tsR.keep (fun b hk => hb b (own_lt h.tsR b hk).2 (own_lt h.tsR b hk).1) (fun b hs hl => hb b hs.1 hl) hb0.size }
theorem BRx.below (h : BRx B0 F K st up rk ins tv ov mb kb w g) (hb : Below w.heap.size w w') (hB : B0 ≤ w.heap.size) : BRx B0 F K st up rk ins tv ov mb kb w' g := h.keep (fun b _ hl => hb.block b hl) (hb.mono hB)
theorem BRx.mono {F' : Nat → Prop} (h : BRx B0 F K st up rk ins tv ov mb kb w g) (hF : ∀ b, b < w.heap.size → F b → F' b) (hb : ∀ x, F' x → B0 ≤ x) : BRx B0 F' K st up rk ins tv ov mb kb w g :=
  { h with
    base := hb
    fg := hF _ h.blk.lt h.fg
    fm := hF _ h.map.lt h.fm
    fk := hF _ h.tak.lt h.fk
    upR := h.upR.mono hF fun _ _ h => h
    tsR := h.tsR.mono hF fun b hl hs => ⟨hF b hl hs.1, hs.2⟩ }
theorem BRx.drew (h : BRx B0 F K st up rk ins tv ov mb kb w g) : BRx B0 F K st up rk ins tv ov mb kb w.drew g := h.keep (fun _ _ _ => rfl) (Below.refl _ _).drew
theorem BRx.b0 (h : BRx B0 F K st up rk ins tv ov mb kb w g) : B0 ≤ w.heap.size := by
  have := h.base _ h.fg
  have := h.blk.lt
  omega
theorem BR.keep (h : BR B0 F K st w g) (hb : ∀ b, F b → b < w.heap.size → w'.heap[b]? = w.heap[b]?) (hb0 : Below B0 w w') : BR B0 F K st w' g := by
  obtain ⟨a, b, c, d, e, f, i, h⟩ := h
  exact ⟨a, b, c, d, e, f, i, h.keep hb hb0⟩
theorem BR.b0 (h : BR B0 F K st w g) : B0 ≤ w.heap.size := by
  obtain ⟨a, b, c, d, e, f, i, h⟩ := h
  exact h.b0
theorem BR.below (h : BR B0 F K st w g) (hb : Below w.heap.size w w') : BR B0 F K st w' g := h.keep (fun b _ hl => hb.block b hl) (hb.mono h.b0)
theorem BR.mono {F' : Nat → Prop} (h : BR B0 F K st w g) (hF : ∀ b, b < w.heap.size → F b → F' b) (hb : ∀ x, F' x → B0 ≤ x) : BR B0 F' K st w g := by
  obtain ⟨a, b, c, d, e, f, i, h⟩ := h
  exact ⟨a, b, c, d, e, f, i, h.mono hF hb⟩
/-- One place of the list of roots is written. -/
theorem BRx.setUp {up' : List Nat} {n x : Nat} {ob c l : Nat} (h : BRx B0 F K st up rk ins tv (.slice (some ⟨ob, 0, none⟩) l c) mb kb w g) (hn : n < up.length) (hu : up' = up.set n x) {st' : St} {rk' : Nat → Nat} (hs : st'.ts = st.ts ∧ st'.last = st.last ∧ st'.tk = st.tk) (hf : Forest st'.ρ rk' up') (hi : InsOk st'.ρ st'.ts ins) (hx : (x : Int) ≤ 50000000) :
    BRx B0 F K st' up' rk' ins tv (.slice (some ⟨ob, 0, none⟩) l c) mb kb (w.setCell ⟨ob, n, none⟩ (.int .i64 (x : Int))) g := by
  obtain ⟨h1, h2, h3⟩ := hs
  have hlt := own_lt h.upR ob rfl
  have hno := h.on; have hmo := h.om; have hko := h.okn
  have hbb : Below B0 w (w.setCell ⟨ob, n, none⟩ (.int .i64 (x : Int))) := (Below.refl _ w).setCell (by have := h.base _ hlt.2; exact this) _
  have far : ∀ b, b ≠ ob → (w.setCell ⟨ob, n, none⟩ (.int .i64 (x : Int))).heap[b]? = w.heap[b]? := fun b hb => Below.heap_setCell _ _ _ _ hb
  refine { glob := h.glob.below hbb, base := h.base, fg := h.fg, fm := h.fm, fk := h.fk, mkb := h.mkb, blk := ?_, map := ?_, tak := ?_, upR := ?_, tsR := ?_, len := by rw [hu, h1, List.length_set]; exact h.len, for_ := hf, ins_ := hi, wf := h1 ▸ h.wf, few := h1 ▸ h.few, sum := h1 ▸ h.sum, lim := h.lim, las := h2 ▸ h.las }
  · rw [h2]
    exact (far _ fun e => hno (congrArg some e.symm)).trans h.blk
  · rw [h1]
    exact h.map.keep (far _ fun e => hmo (congrArg some e.symm))
  · rw [h3]
    exact h.tak.keep (far _ fun e => hko (congrArg some e.symm))
  · rw [hu, List.map_set]
    refine h.upR.set (j := n) (i := 0) (by simpa using hn) (by omega) (by omega) _ _ fun w' cs hr => ?_
    rw [List.getElem_map] at hr
    obtain ⟨rfl, _⟩ := hr.int_
    refine .int ?_
    have e1 : IntKind.i64.min = -9223372036854775808 := rfl
    have e2 : IntKind.i64.max = 9223372036854775807 := rfl
    simp [Lit.wf, e1, e2]
    omega
  · rw [h1]
    exact h.tsR.keep (fun b hb => far b fun e => h.to_ b hb (by rw [e]; rfl)) (fun b hs _ => far b fun e => hs.2.2.2.2 (by rw [e]; rfl)) (by simp)
end
end Go.Proofs.YtfhjfhbfgndheaaDoor
