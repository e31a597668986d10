/- What the row of UnifyFresh wants: a world that fits, what its listed variables tell, its last step, the law out of what a caller hands in. -/
import Derived.Test.YtfhjfhbfgndheaaDoorCards
import Derived.Test.YtfhjfhbfgndheaaDoorTie
import Derived.Test.YtfhjfhbfgndheaaDoorFj
import Derived.Test.YtfhjfhbfgndheaaDoorEa
import Derived.ProofKit
import Derived.OpenShut
import Derived.Deep.DeepHandedRow
import Derived.Lib.LaidTab
import Derived.Stop.LaidErr
import Derived.Carry
import Derived.LaidLaws
import Derived.Lib.AppendIntMem
namespace Go.Proofs.YtfhjfhbfgndheaaDoor
open Go.ChangeShapes Go.WideShapes Go.ChangeAt Go.RowKit Go.Shelf
open Go

theorem own : ownKnob Tryd.prog.godebug = none := by kernel_rfl
theorem laidOut : laidOutB Tryd.prog = true := by kernel_rfl
def u8s (l : List Int) : Array Value := (l.map fun z => Value.int .u8 z).toArray
def tab32 : List Int := [0, 1, 28, 2, 29, 14, 24, 3, 30, 22, 20, 15, 25, 17, 4, 8, 31, 27, 13, 23, 21, 19, 16, 7, 26, 12, 18, 6, 11, 5, 10, 9]
def tab64 : List Int := [0, 1, 56, 2, 57, 49, 28, 3, 61, 58, 42, 50, 38, 29, 17, 4, 62, 47, 59, 36, 45, 43, 51, 22, 53, 39, 33, 30, 24, 18, 12, 5, 63, 55, 48, 27, 60, 41, 37, 16, 46, 35, 44, 21, 52, 32, 23, 11, 54, 26, 40, 15, 34, 20, 31, 10, 25, 14, 19, 9, 13, 8, 7, 6]
def pow10 : List Int := [1, 10, 100, 1000, 10000, 100000, 1000000, 10000000, 100000000, 1000000000, 10000000000, 100000000000, 1000000000000, 10000000000000, 100000000000000, 1000000000000000, 10000000000000000, 100000000000000000, 1000000000000000000, 10000000000000000000]
def synS : ByteArray := { data := #[105, 110, 118, 97, 108, 105, 100, 32, 115, 121, 110, 116, 97, 120] }
def rngS : ByteArray := { data := #[118, 97, 108, 117, 101, 32, 111, 117, 116, 32, 111, 102, 32, 114, 97, 110, 103, 101] }
def setO (cs : Array Value) : Obj → Obj
  | .cells _ t frozen => .cells cs t frozen
  | o => o
/-- So many blocks has the settled world. -/
noncomputable def low : Nat := (World.holding Tryd.prog default ⟨#[], #[], []⟩).heap.size
/-- A world for the witness: each listed variable as its initialiser lays it. -/
noncomputable def laidWorld (os : Os) : World :=
  let w0 := World.holding Tryd.prog os ⟨#[.cells #[.string synS] 126, .cells #[.string rngS] 126], #[], []⟩
  { w0 with heap := ((((w0.heap.modify 2 (setO (pow10.map fun z => Value.int .u64 z).toArray)).modify 3 (setO (u8s tab32))).modify 4 (setO (u8s tab64))).modify 0 (setO #[.iface 124 (.pointer (some ⟨low, 0, none⟩))])).modify 1 (setO #[.iface 124 (.pointer (some ⟨low + 1, 0, none⟩))]) }
section
variable {H : Type} {enc : TypeId × Value → H} {P : Program}
/-- The row's last step behind a call of which 'Below' is known. -/
theorem post_below {f : Func} {s : ChangeSpec} {apart fresh handsOn again : Bool} {W W' : World} {args : Array Value} {v : Value} {ds gs : List (DataW H)} {before pa pv : List MemPlace}
    (hW : DataW.Whole enc P f.params.toList s.vars apart W args.toList ds gs before)
    (hres : ∀ (b : Nat) (sp : Nat → Bool) (hd : Bool), DataW.TrodAll enc P W' b sp hd f.resultTypes.toList (v.resultList f.resultTypes.size) (s.fn H (ds ++ gs)).results [])
    (hargs : ∀ sp : Nat → Bool, (∀ p ∈ before, sp p.block = true) → DataW.TrodAll enc P W' 0 sp true f.params.toList args.toList (s.fn H (ds ++ gs)).args pa)
    (hvars : ∀ sp : Nat → Bool, (∀ p ∈ before, sp p.block = true) → DataW.TrodVars enc P W' sp s.vars (s.fn H (ds ++ gs)).vars pv)
    (hps : before = pa ++ pv) (hb : Below W.heap.size W W')
    (hok : ∀ (j : Nat) (t : TypeId) (r : Value), f.resultTypes[j]? = some t → (v.resultList f.resultTypes.size)[j]? = some r → Value.okWide P W' .any 0 t r) :
    s.post enc P f apart fresh handsOn again W args v W' := by
  have hlt : ∀ p ∈ before, p.block < W.heap.size := fun p hp => hW.lt p hp
  have hold : ∀ p ∈ before, (fun b => decide (b < W.heap.size)) p.block = true := fun p hp => by simpa using hlt p hp
  refine ⟨ds, gs, before, [], pa, pv, hW, hres _ _ _, hargs _ hold, hvars _ hold, World.keptBut_mono (fun p hp => ⟨hp, ?_⟩) (hb.frame (· ∈ before)), fun _ => ?_⟩
  · rw [hps, List.mem_append] at hp
    exact Or.inr hp
  · obtain ⟨_, _, _, _, _, hz, hn⟩ := hW
    refine ⟨hok, _, _, ([] ++ pa) ++ pv, ⟨[] ++ pa, pv, trodAll_append (hargs _ (fun _ _ => rfl)) (hres _ _ _), hvars _ (fun _ _ => rfl), rfl, ?_, ?_⟩, ?_⟩
    · intro b off hp
      have hin : MemPlace.cell b off ∈ before := by rw [hps]; simpa using hp
      rw [hb.frozen (hlt _ hin)]
      exact hz b off hin
    · intro ha
      have := hn ha
      rw [hps] at this
      simpa using this
    · intro p hp _
      rw [hps]
      simpa using hp
end
theorem gTab : Tryd.prog.globalNamed "internal/strconv.uint64pow10" = some 2 := by kernel_rfl
theorem gTabType : (Tryd.prog.globals[2]?).map (·.type) = some 128 := by kernel_rfl
theorem cellsTabE : Tryd.prog.cellsOf 108 = 1 := by kernel_rfl
theorem cellsTab : Tryd.prog.cellsOf 128 = 20 := by kernel_rfl
theorem gES : Tryd.prog.globalNamed "strconv.ErrSyntax" = some 0 := by kernel_rfl
theorem gESType : (Tryd.prog.globals[0]?).map (·.type) = some 72 := by kernel_rfl
theorem gER : Tryd.prog.globalNamed "strconv.ErrRange" = some 1 := by kernel_rfl
theorem gERType : (Tryd.prog.globals[1]?).map (·.type) = some 72 := by kernel_rfl
theorem starE : "*" ++ "errors.errorString" = "*errors.errorString" := by decide
theorem rowE (u : TypeId) (h : Tryd.prog.typeName? 3 u = some "*errors.errorString") : u = 124 :=
  typeName_ptr_named (nm := "errors.errorString") (by rw [starE]; kernel_rfl) (by kernel_rfl) (by decide) u (by rw [starE]; exact h)
theorem cellsES : Tryd.prog.cellsOf 126 = 1 := by kernel_rfl
theorem cellsStr : Tryd.prog.cellsOf 9 = 1 := by kernel_rfl
theorem cell_below {W W' : World} (hb : Below W.heap.size W W') {g i : Nat} {v : Value} (h : W.cell? ⟨g, i, none⟩ = some v) : W'.cell? ⟨g, i, none⟩ = some v := (hb.cell (p := ⟨g, i, none⟩) (lt_of_cell h)).trans h
/-- What the row's cell 'laid' tells. -/
theorem glob_of {W : World} (hL : laidMet Tryd.prog Rows.unifyFreshUptoRow.laid W) : GlobF W.heap.size W ∧ ∃ ev, W.cell? ⟨0, 0, none⟩ = some ev ∧ (ev = .nilIface ∨ ∃ te pe, ev = .iface te pe) := by
  have h2 := hL.tail.tail
  have h3 := h2.tail
  have h4 := h3.tail
  have ht := Lib.tabBelow_of_tabIs (Lib.tabIs_of_head (zs := Lib.pow10Tab) gTab gTabType Tryd.underlying128 Tryd.underlying108 cellsTabE cellsTab h2)
  obtain ⟨a1, s1, hv1, -, -, -⟩ := laid_sentinel h3 gER gERType Tryd.underlying72 rowE Tryd.underlying124 Tryd.underlying126 rfl rfl Tryd.underlying9 cellsES cellsStr
  obtain ⟨a0, s0, hv0, -, -, -⟩ := laid_sentinel h4 gES gESType Tryd.underlying72 rowE Tryd.underlying124 Tryd.underlying126 rfl rfl Tryd.underlying9 cellsES cellsStr
  have c0 : W.cell? ⟨0, 0, none⟩ = some (.iface 124 (.pointer (some a0))) := by have h0 := World.var?_cell gES hv0 0; simpa using h0
  have c1 : W.cell? ⟨1, 0, none⟩ = some (.iface 124 (.pointer (some a1))) := by have h0 := World.var?_cell gER hv1 0; simpa using h0
  exact ⟨fun W' hb => ⟨ht W' hb, ⟨_, cell_below hb c0, .inr ⟨_, _, rfl⟩⟩, ⟨_, cell_below hb c1, .inr ⟨_, _, rfl⟩⟩⟩, _, c0, .inr ⟨_, _, rfl⟩⟩
theorem ty_of (x : Gd.D) (h : Gd.Of Tryd.prog 36 x) : ∃ t : Ty, x = t.d :=
  Ty.of_D Tryd.underlying36 rfl rfl Tryd.underlying9 Tryd.underlying22 (by kernel_rfl) x h
theorem tys_of : ∀ (l : List Gd.D), (∀ x ∈ l, Gd.Of Tryd.prog 36 x) → ∃ a : List Ty, l = Ty.dL a
  | [], _ => ⟨[], rfl⟩
  | x :: l, h => by
    obtain ⟨t, rfl⟩ := ty_of x (h x (by simp))
    obtain ⟨a, rfl⟩ := tys_of l fun y hy => h y (by simp [hy])
    exact ⟨t :: a, rfl⟩
theorem name_bulk (t : Ty) : ∀ q ∈ t.parts, q.name.size ≤ Gd.bulk t.d := by
  induction t using Ty.ind with
  | h n a ih =>
    intro q hq
    rw [Ty.parts] at hq
    rcases List.mem_cons.1 hq with rfl | hq
    · simp only [Ty.d, Gd.bulk, Gd.bulkL, Ty.name]; omega
    · obtain ⟨x, hx, hq⟩ := Ty.mem_partsL.1 hq
      have h1 := ih x hx q hq
      have h2 := Gd.mem_bulkL (l := Ty.dL a) (d := x.d) (by rw [Ty.dL_map]; exact List.mem_map_of_mem hx)
      simp only [Ty.d, Gd.bulk, Gd.bulkL]
      omega
theorem names_bulk {l : List Ty} {n : Nat} (h : Gd.bulkL (Ty.dL l) ≤ n) : ∀ s ∈ varsT l, s.size ≤ n := fun s hs => by
  by_cases hv : l.all mayT = true
  · obtain ⟨x, hx, rfl⟩ := List.mem_map.1 ((mem_varsT hv).1 hs)
    obtain ⟨t, ht, hq⟩ := Ty.mem_partsL.1 (List.mem_filter.1 hx).1
    have h1 := name_bulk t x hq
    have h2 := Gd.mem_bulkL (l := Ty.dL l) (d := t.d) (by rw [Ty.dL_map]; exact List.mem_map_of_mem ht)
    omega
  · unfold varsT at hs
    rw [if_neg hv] at hs
    cases hs
theorem fresh_w {W : World} (hL : laidMet Tryd.prog Rows.unifyFreshUptoRow.laid W) {n0 : Nat} {l0 : List Gd.D} {A0 : Option Addr} {c0 : Nat} (of0 : ∀ x ∈ l0, Gd.Of Tryd.prog 36 x) (rep0 : Gd.Rep W W.heap.size (.seq (Tryd.prog.cellsOf 36) l0) [.slice A0 l0.length c0]) (bk0 : Gd.bulkL l0 ≤ n0) (hbd : n0 ≤ 1048576) :
    Calls Tryd.prog 3 #[.slice A0 l0.length c0] W fun e w' => e = .returned (.bool true) ∧ Below W.heap.size W w' := by
  have e2 : Tryd.prog.cellsOf 36 = 2 := by kernel_rfl
  rw [e2] at rep0
  obtain ⟨l, rfl⟩ := tys_of l0 of0
  have hR : LRep W W.heap.size l A0 c0 := by
    unfold LRep
    rw [Ty.dL_len] at rep0
    exact rep0
  rw [Ty.dL_len]
  obtain ⟨hg, ev, hc, hev⟩ := glob_of hL
  exact fresh_d l A0 c0 W hR hg (fun s hs => by have := names_bulk bk0 s hs; omega) fun W' hb => works_c W' ev (cell_below hb hc) hev
end Go.Proofs.YtfhjfhbfgndheaaDoor
