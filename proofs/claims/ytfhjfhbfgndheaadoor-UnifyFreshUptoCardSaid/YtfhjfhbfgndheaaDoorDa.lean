/- Data of any plain type (numbers, truth values, texts, structs and slices of such): how they lie in memory, and that what a caller hands in lies so. -/
import Derived.Test.YtfhjfhbfgndheaaDoorRows
import Derived.ChangeArms
import Derived.DataReads
import Derived.Below
import Derived.Deep.Slices
import Derived.Lib.Hide
namespace Go.Proofs.YtfhjfhbfgndheaaDoor
open Go.RowKit Go.ChangeShapes Go.WideShapes Go.Deep
open Go
namespace Gd

/-- A datum. (A slice bears how many cells one of its elements has.) -/
inductive D
  | int (k : IntKind) (n : Int)
  | bool (b : Bool)
  | str (s : ByteArray)
  | tup (l : List D)
  | seq (sz : Nat) (l : List D)
theorem D.ind {P : D → Prop} (hi : ∀ k n, P (.int k n)) (hb : ∀ b, P (.bool b)) (hs : ∀ s, P (.str s)) (hr : ∀ l, (∀ d ∈ l, P d) → P (.tup l)) (hq : ∀ sz l, (∀ d ∈ l, P d) → P (.seq sz l)) (d : D) : P d :=
  D.rec (motive_1 := P) (motive_2 := fun l => ∀ t ∈ l, P t) hi hb hs hr hq (fun _ ht => absurd ht (by simp))
    (fun v l hv hl t ht => by
      rcases List.mem_cons.1 ht with e | e
      · rw [e]; exact hv
      · exact hl t e) d
instance : Inhabited D := ⟨.bool false⟩
mutual
/-- How much there is of it. -/
def bulk : D → Nat
  | .int _ _ => 1
  | .bool _ => 1
  | .str s => s.size + 1
  | .tup l => bulkL l + 1
  | .seq _ l => bulkL l + 1
def bulkL : List D → Nat
  | [] => 0
  | d :: l => bulk d + bulkL l
end
theorem bulk_pos : ∀ d : D, 1 ≤ bulk d
  | .int _ _ => by simp [bulk]
  | .bool _ => by simp [bulk]
  | .str _ => by simp [bulk]
  | .tup _ => by simp [bulk]
  | .seq _ _ => by simp [bulk]
theorem len_bulkL : ∀ l : List D, l.length ≤ bulkL l
  | [] => by simp
  | d :: l => by
    have h1 := bulk_pos d
    have h2 := len_bulkL l
    rw [bulkL, List.length_cons]
    omega
theorem mem_bulkL : ∀ {l : List D} {d : D}, d ∈ l → bulk d ≤ bulkL l
  | [], _, h => by cases h
  | x :: l, d, h => by
    rw [bulkL]
    rcases List.mem_cons.1 h with rfl | h
    · omega
    · have := mem_bulkL h; omega

theorem bulkL_app : ∀ a b : List D, bulkL (a ++ b) = bulkL a + bulkL b
  | [], b => by simp [bulkL]
  | x :: a, b => by rw [List.cons_append, bulkL, bulkL, bulkL_app a b]; omega
theorem bulkAll_app {H : Type} : ∀ a b : List (DataW H), Rows.uptoBulkAll (a ++ b) = Rows.uptoBulkAll a + Rows.uptoBulkAll b
  | [], b => by simp [Rows.uptoBulkAll]
  | x :: a, b => by rw [List.cons_append, Rows.uptoBulkAll, Rows.uptoBulkAll, bulkAll_app a b]; omega
/-- A datum's cells, in the world, what its slices lead to in blocks below B. -/
inductive Rep (w : World) (B : Nat) : D → List Value → Prop
  | int {k : IntKind} {n : Int} (h : (Lit.int k n).wf = true) : Rep w B (.int k n) [.int k n]
  | bool {b : Bool} : Rep w B (.bool b) [.bool b]
  | str {s : ByteArray} (h : s.size ≤ maxLen) : Rep w B (.str s) [.string s]
  | nil : Rep w B (.tup []) []
  | cons {d : D} {ds : List D} {c cs : List Value} (h1 : Rep w B d c) (h2 : Rep w B (.tup ds) cs) : Rep w B (.tup (d :: ds)) (c ++ cs)
  | seq {sz : Nat} {ds : List D} {A : Option Addr} {c : Nat} (E : Nat → List Value) (hc : ds.length ≤ c) (hm : c ≤ maxLen) (hz : ∀ j, j < ds.length → (E j).length = sz)
      (hcell : ∀ j, j < ds.length → ∃ b off, A = some ⟨b, off, none⟩ ∧ b < B ∧ ∀ i x, (E j)[i]? = some x → w.cell? ⟨b, off + j * sz + i, none⟩ = some x)
      (hel : ∀ j (hj : j < ds.length), Rep w B ds[j] (E j)) : Rep w B (.seq sz ds) [.slice A ds.length c]
theorem Rep.keep {w w' : World} {B : Nat} {d : D} {cs : List Value} (h : Rep w B d cs) (hb : ∀ b, b < B → w'.heap[b]? = w.heap[b]?) : Rep w' B d cs := by
  induction h with
  | int h => exact .int h
  | bool => exact .bool
  | str h => exact .str h
  | nil => exact .nil
  | cons _ _ h1 h2 => exact .cons h1 h2
  | seq E hc hm hz hcell _ ih =>
    refine .seq E hc hm hz (fun j hj => ?_) ih
    obtain ⟨b, off, e, hlt, hx⟩ := hcell j hj
    exact ⟨b, off, e, hlt, fun i x hi => (World.cell?_of_block (hb b hlt)).trans (hx i x hi)⟩
theorem Rep.under {w w' : World} {B : Nat} {d : D} {cs : List Value} (h : Rep w B d cs) (hb : Below B w w') : Rep w' B d cs := h.keep hb.block
theorem Rep.more {w : World} {B B' : Nat} {d : D} {cs : List Value} (h : Rep w B d cs) (hB : B ≤ B') : Rep w B' d cs := by
  induction h with
  | int h => exact .int h
  | bool => exact .bool
  | str h => exact .str h
  | nil => exact .nil
  | cons _ _ h1 h2 => exact .cons h1 h2
  | seq E hc hm hz hcell _ ih =>
    refine .seq E hc hm hz (fun j hj => ?_) ih
    obtain ⟨b, off, e, hlt, hx⟩ := hcell j hj
    exact ⟨b, off, e, Nat.lt_of_lt_of_le hlt hB, hx⟩

/-! ### Of a type -/
inductive Of (P : Program) : TypeId → D → Prop
  | int {t : TypeId} {k : IntKind} {n : Int} (h : P.underlying t = some (.int k)) : Of P t (.int k n)
  | bool {t : TypeId} {b : Bool} (h : P.underlying t = some .bool) : Of P t (.bool b)
  | str {t : TypeId} {s : ByteArray} (h : P.underlying t = some .string) : Of P t (.str s)
  | tup {t : TypeId} {fs : Array Field} {ds : List D} (h : P.underlying t = some (.struct fs)) (hl : ds.length = fs.size) (hel : ∀ j (h1 : j < fs.size) (h2 : j < ds.length), Of P fs[j].type ds[j]) : Of P t (.tup ds)
  | seq {t e : TypeId} {sz : Nat} {ds : List D} (h : P.underlying t = some (.slice e)) (hs : P.cellsOf e = sz) (hel : ∀ j (h2 : j < ds.length), Of P e ds[j]) : Of P t (.seq sz ds)
/-- The fields lie one behind the other, from o on. -/
def consec (P : Program) (S : List TypeId) (total : Nat) : Nat → List Field → Bool
  | o, [] => o == total
  | o, f :: r => f.offset == o && S.contains f.type && consec P S total (o + P.cellsOf f.type) r
/-- Types of this list are plain, and built of types of this list. -/
def closedT (P : Program) (S : List TypeId) : Bool := S.all fun t => match P.underlying t with
  | some (.int _) => P.cellsOf t == 1
  | some .bool => P.cellsOf t == 1
  | some .string => P.cellsOf t == 1
  | some (.slice e) => P.cellsOf t == 1 && S.contains e && decide (1 ≤ P.cellsOf e)
  | some (.struct fs) => consec P S (P.cellsOf t) 0 fs.toList
  | _ => false
theorem part_le {H : Type} {d : DataW H} {l : List (DataW H)} (h : d ∈ l) : Rows.uptoBulk d ≤ Rows.uptoBulkAll l := by
  induction l with
  | nil => cases h
  | cons x r ih =>
    simp only [Rows.uptoBulkAll]
    cases List.mem_cons.1 h with
    | inl e => subst e; omega
    | inr e => have := ih e; omega
section
variable {H : Type} {enc : TypeId × Value → H} {P : Program} {w : World} {spare : Nat → Bool} {held : Bool}
/-- The fields of a struct that comes in, from one on. -/
theorem open_fields (S : List TypeId) (n : Nat) (cs : List Value) (total : Nat)
    (ih : ∀ (t : TypeId) (cs : List Value) (x : DataW H × List MemPlace), t ∈ S → DataW.trod enc P w 0 spare held n t cs = some x → ∃ d, Of P t d ∧ Rep w w.heap.size d cs ∧ cs.length = P.cellsOf t ∧ bulk d ≤ Rows.uptoBulk x.1) :
    ∀ (fl : List Field) (o : Nat) (ys : List (DataW H × List MemPlace)), consec P S total o fl = true → cs.length = total → ys.length = fl.length →
      (∀ (i : Nat) (f : Field), fl[i]? = some f → DataW.trod enc P w 0 spare held n f.type ((cs.drop f.offset).take (P.cellsOf f.type)) = ys[i]?) →
      ∃ ds : List D, Rep w w.heap.size (.tup ds) (cs.drop o) ∧ ds.length = fl.length ∧ (∀ j (h1 : j < fl.length) (h2 : j < ds.length), Of P fl[j].type ds[j]) ∧ bulkL ds ≤ Rows.uptoBulkAll (ys.map (·.1))
  | [], o, ys, hc, hl, hy, _ => by
    have ho : o = total := by simpa [consec] using hc
    have hy0 : ys = [] := List.eq_nil_of_length_eq_zero (by simpa using hy)
    refine ⟨[], ?_, rfl, fun j h => by simp at h, by subst hy0; simp [bulkL, Rows.uptoBulkAll]⟩
    rw [List.drop_of_length_le (by omega)]
    exact .nil
  | f :: fl, o, ys, hc, hl, hy, hf => by
    simp only [consec, Bool.and_eq_true, beq_iff_eq] at hc
    obtain ⟨⟨ho, hin⟩, hc⟩ := hc
    match ys, hy with
    | y :: ys, hy =>
      have h0 := hf 0 f rfl
      simp only [List.getElem?_cons_zero] at h0
      obtain ⟨d, e1, e2, e3, e4⟩ := ih f.type _ y (by simpa using hin) h0
      obtain ⟨ds, g1, g2, g3, g4⟩ := open_fields S n cs total ih fl (o + P.cellsOf f.type) ys hc hl (by simpa using hy) fun i f' hi => by
        have := hf (i + 1) f' (by simpa using hi)
        simpa using this
      refine ⟨d :: ds, ?_, by simp [g2], fun j h1 h2 => ?_, ?_⟩
      · rw [ho] at e2
        have hs : cs.drop o = (cs.drop o).take (P.cellsOf f.type) ++ cs.drop (o + P.cellsOf f.type) := by
          rw [← List.drop_drop, List.take_append_drop]
        rw [hs]
        exact .cons e2 g1
      · cases j with
        | zero => exact e1
        | succ j => exact g3 j (by simpa using h1) (by simpa using h2)
      · simp only [bulkL, List.map_cons, Rows.uptoBulkAll]
        omega
/-- What a caller hands in, of a plain type: its datum. -/
theorem open_gen (S : List TypeId) (hS : closedT P S = true) : ∀ (fuel : Nat) (t : TypeId) (cs : List Value) (x : DataW H × List MemPlace), t ∈ S → DataW.trod enc P w 0 spare held fuel t cs = some x →
    ∃ d, Of P t d ∧ Rep w w.heap.size d cs ∧ cs.length = P.cellsOf t ∧ bulk d ≤ Rows.uptoBulk x.1 := by
  intro fuel
  induction fuel using Nat.strongRecOn with
  | ind fuel ih =>
    intro t cs x ht h
    have hc := List.all_eq_true.1 hS t ht
    cases hu : P.underlying t with
    | none => rw [hu] at hc; cases hc
    | some ty =>
      rw [hu] at hc
      cases ty with
      | int k =>
        obtain ⟨n, rfl, hx, hw⟩ := DataW.trod_int hu h
        exact ⟨.int k n, .int hu, .int hw, by simpa using (beq_iff_eq.1 hc).symm, by rw [hx]; simp [bulk, Rows.uptoBulk]⟩
      | bool =>
        obtain ⟨b, rfl, hx⟩ := DataW.trod_bool hu h
        exact ⟨.bool b, .bool hu, .bool, by simpa using (beq_iff_eq.1 hc).symm, by rw [hx]; simp [bulk, Rows.uptoBulk]⟩
      | string =>
        obtain ⟨s, rfl, hx, hw⟩ := DataW.trod_string hu h
        exact ⟨.str s, .str hu, .str hw, by simpa using (beq_iff_eq.1 hc).symm, by rw [hx]; simp [bulk, Rows.uptoBulk]⟩
      | struct fs =>
        obtain ⟨xs, n, rfl, rfl, hl, hlen, hf⟩ := DataW.trod_struct hu h
        obtain ⟨ds, g1, g2, g3, g4⟩ := open_fields S n cs (P.cellsOf t) (fun t cs x => ih n (by omega) t cs x) fs.toList 0 xs hc hl (by simpa using hlen) fun i f hi => hf i f (by simpa using hi)
        rw [List.drop_zero] at g1
        refine ⟨.tup ds, .tup hu (by simpa using g2) fun j h1 h2 => by have := g3 j (by simpa using h1) h2; simpa using this, g1, hl, ?_⟩
        simp only [bulk, Rows.uptoBulk]
        omega
      | slice e =>
        simp only [Bool.and_eq_true, beq_iff_eq, decide_eq_true_eq] at hc
        obtain ⟨⟨hc1, hin⟩, hsz⟩ := hc
        have hin' : e ∈ S := by simpa using hin
        rcases DataW.trod_slice hu h with ⟨rfl, rfl⟩ | ⟨a, len, cap, elems, rest, n, hn, rfl, rfl, _, hlc, hcm, hlen, hel, _⟩
        · exact ⟨.seq (P.cellsOf e) [], .seq hu rfl fun j h => by simp at h, .seq (ds := []) (A := none) (c := 0) (fun _ => []) (Nat.le_refl _) (by decide) (fun j h => by simp at h) (fun j h => by simp at h) (fun j h => by simp at h), by simp [hc1], by simp [bulk, bulkL, Rows.uptoBulk]⟩
        · have hspot : ∀ i, i < len → a.spot = none ∧ a.block < w.heap.size := fun i hi => by
            have h0 := hel 0 (by omega)
            rw [List.getElem?_eq_getElem (by omega)] at h0
            obtain ⟨cs0, h02, _⟩ := Option.bind_eq_some_iff.1 h0
            obtain ⟨_, hl0, hc0⟩ := World.cells?_some h02
            have h00 := hc0 0 (by omega)
            rw [List.getElem?_eq_getElem (by omega)] at h00
            have e0 : (a.add (0 * P.cellsOf e)).add 0 = a := by simp [Addr.add]
            rw [e0] at h00
            unfold World.cell? at h00
            split at h00
            · rename_i hbk
              refine ⟨?_, (Array.getElem?_eq_some_iff.1 hbk).1⟩
              cases hs : a.spot with
              | none => rfl
              | some q => simp [hs] at h00
            · simp at h00
          obtain ⟨F, hF⟩ := choose_lt (α := D × List Value) (n := len) (p := fun i y => Of P e y.1 ∧ Rep w w.heap.size y.1 y.2 ∧ y.2.length = P.cellsOf e ∧ (∃ z, elems[i]? = some z ∧ bulk y.1 ≤ Rows.uptoBulk z.1) ∧ ∃ b off, a = ⟨b, off, none⟩ ∧ b < w.heap.size ∧ ∀ k z, y.2[k]? = some z → w.cell? ⟨b, off + i * P.cellsOf e + k, none⟩ = some z) (fun i hi => by
            have h1 := hel i hi
            rw [List.getElem?_eq_getElem (by omega)] at h1
            obtain ⟨cs', h2, h3⟩ := Option.bind_eq_some_iff.1 h1
            obtain ⟨_, hl4, hc4⟩ := World.cells?_some h2
            obtain ⟨d, g1, g2, g3, g4⟩ := ih n (by omega) e cs' _ hin' h3
            refine ⟨(d, cs'), g1, g2, g3, ⟨_, List.getElem?_eq_getElem (by omega), g4⟩, a.block, a.off, by have := (hspot i hi).1; cases a; simp_all, (hspot i hi).2, fun k z hz => ?_⟩
            have hk4 : k < P.cellsOf e := by
              have := (List.getElem?_eq_some_iff.1 hz).1
              simp only at this
              omega
            have h5 := hc4 k hk4
            rw [show cs'[k]? = some z from hz, add_add] at h5
            rw [← h5]
            congr 1
            unfold Addr.add
            have := (hspot i hi).1
            split
            · rename_i hz0
              have : i * P.cellsOf e = 0 ∧ k = 0 := by omega
              cases a; simp_all
            · simp [Nat.add_assoc])
          refine ⟨.seq (P.cellsOf e) ((List.range len).map fun i => (F i).1), .seq hu rfl fun j h2 => ?_, ?_, by simp [hc1], ?_⟩
          · have := (hF j (by simpa using h2)).1
            simpa using this
          · have := Rep.seq (w := w) (B := w.heap.size) (sz := P.cellsOf e) (ds := (List.range len).map fun i => (F i).1) (A := some a) (c := cap) (fun i => (F i).2) (by simpa using hlc) hcm (fun j hj => (hF j (by simpa using hj)).2.2.1) (fun j hj => by
              obtain ⟨_, _, _, _, b, off, e1, e2, e3⟩ := hF j (by simpa using hj)
              exact ⟨b, off, by rw [e1], e2, e3⟩) (fun j hj => by
              have := (hF j (by simpa using hj)).2.1
              simpa using this)
            simpa using this
          · rw [bulk, Rows.uptoBulk]
            have hb : ∀ m, m ≤ len → bulkL ((List.range m).map fun i => (F i).1) ≤ Rows.uptoBulkAll ((elems.take m).map (·.1)) := fun m => by
              induction m with
              | zero => intro _; simp [bulkL, Rows.uptoBulkAll]
              | succ m ihm =>
                intro hm
                obtain ⟨_, _, _, ⟨z, ez, hz⟩, _⟩ := hF m (by omega)
                obtain ⟨hml, ez'⟩ := List.getElem?_eq_some_iff.1 ez
                rw [List.range_succ, List.map_append, List.map_singleton, List.take_succ_eq_append_getElem hml, List.map_append, List.map_singleton, bulkL_app, bulkAll_app, ez']
                have := ihm (by omega)
                simp only [bulkL, Rows.uptoBulkAll]
                omega
            have := hb len (Nat.le_refl _)
            rw [List.take_of_length_le (by omega)] at this
            omega
      | _ => cases hc
end
end Gd
end Go.Proofs.YtfhjfhbfgndheaaDoor
