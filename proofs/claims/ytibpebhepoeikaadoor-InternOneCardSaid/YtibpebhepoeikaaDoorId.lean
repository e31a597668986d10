/- Package intern: a table in memory: a map of texts to numbers, and a list of values. -/
import Derived.Test.YtibpebhepoeikaaDoorIc
import Derived.Maps.Own
import Derived.Maps.OwnSet
import Derived.Maps.Views
import Derived.StringKeys
import Derived.Carry
namespace Go.Proofs.YtibpebhepoeikaaDoor
open Go.RowKit Vp Tx
open Go

/-! ### A world in which only some blocks are written -/
structure Keep (F : Nat → Prop) (w w' : World) : Prop where
  os : w'.os = w.os
  tape : w'.tape = w.tape
  output : w'.output = w.output
  size : w.heap.size ≤ w'.heap.size
  block : ∀ b, b < w.heap.size → ¬ F b → w'.heap[b]? = w.heap[b]?
theorem Keep.refl (F : Nat → Prop) (w : World) : Keep F w w := ⟨rfl, rfl, rfl, Nat.le_refl _, fun _ _ _ => rfl⟩
theorem Keep.trans {F F' : Nat → Prop} {a b c : World} (h : Keep F a b) (k : Keep F' b c) (hF : ∀ x, x < a.heap.size → F' x → F x) : Keep F a c :=
  ⟨k.os.trans h.os, k.tape.trans h.tape, k.output.trans h.output, Nat.le_trans h.size k.size, fun x hx hn => (k.block x (Nat.lt_of_lt_of_le hx h.size) fun e => hn (hF x hx e)).trans (h.block x hx hn)⟩
theorem Keep.of_below {B : Nat} {F : Nat → Prop} {w w' : World} (h : Below B w w') (hF : ∀ x, B ≤ x → x < w.heap.size → F x) : Keep F w w' :=
  ⟨h.os, h.tape, h.output, h.size, fun x hx hn => h.block x (by rcases Nat.lt_or_ge x B with h' | h'; exact h'; exact absurd (hF x h' hx) hn)⟩
theorem Keep.of_new {F : Nat → Prop} {w w' : World} (h : Below w.heap.size w w') : Keep F w w' := Keep.of_below h fun x h1 h2 => by omega
theorem Keep.below {B : Nat} {F : Nat → Prop} {w w' : World} (h : Keep F w w') (hF : ∀ x, x < B → ¬ F x) (hB : B ≤ w.heap.size) : Below B w w' :=
  ⟨h.os, h.tape, h.output, h.size, fun x hx => h.block x (by omega) (hF x hx)⟩
theorem Keep.drew {F : Nat → Prop} {w w' : World} (h : Keep F w w') : Keep F w w'.drew := ⟨h.os, h.tape, h.output, h.size, h.block⟩
theorem Keep.grown {F : Nat → Prop} {w w' : World} {row : Option Nat} (h : w.grownBy w' row) (hF : ∀ k, row = some k → F k) : Keep F w w' :=
  ⟨h.os, h.tape, h.output, h.size, fun x hx hn => h.block x hx fun e => hn (hF x e.symm)⟩
theorem Keep.set {F : Nat → Prop} {w w' : World} (h : Keep F w w') (p : Addr) (hp : F p.block) (u : Value) : Keep F w (w'.setCell p u) :=
  ⟨h.os, h.tape, h.output, by have := h.size; simpa [World.setCell] using this, fun x hx hn => (Below.heap_setCell w' p u x fun e => hn (e ▸ hp)).trans (h.block x hx hn)⟩

/-! ### The map -/
theorem str_law : Maps.Keyed Tryd.prog 9 := Maps.string_keyed Tryd.underlying9
def mapF : DataW Unit → Nat → List V → DataW Unit
  | D, _, [] => D
  | D, k, t :: ts => mapF (D.put (.string (txtV t)) (.lit (.int .i64 (k : Int)))) (k + 1) ts
theorem mapF_snoc (t : V) : ∀ (ts : List V) (D : DataW Unit) (k : Nat), mapF D k (ts ++ [t]) = (mapF D k ts).put (.string (txtV t)) (.lit (.int .i64 ((k + ts.length : Nat) : Int)))
  | [], D, k => by simp [mapF]
  | x :: ts, D, k => by
    rw [List.cons_append, mapF, mapF, mapF_snoc t ts]
    congr 4
    simp
    omega
theorem mapF_miss {s : List UInt8} (z : DataW Unit) : ∀ (ts : List V) (D : DataW Unit) (k : Nat), Maps.IsMap D → (∀ t ∈ ts, txtV t ≠ s) → Maps.has (mapF D k ts) (.string s) = Maps.has D (.string s) ∧ (mapF D k ts).atKey (.string s) z = D.atKey (.string s) z
  | [], D, k, _, _ => ⟨rfl, rfl⟩
  | x :: ts, D, k, hD, h => by
    have hx : (Lit.string s) ≠ .string (txtV x) := by intro e; injection e with e; exact h x (by simp) e.symm
    obtain ⟨h1, h2⟩ := mapF_miss z ts (D.put (.string (txtV x)) (.lit (.int .i64 (k : Int)))) (k + 1) (hD.put _ _) fun t ht => h t (by simp [ht])
    rw [mapF, h1, h2, Maps.has_put_other hx, Maps.atKey_put_other hx]
    exact ⟨rfl, rfl⟩
theorem mapF_hit (z : DataW Unit) : ∀ (ts : List V) (D : DataW Unit) (k : Nat) (i : Nat) (hi : i < ts.length), Maps.IsMap D → ts.Pairwise (fun a b => txtV a ≠ txtV b) →
    Maps.has (mapF D k ts) (.string (txtV ts[i])) = true ∧ (mapF D k ts).atKey (.string (txtV ts[i])) z = .lit (.int .i64 ((k + i : Nat) : Int))
  | [], _, _, i, hi, _, _ => by simp at hi
  | x :: ts, D, k, 0, _, hD, hp => by
    obtain ⟨h1, h2⟩ := mapF_miss (s := txtV x) z ts (D.put (.string (txtV x)) (.lit (.int .i64 (k : Int)))) (k + 1) (hD.put _ _) fun t ht e => (List.pairwise_cons.1 hp).1 t ht e.symm
    rw [mapF, List.getElem_cons_zero, h1, h2, Maps.has_put_same hD (show WideAt.IsKeyLit (.string (txtV x)) from trivial), Maps.atKey_put_same hD (show WideAt.IsKeyLit (.string (txtV x)) from trivial)]
    exact ⟨rfl, rfl⟩
  | x :: ts, D, k, i + 1, hi, hD, hp => by
    have := mapF_hit z ts (D.put (.string (txtV x)) (.lit (.int .i64 (k : Int)))) (k + 1) i (by simpa using hi) (hD.put _ _) (List.pairwise_cons.1 hp).2
    rw [mapF, List.getElem_cons_succ]
    rw [show k + (i + 1) = k + 1 + i by omega]
    exact this
def mapT (ts : List V) : DataW Unit := mapF (.map []) 0 ts
/-- Values of different texts, each of which may be. -/
def Apart (ts : List V) : Prop := ts.Pairwise (fun a b => txtV a ≠ txtV b)
theorem elem_int {P : Program} {e : TypeId} {q : IntKind} (he : P.underlying e = some (.int q)) {v : Value} {y : Int} {ps : List MemPlace} (h : plainElem (H := Unit) P e v = some (.lit (.int q y), ps)) : v = .int q y := by
  unfold plainElem at h
  rw [he] at h
  split at h
  · exact absurd ‹some (TypeDesc.int _) = some TypeDesc.bool› (by simp)
  · split at h
    · simp at h
      rw [h.1.2]
      simp_all
    · cases h
  · exact absurd ‹some (TypeDesc.int _) = some TypeDesc.string› (by simp)
  · cases h
theorem elem_i64 {v : Value} {y : Int} {ps : List MemPlace} (h : plainElem (H := Unit) Tryd.prog 3 v = some (.lit (.int .i64 y), ps)) : v = .int .i64 y := elem_int Tryd.underlying3 h
/-- Block b is the map of these values' texts to their numbers. -/
def WM (w : World) (b : Nat) (ts : List V) : Prop := w.ownsMap Tryd.prog 9 (plainElem (H := Unit) Tryd.prog 3) b ts.length (mapT ts)
theorem WM.keep {w w' : World} {b : Nat} {ts : List V} (h : WM w b ts) (hb : w'.heap[b]? = w.heap[b]?) : WM w' b ts := by
  obtain ⟨es, clock, h1, h2⟩ := h
  exact ⟨es, clock, hb.trans h1, h2⟩
/-- What a look says: the number, or none. -/
def pos (ts : List V) (s : List UInt8) : Option Nat := ts.findIdx? fun t => txtV t == s
theorem look_map {w : World} {b : Nat} {ts : List V} (h : WM w b ts) (hd : Apart ts) (s : ByteArray) (hs : s.size ≤ maxLen) :
    (Instr.lookup 55 (.map (some b)) (.string s) true).run Tryd.prog w = .ok (.tuple #[.int .i64 (((pos ts s.data.toList).getD 0 : Nat) : Int), .bool (pos ts s.data.toList).isSome]) w := by
  obtain ⟨v, ps, hrun, hv⟩ := World.ownsMap.look_ok h str_law Tryd.underlying55 (z := .int .i64 0) (by kernel_rfl) (plainElem_int Tryd.underlying3 (by decide)) (WideMaps.keyOf_string_mk Tryd.underlying9 hs)
  rw [hrun]
  cases hp : pos ts s.data.toList with
  | none =>
    have hm := mapF_miss (s := s.data.toList) (.lit (.int .i64 0)) ts (.map []) 0 Maps.isMap_empty fun t ht e => by
      have := List.findIdx?_eq_none_iff.1 hp t ht
      simp [e] at this
    have hv' : plainElem (H := Unit) Tryd.prog 3 v = some (.lit (.int .i64 0), ps) := by
      rw [hv]
      unfold mapT
      rw [hm.2]
      rfl
    rw [elem_i64 hv']
    unfold mapT
    rw [hm.1]
    rfl
  | some i =>
    obtain ⟨hi, he, _⟩ := List.findIdx?_eq_some_iff_getElem.1 hp
    have he' : txtV ts[i] = s.data.toList := by simpa using he
    have hm := mapF_hit (.lit (.int .i64 0)) ts (.map []) 0 i hi Maps.isMap_empty hd
    rw [he'] at hm
    have hv' : plainElem (H := Unit) Tryd.prog 3 v = some (.lit (.int .i64 (i : Int)), ps) := by
      rw [hv]
      unfold mapT
      rw [hm.2]
      simp
    rw [elem_i64 hv']
    unfold mapT
    rw [hm.1]
    simp
theorem put_map (w : World) {b : Nat} {ts : List V} (h : WM w b ts) (t : V) (hn : ts.length ≤ 1000000000) (hs : (txtV t).length ≤ maxLen) :
    ∃ w', (Instr.mapUpdate 55 (.map (some b)) (.string ⟨(txtV t).toArray⟩) (.int .i64 (ts.length : Int))).run Tryd.prog w = .ok () w' ∧ WM w' b (ts ++ [t]) ∧ w.grownBy w' (some b) := by
  obtain ⟨w', hrun, r1, r2⟩ := World.ownsMap.update h str_law Tryd.underlying55 (by unfold maxLen; omega) (WideMaps.keyOf_string_mk Tryd.underlying9 (s := ⟨(txtV t).toArray⟩) (by show (txtV t).toArray.size ≤ maxLen; simpa using hs)) (plainElem_int Tryd.underlying3 (a := (ts.length : Int)) (by
    have e1 : IntKind.i64.min = -9223372036854775808 := rfl
    have e2 : IntKind.i64.max = 9223372036854775807 := rfl
    simp [Lit.wf, e1, e2]
    omega))
  refine ⟨w', hrun, ?_, r2⟩
  unfold WM mapT
  rw [mapF_snoc, Nat.zero_add, List.length_append]
  exact r1
end Go.Proofs.YtibpebhepoeikaaDoor
