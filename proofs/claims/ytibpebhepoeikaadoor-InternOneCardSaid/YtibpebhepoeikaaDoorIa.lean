/- Package intern: values in new memory (copied). -/
import Derived.Test.YtibpebhepoeikaaDoorUv
import Derived.Test.YtibpebhepoeikaaDoorVc
import Derived.Laws.CopyRow
namespace Go.Proofs.YtibpebhepoeikaaDoor
open Go.RowKit Vp
open Go
attribute [local go_sem] Oper.semAt_some

/-! ### What is copied at once -/
theorem cells4_one {us : List Value} (h : ∀ u ∈ us, ∃ a b c d, u = .agg #[a, b, c, d] ∧ u.cells = #[a, b, c, d] ∧ a.oneCell' = true ∧ b.oneCell' = true ∧ c.oneCell' = true ∧ d.oneCell' = true) : ∀ v ∈ vcells us, v.oneCell' = true := by
  intro v hv
  unfold vcells at hv
  rw [List.mem_flatMap] at hv
  obtain ⟨u, hu, hm⟩ := hv
  obtain ⟨a, b, c, d, _, hc, h1, h2, h3, h4⟩ := h u hu
  rw [hc] at hm
  simp at hm
  rcases hm with rfl | rfl | rfl | rfl <;> assumption
theorem vcells_len : ∀ {us : List Value}, (∀ u ∈ us, ∃ a b c d, u.cells = #[a, b, c, d]) → (vcells us).length = us.length * 4
  | [], _ => rfl
  | u :: us, h => by
    obtain ⟨a, b, c, d, hu⟩ := h u (by simp)
    have := vcells_len (us := us) fun x hx => h x (by simp [hx])
    rw [show vcells (u :: us) = u.cells.toList ++ vcells us from rfl, List.length_append, hu, this, List.length_cons]
    simp
    omega
theorem run_copyV (w : World) (ty : TypeId) (g n : Nat) (a : Addr) (c : Nat) (cur : Array Value) (cs : List Value) (hg : w.heap[g]? = some (.cells cur 42 (0, 0))) (hcs : cs.length = n * 4) (hcur : cur.size = n * 4)
    (hsrc : ∀ j v, cs[j]? = some v → w.cell? (a.add j) = some v) (h1 : ∀ v ∈ cs, v.oneCell' = true) :
    (Builtin.copy_ #[28, 28] ty #[.slice (some ⟨g, 0, none⟩) n n, .slice (some a) n c]).run Tryd.prog w = .ok (goInt n) (w.setRow g cs.toArray) := by
  obtain ⟨i0, hi, hz0, hz1, hz2⟩ := info_parts infoV
  have hl := run_loadCells_list (P := Tryd.prog) w a cs hsrc
  have hst := run_storeCells_at Tryd.prog g 0 42 cs 0 cur w hg (by omega) h1
  have e1 : (cur.toList.take (0 + 0) ++ cs ++ cur.toList.drop (0 + 0 + cs.length)).toArray = cs.toArray := by
    rw [List.drop_of_length_le (by simp; omega)]
    simp
  rw [e1] at hst
  have hn : n * 4 = cs.length := by omega
  simp [Builtin.copy_, run_underlying Tryd.underlying28, Builtin.lenOf, Builtin.firstCells, sizeOf, typeInfo, hi, hz1, hn, hl, hst]
theorem setRow_alloc (w : World) (cur cs : Array Value) (e : TypeId) : (w.alloc (.cells cur e)).setRow w.heap.size cs = w.alloc (.cells cs e) := by
  unfold World.setRow World.alloc
  congr 1
  apply Array.ext
  · simp
  · intro k h1 h2
    simp only [Array.getElem_modify, Array.getElem_push]
    simp at h1
    rcases Nat.lt_or_ge k w.heap.size with h | h
    · simp [h, Nat.ne_of_gt h]
    · have : k = w.heap.size := by omega
      subst this
      simp

/-! ### A row in new memory -/
/-- No list in it is beyond all measure. -/
def slim (t : V) : Prop := some_ (fun v => decide (100000000 < v.lst.length)) t = false
theorem slim_parts {k : Nat} {n : Int} {s : ByteArray} {l : List V} (h : slim (.mk k n s l)) : l.length ≤ 100000000 ∧ ∀ t ∈ l, slim t := by
  unfold slim at h ⊢
  rw [some_eq, Bool.or_eq_false_iff] at h
  refine ⟨by have := of_decide_eq_false h.1; simp only [V.lst] at this; omega, fun t ht => ?_⟩
  have := h.2
  simp only [V.lst] at this
  rw [List.any_eq_false] at this
  have h2 := this t ht
  exact eq_false_of_ne_true h2
/-- The row lies in block g, and what is within it in blocks behind that. -/
def CopyR (g : Nat) (w : World) (l : List V) (A : Option Addr) : Prop :=
  (l = [] ∧ A = none) ∨ (l ≠ [] ∧ A = some ⟨g, 0, none⟩ ∧ ∃ us : List Value, us.length = l.length ∧ (∀ u ∈ us, ∃ a b c d, u.cells = #[a, b, c, d]) ∧ Blk w g 42 (vcells us).toArray ∧ ∀ (j : Nat) (h1 : j < l.length) (h2 : j < us.length), Lies (fun b => g < b) w l[j] us[j])
theorem CopyR.rlies {g : Nat} {w : World} {l : List V} {A : Option Addr} (h : CopyR g w l A) (hn : l.length ≤ 100000000) : RLies (fun b => g ≤ b) w l A l.length := by
  rcases h with ⟨rfl, rfl⟩ | ⟨_, rfl, us, h1, h2, h3, h4⟩
  · exact RLies.nil (by decide)
  · have hgl : g < w.heap.size := h3.lt
    refine fun w' hw => ⟨Nat.le_refl _, by unfold maxLen; omega, fun j => us.getD j undef, fun j hj => ?_, fun j hj => ?_⟩
    · have hj' : j < us.length := by omega
      refine ⟨g, 0, rfl, hgl, fun i x hx => ?_⟩
      have hgd : us.getD j undef = us[j] := by rw [List.getD_eq_getElem?_getD, List.getElem?_eq_getElem hj', Option.getD_some]
      simp only [hgd] at hx
      obtain ⟨e1, e2⟩ := vcells_at us h2 j hj' i x hx
      rw [cell_of_row w' g _ (vcells us).toArray 42 (0, 0) ((hw g (Nat.le_refl _) hgl).trans h3), Nat.zero_add]
      simpa using e1
    · have hj' : j < us.length := by omega
      have := h4 j hj hj' w' fun b hb hl => hw b (Nat.le_of_lt hb) hl
      have hgd : us.getD j undef = us[j] := by rw [List.getD_eq_getElem?_getD, List.getElem?_eq_getElem hj', Option.getD_some]
      simp only [hgd]
      exact this
end Go.Proofs.YtibpebhepoeikaaDoor
