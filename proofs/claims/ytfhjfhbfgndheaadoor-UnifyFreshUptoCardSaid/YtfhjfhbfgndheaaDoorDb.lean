/- Data of any plain type: taken apart, in blocks of one's own, in lists that grow. -/
import Derived.Test.YtfhjfhbfgndheaaDoorDa
import Derived.Test.YtfhjfhbfgndheaaDoorKb
namespace Go.Proofs.YtfhjfhbfgndheaaDoor
open Go.RowKit
open Go
namespace Gd

theorem Rep.int_ {w : World} {B : Nat} {k : IntKind} {n : Int} {cs : List Value} (h : Rep w B (.int k n) cs) : cs = [.int k n] ∧ (Lit.int k n).wf = true := by
  cases h with
  | int h => exact ⟨rfl, h⟩
theorem Rep.bool_ {w : World} {B : Nat} {b : Bool} {cs : List Value} (h : Rep w B (.bool b) cs) : cs = [.bool b] := by
  cases h; rfl
theorem Rep.str_ {w : World} {B : Nat} {s : ByteArray} {cs : List Value} (h : Rep w B (.str s) cs) : cs = [.string s] ∧ s.size ≤ maxLen := by
  cases h with
  | str h => exact ⟨rfl, h⟩
theorem Rep.nil_ {w : World} {B : Nat} {cs : List Value} (h : Rep w B (.tup []) cs) : cs = [] := by
  cases h; rfl
theorem Rep.cons_ {w : World} {B : Nat} {d : D} {ds : List D} {cs : List Value} (h : Rep w B (.tup (d :: ds)) cs) : ∃ c r, cs = c ++ r ∧ Rep w B d c ∧ Rep w B (.tup ds) r := by
  cases h with
  | cons h1 h2 => exact ⟨_, _, rfl, h1, h2⟩
theorem Rep.seq_ {w : World} {B sz : Nat} {ds : List D} {cs : List Value} (h : Rep w B (.seq sz ds) cs) : ∃ A c, cs = [.slice A ds.length c] ∧ ds.length ≤ c ∧ c ≤ maxLen ∧
    ∀ j (hj : j < ds.length), ∃ b off e, A = some ⟨b, off, none⟩ ∧ b < B ∧ e.length = sz ∧ Rep w B ds[j] e ∧ ∀ i x, e[i]? = some x → w.cell? ⟨b, off + j * sz + i, none⟩ = some x := by
  cases h with
  | seq E hc hm hz hcell hel =>
    refine ⟨_, _, rfl, hc, hm, fun j hj => ?_⟩
    obtain ⟨b, off, e, hb, hx⟩ := hcell j hj
    exact ⟨b, off, E j, e, hb, hz j hj, hel j hj, hx⟩
theorem Rep.seq_mk {w : World} {B sz : Nat} {ds : List D} {A : Option Addr} {c : Nat} (hc : ds.length ≤ c) (hm : c ≤ maxLen)
    (h : ∀ j (hj : j < ds.length), ∃ b off e, A = some ⟨b, off, none⟩ ∧ b < B ∧ e.length = sz ∧ Rep w B ds[j] e ∧ ∀ i x, e[i]? = some x → w.cell? ⟨b, off + j * sz + i, none⟩ = some x) : Rep w B (.seq sz ds) [.slice A ds.length c] := by
  have hE : ∀ j, ∃ e : List Value, ∀ hj : j < ds.length, e.length = sz ∧ Rep w B ds[j] e ∧ ∃ b off, A = some ⟨b, off, none⟩ ∧ b < B ∧ ∀ i x, e[i]? = some x → w.cell? ⟨b, off + j * sz + i, none⟩ = some x := fun j => by
    rcases Nat.lt_or_ge j ds.length with hj | hj
    · obtain ⟨b, off, e, e1, e2, e3, e4, e5⟩ := h j hj
      exact ⟨e, fun _ => ⟨e3, e4, b, off, e1, e2, e5⟩⟩
    · exact ⟨[], fun h' => by omega⟩
  obtain ⟨E, hE⟩ := Classical.axiomOfChoice hE
  exact .seq E hc hm (fun j hj => (hE j hj).1) (fun j hj => (hE j hj).2.2) fun j hj => (hE j hj).2.1

/-- What a caller hands in. -/
theorem open_arg {H : Type} {enc : TypeId × Value → H} {P : Program} (S : List TypeId) (hS : closedT P S = true) {w : World} {t : TypeId} {v : Value} {d : DataW H} {ps : List MemPlace} {sp : Nat → Bool} {held : Bool} (ht : t ∈ S)
    (hd : DataW.Trod enc P w 0 sp held t v d ps) : ∃ x, Of P t x ∧ Rep w w.heap.size x v.cells.toList ∧ bulk x ≤ Rows.uptoBulk d := by
  obtain ⟨fuel, hf⟩ := hd
  obtain ⟨x, h1, h2, _, h4⟩ := open_gen S hS fuel t _ _ ht hf
  exact ⟨x, h1, h2, h4⟩

theorem Of.seq_ {P : Program} {t e : TypeId} {d : D} (h : Of P t d) (hu : P.underlying t = some (.slice e)) : ∃ l, d = .seq (P.cellsOf e) l ∧ ∀ x ∈ l, Of P e x := by
  cases h with
  | seq h hs hel =>
    rw [hu] at h
    injection h with h
    injection h with h
    subst h
    exact ⟨_, by rw [hs], fun x hx => by obtain ⟨j, hj, rfl⟩ := List.getElem_of_mem hx; exact hel j hj⟩
  | int h => rw [hu] at h; cases h
  | bool h => rw [hu] at h; cases h
  | str h => rw [hu] at h; cases h
  | tup h => rw [hu] at h; cases h
theorem Of.int_ {P : Program} {t : TypeId} {k : IntKind} {d : D} (h : Of P t d) (hu : P.underlying t = some (.int k)) : ∃ n, d = .int k n := by
  cases h with
  | int h => rw [hu] at h; injection h with h; injection h with h; subst h; exact ⟨_, rfl⟩
  | seq h => rw [hu] at h; cases h
  | bool h => rw [hu] at h; cases h
  | str h => rw [hu] at h; cases h
  | tup h => rw [hu] at h; cases h
theorem Of.bool_ {P : Program} {t : TypeId} {d : D} (h : Of P t d) (hu : P.underlying t = some .bool) : ∃ b, d = .bool b := by
  cases h with
  | bool h => exact ⟨_, rfl⟩
  | seq h => rw [hu] at h; cases h
  | int h => rw [hu] at h; cases h
  | str h => rw [hu] at h; cases h
  | tup h => rw [hu] at h; cases h
theorem Of.str_ {P : Program} {t : TypeId} {d : D} (h : Of P t d) (hu : P.underlying t = some .string) : ∃ s, d = .str s := by
  cases h with
  | str h => exact ⟨_, rfl⟩
  | seq h => rw [hu] at h; cases h
  | int h => rw [hu] at h; cases h
  | bool h => rw [hu] at h; cases h
  | tup h => rw [hu] at h; cases h
theorem Of.tup_ {P : Program} {t : TypeId} {fs : Array Field} {d : D} (h : Of P t d) (hu : P.underlying t = some (.struct fs)) : ∃ l, d = .tup l ∧ l.length = fs.size ∧ ∀ j (h1 : j < fs.size) (h2 : j < l.length), Of P fs[j].type l[j] := by
  cases h with
  | tup h hl hel => rw [hu] at h; injection h with h; injection h with h; subst h; exact ⟨_, rfl, hl, hel⟩
  | seq h => rw [hu] at h; cases h
  | int h => rw [hu] at h; cases h
  | bool h => rw [hu] at h; cases h
  | str h => rw [hu] at h; cases h
/-- A slice that a caller hands in. -/
theorem open_list {H : Type} {enc : TypeId × Value → H} {P : Program} (S : List TypeId) (hS : closedT P S = true) {w : World} {b0 : Nat} {r : Reach} {t e : TypeId} {v : Value} {d : DataW H} {ps : List MemPlace} {sp : Nat → Bool} {held : Bool} (ht : t ∈ S) (hu : P.underlying t = some (.slice e))
    (hval : Value.okWide P w r b0 t v) (hd : DataW.Trod enc P w 0 sp held t v d ps) : ∃ (l : List D) (A : Option Addr) (c : Nat), v = .slice A l.length c ∧ (∀ x ∈ l, Of P e x) ∧ Rep w w.heap.size (.seq (P.cellsOf e) l) [.slice A l.length c] ∧ bulkL l ≤ Rows.uptoBulk d := by
  obtain ⟨A, len, cap, rfl⟩ := Go.WideShapes.okWide_slice hu hval
  obtain ⟨x, h1, h2, h3⟩ := open_arg S hS ht hd
  obtain ⟨l, rfl, h4⟩ := h1.seq_ hu
  obtain ⟨A', c', e1, _⟩ := h2.seq_
  have e2 : [Value.slice A len cap] = [.slice A' l.length c'] := e1
  injection e2 with e2
  injection e2 with q1 q2 q3
  subst q1 q2 q3
  rw [bulk] at h3
  exact ⟨l, A, cap, rfl, h4, h2, by omega⟩

/-! ### In blocks that meet S -/
def Lies (S : Nat → Prop) (w : World) (d : D) (cs : List Value) : Prop := ∀ w' : World, (∀ b, S b → b < w.heap.size → w'.heap[b]? = w.heap[b]?) → Rep w' w.heap.size d cs
theorem Lies.rep {S : Nat → Prop} {w : World} {d : D} {cs : List Value} (h : Lies S w d cs) : Rep w w.heap.size d cs := h w fun _ _ _ => rfl
theorem Lies.mono {S S' : Nat → Prop} {w : World} {d : D} {cs : List Value} (h : Lies S w d cs) (hs : ∀ b, b < w.heap.size → S b → S' b) : Lies S' w d cs := fun w' hw => h w' fun b hb hl => hw b (hs b hl hb) hl
theorem Lies.keep {S : Nat → Prop} {w w2 : World} {d : D} {cs : List Value} (h : Lies S w d cs) (hk : ∀ b, S b → b < w.heap.size → w2.heap[b]? = w.heap[b]?) (hz : w.heap.size ≤ w2.heap.size) : Lies S w2 d cs := fun w' hw =>
  (h w' fun b hb hl => (hw b hb (Nat.lt_of_lt_of_le hl hz)).trans (hk b hb hl)).more hz
theorem Lies.below {S : Nat → Prop} {w w2 : World} {d : D} {cs : List Value} (h : Lies S w d cs) (hb : Below w.heap.size w w2) : Lies S w2 d cs := h.keep (fun b _ hl => hb.block b hl) hb.size
theorem Lies.set {S : Nat → Prop} {w : World} {d : D} {cs : List Value} (h : Lies S w d cs) (p : Addr) (hp : ¬ S p.block) (x : Value) : Lies S (w.setCell p x) d cs :=
  h.keep (fun b hb _ => Below.heap_setCell _ _ _ _ fun e => hp (e ▸ hb)) (by simp [World.setCell])
/-- What was there lies where it lay. -/
theorem lies_old {w w2 : World} {d : D} {cs : List Value} (h : Rep w w.heap.size d cs) (hb : Below w.heap.size w w2) : Lies (fun b => b < w.heap.size) w2 d cs := fun _ hw =>
  (h.keep fun b hb' => (hw b hb' (Nat.lt_of_lt_of_le hb' hb.size)).trans (hb.block b hb')).more hb.size

/-! ### A list that grows -/
theorem flat_at {sz : Nat} : ∀ (css : List (List Value)), (∀ c ∈ css, c.length = sz) → ∀ (j : Nat) (hj : j < css.length) (i : Nat) (x : Value), css[j][i]? = some x → css.flatten[j * sz + i]? = some x
  | [], _, j, hj, _, _, _ => by simp at hj
  | c :: css, h, 0, _, i, x, hx => by
    have hc := h c (by simp)
    simp only [List.getElem_cons_zero] at hx
    have hi := (List.getElem?_eq_some_iff.1 hx).1
    rw [List.flatten_cons, Nat.zero_mul, Nat.zero_add, List.getElem?_append_left hi]
    exact hx
  | c :: css, h, j + 1, hj, i, x, hx => by
    have hc := h c (by simp)
    have := flat_at css (fun c hc => h c (by simp [hc])) j (by simpa using hj) i x (by simpa using hx)
    rw [List.flatten_cons, List.getElem?_append_right (by rw [hc, Nat.add_mul]; omega)]
    rw [show (j + 1) * sz + i - c.length = j * sz + i by rw [hc, Nat.add_mul]; omega]
    exact this
def Own (R S : Nat → Prop) (e : TypeId) (sz : Nat) (ds : List D) (w : World) (v : Value) : Prop :=
  ∃ css : List (List Value), css.length = ds.length ∧ (∀ c ∈ css, c.length = sz) ∧ w.ownsRow 0 e sz v ds.length css.flatten ∧ (∀ k, v.ownBlock = some k → R k) ∧
    ∀ (j : Nat) (h1 : j < ds.length) (h2 : j < css.length), Lies (fun b => S b ∧ v.ownBlock ≠ some b) w ds[j] css[j]
theorem Own.nil (R S : Nat → Prop) (e : TypeId) (sz : Nat) (w : World) : Own R S e sz [] w (.slice none 0 0) := ⟨[], rfl, fun _ h => (by cases h), ⟨by simp, .inl ⟨rfl, rfl⟩⟩, fun k h => (by cases h), fun j h => absurd h (Nat.not_lt_zero _)⟩
theorem Own.mono {R R' S S' : Nat → Prop} {e : TypeId} {sz : Nat} {ds : List D} {w : World} {v : Value} (h : Own R S e sz ds w v) (hR : ∀ b, b < w.heap.size → R b → R' b) (hS : ∀ b, b < w.heap.size → S b → S' b) : Own R' S' e sz ds w v := by
  obtain ⟨us, h1, h2, h3, h4, h5⟩ := h
  exact ⟨us, h1, h2, h3, fun k hk => hR k (h3.lt k hk).2 (h4 k hk), fun j a b => (h5 j a b).mono fun x hx hs => ⟨hS x hx hs.1, hs.2⟩⟩
theorem row_same {w w' : World} {e : TypeId} {size n : Nat} {v : Value} {xs : List Value} (h : w.ownsRow 0 e size v n xs) (hb : ∀ k, v.ownBlock = some k → w'.heap[k]? = w.heap[k]?) : w'.ownsRow 0 e size v n xs := by
  rcases h with ⟨h1, h2 | ⟨g, cap, cur, rfl, hB, hg, h3⟩⟩
  · exact ⟨h1, .inl h2⟩
  · exact ⟨h1, .inr ⟨g, cap, cur, rfl, hB, (hb g rfl).trans hg, h3⟩⟩
theorem Own.keep {R S : Nat → Prop} {e : TypeId} {sz : Nat} {ds : List D} {w w' : World} {v : Value} (h : Own R S e sz ds w v) (hR : ∀ b, v.ownBlock = some b → w'.heap[b]? = w.heap[b]?) (hS : ∀ b, S b → b < w.heap.size → w'.heap[b]? = w.heap[b]?) (hz : w.heap.size ≤ w'.heap.size) : Own R S e sz ds w' v := by
  obtain ⟨us, h1, h2, h3, h4, h5⟩ := h
  exact ⟨us, h1, h2, row_same h3 hR, h4, fun j a b => (h5 j a b).keep (fun x hx hl => hS x hx.1 hl) hz⟩
theorem Own.below {R S : Nat → Prop} {e : TypeId} {sz : Nat} {ds : List D} {w w' : World} {v : Value} (h : Own R S e sz ds w v) (hb : Below w.heap.size w w') : Own R S e sz ds w' v :=
  h.keep (fun b hk => by obtain ⟨_, _, _, h3, _⟩ := h; exact hb.block b (h3.lt b hk).2) (fun b _ hl => hb.block b hl) hb.size
theorem Own.lies {R S : Nat → Prop} {e : TypeId} {sz : Nat} {ds : List D} {w : World} {v : Value} (h : Own R S e sz ds w v) : Lies (fun b => R b ∨ S b) w (.seq sz ds) v.cells.toList := by
  obtain ⟨us, h1, h2, h3, h6, h4⟩ := h
  rcases h3.2 with ⟨rfl, h0⟩ | ⟨g, cap, cur, rfl, hB, hg, hc, hm, hcs, htk⟩
  · have : ds = [] := List.eq_nil_of_length_eq_zero h0
    subst this
    exact fun w' _ => Rep.seq_mk (ds := []) (Nat.le_refl _) (by decide) fun j hj => by simp at hj
  · have hgl : g < w.heap.size := (Array.getElem?_eq_some_iff.1 hg).1
    refine fun w' hw => Rep.seq_mk hc hm fun j hj => ⟨g, 0, us[j]'(by omega), rfl, hgl, h2 _ (List.getElem_mem _), h4 j hj (by omega) w' fun b hb hl => hw b (.inr hb.1) hl, fun i x hx => ?_⟩
    have e1 := flat_at us h2 j (by omega) i x hx
    rw [cell_of_row w' g _ cur e (0, 0) ((hw g (.inl (h6 g rfl)) hgl).trans hg), Nat.zero_add]
    rw [← htk, List.getElem?_take] at e1
    split at e1
    · rw [← Array.getElem?_toList]; exact e1
    · cases e1
/-- One element more, out of its cells at an address. -/
theorem append_D {P : Program} (w : World) {o : Oper} {a : Act} {K : Act → World → Prop} {Q : Exit → Act → World → Prop} (s x : Operand) (t : TypeId)
    (ho : o.op = .call { callee := .builtin .append, args := #[s, x], argTypes := #[t, t] })
    (e : TypeId) (z : Value) (sz bytes : Nat) (ht : P.underlying t = some (.slice e)) (hinfo : (P.info? e).map (fun i => (i.zero, i.size, i.bytes)) = some (some z, sz, bytes)) (hzs : z.cells.size = sz) (hsz : 0 < sz) (hby : bytes ≤ 1000)
    (R S : Nat → Prop) (ds : List D) (d : D) (v : Value) (hs : a.eval s = v) (h : Own R S e sz ds w v) (ad : Addr) (c : Nat) (hx : a.eval x = .slice (some ad) 1 c) (cs : List Value) (hcl : cs.length = sz)
    (hc : ∀ j u, cs[j]? = some u → w.cell? (ad.add j) = some u) (hone : ∀ u ∈ cs, u.oneCell' = true)
    (hu : Lies (fun b => S b ∧ v.ownBlock ≠ some b) w d cs) (hl : ds.length ≤ 100000000)
    (hK : ∀ v' w', Own (fun b => R b ∨ w.heap.size ≤ b) S e sz (ds ++ [d]) w' v' → w.grownBy w' v.ownBlock → K (a.put o.dst v') w') : o.wp P a w K Q := by
  obtain ⟨i0, hi, hz0, hz1, hz2⟩ := info_parts hinfo
  obtain ⟨us, h1, h2, h3, h6, h4⟩ := h
  refine wp_append_own w s x t ho 0 e i0 _ sz bytes ht hi hz0 hz1 hz2 hzs hsz v ds.length us.flatten hs h3 ad 1 c cs hx (by rw [hcl, Nat.one_mul]) hc hone (by unfold maxLen; omega) (by have := Nat.mul_le_mul (show ds.length + 1 ≤ 100000001 by omega) hby; omega) (Nat.zero_le _) ?_
  intro v' w' q2 q3 q4
  refine hK v' w' ⟨us ++ [cs], by simp [h1], fun u hu => ?_, ?_, fun b hb => ?_, fun j hj hj2 => ?_⟩ q3
  · rcases List.mem_append.1 hu with hu | hu
    · exact h2 u hu
    · rw [List.mem_singleton.1 hu]; exact hcl
  · rw [List.flatten_append, List.length_append]
    simpa using q2
  · rcases q4 with q4 | q4
    · exact .inl (h6 b (q4 ▸ hb))
    · rw [q4] at hb; injection hb with hb; exact .inr (Nat.le_of_eq hb)
  · have key : ∀ (d : D) (u : List Value), Lies (fun b => S b ∧ v.ownBlock ≠ some b) w d u → Lies (fun b => S b ∧ v'.ownBlock ≠ some b) w' d u := fun d u ht => by
      have h5 := Lies.mono (S' := fun b => (S b ∧ v.ownBlock ≠ some b) ∧ v'.ownBlock ≠ some b) ht fun b hb hs => ⟨hs, fun e => by
        rcases q4 with q4 | q4
        · exact hs.2 (q4 ▸ e)
        · rw [q4] at e; injection e with e; omega⟩
      exact (h5.keep (fun b hb hl => q3.block b hl fun e => hb.1.2 e.symm) q3.size).mono fun b _ hb => ⟨hb.1.1, hb.2⟩
    rw [List.length_append, List.length_singleton] at hj
    rcases Nat.lt_or_ge j ds.length with hlt | hge
    · rw [List.getElem_append_left hlt, List.getElem_append_left (by omega)]
      exact key _ _ (h4 j hlt (by omega))
    · obtain rfl : j = ds.length := by omega
      rw [List.getElem_append_right (by omega), List.getElem_append_right (by omega)]
      simp only [h1, Nat.sub_self, List.getElem_singleton]
      exact key _ _ hu
end Gd
end Go.Proofs.YtfhjfhbfgndheaaDoor
