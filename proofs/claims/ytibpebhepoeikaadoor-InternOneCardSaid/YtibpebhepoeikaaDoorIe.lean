/- Package intern: a list of values in blocks of its own; a table in memory. -/
import Derived.Test.YtibpebhepoeikaaDoorId
namespace Go.Proofs.YtibpebhepoeikaaDoor
open Go.RowKit Vp Tx
open Go

/-! ### A list of values that grows: its row in a block that meets R, what is within its values in blocks that meet S -/
def OwnG (R S : Nat → Prop) (ts : List V) (w : World) (v : Value) : Prop :=
  ∃ us : List Value, us.length = ts.length ∧ (∀ u ∈ us, ∃ a b c d, u.cells = #[a, b, c, d]) ∧ w.ownsRow 0 42 4 v us.length (vcells us) ∧ (∀ k, v.ownBlock = some k → R k) ∧
    ∀ (j : Nat) (h1 : j < ts.length) (h2 : j < us.length), Lies (fun b => S b ∧ v.ownBlock ≠ some b) w ts[j] us[j]
theorem OwnG.nil (R S : Nat → Prop) (w : World) : OwnG R S [] w (.slice none 0 0) := ⟨[], rfl, fun _ h => (by cases h), ⟨rfl, .inl ⟨rfl, rfl⟩⟩, fun k h => (by cases h), fun j h => absurd h (Nat.not_lt_zero _)⟩
theorem OwnG.mono {R R' S S' : Nat → Prop} {ts : List V} {w : World} {v : Value} (h : OwnG R S ts w v) (hR : ∀ b, b < w.heap.size → R b → R' b) (hS : ∀ b, b < w.heap.size → S b → S' b) : OwnG R' S' ts w v := by
  obtain ⟨us, h1, h2, h3, h4, h5⟩ := h
  exact ⟨us, h1, h2, h3, fun k hk => hR k (h3.lt k hk).2 (h4 k hk), fun j a b => (h5 j a b).mono fun x hx hs => ⟨hS x hx hs.1, hs.2⟩⟩
theorem ownsRow_same {w w' : World} {e : TypeId} {size n : Nat} {v : Value} {xs : List Value} (h : w.ownsRow 0 e size v n xs) (hb : ∀ k, v.ownBlock = some k → w'.heap[k]? = w.heap[k]?) : w'.ownsRow 0 e size v n xs := by
  rcases h with ⟨h1, h2 | ⟨g, cap, cur, rfl, hB, hg, h3⟩⟩
  · exact ⟨h1, .inl h2⟩
  · exact ⟨h1, .inr ⟨g, cap, cur, rfl, hB, (hb g rfl).trans hg, h3⟩⟩
theorem OwnG.keep {R S : Nat → Prop} {ts : List V} {w w' : World} {v : Value} (h : OwnG R S ts w v) (hR : ∀ b, R b → b < w.heap.size → w'.heap[b]? = w.heap[b]?) (hS : ∀ b, S b → b < w.heap.size → w'.heap[b]? = w.heap[b]?) (hz : w.heap.size ≤ w'.heap.size) : OwnG R S ts w' v := by
  obtain ⟨us, h1, h2, h3, h4, h5⟩ := h
  exact ⟨us, h1, h2, ownsRow_same h3 fun k hk => hR k (h4 k hk) (h3.lt k hk).2, h4, fun j a b => (h5 j a b).keep (fun x hx hl => hS x hx.1 hl) hz⟩
theorem OwnG.slice {R S : Nat → Prop} {ts : List V} {w : World} {v : Value} (h : OwnG R S ts w v) : ∃ A c, v = .slice A ts.length c ∧ RLies (fun b => R b ∨ S b) w ts A c := by
  obtain ⟨us, h1, h2, h3, h6, h4⟩ := h
  rcases h3.2 with ⟨rfl, h0⟩ | ⟨g, cap, cur, rfl, hB, hg, hc, hm, hcs, htk⟩
  · have : ts = [] := List.eq_nil_of_length_eq_zero (by omega)
    subst this
    exact ⟨none, 0, rfl, RLies.nil (by decide)⟩
  · refine ⟨some ⟨g, 0, none⟩, cap, by rw [h1], fun w' hw => ⟨by omega, hm, fun j => us.getD j undef, fun j hj => ?_, fun j hj => ?_⟩⟩
    · have hgl : g < w.heap.size := by
        rcases Nat.lt_or_ge g w.heap.size with h' | h'
        · exact h'
        · rw [Array.getElem?_eq_none h'] at hg; cases hg
      have hj' : j < us.length := by omega
      refine ⟨g, 0, rfl, hgl, fun i x hx => ?_⟩
      have hgd : us.getD j undef = us[j] := by rw [List.getD_eq_getElem?_getD, List.getElem?_eq_getElem hj', Option.getD_some]
      simp only [hgd] at hx
      obtain ⟨e1, e2⟩ := vcells_at us h2 j hj' i x hx
      rw [cell_of_row w' g _ cur 42 (0, 0) ((hw g (.inl (h6 g rfl)) hgl).trans hg), Nat.zero_add]
      rw [← htk, List.getElem?_take] at e1
      split at e1
      · rw [← Array.getElem?_toList]; exact e1
      · cases e1
    · have hj' : j < us.length := by omega
      have := h4 j hj hj' w' fun b hb hl => hw b (.inr hb.1) hl
      have hgd : us.getD j undef = us[j] := by rw [List.getD_eq_getElem?_getD, List.getElem?_eq_getElem hj', Option.getD_some]
      simp only [hgd]
      exact this
/-- One value more, out of four cells at an address. -/
theorem append_G (w : World) {o : Oper} {a : Act} {K : Act → World → Prop} {Q : Exit → Act → World → Prop} (s x : Operand)
    (ho : o.op = .call { callee := .builtin .append, args := #[s, x], argTypes := #[28, 28] })
    (R S : Nat → Prop) (ts : List V) (t : V) (v : Value) (hs : a.eval s = v) (h : OwnG R S ts w v) (ad : Addr) (c : Nat) (hx : a.eval x = .slice (some ad) 1 c) (k : Nat) (n : Int) (z : ByteArray) (A : Option Addr) (l c' : Nat)
    (hc : ∀ j u, [Value.int .u8 (k : Int), .int .i64 n, .string z, .slice A l c'][j]? = some u → w.cell? (ad.add j) = some u)
    (hu : Lies (fun b => S b ∧ v.ownBlock ≠ some b) w t (.agg #[.int .u8 (k : Int), .int .i64 n, .string z, .slice A l c']))
    (hl : ts.length ≤ 100000000)
    (hK : ∀ v' w', OwnG (fun b => R b ∨ w.heap.size ≤ b) S (ts ++ [t]) w' v' → w.grownBy w' v.ownBlock → K (a.put o.dst v') w') : o.wp Tryd.prog a w K Q := by
  obtain ⟨i0, hi, hz0, hz1, hz2⟩ := info_parts infoV
  obtain ⟨us, h1, h2, h3, h6, h4⟩ := h
  refine wp_append_own w s x 28 ho 0 42 i0 _ 4 56 Tryd.underlying28 hi hz0 hz1 hz2 rfl (by decide) v us.length (vcells us) hs h3 ad 1 c [.int .u8 (k : Int), .int .i64 n, .string z, .slice A l c'] hx rfl hc (fun u hu => ?_) (by unfold maxLen; omega) (by omega) (Nat.zero_le _) ?_
  · simp at hu
    rcases hu with rfl | rfl | rfl | rfl <;> rfl
  · intro v' w' q2 q3 q4
    refine hK v' w' ⟨us ++ [.agg #[.int .u8 (k : Int), .int .i64 n, .string z, .slice A l c']], by rw [List.length_append, List.length_append, h1]; rfl, fun u hu => ?_, ?_, fun b hb => ?_, fun j hj hj2 => ?_⟩ q3
    · rcases List.mem_append.1 hu with hu | hu
      · exact h2 u hu
      · rw [List.mem_singleton.1 hu]
        exact ⟨_, _, _, _, rfl⟩
    · rw [vcells_snoc, List.length_append]
      exact q2
    · rcases q4 with q4 | q4
      · exact .inl (h6 b (q4 ▸ hb))
      · rw [q4] at hb; injection hb with hb; exact .inr (Nat.le_of_eq hb)
    · have key : ∀ (t : V) (u : Value), Lies (fun b => S b ∧ v.ownBlock ≠ some b) w t u → Lies (fun b => S b ∧ v'.ownBlock ≠ some b) w' t u := fun t u ht => by
        have h5 := Lies.mono (S' := fun b => (S b ∧ v.ownBlock ≠ some b) ∧ v'.ownBlock ≠ some b) ht fun b hb hs => ⟨hs, fun e => by
          rcases q4 with q4 | q4
          · exact hs.2 (q4 ▸ e)
          · rw [q4] at e; injection e with e; omega⟩
        exact (h5.keep (fun b hb hl => q3.block b hl fun e => hb.1.2 e.symm) q3.size).mono fun b _ hb => ⟨hb.1.1, hb.2⟩
      rw [List.length_append, List.length_singleton] at hj
      rcases Nat.lt_or_ge j ts.length with hlt | hge
      · rw [List.getElem_append_left hlt, List.getElem_append_left (by omega)]
        exact key _ _ (h4 j hlt (by omega))
      · obtain rfl : j = ts.length := by omega
        rw [List.getElem_append_right (by omega), List.getElem_append_right (by omega)]
        simp only [h1, Nat.sub_self, List.getElem_singleton]
        exact key _ _ hu

/-! ### A table -/
def MapR (F : Nat → Prop) (ts : List V) (w : World) (mv : Value) : Prop := (mv = .map none ∧ ts = []) ∨ ∃ b, mv = .map (some b) ∧ F b ∧ WM w b ts
/-- Where what is within a table's values may lie. -/
def SF (F : Nat → Prop) (g : Nat) (mv : Value) (x : Nat) : Prop := F x ∧ x ≠ g ∧ mv ≠ .map (some x)
/-- A table at block g, in blocks that meet F alone, with these values. -/
structure TabR (F : Nat → Prop) (ts : List V) (w : World) (g : Nat) : Prop where
  ok : ∀ t ∈ ts, chkV t = 0 ∧ slim t
  apart : Apart ts
  own : F g
  rep : ∃ mv sv, Blk w g 57 #[mv, sv] ∧ MapR F ts w mv ∧ OwnG F (SF F g mv) ts w sv
theorem MapR.keep {F : Nat → Prop} {ts : List V} {w w' : World} {mv : Value} (h : MapR F ts w mv) (hb : ∀ b, F b → b < w.heap.size → w'.heap[b]? = w.heap[b]?) : MapR F ts w' mv := by
  rcases h with h | ⟨b, rfl, h1, h2⟩
  · exact .inl h
  · exact .inr ⟨b, rfl, h1, h2.keep (hb b h1 h2.lt)⟩
theorem MapR.mono {F F' : Nat → Prop} {ts : List V} {w : World} {mv : Value} (h : MapR F ts w mv) (hF : ∀ b, b < w.heap.size → F b → F' b) : MapR F' ts w mv := by
  rcases h with h | ⟨b, rfl, h1, h2⟩
  · exact .inl h
  · exact .inr ⟨b, rfl, hF b h2.lt h1, h2⟩
theorem TabR.lt {F : Nat → Prop} {ts : List V} {w : World} {g : Nat} (h : TabR F ts w g) : g < w.heap.size := by
  obtain ⟨_, _, h, _⟩ := h.rep
  exact h.lt
theorem TabR.keep {F : Nat → Prop} {ts : List V} {w w' : World} {g : Nat} (h : TabR F ts w g) (hb : ∀ b, F b → b < w.heap.size → w'.heap[b]? = w.heap[b]?) (hz : w.heap.size ≤ w'.heap.size) : TabR F ts w' g := by
  obtain ⟨mv, sv, h1, h2, h3⟩ := h.rep
  exact ⟨h.ok, h.apart, h.own, mv, sv, (hb g h.own h.lt).trans h1, h2.keep hb, h3.keep hb (fun b hs => hb b hs.1) hz⟩
theorem TabR.mono {F F' : Nat → Prop} {ts : List V} {w : World} {g : Nat} (h : TabR F ts w g) (hF : ∀ b, b < w.heap.size → F b → F' b) : TabR F' ts w g := by
  obtain ⟨mv, sv, h1, h2, h3⟩ := h.rep
  exact ⟨h.ok, h.apart, hF g h.lt h.own, mv, sv, h1, h2.mono hF, h3.mono hF fun b hb hs => ⟨hF b hb hs.1, hs.2⟩⟩
theorem TabR.below {F : Nat → Prop} {ts : List V} {w w' : World} {g : Nat} (h : TabR F ts w g) (hb : Below w.heap.size w w') : TabR F ts w' g := h.keep (fun b _ hl => hb.block b hl) hb.size
/-- A map's block is no row's. -/
theorem OwnG.map_ {R S : Nat → Prop} {ts : List V} {w w' : World} {v : Value} {b : Nat} {us : List V} (h : OwnG R S ts w v) (hb : WM w b us) (hS : ¬ S b) (hg : w.grownBy w' (some b)) : OwnG R S ts w' v := by
  obtain ⟨vs, h1, h2, h3, h4, h5⟩ := h
  have hne : ∀ k, v.ownBlock = some k → k ≠ b := fun k hk e => by
    subst e
    obtain ⟨es, cl, hm, _⟩ := hb
    rcases h3.2 with ⟨rfl, _⟩ | ⟨g, cap, cur, rfl, _, hgc, _⟩
    · cases hk
    · injection hk with hk
      subst hk
      rw [hm] at hgc
      cases hgc
  exact ⟨vs, h1, h2, ownsRow_same h3 fun k hk => hg.block k (h3.lt k hk).2 fun e => by injection e with e; exact hne k hk e, h4, fun j a c => (h5 j a c).keep (fun x hx hl => hg.block x hl fun e => by injection e with e; subst e; exact hS hx.1) hg.size⟩
/-- A table's own block is no row's. -/
theorem OwnG.tab {R S : Nat → Prop} {ts : List V} {w : World} {v : Value} {g : Nat} {cs : Array Value} (h : OwnG R S ts w v) (hb : Blk w g 57 cs) (hS : ¬ S g) (i : Nat) (x : Value) : OwnG R S ts (w.setCell ⟨g, i, none⟩ x) v := by
  obtain ⟨vs, h1, h2, h3, h4, h5⟩ := h
  have hne : ∀ k, v.ownBlock = some k → k ≠ g := fun k hk e => by
    subst e
    rcases h3.2 with ⟨rfl, _⟩ | ⟨g, cap, cur, rfl, _, hgc, _⟩
    · cases hk
    · injection hk with hk
      subst hk
      have := hb.symm.trans hgc
      injection this with this
      injection this with _ this
      exact absurd this (by decide)
  exact ⟨vs, h1, h2, ownsRow_same h3 fun k hk => Below.heap_setCell _ _ _ _ (hne k hk), h4, fun j a c => (h5 j a c).keep (fun y hy _ => Below.heap_setCell _ _ _ _ (fun e => hS (by have e' : y = g := e; rw [← e']; exact hy.1))) (by simp [World.setCell])⟩
theorem OwnG.own_ne {R S : Nat → Prop} {ts : List V} {w : World} {v : Value} {g : Nat} {cs : Array Value} (h : OwnG R S ts w v) (hb : Blk w g 57 cs) : some g ≠ v.ownBlock := fun e => by
  obtain ⟨vs, h1, h2, h3, h4, h5⟩ := h
  rcases h3.2 with ⟨rfl, _⟩ | ⟨g', cap, cur, rfl, _, hgc, _⟩
  · cases e
  · injection e with e
    have e' : g = g' := e
    subst e'
    have := hb.symm.trans hgc
    injection this with this
    injection this with _ this
    exact absurd this (by decide)
theorem OwnG.map_ne {R S : Nat → Prop} {ts us : List V} {w : World} {v : Value} {b : Nat} (h : OwnG R S ts w v) (hb : WM w b us) : some b ≠ v.ownBlock := fun e => by
  obtain ⟨vs, h1, h2, h3, h4, h5⟩ := h
  obtain ⟨es, cl, hm, _⟩ := hb
  rcases h3.2 with ⟨rfl, _⟩ | ⟨g', cap, cur, rfl, _, hgc, _⟩
  · cases e
  · injection e with e
    have e' : b = g' := e
    subst e'
    rw [hm] at hgc
    cases hgc
theorem OwnG.lt {R S : Nat → Prop} {ts : List V} {w : World} {v : Value} (h : OwnG R S ts w v) : ∀ k, v.ownBlock = some k → k < w.heap.size := by
  obtain ⟨vs, h1, h2, h3, h4, h5⟩ := h
  exact fun k hk => (h3.lt k hk).2
theorem WM.ne_blk {w : World} {b g : Nat} {ts : List V} {t : TypeId} {cs : Array Value} (h : WM w b ts) (hb : Blk w g t cs) : g ≠ b := fun e => by
  subst e
  obtain ⟨es, cl, hm, _⟩ := h
  have := hb.symm.trans hm
  cases this
/-- What a table has, and a value's number, behind a put of a value that may be. -/
def putN (ts : List V) (t : V) : Nat := (pos ts (txtV t)).getD ts.length
def putL (ts : List V) (t : V) : List V := if (pos ts (txtV t)).isSome then ts else ts ++ [t]
theorem putL_apart {ts : List V} {t : V} (h : Apart ts) : Apart (putL ts t) := by
  unfold putL
  split
  · exact h
  · rename_i hn
    unfold Apart
    rw [List.pairwise_append]
    refine ⟨h, by simp, fun a ha b hb e => hn ?_⟩
    rw [List.mem_singleton.1 hb] at e
    cases hp : pos ts (txtV t) with
    | some i => rfl
    | none => have := List.findIdx?_eq_none_iff.1 hp a ha; simp [e] at this
theorem putL_len (ts : List V) (t : V) : (putL ts t).length ≤ ts.length + 1 := by
  unfold putL; split <;> simp
end Go.Proofs.YtibpebhepoeikaaDoor
