/- Package unify: does what a root stands for contain itself? -/
import Derived.Test.YtfhjfhbfgndheaaDoorNg
namespace Go.Proofs.YtfhjfhbfgndheaaDoor
open Go.RowKit Go.Shelf Un
open Go
attribute [local go_sem] Oper.semAt_some

namespace Un
def setV (vis : Int → Option Bool) (n : Nat) (b : Bool) : Int → Option Bool := fun k => if k = (n : Int) then some b else vis k
/-- The search, as the program does it: what was visited, the way (its end last). -/
def dfs (ts : List Tm) (ρ : Nat → Nat) : Nat → (Int → Option Bool) → List (Nat × Nat) → Option Bool
  | 0, _, _ => none
  | fuel + 1, vis, way => match way.getLast? with
    | none => some false
    | some (n, i) => match ts[n]? with
      | none => none
      | some t => match t.2[i]? with
        | none => dfs ts ρ fuel (setV vis n false) way.dropLast
        | some a => match vis (ρ a) with
          | some true => some true
          | some false => dfs ts ρ fuel vis (way.dropLast ++ [(n, i + 1)])
          | none => dfs ts ρ fuel (setV vis (ρ a) true) (way.dropLast ++ [(n, i + 1)] ++ [(ρ a, 0)])
def visOf (n : Nat) (around : List Nat) : Int → Option Bool := around.foldl (fun v x => setV v x true) (setV (fun _ => none) n true)
end Un
namespace Gd
/-- One element, in a block of its own. -/
theorem Own.one {R S : Nat → Prop} {e : TypeId} {sz : Nat} {d : D} {w : World} {g : Nat} {cs : List Value} (hb : Blk w g e cs.toArray) (hl : cs.length = sz) (hR : R g) (hd : Lies (fun b => S b ∧ b ≠ g) w d cs) : Own R S e sz [d] w (.slice (some ⟨g, 0, none⟩) 1 1) := by
  refine ⟨[cs], rfl, fun c hc => by rw [List.mem_singleton.1 hc]; exact hl, ⟨by simp [hl], .inr ⟨g, 1, cs.toArray, rfl, Nat.zero_le _, hb, Nat.le_refl _, by decide, by simp [hl], by simp [← hl]⟩⟩, fun k hk => ?_, fun j h1 h2 => ?_⟩
  · injection hk with hk; rw [← hk]; exact hR
  · obtain rfl : j = 0 := by simpa using h1
    exact hd.mono fun b _ h => ⟨h.1, fun e => h.2 (by injection e with e; exact e.symm)⟩
end Gd
def stepD (p : Nat × Nat) : Gd.D := .tup [numD p.1, numD p.2]
theorem int_law : Maps.Keyed Tryd.prog 3 := Maps.int_keyed Tryd.underlying3
theorem wf_i64 {n : Int} (h : -9223372036854775808 ≤ n ∧ n ≤ 9223372036854775807) : (Lit.int .i64 n).wf = true := by
  have e1 : IntKind.i64.min = -9223372036854775808 := rfl
  have e2 : IntKind.i64.max = 9223372036854775807 := rfl
  simp [Lit.wf, e1, e2]
  omega
theorem key_i {n : Int} (h : -9223372036854775808 ≤ n ∧ n ≤ 9223372036854775807) : keyOf Tryd.prog 3 (.int .i64 n) = some (Gm.kI n) := Maps.keyOf_int_mk Tryd.underlying3 (wf_i64 h)
/-- A map of numbers to truth values. -/
abbrev MapB (w : World) (b n : Nat) (f : Int → Option Bool) : Prop := Gm.MapR Tryd.prog 3 (plainElem (H := Unit) Tryd.prog 4) Gm.kI Gm.eB w b n f
theorem mapB_look {w : World} {b n : Nat} {f : Int → Option Bool} (h : MapB w b n f) (k : Int) (hk : -9223372036854775808 ≤ k ∧ k ≤ 9223372036854775807) :
    (Instr.lookup 58 (.map (some b)) (.int .i64 k) true).run Tryd.prog w = .ok (.tuple #[.bool ((f k).getD false), .bool (f k).isSome]) w := by
  obtain ⟨v, ps, e1, e2⟩ := h.look_ok int_law Tryd.underlying58 (z := .bool false) (by kernel_rfl) (plainElem_bool Tryd.underlying4 false) k (key_i hk)
  rw [e1]
  cases hf : f k with
  | none => rw [hf] at e2; rw [elem_bool Tryd.underlying4 e2]; rfl
  | some b => rw [hf] at e2; rw [elem_bool Tryd.underlying4 e2]; rfl
theorem mapB_look1 {w : World} {b n : Nat} {f : Int → Option Bool} (h : MapB w b n f) (k : Int) (hk : -9223372036854775808 ≤ k ∧ k ≤ 9223372036854775807) :
    (Instr.lookup 58 (.map (some b)) (.int .i64 k) false).run Tryd.prog w = .ok (.bool ((f k).getD false)) w := by
  obtain ⟨v, ps, e1, e2⟩ := h.look int_law Tryd.underlying58 (z := .bool false) (by kernel_rfl) (plainElem_bool Tryd.underlying4 false) k (key_i hk)
  rw [e1]
  cases hf : f k with
  | none => rw [hf] at e2; rw [elem_bool Tryd.underlying4 e2]; rfl
  | some b => rw [hf] at e2; rw [elem_bool Tryd.underlying4 e2]; rfl
theorem mapB_put (w : World) {b n : Nat} {f : Int → Option Bool} (h : MapB w b n f) (hn : n < 1000000000) (k : Int) (hk : -9223372036854775808 ≤ k ∧ k ≤ 9223372036854775807) (x : Bool) :
    ∃ w', (Instr.mapUpdate 58 (.map (some b)) (.int .i64 k) (.bool x)).run Tryd.prog w = .ok () w' ∧ MapB w' b (n + 1) (fun k' => if k' = k then some x else f k') ∧ w.grownBy w' (some b) :=
  h.put int_law Tryd.underlying58 (by unfold maxLen; omega) Gm.kI_key Gm.kI_inj k x (key_i hk) (plainElem_bool Tryd.underlying4 x)
/-- One of the steps on the way. -/
theorem step_cell {R : Nat → Prop} {way : List (Nat × Nat)} {w : World} {wb l c : Nat} (h : Gd.Own R (fun _ => False) 94 2 (way.map stepD) w (.slice (some ⟨wb, 0, none⟩) l c)) {j : Nat} (hj : j < way.length) :
    w.cell? ⟨wb, j * 2, none⟩ = some (.int .i64 (way[j].1 : Int)) ∧ w.cell? ⟨wb, j * 2 + 1, none⟩ = some (.int .i64 (way[j].2 : Int)) ∧ (∀ i, w.frozen? ⟨wb, i, none⟩ = false) ∧ wb < w.heap.size ∧ R wb := by
  obtain ⟨g, c', cs, hv, h1, h2, h3, hR, _, h4, h5, h6, _⟩ := h.at_ (j := j) (by simpa using hj)
  injection hv with e1 e2 e3
  injection e1 with e1
  injection e1 with e1
  subst e1
  have hr := (h4.rep)
  simp only [List.getElem_map] at hr
  unfold stepD at hr
  obtain ⟨c1, r1, rfl, p1, p2⟩ := hr.cons_
  obtain ⟨c2, r2, rfl, p3, p4⟩ := p2.cons_
  obtain ⟨rfl, _⟩ := p1.int_
  obtain ⟨rfl, _⟩ := p3.int_
  exact ⟨by simpa using h5 0 _ rfl, by simpa using h5 1 _ rfl, h6, h3, hR⟩
/-- The search's memory. -/
structure Srch (B0 : Nat) (F : Nat → Prop) (K : Nat) (st : St) (rk : Nat → Nat) (ins : List Bool) (tv ov : Value) (mb kb g : Nat) (w0 : World) (m0 : Nat) (vis : Int → Option Bool) (cnt : Nat) (way : List (Nat × Nat)) (v : Value) (w : World) : Prop where
  br : ∃ up, BRx B0 F K st up rk ins tv ov mb kb w g
  kp : Keep (fun b => ov.ownBlock = some b) w0 w
  mp : MapB w m0 cnt vis
  m0n : w0.heap.size ≤ m0
  wy : Gd.Own (fun b => w0.heap.size ≤ b) (fun _ => False) 94 2 (way.map stepD) w v
  fl : ∀ x, F x → x < w0.heap.size
  inN : ∀ p ∈ way, ∃ t, st.ts[p.1]? = some t ∧ p.2 ≤ t.2.length
section
variable {B0 K : Nat} {F : Nat → Prop} {st : St} {rk : Nat → Nat} {ins : List Bool} {tv ov : Value} {mb kb g m0 cnt : Nat} {w0 w w' : World} {vis : Int → Option Bool} {way : List (Nat × Nat)} {v : Value}
theorem Srch.ovlt (h : Srch B0 F K st rk ins tv ov mb kb g w0 m0 vis cnt way v w) : ∀ b, ov.ownBlock = some b → b < w0.heap.size := fun b hb => by
  obtain ⟨up, h1⟩ := h.br
  exact h.fl b (own_lt h1.upR b hb).2
theorem Srch.b0 (h : Srch B0 F K st rk ins tv ov mb kb g w0 m0 vis cnt way v w) : B0 ≤ w0.heap.size := by
  obtain ⟨up, h1⟩ := h.br
  have := h1.base _ h1.fg
  have := h.fl _ h1.fg
  omega
/-- Other new memory is written. -/
theorem Srch.brNew (h : Srch B0 F K st rk ins tv ov mb kb g w0 m0 vis cnt way v w) (hk : ∀ b, b < w0.heap.size → w'.heap[b]? = w.heap[b]?) (hs : Keep (fun b => w0.heap.size ≤ b) w w') : (∃ up, BRx B0 F K st up rk ins tv ov mb kb w' g) ∧ Keep (fun b => ov.ownBlock = some b) w0 w' := by
  obtain ⟨up, h1⟩ := h.br
  refine ⟨⟨up, h1.keep (fun b hb _ => hk b (h.fl b hb)) (hs.below (fun x hx hn => by have := h.b0; omega) h1.b0)⟩, ?_⟩
  exact ⟨hs.os.trans h.kp.os, hs.tape.trans h.kp.tape, hs.output.trans h.kp.output, Nat.le_trans h.kp.size hs.size, fun b hb hn => (hk b hb).trans (h.kp.block b hb hn)⟩
/-- A map's entry. -/
theorem Srch.map_ (h : Srch B0 F K st rk ins tv ov mb kb g w0 m0 vis cnt way v w) {vis' : Int → Option Bool} (hg : w.grownBy w' (some m0)) (hm : MapB w' m0 (cnt + 1) vis') : Srch B0 F K st rk ins tv ov mb kb g w0 m0 vis' (cnt + 1) way v w' := by
  have hb : ∀ b, b < w0.heap.size → w'.heap[b]? = w.heap[b]? := fun b hb => hg.block b (Nat.lt_of_lt_of_le hb h.kp.size) fun e => by injection e with e; have := h.m0n; omega
  obtain ⟨h1, h2⟩ := h.brNew hb (Keep.grown hg fun k hk => by injection hk with hk; rw [← hk]; exact h.m0n)
  exact { h with br := h1, kp := h2, mp := hm, wy := h.wy.keep (fun b hk => hg.block b (own_lt h.wy b hk).1 fun e => own_ne_map h.mp h.wy (hk.trans e)) (fun _ h _ => h.elim) hg.size }
/-- New memory. -/
theorem Srch.below (h : Srch B0 F K st rk ins tv ov mb kb g w0 m0 vis cnt way v w) (hb : Below w.heap.size w w') : Srch B0 F K st rk ins tv ov mb kb g w0 m0 vis cnt way v w' := by
  obtain ⟨h1, h2⟩ := h.brNew (fun b hl => hb.block b (Nat.lt_of_lt_of_le hl h.kp.size)) (Keep.of_new hb)
  exact { h with br := h1, kp := h2, mp := h.mp.keep (hb.block _ h.mp.lt), wy := h.wy.below hb }
/-- The way is another one. -/
theorem Srch.way_ (h : Srch B0 F K st rk ins tv ov mb kb g w0 m0 vis cnt way v w) {way' : List (Nat × Nat)} {v' : Value} (hb : Keep (fun b => w0.heap.size ≤ b ∧ b ≠ m0) w w') (ho : Gd.Own (fun b => w0.heap.size ≤ b) (fun _ => False) 94 2 (way'.map stepD) w' v')
    (hi : ∀ p ∈ way', ∃ t, st.ts[p.1]? = some t ∧ p.2 ≤ t.2.length) : Srch B0 F K st rk ins tv ov mb kb g w0 m0 vis cnt way' v' w' := by
  have hw := h.kp.size
  obtain ⟨h1, h2⟩ := h.brNew (fun b hl => hb.block b (Nat.lt_of_lt_of_le hl hw) fun h => by omega) ((Keep.refl _ _).trans hb fun _ _ h => h.1)
  exact { h with br := h1, kp := h2, mp := h.mp.keep (hb.block _ h.mp.lt fun h => h.2 rfl), wy := ho, inN := hi }
/-- A root was asked for. -/
theorem Srch.rooted (h : Srch B0 F K st rk ins tv ov mb kb g w0 m0 vis cnt way v w) (h1 : ∃ up, BRx B0 F K st up rk ins tv ov mb kb w' g) (hk : Keep (fun b => ov.ownBlock = some b) w w') : Srch B0 F K st rk ins tv ov mb kb g w0 m0 vis cnt way v w' := by
  have ho := h.ovlt
  have hm := h.m0n
  exact { h with br := h1, kp := h.kp.trans hk fun _ _ h => h, mp := h.mp.keep (hk.block _ h.mp.lt fun e => by have := ho _ e; omega), wy := h.wy.keep (fun b hb => hk.block b (own_lt h.wy b hb).1 fun e => by have := ho _ e; have := (own_lt h.wy b hb).2; omega) (fun _ h _ => h.elim) hk.size }
end
end Go.Proofs.YtfhjfhbfgndheaaDoor
