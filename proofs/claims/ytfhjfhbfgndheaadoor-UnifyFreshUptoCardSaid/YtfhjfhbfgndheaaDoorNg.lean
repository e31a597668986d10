/- Package unify: a root leads to another. -/
import Derived.Test.YtfhjfhbfgndheaaDoorNf
namespace Go.Proofs.YtfhjfhbfgndheaaDoor
open Go.RowKit Go.Shelf Un
open Go
attribute [local go_sem] Oper.semAt_some

theorem setCell_comm (w : World) (p q : Addr) (u v : Value) (h : p.block ≠ q.block) : (w.setCell p u).setCell q v = (w.setCell q v).setCell p u := by
  simp only [World.setCell]
  congr 1
  apply Array.ext_getElem?
  intro i
  simp only [Array.getElem?_modify]
  by_cases e : q.block = i
  · rw [if_pos e, if_neg (fun e' => h (e'.trans e.symm)), if_neg (fun e' => h (e'.trans e.symm)), if_pos e]
  · rw [if_neg e, if_neg e]
/-- No mark is taken away. -/
def InsLe (a b : List Bool) : Prop := ∀ j : Nat, a[j]? = some true → b[j]? = some true
theorem InsLe.refl (a : List Bool) : InsLe a a := fun _ h => h
theorem InsLe.trans {a b c : List Bool} (h : InsLe a b) (h' : InsLe b c) : InsLe a c := fun j hj => h' j (h j hj)
theorem InsLe.set (a : List Bool) {t : Nat} (ht : t < a.length) (b : Bool) : InsLe a (a.set t (a[t] || b)) := fun j hj => by
  rw [List.getElem?_set]
  by_cases e : t = j
  · subst e
    rw [if_pos rfl, if_pos ht]
    have := (List.getElem?_eq_some_iff.1 hj).2
    rw [this, Bool.true_or]
  · rw [if_neg e]; exact hj
theorem insMore {ρ : Nat → Nat} {ts : List Tm} {ins : List Bool} (h : InsOk ρ ts ins) {t : Nat} (ht : t < ins.length) (b : Bool) : InsOk ρ ts (ins.set t (ins[t] || b)) := by
  refine ⟨by rw [List.length_set]; exact h.1, fun i hi a ha => ?_⟩
  have h1 := h.2 i hi a ha
  obtain ⟨hl, h2⟩ := List.getElem?_eq_some_iff.1 h1
  rw [List.getElem?_set]
  by_cases e2 : t = ρ a
  · rw [if_pos e2, if_pos ht]
    simp only [e2, h2, Bool.true_or]
  · rw [if_neg e2, h1]
theorem insLead {ρ : Nat → Nat} {ts : List Tm} {ins : List Bool} (h : InsOk ρ ts ins) {f t : Nat} (hf : f < ins.length) (ht : t < ins.length) : InsOk (leadR ρ f t) ts (ins.set t (ins[t] || ins[f])) := by
  refine ⟨by rw [List.length_set]; exact h.1, fun i hi a ha => ?_⟩
  have h1 := h.2 i hi a ha
  obtain ⟨hl, h2⟩ := List.getElem?_eq_some_iff.1 h1
  rw [List.getElem?_set]
  by_cases e : ρ a = f
  · rw [leadR_of e, if_pos rfl, if_pos ht]
    simp only [e] at h2
    rw [h2, Bool.or_true]
  · rw [leadR_ne e]
    by_cases e2 : t = ρ a
    · rw [if_pos e2, if_pos ht]
      simp only [e2, h2, Bool.true_or]
    · rw [if_neg e2, h1]
section
variable {B0 K : Nat} {F : Nat → Prop} {st : St} {up : List Nat} {rk : Nat → Nat} {ins : List Bool} {tv ov : Value} {mb kb g : Nat} {w w' : World}
/-- A mark is set. -/
theorem BRx.setIn {j : Nat} {b : Bool} {tb c l k : Nat} (h : BRx B0 F K st up rk ins (.slice (some ⟨tb, 0, none⟩) l c) ov mb kb w g) (hj : j < st.ts.length) (hk : k = j * 3 + 2) (hi : InsOk st.ρ st.ts (ins.set j b)) :
    BRx B0 F K st up rk (ins.set j b) (.slice (some ⟨tb, 0, none⟩) l c) ov mb kb (w.setCell ⟨tb, k, none⟩ (.bool b)) g := by
  have hlt := own_lt h.tsR tb rfl
  have hno := h.tn; have hmo := h.tm; have hko := h.tkn
  have hbb : Below B0 w (w.setCell ⟨tb, k, none⟩ (.bool b)) := (Below.refl _ w).setCell (by have := h.base _ hlt.2; exact this) _
  have far : ∀ x, x ≠ tb → (w.setCell ⟨tb, k, none⟩ (.bool b)).heap[x]? = w.heap[x]? := fun x hb => Below.heap_setCell _ _ _ _ hb
  have hji : j < ins.length := by rw [h.ins_.1]; exact hj
  refine { h with glob := h.glob.below hbb, blk := ?_, map := ?_, tak := ?_, upR := ?_, tsR := ?_, ins_ := hi }
  · exact (far _ fun e => hno (congrArg some e.symm)).trans h.blk
  · exact h.map.keep (far _ fun e => hmo (congrArg some e.symm))
  · exact h.tak.keep (far _ fun e => hko (congrArg some e.symm))
  · exact h.upR.keep (fun x hx => far x fun e => h.to_ tb rfl (e ▸ hx)) (fun x hs _ => hs.elim) (by simp)
  · have he : termsD st.ts (ins.set j b) = (termsD st.ts ins).set j (termD st.ts[j] b) := by
      apply List.ext_getElem
      · simp [termsD]
      · intro q h1 h2
        have hq1 : q < st.ts.length := by simp [termsD] at h1; omega
        have hq2 : q < ins.length := by rw [h.ins_.1]; exact hq1
        rw [termsD_at hq1 (by simpa using hq2), List.getElem_set, List.getElem_set]
        by_cases e : j = q
        · subst e; simp
        · rw [if_neg e, if_neg e, termsD_at hq1 hq2]
    rw [he]
    refine h.tsR.set (j := j) (i := 2) (by rw [termsD_len h.ins_.1]; exact hj) (by omega) hk _ _ fun w' cs hr => ?_
    rw [termsD_at hj hji] at hr
    unfold termD at hr ⊢
    obtain ⟨c1, r1, rfl, p1, p2⟩ := hr.cons_
    obtain ⟨c2, r2, rfl, p3, p4⟩ := p2.cons_
    obtain ⟨c3, r3, rfl, p5, p6⟩ := p4.cons_
    obtain ⟨rfl, _⟩ := p1.str_
    obtain ⟨A, ca, rfl, q1, q2, _⟩ := p3.seq_
    obtain rfl := p5.bool_
    obtain rfl := p6.nil_
    exact .cons (c := [_]) p1 (.cons (c := [_]) p3 (.cons (c := [_]) .bool .nil))
end
set_option maxRecDepth 100000 in
set_option maxHeartbeats 4000000 in
theorem lead_c {B0 K : Nat} {F : Nat → Prop} {st : St} {up : List Nat} {rk : Nat → Nat} {ins : List Bool} {tv ov : Value} {mb kb g : Nat} {w : World} (h : BRx B0 F K st up rk ins tv ov mb kb w g) (f t : Nat) (hf : f < st.ts.length) (ht : t < st.ts.length) (rf : st.ρ f = f) (rt : st.ρ t = t) (hne : f ≠ t) :
    Calls Tryd.prog 57 #[.pointer (some ⟨g, 0, none⟩), .int .i64 (f : Int), .int .i64 (t : Int)] w fun e w' => e = .returned (.tuple #[]) ∧ (∃ up' rk' ins', BRx B0 F K { st with ρ := leadR st.ρ f t } up' rk' ins' tv ov mb kb w' g ∧ InsLe ins ins') ∧ Keep (fun b => ov.ownBlock = some b ∨ tv.ownBlock = some b) w w' := by
  have hlen := h.len
  obtain ⟨ob, c, rfl⟩ := own_some h.upR (by rw [List.length_map]; omega)
  rw [List.length_map] at h ⊢
  have hfu : f < up.length := by omega
  have htu : t < up.length := by omega
  obtain ⟨_, u0, u1, u2, u3, u4⟩ := up_cell h.upR hfu
  obtain ⟨rk', hF'⟩ := h.for_.lead hfu htu rf rt hne
  have hlim := h.lim; have hfew := h.few
  have hil := h.ins_.1
  have hI' := insLead h.ins_ (f := f) (t := t) (by omega) (by omega)
  obtain ⟨tb, c', A, ca, hi, rfl, k1, k2, k3, _, x0, x1, x2, k4, k5, k6, _⟩ := h.term hf
  obtain ⟨tb', c'', A', ca', hi', e', _, _, _, _, y0, y1, y2, _, k5', k6', _⟩ := h.term ht
  injection e' with e1 e2 e3
  injection e1 with e1
  injection e1 with e1
  subst e1
  have g0 := h.blk.cell 0
  have g1 := h.blk.cell 1
  simp at g0 g1
  have htf : tb ≠ ob := fun e => h.to_ tb rfl (by rw [e]; rfl)
  have hgt : g ≠ ob := fun e => h.on (by rw [e]; rfl)
  have hgt2 : ob ≠ tb := fun e => htf e.symm
  have hgt3 : ob ≠ g := fun e => hgt e.symm
  have hfi : (f : Int) < (up.length : Int) := by omega
  have hfi2 : (f : Int) < (st.ts.length : Int) := by omega
  have hti2 : (t : Int) < (st.ts.length : Int) := by omega
  -- the list of roots
  have hW1 : ∃ W1, W1 = w.setCell ⟨ob, f, none⟩ (.int .i64 (t : Int)) := ⟨_, rfl⟩
  obtain ⟨W1, hW1⟩ := hW1
  have far1 : ∀ b, b ≠ ob → W1.heap[b]? = w.heap[b]? := fun b hb => by rw [hW1]; exact Below.heap_setCell _ _ _ _ hb
  have x2' := (cell_of_block (far1 tb htf) (f * 3 + 2)).trans x2
  have y2' := (cell_of_block (far1 tb htf) (t * 3 + 2)).trans y2
  have g0' := (cell_of_block (far1 g hgt) 0).trans g0
  have hb1 : ∀ W2, W2 = W1.setCell ⟨tb, t * 3 + 2, none⟩ (.bool (ins[t] || ins[f])) → ∃ up' rk' ins', BRx B0 F K { st with ρ := leadR st.ρ f t } up' rk' ins' (.slice (some ⟨tb, 0, none⟩) st.ts.length c') (.slice (some ⟨ob, 0, none⟩) up.length c) mb kb W2 g ∧ InsLe ins ins' := fun W2 hW2 => by
    have q1 := h.setIn (b := ins[t] || ins[f]) ht rfl (insMore h.ins_ hi' _)
    have q2 := q1.setUp (x := t) hfu rfl (st' := { st with ρ := leadR st.ρ f t }) ⟨rfl, rfl, rfl⟩ hF' hI' (by omega)
    rw [setCell_comm _ _ _ _ _ htf, ← hW1, ← hW2] at q2
    exact ⟨_, _, _, q2, InsLe.set ins hi' _⟩
  have hk2 : ∀ W2, W2 = W1.setCell ⟨tb, t * 3 + 2, none⟩ (.bool (ins[t] || ins[f])) → Keep (fun b => (Value.slice (some ⟨ob, 0, none⟩) up.length c).ownBlock = some b ∨ (Value.slice (some ⟨tb, 0, none⟩) st.ts.length c').ownBlock = some b) w W2 := fun W2 hW2 => by
    rw [hW2, hW1]
    exact ((Keep.refl _ w).set ⟨ob, f, none⟩ (.inl rfl) _).set ⟨tb, _, none⟩ (.inr rfl) _
  have fz : W1.frozen? ⟨tb, t * 3 + 2, none⟩ = false := by
    obtain ⟨tb2, _, _, hv, _, _, _, _, _, _, _, _, cur, hbk⟩ := h.tsR.at_ (j := t) (by rw [termsD_len h.ins_.1]; exact ht)
    injection hv with e1
    injection e1 with e1
    injection e1 with e1
    subst e1
    exact Blk.frozen ((far1 tb htf).trans hbk) _
  have HB1 := Lib.hid hb1; have HK2 := Lib.hid hk2
  have HF := Lib.hid hF'; have HI := Lib.hid hI'
  obtain ⟨bt, hbt⟩ : ∃ b, b = ins[t] := ⟨_, rfl⟩
  obtain ⟨bf, hbf⟩ : ∃ b, b = ins[f] := ⟨_, rfl⟩
  rw [← hbt] at HB1 HK2 y2 y2'
  rw [← hbf] at HB1 HK2 x2 x2'
  clear hb1 hk2 hF' hI' h far1 hbt hbf k4
  rw [hW1] at x2' y2' g0' fz
  have hW1' := Lib.hid hW1
  cases bt with
  | true =>
    go_enter Tryd.func57, Tryd.ntmps57
    go_wp2_with fail
    go_region
    go_wp2_with fail
    refine bodyPost_end (results_none rfl _ _ _) rfl ?_
    obtain ⟨up', rk', ins', q, hle⟩ := HB1.out _ rfl
    rw [hW1'.out] at q
    have hk := HK2.out _ rfl
    rw [hW1'.out] at hk
    exact ⟨rfl, ⟨up', rk', ins', q.drew, hle⟩, hk.drew⟩
  | false =>
    go_enter Tryd.func57, Tryd.ntmps57
    go_wp2_with fail
    go_region
    go_wp2_with fail
    refine bodyPost_end (results_none rfl _ _ _) rfl ?_
    obtain ⟨up', rk', ins', q, hle⟩ := HB1.out _ rfl
    rw [hW1'.out] at q
    have hk := HK2.out _ rfl
    rw [hW1'.out] at hk
    exact ⟨rfl, ⟨up', rk', ins', q.drew, hle⟩, hk.drew⟩
end Go.Proofs.YtfhjfhbfgndheaaDoor
