/- Package unify: terms read; the order of two roots; a root leads to another. -/
import Derived.Test.YtfhjfhbfgndheaaDoorNe
namespace Go.Proofs.YtfhjfhbfgndheaaDoor
open Go.RowKit Go.Shelf Un
open Go
attribute [local go_sem] Oper.semAt_some

section
variable {B0 K : Nat} {F : Nat → Prop} {st : St} {up : List Nat} {rk : Nat → Nat} {ins : List Bool} {tv ov : Value} {mb kb g : Nat} {w w' : World}
/-- What a term reads as. -/
theorem BRx.term (h : BRx B0 F K st up rk ins tv ov mb kb w g) {j : Nat} (hj : j < st.ts.length) :
    ∃ (tb c : Nat) (A : Option Addr) (ca : Nat) (hi : j < ins.length), tv = .slice (some ⟨tb, 0, none⟩) st.ts.length c ∧ st.ts.length ≤ c ∧ c ≤ maxLen ∧ tb < w.heap.size ∧ F tb ∧
      w.cell? ⟨tb, j * 3, none⟩ = some (.string st.ts[j].1) ∧ w.cell? ⟨tb, j * 3 + 1, none⟩ = some (.slice A st.ts[j].2.length ca) ∧ w.cell? ⟨tb, j * 3 + 2, none⟩ = some (.bool ins[j]) ∧
      (∀ i, w.frozen? ⟨tb, i, none⟩ = false) ∧ st.ts[j].2.length ≤ ca ∧ ca ≤ maxLen ∧
      Gd.Lies (fun b => SF F g mb kb ov b ∧ tv.ownBlock ≠ some b) w (.seq 1 (st.ts[j].2.map numD)) [.slice A st.ts[j].2.length ca] := by
  have hi : j < ins.length := by rw [h.ins_.1]; exact hj
  have hjl : j < (termsD st.ts ins).length := by rw [termsD_len h.ins_.1]; exact hj
  obtain ⟨tb, c, cs, hv, h1, h2, h3, h4, hcl, h5, h6, h7, _⟩ := h.tsR.at_ hjl
  rw [termsD_len h.ins_.1] at hv h1
  rw [termsD_at hj hi] at h5
  have hr := h5.rep
  unfold termD at hr
  obtain ⟨c1, r1, rfl, p1, p2⟩ := hr.cons_
  obtain ⟨c2, r2, rfl, p3, p4⟩ := p2.cons_
  obtain ⟨c3, r3, rfl, p5, p6⟩ := p4.cons_
  obtain ⟨rfl, _⟩ := p1.str_
  obtain ⟨A, ca, rfl, q1, q2, _⟩ := p3.seq_
  obtain rfl := p5.bool_
  obtain rfl := p6.nil_
  rw [List.length_map] at q1
  refine ⟨tb, c, A, ca, hi, hv, h1, h2, h3, h4, by simpa using h6 0 _ rfl, ?_, by simpa using h6 2 _ rfl, h7, q1, q2, ?_⟩
  · have := h6 1 _ rfl
    rw [List.length_map] at this
    exact this
  · intro w2 hw
    have := h5 w2 hw
    unfold termD at this
    obtain ⟨d1, s1, e1, p1, p2⟩ := this.cons_
    obtain ⟨d2, s2, e2, p3, p4⟩ := p2.cons_
    obtain ⟨rfl, _⟩ := p1.str_
    obtain ⟨A', ca', rfl, _⟩ := p3.seq_
    rw [e2] at e1
    simp at e1
    obtain ⟨⟨rfl, rfl⟩, _⟩ := e1
    rw [List.length_map] at p3
    exact p3
end
/-- One of a term's arguments. -/
theorem arg_cell {w : World} {B : Nat} {A : Option Addr} {ca : Nat} {l : List Nat} (h : Gd.Rep w B (.seq 1 (l.map numD)) [.slice A l.length ca]) {i : Nat} (hi : i < l.length) : ∃ b off, A = some ⟨b, off, none⟩ ∧ b < B ∧ w.cell? ⟨b, off + i, none⟩ = some (.int .i64 (l[i] : Int)) := by
  obtain ⟨A', c', e, h1, h2, h3⟩ := h.seq_
  injection e with e
  injection e with e1 e2 e3
  subst e1
  obtain ⟨b, off, cs, q1, q2, q3, q4, q5⟩ := h3 i (by simpa using hi)
  simp only [List.getElem_map] at q4
  obtain ⟨rfl, _⟩ := q4.int_
  exact ⟨b, off, q1, q2, by simpa using q5 0 _ rfl⟩
/-- Which of two terms is ahead: not a variable, or the lesser one. -/
def ltBA (a b : ByteArray) : Bool := Op.bytesLess a.toList b.toList
def inOrd (ts : List Tm) (x y : Nat) (hx : x < ts.length) (hy : y < ts.length) : Nat × Nat := bif pfx ts[x].1 && (!pfx ts[y].1 || ltBA ts[y].1 ts[x].1) then (y, x) else (x, y)
end Go.Proofs.YtfhjfhbfgndheaaDoor
