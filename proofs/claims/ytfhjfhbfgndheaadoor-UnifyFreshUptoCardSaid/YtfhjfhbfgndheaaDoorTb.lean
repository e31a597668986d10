/- Types in blocks that are named. -/
import Derived.Test.YtfhjfhbfgndheaaDoorTa
namespace Go.Proofs.YtfhjfhbfgndheaaDoor
open Go.RowKit
open Go

/-- A row of types, in blocks that meet N. -/
inductive LN (N : Nat → Prop) (w : World) : List Ty → Option Addr → Nat → Prop
  | mk {l : List Ty} {A : Option Addr} {c : Nat} (b off : Nat → Nat) (A' : Nat → Option Addr) (c' : Nat → Nat) (hc : l.length ≤ c) (hm : c ≤ maxLen)
      (hA : ∀ j (hj : j < l.length), A = some ⟨b j, off j, none⟩ ∧ N (b j) ∧ l[j].name.size ≤ maxLen ∧ w.cell? ⟨b j, off j + j * 2, none⟩ = some (.string l[j].name) ∧ w.cell? ⟨b j, off j + j * 2 + 1, none⟩ = some (.slice (A' j) l[j].args.length (c' j)))
      (hr : ∀ j (hj : j < l.length), LN N w l[j].args (A' j) (c' j)) : LN N w l A c
def TyN (N : Nat → Prop) (w : World) (t : Ty) (u : Value) : Prop := ∃ A c, u = .agg #[.string t.name, .slice A t.args.length c] ∧ t.name.size ≤ maxLen ∧ LN N w t.args A c
section
variable {N : Nat → Prop} {w w' : World} {l : List Ty} {A : Option Addr} {c : Nat}
theorem LN.len (h : LN N w l A c) : l.length ≤ c ∧ c ≤ maxLen := by cases h with | mk _ _ _ _ h1 h2 => exact ⟨h1, h2⟩
theorem LN.at_ (h : LN N w l A c) {j : Nat} (hj : j < l.length) : ∃ b off, A = some ⟨b, off, none⟩ ∧ N b ∧ ∃ (A' : Option Addr) (c' : Nat), l[j].name.size ≤ maxLen ∧ LN N w l[j].args A' c' ∧
    w.cell? ⟨b, off + j * 2, none⟩ = some (.string l[j].name) ∧ w.cell? ⟨b, off + j * 2 + 1, none⟩ = some (.slice A' l[j].args.length c') := by
  cases h with
  | mk b off A' c' _ _ hA hr =>
    obtain ⟨h1, h2, h3, h4, h5⟩ := hA j hj
    exact ⟨b j, off j, h1, h2, A' j, c' j, h3, hr j hj, h4, h5⟩
theorem cell_same {w w' : World} {b : Nat} (h : w'.heap[b]? = w.heap[b]?) (i : Nat) : w'.cell? ⟨b, i, none⟩ = w.cell? ⟨b, i, none⟩ := by
  simp only [World.cell?, h]
theorem LN.keep {N' : Nat → Prop} (h : LN N w l A c) (hb : ∀ b, N b → b < w.heap.size → w'.heap[b]? = w.heap[b]?) (hN : ∀ b, N b → N' b) : LN N' w' l A c := by
  induction h with
  | @mk l A c b off A' c' hc hm hA hr ih =>
    refine .mk b off A' c' hc hm (fun j hj => ?_) fun j hj => ih j hj
    obtain ⟨h1, h2, h3, h4, h5⟩ := hA j hj
    have hl := block_lt_of_cell h4
    exact ⟨h1, hN _ h2, h3, (cell_same (hb _ h2 hl) _).trans h4, (cell_same (hb _ h2 hl) _).trans h5⟩
theorem LN.rep {B : Nat} (h : LN N w l A c) (hN : ∀ b, N b → b < w.heap.size → b < B) : LRep w B l A c := by
  induction h with
  | @mk l A c b off A' c' hc hm hA hr ih =>
    unfold LRep
    have := Gd.Rep.seq_mk (w := w) (B := B) (sz := 2) (ds := Ty.dL l) (A := A) (c := c) (by rw [Ty.dL_len]; exact hc) hm fun j hj => by
      rw [Ty.dL_len] at hj
      obtain ⟨h1, h2, h3, h4, h5⟩ := hA j hj
      refine ⟨b j, off j, [.string l[j].name, .slice (A' j) l[j].args.length (c' j)], h1, hN _ h2 (block_lt_of_cell h4), rfl, ?_, fun i x hx => ?_⟩
      · rw [Ty.dL_at l j hj]
        have h6 := ih j hj
        have : TyRep w B l[j] (.agg #[.string l[j].name, .slice (A' j) l[j].args.length (c' j)]) := ⟨_, _, rfl, h3, h6⟩
        exact this.rep
      · match i, hx with
        | 0, hx => injection hx with hx; rw [← hx]; exact h4
        | 1, hx => injection hx with hx; rw [← hx]; exact h5
    rwa [Ty.dL_len] at this
theorem LN.of_rep {B : Nat} : ∀ (t : Ty) {A : Option Addr} {c : Nat}, LRep w B t.args A c → LN (fun b => b < B) w t.args A c := by
  intro t
  induction t using Ty.ind with
  | h n a ih =>
    intro A c h
    simp only [Ty.args] at h ⊢
    have hx : ∀ j (hj : j < a.length), ∃ (b off : Nat) (A' : Option Addr) (c' : Nat), A = some ⟨b, off, none⟩ ∧ b < B ∧ a[j].name.size ≤ maxLen ∧ LN (fun b => b < B) w a[j].args A' c' ∧
        w.cell? ⟨b, off + j * 2, none⟩ = some (.string a[j].name) ∧ w.cell? ⟨b, off + j * 2 + 1, none⟩ = some (.slice A' a[j].args.length c') := fun j hj => by
      obtain ⟨b, off, h1, h2, n, a', A', c', h3, h4, h5, h6, h7⟩ := h.at_ hj
      have hn : a[j].name = n := by rw [h3]; rfl
      have ha : a[j].args = a' := by rw [h3]; rfl
      exact ⟨b, off, A', c', h1, h2, hn ▸ h4, ih _ (List.getElem_mem hj) (ha ▸ h5), hn ▸ h6, ha ▸ h7⟩
    have hy : ∀ j, ∃ (p : Nat × Nat × Option Addr × Nat), ∀ hj : j < a.length, A = some ⟨p.1, p.2.1, none⟩ ∧ p.1 < B ∧ a[j].name.size ≤ maxLen ∧ LN (fun b => b < B) w a[j].args p.2.2.1 p.2.2.2 ∧
        w.cell? ⟨p.1, p.2.1 + j * 2, none⟩ = some (.string a[j].name) ∧ w.cell? ⟨p.1, p.2.1 + j * 2 + 1, none⟩ = some (.slice p.2.2.1 a[j].args.length p.2.2.2) := fun j => by
      by_cases hj : j < a.length
      · obtain ⟨b, off, A', c', q⟩ := hx j hj
        exact ⟨(b, off, A', c'), fun _ => q⟩
      · exact ⟨(0, 0, none, 0), fun h => absurd h hj⟩
    obtain ⟨p, hp⟩ := Classical.axiomOfChoice hy
    exact .mk (fun j => (p j).1) (fun j => (p j).2.1) (fun j => (p j).2.2.1) (fun j => (p j).2.2.2) h.len.1 h.len.2 (fun j hj => ⟨(hp j hj).1, (hp j hj).2.1, (hp j hj).2.2.1, (hp j hj).2.2.2.2.1, (hp j hj).2.2.2.2.2⟩) fun j hj => (hp j hj).2.2.2.1
theorem LN.of_list {B : Nat} (h : LRep w B l A c) : LN (fun b => b < B) w l A c := LN.of_rep (.mk ⟨#[]⟩ l) h
theorem LN.nil (hm : c ≤ maxLen) : LN N w [] A c := .mk (fun _ => 0) (fun _ => 0) (fun _ => none) (fun _ => 0) (Nat.zero_le _) hm (fun j hj => by simp at hj) fun j hj => by simp at hj
theorem TyN.keep {N' : Nat → Prop} {t : Ty} {u : Value} (h : TyN N w t u) (hb : ∀ b, N b → b < w.heap.size → w'.heap[b]? = w.heap[b]?) (hN : ∀ b, N b → N' b) : TyN N' w' t u := by
  obtain ⟨A, c, h1, h2, h3⟩ := h
  exact ⟨A, c, h1, h2, h3.keep hb hN⟩
theorem TyN.rep {B : Nat} {t : Ty} {u : Value} (h : TyN N w t u) (hN : ∀ b, N b → b < w.heap.size → b < B) : TyRep w B t u := by
  obtain ⟨A, c, h1, h2, h3⟩ := h
  exact ⟨A, c, h1, h2, h3.rep hN⟩
theorem TyN.of_rep {B : Nat} {t : Ty} {u : Value} (h : TyRep w B t u) : TyN (fun b => b < B) w t u := by
  obtain ⟨A, c, h1, h2, h3⟩ := h
  exact ⟨A, c, h1, h2, LN.of_list h3⟩
end
end Go.Proofs.YtfhjfhbfgndheaaDoor
