/- A tree of names (api.Type): a name, and trees behind it; as a datum, in memory. -/
import Derived.Test.YtfhjfhbfgndheaaDoorDb
namespace Go.Proofs.YtfhjfhbfgndheaaDoor
open Go.RowKit
open Go

/-- A type: its name, its arguments. -/
inductive Ty
  | mk (n : ByteArray) (a : List Ty)
namespace Ty
def name : Ty → ByteArray | .mk n _ => n
def args : Ty → List Ty | .mk _ a => a
theorem ind {P : Ty → Prop} (h : ∀ n a, (∀ t ∈ a, P t) → P (.mk n a)) (t : Ty) : P t :=
  Ty.rec (motive_1 := P) (motive_2 := fun l => ∀ t ∈ l, P t) (fun n a ih => h n a ih) (fun _ ht => absurd ht (by simp))
    (fun v l hv hl t ht => by
      rcases List.mem_cons.1 ht with e | e
      · rw [e]; exact hv
      · exact hl t e) t
mutual
def d : Ty → Gd.D
  | .mk n a => .tup [.str n, .seq 2 (dL a)]
def dL : List Ty → List Gd.D
  | [] => []
  | t :: l => d t :: dL l
end
theorem dL_map : ∀ l : List Ty, dL l = l.map d
  | [] => rfl
  | t :: l => by rw [dL, dL_map l]; rfl
theorem dL_len (l : List Ty) : (dL l).length = l.length := by rw [dL_map]; simp
theorem dL_at (l : List Ty) (j : Nat) (h : j < l.length) : (dL l)[j]'(by rw [dL_len]; exact h) = d l[j] := by simp [dL_map]
/-- A datum of the type is a tree's. -/
theorem of_D {P : Program} {tT tS tL : TypeId} {f0 f1 : Field} (hT : P.underlying tT = some (.struct #[f0, f1])) (e0 : f0.type = tS) (e1 : f1.type = tL) (hS : P.underlying tS = some .string) (hL : P.underlying tL = some (.slice tT)) (hc : P.cellsOf tT = 2) (x : Gd.D) :
    Gd.Of P tT x → ∃ t : Ty, x = t.d := by
  have key : ∀ x : Gd.D, (∀ n (l : List Gd.D), x = .tup [.str n, .seq 2 l] → ∀ y ∈ l, Gd.Of P tT y → ∃ t : Ty, y = t.d) → Gd.Of P tT x → ∃ t : Ty, x = t.d := fun x hx ho => by
    obtain ⟨l, rfl, hl, hel⟩ := ho.tup_ hT
    match l, hl with
    | [a, b], _ =>
      have h0 := hel 0 (by simp) (by simp)
      have h1 := hel 1 (by simp) (by simp)
      simp only [List.getElem_toArray, List.getElem_cons_zero, List.getElem_cons_succ, e0, e1] at h0 h1
      obtain ⟨n, rfl⟩ := h0.str_ hS
      obtain ⟨r, rfl, hr⟩ := h1.seq_ hL
      rw [hc] at hx ⊢
      have hall : ∀ r' : List Gd.D, (∀ y ∈ r', ∃ t : Ty, y = t.d) → ∃ a : List Ty, r' = dL a := fun r' => by
        induction r' with
        | nil => exact fun _ => ⟨[], rfl⟩
        | cons y r' ih =>
          intro h
          obtain ⟨t, rfl⟩ := h y (by simp)
          obtain ⟨a, rfl⟩ := ih fun z hz => h z (by simp [hz])
          exact ⟨t :: a, rfl⟩
      obtain ⟨a, rfl⟩ := hall r fun y hy => hx n r rfl y hy (hr y hy)
      exact ⟨.mk n a, rfl⟩
  -- by the size of the datum
  have main : ∀ (k : Nat) (x : Gd.D), Gd.bulk x ≤ k → Gd.Of P tT x → ∃ t : Ty, x = t.d := fun k => by
    induction k with
    | zero => intro x h; have := Gd.bulk_pos x; omega
    | succ k ih =>
      intro x h
      refine key x fun n l e y hy => ih y ?_
      subst e
      have := Gd.mem_bulkL hy
      simp only [Gd.bulk, Gd.bulkL] at h
      omega
  exact main _ x (Nat.le_refl _)
end Ty

/-- A row of trees, in the world. -/
def LRep (w : World) (B : Nat) (l : List Ty) (A : Option Addr) (c : Nat) : Prop := Gd.Rep w B (.seq 2 (Ty.dL l)) [.slice A l.length c]
/-- A tree, as a struct's cells. -/
def TyRep (w : World) (B : Nat) (t : Ty) (u : Value) : Prop := ∃ A c, u = .agg #[.string t.name, .slice A t.args.length c] ∧ t.name.size ≤ maxLen ∧ LRep w B t.args A c
theorem LRep.len {w : World} {B : Nat} {l : List Ty} {A : Option Addr} {c : Nat} (h : LRep w B l A c) : l.length ≤ c ∧ c ≤ maxLen := by
  obtain ⟨A', c', e, h1, h2, _⟩ := Gd.Rep.seq_ h
  injection e with e
  injection e with e1 e2 e3
  subst e3
  rw [Ty.dL_len] at h1
  exact ⟨h1, h2⟩
theorem LRep.under {w w' : World} {B : Nat} {l : List Ty} {A : Option Addr} {c : Nat} (h : LRep w B l A c) (hb : Below B w w') : LRep w' B l A c := Gd.Rep.under h hb
theorem LRep.more {w : World} {B B' : Nat} {l : List Ty} {A : Option Addr} {c : Nat} (h : LRep w B l A c) (hb : B ≤ B') : LRep w B' l A c := Gd.Rep.more h hb
theorem LRep.nil {w : World} {B : Nat} {A : Option Addr} {c : Nat} (hm : c ≤ maxLen) : LRep w B [] A c := Gd.Rep.seq_mk (ds := []) (Nat.zero_le _) hm fun j hj => by simp at hj
theorem TyRep.under {w w' : World} {B : Nat} {t : Ty} {u : Value} (h : TyRep w B t u) (hb : Below B w w') : TyRep w' B t u := by
  obtain ⟨A, c, h1, h2, h3⟩ := h
  exact ⟨A, c, h1, h2, h3.under hb⟩
theorem TyRep.more {w : World} {B B' : Nat} {t : Ty} {u : Value} (h : TyRep w B t u) (hb : B ≤ B') : TyRep w B' t u := by
  obtain ⟨A, c, h1, h2, h3⟩ := h
  exact ⟨A, c, h1, h2, h3.more hb⟩
/-- A tree's datum lies in a struct's cells. -/
theorem ty_rep {w : World} {B : Nat} {t : Ty} {cs : List Value} (h : Gd.Rep w B t.d cs) : ∃ u, TyRep w B t u ∧ u.cells.toList = cs := by
  cases t with
  | mk n a =>
    rw [Ty.d] at h
    obtain ⟨c1, r1, rfl, h1, h2⟩ := h.cons_
    obtain ⟨c2, r2, rfl, h3, h4⟩ := h2.cons_
    obtain ⟨rfl, hn⟩ := h1.str_
    obtain rfl := h4.nil_
    obtain ⟨A, c, rfl, _⟩ := h3.seq_
    refine ⟨.agg #[.string n, .slice A a.length c], ⟨A, c, rfl, hn, ?_⟩, ?_⟩
    · unfold LRep
      rw [Ty.dL_len] at h3
      exact h3
    · rw [Ty.dL_len]; rfl
theorem TyRep.rep {w : World} {B : Nat} {t : Ty} {u : Value} (h : TyRep w B t u) : Gd.Rep w B t.d u.cells.toList := by
  obtain ⟨A, c, rfl, h2, h3⟩ := h
  cases t with
  | mk n a =>
    rw [Ty.d]
    exact .cons (c := [.string n]) (.str h2) (.cons (c := [.slice A a.length c]) h3 .nil)
/-- One of a row: its two cells, and that they are a tree's. -/
theorem LRep.at_ {w : World} {B : Nat} {l : List Ty} {A : Option Addr} {c j : Nat} (h : LRep w B l A c) (hj : j < l.length) :
    ∃ b off, A = some ⟨b, off, none⟩ ∧ b < B ∧ ∃ (n : ByteArray) (a : List Ty) (A' : Option Addr) (c' : Nat), l[j] = .mk n a ∧ n.size ≤ maxLen ∧ LRep w B a A' c' ∧
      w.cell? ⟨b, off + j * 2, none⟩ = some (.string n) ∧ w.cell? ⟨b, off + j * 2 + 1, none⟩ = some (.slice A' a.length c') := by
  obtain ⟨A', c', e, h1, h2, h3⟩ := Gd.Rep.seq_ h
  injection e with e
  injection e with e1 e2 e3
  subst e1
  obtain ⟨b, off, cs, q1, q2, q3, q4, q5⟩ := h3 j (by rw [Ty.dL_len]; exact hj)
  rw [Ty.dL_at l j hj] at q4
  obtain ⟨u, ⟨A2, c2, hu, hn, hr⟩, hcs⟩ := ty_rep q4
  subst hu
  obtain ⟨n, a, hna⟩ : ∃ n a, l[j] = .mk n a := by cases h : l[j] with | mk n a => exact ⟨n, a, rfl⟩
  rw [hna] at hn hr hcs
  refine ⟨b, off, q1, q2, n, a, A2, c2, hna, hn, hr, q5 0 _ (by rw [← hcs]; rfl), q5 1 _ (by rw [← hcs]; rfl)⟩
end Go.Proofs.YtfhjfhbfgndheaaDoor
