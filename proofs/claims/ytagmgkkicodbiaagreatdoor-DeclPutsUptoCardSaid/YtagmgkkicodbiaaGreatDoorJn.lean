/- The law on types put in the place of parameters. -/
import Derived.Test.YtagmgkkicodbiaaGreatDoorJm
import Derived.Test.YtagmgkkicodbiaaGreatDoorJa
namespace Go.Proofs.YtagmgkkicodbiaaGreatDoor
open Go.RowKit Go.Shelf
open Go
attribute [local go_sem] Oper.semAt_some

/-- A row of one. -/
theorem one_row {w : World} {B : Nat} {t : Ty} {n : ByteArray} {A : Option Addr} {al c : Nat} (h : TyRep w B t (.agg #[.string n, .slice A al c])) (hB : B ≤ w.heap.size) :
    LRep (w.alloc (.cells #[.string n, .slice A al c] 24)) (w.heap.size + 1) [t] (some ⟨w.heap.size, 0, none⟩) 1 := by
  have hb := Blk.new w 24 #[.string n, .slice A al c]
  have h2 := (h.under (w' := w.alloc (.cells #[.string n, .slice A al c] 24)) ((Below.refl _ _).alloc hB _)).more (B' := w.heap.size + 1) (by omega)
  unfold LRep
  refine Gd.Rep.seq_mk (Nat.le_refl _) (by decide) fun j hj => ?_
  have hj0 : j = 0 := by simpa [Ty.dL] using hj
  subst hj0
  refine ⟨w.heap.size, 0, [.string n, .slice A al c], rfl, by omega, rfl, ?_, fun i x hx => ?_⟩
  · have := h2.rep
    simpa [Ty.dL, Value.cells] using this
  · rw [hb.cell]
    simpa using hx
theorem size_bulk (t : Ty) : sizeT t ≤ Gd.bulk t.d := by
  induction t using Ty.ind with
  | h n a ih =>
    rw [sizeT, Ty.d, Gd.bulk, Gd.bulkL, Gd.bulkL, Gd.bulkL]
    have : sizeL a ≤ Gd.bulkL (Ty.dL a) := by
      induction a with
      | nil => exact Nat.zero_le _
      | cons x l ih2 =>
        rw [sizeL, Ty.dL, Gd.bulkL]
        have h1 := ih x (by simp)
        have h2 := ih2 fun t ht => ih t (by simp [ht])
        omega
    simp only [Gd.bulk]
    omega
theorem sizeL_bulk (l : List Ty) : sizeL l ≤ Gd.bulkL (Ty.dL l) := by
  induction l with
  | nil => exact Nat.zero_le _
  | cons x l ih => rw [sizeL, Ty.dL, Gd.bulkL]; have := size_bulk x; omega
/-- What stands in the place of names makes a type so much greater. -/
theorem subst_size (g : ByteArray → Option Ty) (K : Nat) (hK : 1 ≤ K) (hg : ∀ n t, g n = some t → sizeT t ≤ K) (t : Ty) : sizeT (substT g t) ≤ sizeT t * K := by
  induction t using Ty.ind with
  | h n a ih =>
    rw [substT]
    have hl : sizeL (substL g a) ≤ sizeL a * K := by
      induction a with
      | nil => simp [substL, sizeL]
      | cons x l ih2 =>
        rw [substL, sizeL, sizeL, Nat.add_mul]
        have h1 := ih x (by simp)
        have h2 := ih2 fun t ht => ih t (by simp [ht])
        omega
    rw [sizeT, Nat.add_mul]
    cases h : g n with
    | some t => simp only []; have := hg n t h; omega
    | none => simp only []; rw [sizeT]; omega
end Go.Proofs.YtagmgkkicodbiaaGreatDoor
