/- The law's walk, out of what a caller hands in. -/
import Derived.Test.YtagmgkkicodbiaaGreatDoorJz
namespace Go.Proofs.YtagmgkkicodbiaaGreatDoor
open Go.RowKit
open Go

theorem cells_two {v : Value} {x y : Value} (h : v.cells.toList = [x, y]) : v = .agg #[x, y] := by
  cases v with
  | agg cs => congr 1; exact Array.ext' h
  | _ => simp [Value.cells] at h
theorem ty_of (x : Gd.D) (h : Gd.Of Tryz.prog 24 x) : ∃ t : Ty, x = t.d :=
  Ty.of_D Tryz.underlying24 rfl rfl Tryz.underlying9 Tryz.underlying22 (by kernel_rfl) x h
theorem tys_of : ∀ (l : List Gd.D), (∀ x ∈ l, Gd.Of Tryz.prog 24 x) → ∃ a : List Ty, l = Ty.dL a
  | [], _ => ⟨[], rfl⟩
  | x :: l, h => by
    obtain ⟨t, rfl⟩ := ty_of x (h x (by simp))
    obtain ⟨a, rfl⟩ := tys_of l fun y hy => h y (by simp [hy])
    exact ⟨t :: a, rfl⟩
theorem strs_of : ∀ (l : List Gd.D), (∀ x ∈ l, Gd.Of Tryz.prog 9 x) → ∃ a : List ByteArray, l = a.map Gd.D.str
  | [], _ => ⟨[], rfl⟩
  | x :: l, h => by
    obtain ⟨s, rfl⟩ := (h x (by simp)).str_ Tryz.underlying9
    obtain ⟨a, rfl⟩ := strs_of l fun y hy => h y (by simp [hy])
    exact ⟨s :: a, rfl⟩
theorem puts_d {W : World} {n0 n1 n2 : Nat} {v0 : Value} {e0 : Gd.D} (of0 : Gd.Of Tryz.prog 24 e0) (rep0 : Gd.Rep W W.heap.size e0 v0.cells.toList) (bk0 : Gd.bulk e0 ≤ n0)
    {l1 : List Gd.D} {A1 : Option Addr} {c1 : Nat} (of1 : ∀ x ∈ l1, Gd.Of Tryz.prog 9 x) (rep1 : Gd.Rep W W.heap.size (.seq (Tryz.prog.cellsOf 9) l1) [.slice A1 l1.length c1]) (_ : Gd.bulkL l1 ≤ n1)
    {l2 : List Gd.D} {A2 : Option Addr} {c2 : Nat} (of2 : ∀ x ∈ l2, Gd.Of Tryz.prog 24 x) (rep2 : Gd.Rep W W.heap.size (.seq (Tryz.prog.cellsOf 24) l2) [.slice A2 l2.length c2]) (bk2 : Gd.bulkL l2 ≤ n2) (hbd : n0 + (n1 + n2) ≤ 1048576) :
    Calls Tryz.prog 3 #[v0, .slice A1 l1.length c1, .slice A2 l2.length c2] W fun e w' => e = .returned (.bool true) ∧ Below W.heap.size W w' := by
  have e1 : Tryz.prog.cellsOf 9 = 1 := by kernel_rfl
  have e2 : Tryz.prog.cellsOf 24 = 2 := by kernel_rfl
  rw [e1] at rep1
  rw [e2] at rep2
  obtain ⟨x, rfl⟩ := ty_of e0 of0
  obtain ⟨ps, rfl⟩ := strs_of l1 of1
  obtain ⟨l, rfl⟩ := tys_of l2 of2
  obtain ⟨u, hu, hcs⟩ := ty_rep rep0
  have hv : v0 = u := by
    obtain ⟨A, c, rfl, _⟩ := hu
    exact cells_two hcs.symm
  subst hv
  have hb1 := size_bulk x
  have hb2 := sizeL_bulk l
  obtain ⟨A1', c1', q1, q2, q3, q4⟩ := rep1.seq_
  injection q1 with q1
  injection q1 with q5 q6 q7
  subst q5
  subst q7
  have hS : SRep W W.heap.size ps A1 c1 := by
    refine ⟨by simpa using q2, q3, fun i hi => ?_⟩
    obtain ⟨b, off, e, r1, r2, r3, r4, r5⟩ := q4 i (by simpa using hi)
    have e0 : (ps.map Gd.D.str)[i]'(by simpa using hi) = .str ps[i] := by simp
    rw [e0] at r4
    obtain ⟨rfl, hn⟩ := r4.str_
    exact ⟨b, off, r1, r2, hn, by simpa using r5 0 _ rfl⟩
  have hL : LRep W W.heap.size l A2 c2 := by
    unfold LRep
    rw [Ty.dL_len] at rep2
    exact rep2
  rw [List.length_map, Ty.dL_len]
  exact puts_c x ps l v0 A1 A2 c1 c2 W hu hS hL (by omega) (by omega)
end Go.Proofs.YtagmgkkicodbiaaGreatDoor
