/- What is known of errors.As, for the evaluator. -/
import Derived.Test.YtmjbembhikggkaaGreatDoorTab
import Derived.Test.YtmjbembhikggkaaGreatDoorKa
import Derived.Shelf.Abstract
namespace Go.Proofs.YtmjbembhikggkaaGreatDoor
open Go.RowKit Go.Shelf
open Go Go.Xe

noncomputable def asS : List AV → T AO → Nat → Option (AV × T AO × Nat)
  | [.nili, _], h, nx => some (.bool false, h, nx)
  | [.iface t (.agg [x, y, z]), .iface p (.ptr id off)], h, nx => match Nat.beq t 83, Nat.beq p 85 with
    | true, true => (aStore 0 h id off [x, y, z]).bind fun h' => some (.bool true, h', nx)
    | _, _ => none
  | _, _, _ => none
theorem as_enters : ∀ ays w, (callFunc 15 ays).run Tryz.prog w = .ok (.enter 15 ays) w := enters_of Tryz.func15 (by kernel_rfl) rfl
theorem below_alloc4 (w : World) (a b c d : Obj) : Below w.heap.size w ((((w.alloc a).alloc b).alloc c).alloc d) :=
  ((((Below.refl _ w).alloc (Nat.le_refl _) _).alloc (by simp) _).alloc (by simp; omega) _).alloc (by simp; omega) _
theorem as_ok (W : World) (hg : W.cell? ⟨0, 0, none⟩ = some (.iface 155 (.agg #[.pointer (some ⟨2, 79, none⟩)]))) : FOk tab Tryz.prog (baseOf W) 15 asS := by
  intro args h nx v h' nx' hv e w ARGS s ha
  unfold asS at hv
  split at hv
  · cases hv
    cases ha with
    | cons _ V1 _ _ r1 r2 =>
      cases r1
      cases r2 with
      | cons _ V2 _ _ r3 r4 =>
        cases r4
        refine (as_nil V2 w).mono ?_
        rintro E w' ⟨rfl, rfl⟩
        exact ⟨_, e, rfl, .bool false, s, Ste.refl⟩
  · rename_i t x y z p id off
    split at hv <;> (try (cases hv; done))
    rename_i ht hp
    obtain rfl : t = 83 := Nat.eq_of_beq_eq_true ht
    obtain rfl : p = 85 := Nat.eq_of_beq_eq_true hp
    obtain ⟨h1, hst, hv⟩ := Option.bind_eq_some_iff.1 hv
    cases hv
    cases ha with
    | cons _ V1 _ _ r1 r2 =>
      cases r1 with
      | iface _ _ U1 r1 =>
        cases r1 with
        | agg _ L r1 =>
          cases r1 with
          | cons _ X _ _ rx r1 =>
            cases r1 with
            | cons _ Y _ _ ry r1 =>
              cases r1 with
              | cons _ Z _ _ rz r1 =>
                cases r1
                cases r2 with
                | cons _ V2 _ _ r3 r4 =>
                  cases r4
                  cases r3 with
                  | iface _ _ U2 r3 =>
                    cases r3 with
                    | ptr _ _ b hb =>
                      have h00 : w.cell? ⟨0, 0, none⟩ = some (.iface 155 (.agg #[.pointer (some ⟨2, 79, none⟩)])) := by
                        have hlt : 0 < W.heap.size := by
                          rcases Nat.lt_or_ge 0 W.heap.size with h | h
                          · exact h
                          · simp [World.cell?, Array.getElem?_eq_none h] at hg
                        have := s.base.2.2.2 0 hlt
                        rw [← hg]
                        simp only [World.cell?]
                        rw [this]
                        rfl
                      obtain ⟨s4, st4⟩ := s.belowW (below_alloc4 w (.cells #[.pointer (some ⟨b, off, none⟩)] 85) (.cells #[.pointer (some ⟨2, 85, none⟩), .pointer (some ⟨w.heap.size, 0, none⟩), .int .u64 150] 123) (.cells #[.pointer (some ⟨2, 85, none⟩), .pointer (some ⟨w.heap.size, 0, none⟩), .int .u64 150] 123) (.cells #[X, Y, Z] 83))
                      obtain ⟨w', hrun, s5, st5⟩ := aStore_ok (P := Tryz.prog) s4 (show aStore tab.R h id off [x, y, z] = some h' from hst) hb (.cons _ _ _ _ rx (.cons _ _ _ _ ry (.cons _ _ _ _ rz .nil)))
                      refine (as_hit X Y Z ⟨b, off, none⟩ w w' h00 hrun).mono ?_
                      rintro E w'' ⟨rfl, rfl⟩
                      exact ⟨_, e, rfl, .bool true, s5, st4.trans st5⟩
  · cases hv
set_option maxRecDepth 10000000 in
theorem names_c (w : World) (hg : w.cell? ⟨0, 0, none⟩ = some (.iface 155 (.agg #[.pointer (some ⟨2, 79, none⟩)]))) :
    Calls Tryz.prog 3 #[] w fun e w' => e = .returned (.bool true) ∧ Below w.heap.size w w' := by
  refine (run_closedS (A := tab) (S := orS 15 asS noS) (lp := 100) (d := 200) (p := fun v => match v with | .bool b => b | _ => false) tab_ok (by kernel_rfl) rfl (by kernel_rfl) w (orS_ok as_enters (as_ok w hg) noS_ok)).mono ?_
  rintro e w' ⟨v, V, e', rfl, hp, hv, hb⟩
  cases v <;> cases hp
  cases hv
  exact ⟨rfl, hb⟩
end Go.Proofs.YtmjbembhikggkaaGreatDoor
