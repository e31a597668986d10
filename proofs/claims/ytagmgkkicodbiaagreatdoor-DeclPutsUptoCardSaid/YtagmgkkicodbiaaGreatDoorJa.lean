/- The example that the laws of layer 10 ask comes to true. -/
import Derived.Test.YtagmgkkicodbiaaGreatDoorTab
namespace Go.Proofs.YtagmgkkicodbiaaGreatDoor
open Go.RowKit
open Go Go.Xe
set_option maxRecDepth 10000000 in
theorem awake_c (w : World) : Calls Tryz.prog 5 #[] w fun e w' => e = .returned (.bool true) ∧ Below w.heap.size w w' := by
  refine (run_closed (A := tab) (lp := 100) (d := 200) (p := fun v => match v with | .bool b => b | _ => false) tab_ok (by kernel_rfl) rfl (by kernel_rfl) w).mono ?_
  rintro e w' ⟨v, V, e', rfl, hp, hv, hb⟩
  cases v <;> cases hp
  cases hv
  exact ⟨rfl, hb⟩
end Go.Proofs.YtagmgkkicodbiaaGreatDoor
