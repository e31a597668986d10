/- The closed run of corollarylaw08.ModuleNames, put together of its stretches. -/
import Derived.Test.YtecmncaomlcanaaGreatCt
namespace Go.Proofs.YtecmncaomlcanaaGreat
open Go.RowKit
open Go Go.Xe
set_option maxRecDepth 10000000 in
theorem names_c (w : World) : Calls Tryz.prog 3 #[] w fun e w' => e = .returned (.bool true) ∧ Below w.heap.size w w' := by
  refine (run_closedS (A := tab) (S := cutsE tTop (noS)) (lp := 400) (d := 500) (p := fun v => match v with | .bool b => b | _ => false) tab_ok follows rfl (by kernel_rfl) w (cutsE_ok (tTop_ok noS_ok) noS_ok)).mono ?_
  rintro e w' ⟨v, V, e', rfl, hp, hv, hb⟩
  cases v <;> cases hp
  cases hv
  exact ⟨rfl, hb⟩
end Go.Proofs.YtecmncaomlcanaaGreat
