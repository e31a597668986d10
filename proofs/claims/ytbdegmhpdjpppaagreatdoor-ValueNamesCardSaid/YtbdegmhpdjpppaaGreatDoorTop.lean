/- The closed run of corollarylaw02.ValueNames, put together of its stretches. -/
import Derived.Test.YtbdegmhpdjpppaaGreatDoorCt
namespace Go.Proofs.YtbdegmhpdjpppaaGreatDoor
open Go.RowKit
open Go Go.Xe
set_option maxRecDepth 10000000 in
theorem names_c (w : World) (hT : Lib.TabIs Tryz.prog w "internal/strconv.uint64pow10" .u64 Lib.pow10Tab) : Calls Tryz.prog 3 #[] w fun e w' => e = .returned (.bool true) ∧ Below w.heap.size w w' := by
  refine (run_closedS (A := tab) (S := cutsE tTop (orS 65 ndS noS)) (lp := 400) (d := 500) (p := fun v => match v with | .bool b => b | _ => false) tab_ok follows rfl (by kernel_rfl) w (cutsE_ok (tTop_ok (orS_ok nd_enters (nd_ok w hT) noS_ok)) (orS_ok nd_enters (nd_ok w hT) noS_ok))).mono ?_
  rintro e w' ⟨v, V, e', rfl, hp, hv, hb⟩
  cases v <;> cases hp
  cases hv
  exact ⟨rfl, hb⟩
end Go.Proofs.YtbdegmhpdjpppaaGreatDoor
