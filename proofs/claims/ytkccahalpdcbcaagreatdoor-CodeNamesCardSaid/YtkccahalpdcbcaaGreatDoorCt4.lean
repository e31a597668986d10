/- Stretches of the run. -/
import Derived.Test.YtkccahalpdcbcaaGreatDoorCt0
import Derived.Test.YtkccahalpdcbcaaGreatDoorCt3
namespace Go.Proofs.YtkccahalpdcbcaaGreatDoor
open Go Go.Xe
set_option maxRecDepth 10000000
set_option linter.unusedVariables false
noncomputable def c3181 : Cut := ⟨51, 3703, [.agg [.int .u8 (6), .int .i64 (0), .str [99], .slice 2066 0 1 1], .func (.func 52) [] []], p0, .bool false, p0, 4853⟩
noncomputable def t3181 : T Cut := (.node .leaf none (.node .leaf none (.node (.node (.node (.node (.node (.node (.node (.node (.node (.node (.node .leaf (some c3508) .leaf) none .leaf) none .leaf) none .leaf) none .leaf) none .leaf) none .leaf) none .leaf) none .leaf) none .leaf) none .leaf)))
theorem t3181_ok {B : Bs} (hS : KK B) : AllC (OO B) t3181 := (allC_node noneC allC_leaf (allC_node noneC allC_leaf (allC_node noneC (allC_node noneC (allC_node noneC (allC_node noneC (allC_node noneC (allC_node noneC (allC_node noneC (allC_node noneC (allC_node noneC (allC_node noneC (allC_node (someC (c3508_ok hS)) allC_leaf allC_leaf) allC_leaf) allC_leaf) allC_leaf) allC_leaf) allC_leaf) allC_leaf) allC_leaf) allC_leaf) allC_leaf) allC_leaf)))
theorem c3181_ok {B : Bs} (hS : KK B) : OO B c3181 := mkC (t3181_ok hS) hS (by kernel_rfl)
noncomputable def c4450 : Cut := ⟨33, 5113, [.agg [.int .u8 (6), .int .i64 (0), .str [99], .slice 2066 0 1 1], .nils], p0, .grow 7399 0 380 0, p1, 7400⟩
theorem c4450_ok {B : Bs} (hS : KK B) : OO B c4450 := mkC allC_leaf hS (by kernel_rfl)
end Go.Proofs.YtkccahalpdcbcaaGreatDoor
