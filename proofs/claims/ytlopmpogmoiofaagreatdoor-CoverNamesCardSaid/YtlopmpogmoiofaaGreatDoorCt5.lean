/- Stretches of the run. -/
import Derived.Test.YtlopmpogmoiofaaGreatDoorCt0
import Derived.Test.YtlopmpogmoiofaaGreatDoorCt4
namespace Go.Proofs.YtlopmpogmoiofaaGreatDoor
open Go Go.Xe
set_option maxRecDepth 10000000
set_option linter.unusedVariables false
noncomputable def c4289 : Cut := ⟨13, 12372, [], [], .bool true, [], 15482⟩
noncomputable def t4289 : T Cut := (.node (.node (.node (.node (.node .leaf none (.node (.node (.node .leaf none (.node (.node .leaf none (.node (.node (.node .leaf none (.node .leaf (some c4586) .leaf)) none .leaf) none .leaf)) none .leaf)) none .leaf) none .leaf)) none (.node (.node .leaf none (.node .leaf none (.node (.node (.node (.node .leaf none (.node (.node .leaf none (.node .leaf (some c4781) .leaf)) none .leaf)) none .leaf) none .leaf) none .leaf))) none .leaf)) none .leaf) none .leaf) none (.node (.node .leaf none (.node (.node (.node .leaf none (.node .leaf none (.node .leaf none (.node (.node (.node (.node .leaf none (.node .leaf none (.node .leaf (some c5291) .leaf))) none .leaf) none .leaf) none .leaf)))) none .leaf) none .leaf)) none .leaf))
theorem t4289_ok {B : Bs} (hS : KK B) : AllC (OO B) t4289 := (allC_node noneC (allC_node noneC (allC_node noneC (allC_node noneC (allC_node noneC allC_leaf (allC_node noneC (allC_node noneC (allC_node noneC allC_leaf (allC_node noneC (allC_node noneC allC_leaf (allC_node noneC (allC_node noneC (allC_node noneC allC_leaf (allC_node (someC (c4586_ok hS)) allC_leaf allC_leaf)) allC_leaf) allC_leaf)) allC_leaf)) allC_leaf) allC_leaf)) (allC_node noneC (allC_node noneC allC_leaf (allC_node noneC allC_leaf (allC_node noneC (allC_node noneC (allC_node noneC (allC_node noneC allC_leaf (allC_node noneC (allC_node noneC allC_leaf (allC_node (someC (c4781_ok hS)) allC_leaf allC_leaf)) allC_leaf)) allC_leaf) allC_leaf) allC_leaf))) allC_leaf)) allC_leaf) allC_leaf) (allC_node noneC (allC_node noneC allC_leaf (allC_node noneC (allC_node noneC (allC_node noneC allC_leaf (allC_node noneC allC_leaf (allC_node noneC allC_leaf (allC_node noneC (allC_node noneC (allC_node noneC (allC_node noneC allC_leaf (allC_node noneC allC_leaf (allC_node (someC (c5291_ok hS)) allC_leaf allC_leaf))) allC_leaf) allC_leaf) allC_leaf)))) allC_leaf) allC_leaf)) allC_leaf))
theorem c4289_ok {B : Bs} (hS : KK B) : OO B c4289 := mkC (t4289_ok hS) hS (by kernel_rfl)
end Go.Proofs.YtlopmpogmoiofaaGreatDoor
