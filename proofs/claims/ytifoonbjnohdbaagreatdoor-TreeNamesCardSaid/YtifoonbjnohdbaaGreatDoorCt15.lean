/- Stretches of the run. -/
import Derived.Test.YtifoonbjnohdbaaGreatDoorCt0
import Derived.Test.YtifoonbjnohdbaaGreatDoorCt14
namespace Go.Proofs.YtifoonbjnohdbaaGreatDoor
open Go Go.Xe
set_option maxRecDepth 10000000
set_option linter.unusedVariables false
noncomputable def c14478 : Cut := ⟨7, 8097, [], [], .bool true, [], 9604⟩
noncomputable def t14478 : T Cut := (.node .leaf none (.node (.node (.node (.node (.node .leaf none (.node .leaf none (.node .leaf none (.node .leaf none (.node .leaf none (.node .leaf none (.node .leaf none (.node .leaf (some c14486) .leaf)))))))) none .leaf) none .leaf) none .leaf) none .leaf))
theorem t14478_ok {B : Bs} (hS : KK B) : AllC (OO B) t14478 := (allC_node noneC allC_leaf (allC_node noneC (allC_node noneC (allC_node noneC (allC_node noneC (allC_node noneC allC_leaf (allC_node noneC allC_leaf (allC_node noneC allC_leaf (allC_node noneC allC_leaf (allC_node noneC allC_leaf (allC_node noneC allC_leaf (allC_node noneC allC_leaf (allC_node (someC (c14486_ok hS)) allC_leaf allC_leaf)))))))) allC_leaf) allC_leaf) allC_leaf) allC_leaf))
theorem c14478_ok {B : Bs} (hS : KK B) : OO B c14478 := mkC (t14478_ok hS) hS (by kernel_rfl)
end Go.Proofs.YtifoonbjnohdbaaGreatDoor
