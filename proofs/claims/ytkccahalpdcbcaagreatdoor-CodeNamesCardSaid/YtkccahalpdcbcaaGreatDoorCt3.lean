/- Stretches of the run. -/
import Derived.Test.YtkccahalpdcbcaaGreatDoorCt0
import Derived.Test.YtkccahalpdcbcaaGreatDoorCt2
namespace Go.Proofs.YtkccahalpdcbcaaGreatDoor
open Go Go.Xe
set_option maxRecDepth 10000000
set_option linter.unusedVariables false
noncomputable def c1379 : Cut := ⟨18, 2078, [.ptr 2077 0], [(2076, o22), (2077, o23)], o12, [(2076, o22), (2077, .row [.nils, .bool true] 57)], 2858⟩
noncomputable def t1379 : T Cut := (.node .leaf none (.node .leaf none (.node (.node (.node (.node .leaf none (.node (.node (.node (.node (.node (.node .leaf (some c1383) .leaf) none .leaf) none .leaf) none .leaf) none .leaf) none .leaf)) none .leaf) none .leaf) none .leaf)))
theorem t1379_ok {B : Bs} (hS : KK B) : AllC (OO B) t1379 := (allC_node noneC allC_leaf (allC_node noneC allC_leaf (allC_node noneC (allC_node noneC (allC_node noneC (allC_node noneC allC_leaf (allC_node noneC (allC_node noneC (allC_node noneC (allC_node noneC (allC_node noneC (allC_node (someC (c1383_ok hS)) allC_leaf allC_leaf) allC_leaf) allC_leaf) allC_leaf) allC_leaf) allC_leaf)) allC_leaf) allC_leaf) allC_leaf)))
theorem c1379_ok {B : Bs} (hS : KK B) : OO B c1379 := mkC (t1379_ok hS) hS (by kernel_rfl)
noncomputable def c2547 : Cut := ⟨18, 2905, [.ptr 2904 0], [(2903, o57), (2904, .row [.grow 2903 0 53 0, .bool false] 57)], o12, [(2903, o57), (2904, .row [.nils, .bool true] 57)], 3434⟩
theorem c2547_ok {B : Bs} (hS : KK B) : OO B c2547 := mkC allC_leaf hS (by kernel_rfl)
noncomputable def c3508 : Cut := ⟨58, 4098, [.slice 1961 0 1 1, .func (.func 60) [] [.ptr 4082 0]], p2, .bool false, p2, 4853⟩
theorem c3508_ok {B : Bs} (hS : KK B) : OO B c3508 := mkC allC_leaf hS (by kernel_rfl)
end Go.Proofs.YtkccahalpdcbcaaGreatDoor
