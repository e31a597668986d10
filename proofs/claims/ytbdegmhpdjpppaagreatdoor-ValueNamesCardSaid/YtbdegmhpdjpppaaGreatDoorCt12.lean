/- Stretches of the run. -/
import Derived.Test.YtbdegmhpdjpppaaGreatDoorCt0
namespace Go.Proofs.YtbdegmhpdjpppaaGreatDoor
open Go Go.Xe
set_option maxRecDepth 10000000
set_option linter.unusedVariables false
noncomputable def c16607 : Cut := ⟨10, 24977, [.agg [.int .u8 (3), .int .i64 (0), .str [55, 55, 55, 55, 55, 55, 55, 55, 55, 55, 55, 55, 55, 55, 55, 55, 55, 55, 55, 55, 55, 55, 55, 55, 55, 55, 55, 55, 55, 55, 55, 55, 55, 55, 55, 55, 55, 55, 55, 55, 55, 55, 55, 55, 55, 55, 55, 55, 55, 55, 55, 55, 55, 55, 55, 55, 55, 55, 55, 55, 55, 55, 55, 55, 55, 55, 55, 55, 55, 55, 55, 55, 55, 55, 55, 55, 55, 55, 55, 55, 55, 55, 55, 55, 55, 55, 55, 55, 55, 55, 55, 55, 55, 55, 55, 55, 55, 55, 55, 55, 55, 55, 55, 55, 55, 55, 55, 55, 55, 55, 55, 55, 55, 55, 55, 55, 55, 55, 55, 55, 55, 55, 55, 55, 55, 55, 55, 55, 55, 55, 55, 55, 55, 55, 55, 55, 55, 55, 55, 55, 55, 55, 55, 55, 55, 55, 55, 55, 55, 55, 55, 55, 55, 55, 55, 55, 55, 55, 55, 55, 55, 55, 55, 55, 55, 55, 55, 55, 55, 55, 55, 55, 55, 55, 55, 55, 55, 55, 55, 55, 55, 55, 55, 55, 55, 55, 55, 55, 55, 55, 55, 55, 55, 55, 55, 55, 55, 55, 55, 55, 55], .nils]], [], .int .i64 (40), [], 25001⟩
theorem c16607_ok {B : Bs} (hS : KK B) : OO B c16607 := mkC allC_leaf hS (by kernel_rfl)
noncomputable def c16626 : Cut := ⟨10, 25002, [.agg [.int .u8 (3), .int .i64 (0), .str [45, 48], .nils]], [], .int .i64 (4), [], 25021⟩
theorem c16626_ok {B : Bs} (hS : KK B) : OO B c16626 := mkC allC_leaf hS (by kernel_rfl)
noncomputable def c17219 : Cut := ⟨22, 25625, [.slice 24353 0 1 1, .func (.func 24) [] [.ptr 25609 0]], p1, .bool false, p1, 26380⟩
theorem c17219_ok {B : Bs} (hS : KK B) : OO B c17219 := mkC allC_leaf hS (by kernel_rfl)
noncomputable def c16892 : Cut := ⟨15, 25230, [.agg [.int .u8 (6), .int .i64 (0), .str [99], .slice 24395 0 1 1], .func (.func 16) [] []], p0, .bool false, p0, 26380⟩
noncomputable def t16892 : T Cut := (.node (.node .leaf none (.node (.node .leaf none (.node .leaf none (.node (.node (.node (.node (.node (.node .leaf none (.node (.node (.node .leaf none (.node .leaf (some c17219) .leaf)) none .leaf) none .leaf)) none .leaf) none .leaf) none .leaf) none .leaf) none .leaf))) none .leaf)) none .leaf)
theorem t16892_ok {B : Bs} (hS : KK B) : AllC (OO B) t16892 := (allC_node noneC (allC_node noneC allC_leaf (allC_node noneC (allC_node noneC allC_leaf (allC_node noneC allC_leaf (allC_node noneC (allC_node noneC (allC_node noneC (allC_node noneC (allC_node noneC (allC_node noneC allC_leaf (allC_node noneC (allC_node noneC (allC_node noneC allC_leaf (allC_node (someC (c17219_ok hS)) allC_leaf allC_leaf)) allC_leaf) allC_leaf)) allC_leaf) allC_leaf) allC_leaf) allC_leaf) allC_leaf))) allC_leaf)) allC_leaf)
theorem c16892_ok {B : Bs} (hS : KK B) : OO B c16892 := mkC (t16892_ok hS) hS (by kernel_rfl)
end Go.Proofs.YtbdegmhpdjpppaaGreatDoor
