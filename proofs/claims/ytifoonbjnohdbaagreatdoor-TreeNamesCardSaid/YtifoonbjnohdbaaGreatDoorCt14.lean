/- Stretches of the run. -/
import Derived.Test.YtifoonbjnohdbaaGreatDoorCt0
import Derived.Test.YtifoonbjnohdbaaGreatDoorCt9
import Derived.Test.YtifoonbjnohdbaaGreatDoorCt13
namespace Go.Proofs.YtifoonbjnohdbaaGreatDoor
open Go Go.Xe
set_option maxRecDepth 10000000
set_option linter.unusedVariables false
noncomputable def c8085 : Cut := ⟨6, 6129, [.agg [.str [109], .nils, .nils, .nils, .slice 4830 0 256 257, .nils]], [(4830, o71)], .int .i64 (0), [(4830, o71)], 7678⟩
noncomputable def t8085 : T Cut := (.node (.node (.node .leaf none (.node (.node .leaf none (.node .leaf none (.node .leaf none (.node .leaf none (.node .leaf none (.node .leaf none (.node .leaf none (.node (.node .leaf (some c8092) .leaf) none .leaf)))))))) none .leaf)) none (.node .leaf none (.node .leaf none (.node .leaf none (.node .leaf none (.node .leaf none (.node .leaf none (.node (.node (.node (.node .leaf none (.node .leaf (some c9389) .leaf)) none .leaf) none .leaf) none .leaf)))))))) none .leaf)
theorem t8085_ok {B : Bs} (hS : KK B) : AllC (OO B) t8085 := (allC_node noneC (allC_node noneC (allC_node noneC allC_leaf (allC_node noneC (allC_node noneC allC_leaf (allC_node noneC allC_leaf (allC_node noneC allC_leaf (allC_node noneC allC_leaf (allC_node noneC allC_leaf (allC_node noneC allC_leaf (allC_node noneC allC_leaf (allC_node noneC (allC_node (someC (c8092_ok hS)) allC_leaf allC_leaf) allC_leaf)))))))) allC_leaf)) (allC_node noneC allC_leaf (allC_node noneC allC_leaf (allC_node noneC allC_leaf (allC_node noneC allC_leaf (allC_node noneC allC_leaf (allC_node noneC allC_leaf (allC_node noneC (allC_node noneC (allC_node noneC (allC_node noneC allC_leaf (allC_node (someC (c9389_ok hS)) allC_leaf allC_leaf)) allC_leaf) allC_leaf) allC_leaf)))))))) allC_leaf)
theorem c8085_ok {B : Bs} (hS : KK B) : OO B c8085 := mkC (t8085_ok hS) hS (by kernel_rfl)
noncomputable def c14005 : Cut := ⟨6, 7683, [.agg [.str [109], .nils, .nils, .nils, .nils, .slice 7682 0 1 1]], p3, .int .i64 (65), p3, 8011⟩
theorem c14005_ok {B : Bs} (hS : KK B) : OO B c14005 := mkC allC_leaf hS (by kernel_rfl)
noncomputable def c14343 : Cut := ⟨6, 8014, [.agg [.str [109], .nils, .nils, .nils, .slice 8013 0 1 1, .nils]], [(8011, o1), (8012, .row [.str [], .str []] 9), (8013, o77)], .int .i64 (4), [(8011, o1), (8012, .row [.str [], .str []] 9), (8013, o77)], 8056⟩
theorem c14343_ok {B : Bs} (hS : KK B) : OO B c14343 := mkC allC_leaf hS (by kernel_rfl)
noncomputable def c14418 : Cut := ⟨6, 8068, [.agg [.str [109], .nils, .nils, .nils, .nils, .slice 8067 0 1 1]], [(8067, o78)], .int .i64 (4), [(8067, o78)], 8085⟩
theorem c14418_ok {B : Bs} (hS : KK B) : OO B c14418 := mkC allC_leaf hS (by kernel_rfl)
noncomputable def c14456 : Cut := ⟨6, 8085, [.agg [.str [114, 101, 108], .nils, .nils, .nils, .nils, .nils]], [], .int .i64 (4), [], 8097⟩
theorem c14456_ok {B : Bs} (hS : KK B) : OO B c14456 := mkC allC_leaf hS (by kernel_rfl)
noncomputable def c14486 : Cut := ⟨6, 8160, [.agg [.str [103, 114, 97, 112, 104], .slice 8099 0 1 1, .slice 8112 0 1 1, .slice 8119 0 1 1, .slice 8137 0 1 1, .slice 8149 0 1 1]], p4, .int .i64 (0), p4, 8503⟩
theorem c14486_ok {B : Bs} (hS : KK B) : OO B c14486 := mkC allC_leaf hS (by kernel_rfl)
end Go.Proofs.YtifoonbjnohdbaaGreatDoor
