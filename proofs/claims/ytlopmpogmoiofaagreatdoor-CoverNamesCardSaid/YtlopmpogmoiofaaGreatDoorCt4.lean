/- Stretches of the run. -/
import Derived.Test.YtlopmpogmoiofaaGreatDoorCt0
namespace Go.Proofs.YtlopmpogmoiofaaGreatDoor
open Go Go.Xe
set_option maxRecDepth 10000000
set_option linter.unusedVariables false
noncomputable def c4000 : Cut := ⟨10, 11793, [.ptr 14 0, .slice 614 0 1 1, .slice 11792 0 1 1], p4, .tup [.bool false, .int .i64 (74)], p4, 12230⟩
theorem c4000_ok {B : Bs} (hS : KK B) : OO B c4000 := mkC allC_leaf hS (by kernel_rfl)
noncomputable def c4586 : Cut := ⟨26, 12943, [.slice 12942 0 1 1], [(12938, .row [.str [39, 97]] 9), (12939, .row [.str [39, 97], .nils] 56), (12940, o35), (12941, o36), (12942, o37)], .tup [.ptr 12949 0, .ptr 13306 0, .bool true], [(12938, .row [.str [39, 97]] 9), (12939, .row [.str [39, 97], .nils] 56), (12940, o35), (12941, o36), (12942, o37), (12946, o38), (12947, o4), (12948, .map [] 0), (12949, o39), (13050, o5), (13190, .row [.str [39, 97]] 9), (13191, .row [.str [110, 105, 108], .nils, .str [99, 111, 110, 115], .slice 13198 0 2 2] 75), (13198, .row [.str [], .str [39, 97], .nils, .str [], .str [108, 105, 115, 116], .slice 13247 0 1 1] 77), (13247, .row [.str [39, 97], .nils] 56), (13306, .row [.str [], .nils, .slice 12942 0 1 1, .nils, .nils, .nils] 222)], 13409⟩
theorem c4586_ok {B : Bs} (hS : KK B) : OO B c4586 := mkC allC_leaf hS (by kernel_rfl)
noncomputable def c4781 : Cut := ⟨10, 13415, [.ptr 12949 0, .slice 13411 0 1 1, .slice 13414 0 2 2], p5, .tup [.bool true, .int .i64 (0)], p5, 14561⟩
theorem c4781_ok {B : Bs} (hS : KK B) : OO B c4781 := mkC allC_leaf hS (by kernel_rfl)
noncomputable def c5291 : Cut := ⟨10, 14564, [.ptr 12949 0, .slice 14561 0 1 1, .slice 14563 0 1 1], p6, .tup [.bool false, .int .i64 (0)], p6, 15186⟩
theorem c5291_ok {B : Bs} (hS : KK B) : OO B c5291 := mkC allC_leaf hS (by kernel_rfl)
end Go.Proofs.YtlopmpogmoiofaaGreatDoor
