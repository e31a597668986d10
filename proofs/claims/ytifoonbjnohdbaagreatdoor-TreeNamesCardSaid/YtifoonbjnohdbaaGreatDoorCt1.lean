/- Stretches of the run. -/
import Derived.Test.YtifoonbjnohdbaaGreatDoorCt0
namespace Go.Proofs.YtifoonbjnohdbaaGreatDoor
open Go Go.Xe
set_option maxRecDepth 10000000
set_option linter.unusedVariables false
noncomputable def c6 : Cut := ⟨5, 59, [.agg [.int .u8 (6), .int .i64 (0), .int .i64 (0), .str [43], .int .u8 (0), .int .i64 (0), .str [], .nils, .slice 6 0 2 2]], [(6, o0)], .tup [.str [40, 88, 32, 43, 32, 51, 41], .int .i64 (0)], [(6, o0)], 244⟩
theorem c6_ok {B : Bs} (hS : KK B) : OO B c6 := mkC allC_leaf hS (by kernel_rfl)
noncomputable def c96 : Cut := ⟨5, 245, [.agg [.int .u8 (6), .int .i64 (0), .int .i64 (0), .str [110, 111, 116], .int .u8 (0), .int .i64 (0), .str [], .nils, .slice 11 0 1 1]], [(11, o1)], .tup [.str [40, 110, 111, 116, 32, 88, 41], .int .i64 (0)], [(11, o1)], 337⟩
theorem c96_ok {B : Bs} (hS : KK B) : OO B c96 := mkC allC_leaf hS (by kernel_rfl)
noncomputable def c136 : Cut := ⟨5, 338, [.agg [.int .u8 (6), .int .i64 (0), .int .i64 (0), .str [110, 101, 103], .int .u8 (0), .int .i64 (0), .str [], .nils, .slice 16 0 1 1]], [(16, o2)], .tup [.str [110, 101, 103, 40, 51, 41], .int .i64 (0)], [(16, o2)], 489⟩
theorem c136_ok {B : Bs} (hS : KK B) : OO B c136 := mkC allC_leaf hS (by kernel_rfl)
noncomputable def c209 : Cut := ⟨5, 490, [.agg [.int .u8 (7), .int .i64 (0), .int .i64 (0), .str [102], .int .u8 (0), .int .i64 (0), .str [], .nils, .slice 20 0 1 1]], [(20, o2)], .tup [.str [40, 51, 41, 46, 102], .int .i64 (0)], [(20, o2)], 657⟩
theorem c209_ok {B : Bs} (hS : KK B) : OO B c209 := mkC allC_leaf hS (by kernel_rfl)
noncomputable def c289 : Cut := ⟨5, 658, [.agg [.int .u8 (7), .int .i64 (0), .int .i64 (0), .str [102], .int .u8 (0), .int .i64 (0), .str [], .nils, .slice 28 0 1 1]], [(26, o3), (28, o4)], .tup [.str [40, 88, 32, 43, 32, 89, 41, 46, 102], .int .i64 (0)], [(26, o3), (28, o4)], 824⟩
theorem c289_ok {B : Bs} (hS : KK B) : OO B c289 := mkC allC_leaf hS (by kernel_rfl)
noncomputable def c376 : Cut := ⟨5, 825, [.agg [.int .u8 (7), .int .i64 (0), .int .i64 (0), .str [102], .int .u8 (0), .int .i64 (0), .str [], .nils, .slice 35 0 1 1]], [(33, o1), (35, o5)], .tup [.str [40, 108, 101, 110, 40, 88, 41, 41, 46, 102], .int .i64 (0)], [(33, o1), (35, o5)], 963⟩
theorem c376_ok {B : Bs} (hS : KK B) : OO B c376 := mkC allC_leaf hS (by kernel_rfl)
noncomputable def c452 : Cut := ⟨5, 964, [.agg [.int .u8 (8), .int .i64 (0), .int .i64 (0), .str [], .int .u8 (0), .int .i64 (0), .str [], .nils, .slice 41 0 3 3]], [(41, o6)], .tup [.str [40, 105, 102, 32, 88, 32, 116, 104, 101, 110, 32, 89, 32, 101, 108, 115, 101, 32, 51, 41], .int .i64 (0)], [(41, o6)], 1196⟩
theorem c452_ok {B : Bs} (hS : KK B) : OO B c452 := mkC allC_leaf hS (by kernel_rfl)
noncomputable def c559 : Cut := ⟨5, 1197, [.agg [.int .u8 (4), .int .i64 (0), .int .i64 (0), .str [], .int .u8 (0), .int .i64 (0), .str [], .nils, .nils]], [], .tup [.str [40, 41], .int .i64 (0)], [], 1245⟩
theorem c559_ok {B : Bs} (hS : KK B) : OO B c559 := mkC allC_leaf hS (by kernel_rfl)
noncomputable def c580 : Cut := ⟨5, 1246, [.agg [.int .u8 (5), .int .i64 (0), .int .i64 (0), .str [109, 46, 99], .int .u8 (0), .int .i64 (0), .str [], .nils, .slice 47 0 1 1]], [(47, o1)], .tup [.str [109, 46, 99, 40, 88, 41], .int .i64 (0)], [(47, o1)], 1343⟩
theorem c580_ok {B : Bs} (hS : KK B) : OO B c580 := mkC allC_leaf hS (by kernel_rfl)
noncomputable def c715 : Cut := ⟨5, 1544, [.agg [.int .u8 (6), .int .i64 (0), .int .i64 (0), .str [43], .int .u8 (0), .int .i64 (0), .str [], .nils, .slice 1351 0 1 1]], [(1351, o1)], .tup [.str [], .int .i64 (4)], [(1351, o1)], 1582⟩
theorem c715_ok {B : Bs} (hS : KK B) : OO B c715 := mkC allC_leaf hS (by kernel_rfl)
noncomputable def c733 : Cut := ⟨5, 1583, [.agg [.int .u8 (6), .int .i64 (0), .int .i64 (0), .str [112, 108, 117, 115], .int .u8 (0), .int .i64 (0), .str [], .nils, .slice 1356 0 2 2]], [(1356, o3)], .tup [.str [], .int .i64 (4)], [(1356, o3)], 1626⟩
theorem c733_ok {B : Bs} (hS : KK B) : OO B c733 := mkC allC_leaf hS (by kernel_rfl)
noncomputable def c756 : Cut := ⟨5, 1627, [.agg [.int .u8 (5), .int .i64 (0), .int .i64 (0), .str [105, 102], .int .u8 (0), .int .i64 (0), .str [], .nils, .nils]], [], .tup [.str [], .int .i64 (4)], [], 1661⟩
theorem c756_ok {B : Bs} (hS : KK B) : OO B c756 := mkC allC_leaf hS (by kernel_rfl)
noncomputable def c782 : Cut := ⟨5, 1662, [.agg [.int .u8 (5), .int .i64 (0), .int .i64 (0), .str [88], .int .u8 (0), .int .i64 (0), .str [], .nils, .nils]], [], .tup [.str [], .int .i64 (4)], [], 1695⟩
theorem c782_ok {B : Bs} (hS : KK B) : OO B c782 := mkC allC_leaf hS (by kernel_rfl)
noncomputable def c802 : Cut := ⟨5, 1696, [.agg [.int .u8 (4), .int .i64 (0), .int .i64 (0), .str [], .int .u8 (0), .int .i64 (0), .str [], .nils, .slice 1361 0 1 1]], [(1361, o1)], .tup [.str [], .int .i64 (4)], [(1361, o1)], 1734⟩
theorem c802_ok {B : Bs} (hS : KK B) : OO B c802 := mkC allC_leaf hS (by kernel_rfl)
noncomputable def c821 : Cut := ⟨5, 1735, [.agg [.int .u8 (7), .int .i64 (0), .int .i64 (0), .str [102], .int .u8 (0), .int .i64 (0), .str [], .nils, .nils]], [], .tup [.str [], .int .i64 (4)], [], 1769⟩
theorem c821_ok {B : Bs} (hS : KK B) : OO B c821 := mkC allC_leaf hS (by kernel_rfl)
noncomputable def c842 : Cut := ⟨5, 1770, [.agg [.int .u8 (2), .int .i64 (0), .int .i64 (0), .str [88], .int .u8 (2), .int .i64 (3), .str [], .nils, .nils]], [], .tup [.str [], .int .i64 (4)], [], 1804⟩
theorem c842_ok {B : Bs} (hS : KK B) : OO B c842 := mkC allC_leaf hS (by kernel_rfl)
end Go.Proofs.YtifoonbjnohdbaaGreatDoor
