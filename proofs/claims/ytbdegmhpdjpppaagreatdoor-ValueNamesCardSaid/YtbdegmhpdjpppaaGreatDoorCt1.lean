/- Stretches of the run. -/
import Derived.Test.YtbdegmhpdjpppaaGreatDoorCt0
namespace Go.Proofs.YtbdegmhpdjpppaaGreatDoor
open Go Go.Xe
set_option maxRecDepth 10000000
set_option linter.unusedVariables false
noncomputable def c21 : Cut := ⟨9, 35, [.agg [.int .u8 (1), .int .i64 (0), .str [], .nils], .agg [.int .u8 (1), .int .i64 (0), .str [], .nils]], [], .int .i64 (0), [], 96⟩
theorem c21_ok {B : Bs} (hS : KK B) : OO B c21 := mkC allC_leaf hS (by kernel_rfl)
noncomputable def c63 : Cut := ⟨9, 106, [.agg [.int .u8 (1), .int .i64 (0), .str [], .nils], .agg [.int .u8 (1), .int .i64 (1), .str [], .nils]], [], .int .i64 (-1), [], 167⟩
theorem c63_ok {B : Bs} (hS : KK B) : OO B c63 := mkC allC_leaf hS (by kernel_rfl)
noncomputable def c105 : Cut := ⟨9, 177, [.agg [.int .u8 (1), .int .i64 (0), .str [], .nils], .agg [.int .u8 (2), .int .i64 (-5), .str [], .nils]], [], .int .i64 (-1), [], 238⟩
theorem c105_ok {B : Bs} (hS : KK B) : OO B c105 := mkC allC_leaf hS (by kernel_rfl)
noncomputable def c147 : Cut := ⟨9, 248, [.agg [.int .u8 (1), .int .i64 (0), .str [], .nils], .agg [.int .u8 (2), .int .i64 (3), .str [], .nils]], [], .int .i64 (-1), [], 309⟩
theorem c147_ok {B : Bs} (hS : KK B) : OO B c147 := mkC allC_leaf hS (by kernel_rfl)
noncomputable def c189 : Cut := ⟨9, 319, [.agg [.int .u8 (1), .int .i64 (0), .str [], .nils], .agg [.int .u8 (3), .int .i64 (0), .str [45, 53], .nils]], [], .int .i64 (-1), [], 382⟩
theorem c189_ok {B : Bs} (hS : KK B) : OO B c189 := mkC allC_leaf hS (by kernel_rfl)
noncomputable def c239 : Cut := ⟨9, 392, [.agg [.int .u8 (1), .int .i64 (0), .str [], .nils], .agg [.int .u8 (3), .int .i64 (0), .str [51], .nils]], [], .int .i64 (-1), [], 455⟩
theorem c239_ok {B : Bs} (hS : KK B) : OO B c239 := mkC allC_leaf hS (by kernel_rfl)
noncomputable def c289 : Cut := ⟨9, 465, [.agg [.int .u8 (1), .int .i64 (0), .str [], .nils], .agg [.int .u8 (3), .int .i64 (0), .str [49, 48], .nils]], [], .int .i64 (-1), [], 528⟩
theorem c289_ok {B : Bs} (hS : KK B) : OO B c289 := mkC allC_leaf hS (by kernel_rfl)
noncomputable def c339 : Cut := ⟨9, 538, [.agg [.int .u8 (1), .int .i64 (0), .str [], .nils], .agg [.int .u8 (4), .int .i64 (0), .str [], .nils]], [], .int .i64 (-1), [], 599⟩
theorem c339_ok {B : Bs} (hS : KK B) : OO B c339 := mkC allC_leaf hS (by kernel_rfl)
noncomputable def c381 : Cut := ⟨9, 609, [.agg [.int .u8 (1), .int .i64 (0), .str [], .nils], .agg [.int .u8 (4), .int .i64 (0), .str [97], .nils]], [], .int .i64 (-1), [], 670⟩
theorem c381_ok {B : Bs} (hS : KK B) : OO B c381 := mkC allC_leaf hS (by kernel_rfl)
noncomputable def c423 : Cut := ⟨9, 680, [.agg [.int .u8 (1), .int .i64 (0), .str [], .nils], .agg [.int .u8 (5), .int .i64 (0), .str [], .nils]], [], .int .i64 (-1), [], 741⟩
theorem c423_ok {B : Bs} (hS : KK B) : OO B c423 := mkC allC_leaf hS (by kernel_rfl)
noncomputable def c465 : Cut := ⟨9, 751, [.agg [.int .u8 (1), .int .i64 (0), .str [], .nils], .agg [.int .u8 (5), .int .i64 (0), .str [], .slice 10 0 2 2]], [(10, o0)], .int .i64 (-1), [(10, o0)], 860⟩
theorem c465_ok {B : Bs} (hS : KK B) : OO B c465 := mkC allC_leaf hS (by kernel_rfl)
noncomputable def c535 : Cut := ⟨9, 870, [.agg [.int .u8 (1), .int .i64 (0), .str [], .nils], .agg [.int .u8 (5), .int .i64 (0), .str [], .slice 14 0 2 2]], [(14, o1)], .int .i64 (-1), [(14, o1)], 979⟩
theorem c535_ok {B : Bs} (hS : KK B) : OO B c535 := mkC allC_leaf hS (by kernel_rfl)
noncomputable def c605 : Cut := ⟨9, 989, [.agg [.int .u8 (1), .int .i64 (0), .str [], .nils], .agg [.int .u8 (6), .int .i64 (0), .str [99, 111, 110, 115], .slice 18 0 2 2]], [(18, o2)], .int .i64 (-1), [(18, o2)], 1100⟩
theorem c605_ok {B : Bs} (hS : KK B) : OO B c605 := mkC allC_leaf hS (by kernel_rfl)
noncomputable def c700 : Cut := ⟨9, 1110, [.agg [.int .u8 (1), .int .i64 (0), .str [], .nils], .agg [.int .u8 (6), .int .i64 (0), .str [99, 111, 110, 115], .slice 21 0 1 1]], [(21, o3)], .int .i64 (-1), [(21, o3)], 1196⟩
theorem c700_ok {B : Bs} (hS : KK B) : OO B c700 := mkC allC_leaf hS (by kernel_rfl)
noncomputable def c769 : Cut := ⟨9, 1206, [.agg [.int .u8 (1), .int .i64 (0), .str [], .nils], .agg [.int .u8 (6), .int .i64 (0), .str [110, 105, 108], .nils]], [], .int .i64 (-1), [], 1268⟩
theorem c769_ok {B : Bs} (hS : KK B) : OO B c769 := mkC allC_leaf hS (by kernel_rfl)
noncomputable def c823 : Cut := ⟨9, 1278, [.agg [.int .u8 (1), .int .i64 (0), .str [], .nils], .agg [.int .u8 (0), .int .i64 (0), .str [], .nils]], [], .int .i64 (-1), [], 1329⟩
theorem c823_ok {B : Bs} (hS : KK B) : OO B c823 := mkC allC_leaf hS (by kernel_rfl)
noncomputable def c852 : Cut := ⟨9, 1339, [.agg [.int .u8 (1), .int .i64 (1), .str [], .nils], .agg [.int .u8 (1), .int .i64 (0), .str [], .nils]], [], .int .i64 (1), [], 1400⟩
theorem c852_ok {B : Bs} (hS : KK B) : OO B c852 := mkC allC_leaf hS (by kernel_rfl)
noncomputable def c894 : Cut := ⟨9, 1410, [.agg [.int .u8 (1), .int .i64 (1), .str [], .nils], .agg [.int .u8 (1), .int .i64 (1), .str [], .nils]], [], .int .i64 (0), [], 1471⟩
theorem c894_ok {B : Bs} (hS : KK B) : OO B c894 := mkC allC_leaf hS (by kernel_rfl)
noncomputable def c936 : Cut := ⟨9, 1481, [.agg [.int .u8 (1), .int .i64 (1), .str [], .nils], .agg [.int .u8 (2), .int .i64 (-5), .str [], .nils]], [], .int .i64 (-1), [], 1542⟩
theorem c936_ok {B : Bs} (hS : KK B) : OO B c936 := mkC allC_leaf hS (by kernel_rfl)
noncomputable def c978 : Cut := ⟨9, 1552, [.agg [.int .u8 (1), .int .i64 (1), .str [], .nils], .agg [.int .u8 (2), .int .i64 (3), .str [], .nils]], [], .int .i64 (-1), [], 1613⟩
theorem c978_ok {B : Bs} (hS : KK B) : OO B c978 := mkC allC_leaf hS (by kernel_rfl)
noncomputable def c1020 : Cut := ⟨9, 1623, [.agg [.int .u8 (1), .int .i64 (1), .str [], .nils], .agg [.int .u8 (3), .int .i64 (0), .str [45, 53], .nils]], [], .int .i64 (-1), [], 1686⟩
theorem c1020_ok {B : Bs} (hS : KK B) : OO B c1020 := mkC allC_leaf hS (by kernel_rfl)
noncomputable def c1070 : Cut := ⟨9, 1696, [.agg [.int .u8 (1), .int .i64 (1), .str [], .nils], .agg [.int .u8 (3), .int .i64 (0), .str [51], .nils]], [], .int .i64 (-1), [], 1759⟩
theorem c1070_ok {B : Bs} (hS : KK B) : OO B c1070 := mkC allC_leaf hS (by kernel_rfl)
noncomputable def c1120 : Cut := ⟨9, 1769, [.agg [.int .u8 (1), .int .i64 (1), .str [], .nils], .agg [.int .u8 (3), .int .i64 (0), .str [49, 48], .nils]], [], .int .i64 (-1), [], 1832⟩
theorem c1120_ok {B : Bs} (hS : KK B) : OO B c1120 := mkC allC_leaf hS (by kernel_rfl)
noncomputable def c1170 : Cut := ⟨9, 1842, [.agg [.int .u8 (1), .int .i64 (1), .str [], .nils], .agg [.int .u8 (4), .int .i64 (0), .str [], .nils]], [], .int .i64 (-1), [], 1903⟩
theorem c1170_ok {B : Bs} (hS : KK B) : OO B c1170 := mkC allC_leaf hS (by kernel_rfl)
noncomputable def c1212 : Cut := ⟨9, 1913, [.agg [.int .u8 (1), .int .i64 (1), .str [], .nils], .agg [.int .u8 (4), .int .i64 (0), .str [97], .nils]], [], .int .i64 (-1), [], 1974⟩
theorem c1212_ok {B : Bs} (hS : KK B) : OO B c1212 := mkC allC_leaf hS (by kernel_rfl)
noncomputable def c1254 : Cut := ⟨9, 1984, [.agg [.int .u8 (1), .int .i64 (1), .str [], .nils], .agg [.int .u8 (5), .int .i64 (0), .str [], .nils]], [], .int .i64 (-1), [], 2045⟩
theorem c1254_ok {B : Bs} (hS : KK B) : OO B c1254 := mkC allC_leaf hS (by kernel_rfl)
noncomputable def c1296 : Cut := ⟨9, 2055, [.agg [.int .u8 (1), .int .i64 (1), .str [], .nils], .agg [.int .u8 (5), .int .i64 (0), .str [], .slice 10 0 2 2]], [(10, o0)], .int .i64 (-1), [(10, o0)], 2164⟩
theorem c1296_ok {B : Bs} (hS : KK B) : OO B c1296 := mkC allC_leaf hS (by kernel_rfl)
noncomputable def c1366 : Cut := ⟨9, 2174, [.agg [.int .u8 (1), .int .i64 (1), .str [], .nils], .agg [.int .u8 (5), .int .i64 (0), .str [], .slice 14 0 2 2]], [(14, o1)], .int .i64 (-1), [(14, o1)], 2283⟩
theorem c1366_ok {B : Bs} (hS : KK B) : OO B c1366 := mkC allC_leaf hS (by kernel_rfl)
noncomputable def c1436 : Cut := ⟨9, 2293, [.agg [.int .u8 (1), .int .i64 (1), .str [], .nils], .agg [.int .u8 (6), .int .i64 (0), .str [99, 111, 110, 115], .slice 18 0 2 2]], [(18, o2)], .int .i64 (-1), [(18, o2)], 2404⟩
theorem c1436_ok {B : Bs} (hS : KK B) : OO B c1436 := mkC allC_leaf hS (by kernel_rfl)
noncomputable def c1531 : Cut := ⟨9, 2414, [.agg [.int .u8 (1), .int .i64 (1), .str [], .nils], .agg [.int .u8 (6), .int .i64 (0), .str [99, 111, 110, 115], .slice 21 0 1 1]], [(21, o3)], .int .i64 (-1), [(21, o3)], 2500⟩
theorem c1531_ok {B : Bs} (hS : KK B) : OO B c1531 := mkC allC_leaf hS (by kernel_rfl)
noncomputable def c1600 : Cut := ⟨9, 2510, [.agg [.int .u8 (1), .int .i64 (1), .str [], .nils], .agg [.int .u8 (6), .int .i64 (0), .str [110, 105, 108], .nils]], [], .int .i64 (-1), [], 2572⟩
theorem c1600_ok {B : Bs} (hS : KK B) : OO B c1600 := mkC allC_leaf hS (by kernel_rfl)
noncomputable def c1654 : Cut := ⟨9, 2582, [.agg [.int .u8 (1), .int .i64 (1), .str [], .nils], .agg [.int .u8 (0), .int .i64 (0), .str [], .nils]], [], .int .i64 (-1), [], 2633⟩
theorem c1654_ok {B : Bs} (hS : KK B) : OO B c1654 := mkC allC_leaf hS (by kernel_rfl)
end Go.Proofs.YtbdegmhpdjpppaaGreatDoor
