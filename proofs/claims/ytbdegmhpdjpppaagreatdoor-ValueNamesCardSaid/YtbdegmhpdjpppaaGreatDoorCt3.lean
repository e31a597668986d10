/- Stretches of the run. -/
import Derived.Test.YtbdegmhpdjpppaaGreatDoorCt0
namespace Go.Proofs.YtbdegmhpdjpppaaGreatDoor
open Go Go.Xe
set_option maxRecDepth 10000000
set_option linter.unusedVariables false
noncomputable def c3345 : Cut := ⟨9, 5251, [.agg [.int .u8 (3), .int .i64 (0), .str [45, 53], .nils], .agg [.int .u8 (1), .int .i64 (0), .str [], .nils]], [], .int .i64 (1), [], 5314⟩
theorem c3345_ok {B : Bs} (hS : KK B) : OO B c3345 := mkC allC_leaf hS (by kernel_rfl)
noncomputable def c3395 : Cut := ⟨9, 5324, [.agg [.int .u8 (3), .int .i64 (0), .str [45, 53], .nils], .agg [.int .u8 (1), .int .i64 (1), .str [], .nils]], [], .int .i64 (1), [], 5387⟩
theorem c3395_ok {B : Bs} (hS : KK B) : OO B c3395 := mkC allC_leaf hS (by kernel_rfl)
noncomputable def c3445 : Cut := ⟨9, 5397, [.agg [.int .u8 (3), .int .i64 (0), .str [45, 53], .nils], .agg [.int .u8 (2), .int .i64 (-5), .str [], .nils]], [], .int .i64 (1), [], 5460⟩
theorem c3445_ok {B : Bs} (hS : KK B) : OO B c3445 := mkC allC_leaf hS (by kernel_rfl)
noncomputable def c3495 : Cut := ⟨9, 5470, [.agg [.int .u8 (3), .int .i64 (0), .str [45, 53], .nils], .agg [.int .u8 (2), .int .i64 (3), .str [], .nils]], [], .int .i64 (1), [], 5533⟩
theorem c3495_ok {B : Bs} (hS : KK B) : OO B c3495 := mkC allC_leaf hS (by kernel_rfl)
noncomputable def c3545 : Cut := ⟨9, 5543, [.agg [.int .u8 (3), .int .i64 (0), .str [45, 53], .nils], .agg [.int .u8 (3), .int .i64 (0), .str [45, 53], .nils]], [], .int .i64 (0), [], 5641⟩
theorem c3545_ok {B : Bs} (hS : KK B) : OO B c3545 := mkC allC_leaf hS (by kernel_rfl)
noncomputable def c3630 : Cut := ⟨9, 5651, [.agg [.int .u8 (3), .int .i64 (0), .str [45, 53], .nils], .agg [.int .u8 (3), .int .i64 (0), .str [51], .nils]], [], .int .i64 (-1), [], 5745⟩
theorem c3630_ok {B : Bs} (hS : KK B) : OO B c3630 := mkC allC_leaf hS (by kernel_rfl)
noncomputable def c3712 : Cut := ⟨9, 5755, [.agg [.int .u8 (3), .int .i64 (0), .str [45, 53], .nils], .agg [.int .u8 (3), .int .i64 (0), .str [49, 48], .nils]], [], .int .i64 (-1), [], 5849⟩
theorem c3712_ok {B : Bs} (hS : KK B) : OO B c3712 := mkC allC_leaf hS (by kernel_rfl)
noncomputable def c3794 : Cut := ⟨9, 5859, [.agg [.int .u8 (3), .int .i64 (0), .str [45, 53], .nils], .agg [.int .u8 (4), .int .i64 (0), .str [], .nils]], [], .int .i64 (-1), [], 5922⟩
theorem c3794_ok {B : Bs} (hS : KK B) : OO B c3794 := mkC allC_leaf hS (by kernel_rfl)
noncomputable def c3844 : Cut := ⟨9, 5932, [.agg [.int .u8 (3), .int .i64 (0), .str [45, 53], .nils], .agg [.int .u8 (4), .int .i64 (0), .str [97], .nils]], [], .int .i64 (-1), [], 5995⟩
theorem c3844_ok {B : Bs} (hS : KK B) : OO B c3844 := mkC allC_leaf hS (by kernel_rfl)
noncomputable def c3894 : Cut := ⟨9, 6005, [.agg [.int .u8 (3), .int .i64 (0), .str [45, 53], .nils], .agg [.int .u8 (5), .int .i64 (0), .str [], .nils]], [], .int .i64 (-1), [], 6068⟩
theorem c3894_ok {B : Bs} (hS : KK B) : OO B c3894 := mkC allC_leaf hS (by kernel_rfl)
noncomputable def c3944 : Cut := ⟨9, 6078, [.agg [.int .u8 (3), .int .i64 (0), .str [45, 53], .nils], .agg [.int .u8 (5), .int .i64 (0), .str [], .slice 10 0 2 2]], [(10, o0)], .int .i64 (-1), [(10, o0)], 6189⟩
theorem c3944_ok {B : Bs} (hS : KK B) : OO B c3944 := mkC allC_leaf hS (by kernel_rfl)
noncomputable def c4022 : Cut := ⟨9, 6199, [.agg [.int .u8 (3), .int .i64 (0), .str [45, 53], .nils], .agg [.int .u8 (5), .int .i64 (0), .str [], .slice 14 0 2 2]], [(14, o1)], .int .i64 (-1), [(14, o1)], 6310⟩
theorem c4022_ok {B : Bs} (hS : KK B) : OO B c4022 := mkC allC_leaf hS (by kernel_rfl)
noncomputable def c4100 : Cut := ⟨9, 6320, [.agg [.int .u8 (3), .int .i64 (0), .str [45, 53], .nils], .agg [.int .u8 (6), .int .i64 (0), .str [99, 111, 110, 115], .slice 18 0 2 2]], [(18, o2)], .int .i64 (-1), [(18, o2)], 6433⟩
theorem c4100_ok {B : Bs} (hS : KK B) : OO B c4100 := mkC allC_leaf hS (by kernel_rfl)
noncomputable def c4203 : Cut := ⟨9, 6443, [.agg [.int .u8 (3), .int .i64 (0), .str [45, 53], .nils], .agg [.int .u8 (6), .int .i64 (0), .str [99, 111, 110, 115], .slice 21 0 1 1]], [(21, o3)], .int .i64 (-1), [(21, o3)], 6531⟩
theorem c4203_ok {B : Bs} (hS : KK B) : OO B c4203 := mkC allC_leaf hS (by kernel_rfl)
noncomputable def c4280 : Cut := ⟨9, 6541, [.agg [.int .u8 (3), .int .i64 (0), .str [45, 53], .nils], .agg [.int .u8 (6), .int .i64 (0), .str [110, 105, 108], .nils]], [], .int .i64 (-1), [], 6605⟩
theorem c4280_ok {B : Bs} (hS : KK B) : OO B c4280 := mkC allC_leaf hS (by kernel_rfl)
noncomputable def c4342 : Cut := ⟨9, 6615, [.agg [.int .u8 (3), .int .i64 (0), .str [45, 53], .nils], .agg [.int .u8 (0), .int .i64 (0), .str [], .nils]], [], .int .i64 (-1), [], 6668⟩
theorem c4342_ok {B : Bs} (hS : KK B) : OO B c4342 := mkC allC_leaf hS (by kernel_rfl)
noncomputable def c4379 : Cut := ⟨9, 6678, [.agg [.int .u8 (3), .int .i64 (0), .str [51], .nils], .agg [.int .u8 (1), .int .i64 (0), .str [], .nils]], [], .int .i64 (1), [], 6741⟩
theorem c4379_ok {B : Bs} (hS : KK B) : OO B c4379 := mkC allC_leaf hS (by kernel_rfl)
noncomputable def c4429 : Cut := ⟨9, 6751, [.agg [.int .u8 (3), .int .i64 (0), .str [51], .nils], .agg [.int .u8 (1), .int .i64 (1), .str [], .nils]], [], .int .i64 (1), [], 6814⟩
theorem c4429_ok {B : Bs} (hS : KK B) : OO B c4429 := mkC allC_leaf hS (by kernel_rfl)
noncomputable def c4479 : Cut := ⟨9, 6824, [.agg [.int .u8 (3), .int .i64 (0), .str [51], .nils], .agg [.int .u8 (2), .int .i64 (-5), .str [], .nils]], [], .int .i64 (1), [], 6887⟩
theorem c4479_ok {B : Bs} (hS : KK B) : OO B c4479 := mkC allC_leaf hS (by kernel_rfl)
noncomputable def c4529 : Cut := ⟨9, 6897, [.agg [.int .u8 (3), .int .i64 (0), .str [51], .nils], .agg [.int .u8 (2), .int .i64 (3), .str [], .nils]], [], .int .i64 (1), [], 6960⟩
theorem c4529_ok {B : Bs} (hS : KK B) : OO B c4529 := mkC allC_leaf hS (by kernel_rfl)
noncomputable def c4579 : Cut := ⟨9, 6970, [.agg [.int .u8 (3), .int .i64 (0), .str [51], .nils], .agg [.int .u8 (3), .int .i64 (0), .str [45, 53], .nils]], [], .int .i64 (1), [], 7064⟩
theorem c4579_ok {B : Bs} (hS : KK B) : OO B c4579 := mkC allC_leaf hS (by kernel_rfl)
noncomputable def c4661 : Cut := ⟨9, 7074, [.agg [.int .u8 (3), .int .i64 (0), .str [51], .nils], .agg [.int .u8 (3), .int .i64 (0), .str [51], .nils]], [], .int .i64 (0), [], 7172⟩
theorem c4661_ok {B : Bs} (hS : KK B) : OO B c4661 := mkC allC_leaf hS (by kernel_rfl)
noncomputable def c4746 : Cut := ⟨9, 7182, [.agg [.int .u8 (3), .int .i64 (0), .str [51], .nils], .agg [.int .u8 (3), .int .i64 (0), .str [49, 48], .nils]], [], .int .i64 (-1), [], 7280⟩
theorem c4746_ok {B : Bs} (hS : KK B) : OO B c4746 := mkC allC_leaf hS (by kernel_rfl)
end Go.Proofs.YtbdegmhpdjpppaaGreatDoor
