/- Stretches of the run. -/
import Derived.Test.YtbdegmhpdjpppaaGreatDoorCt0
namespace Go.Proofs.YtbdegmhpdjpppaaGreatDoor
open Go Go.Xe
set_option maxRecDepth 10000000
set_option linter.unusedVariables false
noncomputable def c11217 : Cut := ⟨9, 17286, [.agg [.int .u8 (5), .int .i64 (0), .str [], .slice 14 0 2 2], .agg [.int .u8 (6), .int .i64 (0), .str [99, 111, 110, 115], .slice 18 0 2 2]], [(14, o1), (18, o2)], .int .i64 (-1), [(14, o1), (18, o2)], 17445⟩
theorem c11217_ok {B : Bs} (hS : KK B) : OO B c11217 := mkC allC_leaf hS (by kernel_rfl)
noncomputable def c11340 : Cut := ⟨9, 17455, [.agg [.int .u8 (5), .int .i64 (0), .str [], .slice 14 0 2 2], .agg [.int .u8 (6), .int .i64 (0), .str [99, 111, 110, 115], .slice 21 0 1 1]], [(14, o1), (21, o3)], .int .i64 (-1), [(14, o1), (21, o3)], 17589⟩
theorem c11340_ok {B : Bs} (hS : KK B) : OO B c11340 := mkC allC_leaf hS (by kernel_rfl)
noncomputable def c11437 : Cut := ⟨9, 17599, [.agg [.int .u8 (5), .int .i64 (0), .str [], .slice 14 0 2 2], .agg [.int .u8 (6), .int .i64 (0), .str [110, 105, 108], .nils]], [(14, o1)], .int .i64 (-1), [(14, o1)], 17709⟩
theorem c11437_ok {B : Bs} (hS : KK B) : OO B c11437 := mkC allC_leaf hS (by kernel_rfl)
noncomputable def c11519 : Cut := ⟨9, 17719, [.agg [.int .u8 (5), .int .i64 (0), .str [], .slice 14 0 2 2], .agg [.int .u8 (0), .int .i64 (0), .str [], .nils]], [(14, o1)], .int .i64 (-1), [(14, o1)], 17818⟩
theorem c11519_ok {B : Bs} (hS : KK B) : OO B c11519 := mkC allC_leaf hS (by kernel_rfl)
noncomputable def c11576 : Cut := ⟨9, 17828, [.agg [.int .u8 (6), .int .i64 (0), .str [99, 111, 110, 115], .slice 18 0 2 2], .agg [.int .u8 (1), .int .i64 (0), .str [], .nils]], [(18, o2)], .int .i64 (1), [(18, o2)], 17939⟩
theorem c11576_ok {B : Bs} (hS : KK B) : OO B c11576 := mkC allC_leaf hS (by kernel_rfl)
noncomputable def c11671 : Cut := ⟨9, 17949, [.agg [.int .u8 (6), .int .i64 (0), .str [99, 111, 110, 115], .slice 18 0 2 2], .agg [.int .u8 (1), .int .i64 (1), .str [], .nils]], [(18, o2)], .int .i64 (1), [(18, o2)], 18060⟩
theorem c11671_ok {B : Bs} (hS : KK B) : OO B c11671 := mkC allC_leaf hS (by kernel_rfl)
noncomputable def c11766 : Cut := ⟨9, 18070, [.agg [.int .u8 (6), .int .i64 (0), .str [99, 111, 110, 115], .slice 18 0 2 2], .agg [.int .u8 (2), .int .i64 (-5), .str [], .nils]], [(18, o2)], .int .i64 (1), [(18, o2)], 18181⟩
theorem c11766_ok {B : Bs} (hS : KK B) : OO B c11766 := mkC allC_leaf hS (by kernel_rfl)
noncomputable def c11861 : Cut := ⟨9, 18191, [.agg [.int .u8 (6), .int .i64 (0), .str [99, 111, 110, 115], .slice 18 0 2 2], .agg [.int .u8 (2), .int .i64 (3), .str [], .nils]], [(18, o2)], .int .i64 (1), [(18, o2)], 18302⟩
theorem c11861_ok {B : Bs} (hS : KK B) : OO B c11861 := mkC allC_leaf hS (by kernel_rfl)
noncomputable def c11956 : Cut := ⟨9, 18312, [.agg [.int .u8 (6), .int .i64 (0), .str [99, 111, 110, 115], .slice 18 0 2 2], .agg [.int .u8 (3), .int .i64 (0), .str [45, 53], .nils]], [(18, o2)], .int .i64 (1), [(18, o2)], 18425⟩
theorem c11956_ok {B : Bs} (hS : KK B) : OO B c11956 := mkC allC_leaf hS (by kernel_rfl)
noncomputable def c12059 : Cut := ⟨9, 18435, [.agg [.int .u8 (6), .int .i64 (0), .str [99, 111, 110, 115], .slice 18 0 2 2], .agg [.int .u8 (3), .int .i64 (0), .str [51], .nils]], [(18, o2)], .int .i64 (1), [(18, o2)], 18548⟩
theorem c12059_ok {B : Bs} (hS : KK B) : OO B c12059 := mkC allC_leaf hS (by kernel_rfl)
noncomputable def c12162 : Cut := ⟨9, 18558, [.agg [.int .u8 (6), .int .i64 (0), .str [99, 111, 110, 115], .slice 18 0 2 2], .agg [.int .u8 (3), .int .i64 (0), .str [49, 48], .nils]], [(18, o2)], .int .i64 (1), [(18, o2)], 18671⟩
theorem c12162_ok {B : Bs} (hS : KK B) : OO B c12162 := mkC allC_leaf hS (by kernel_rfl)
noncomputable def c12265 : Cut := ⟨9, 18681, [.agg [.int .u8 (6), .int .i64 (0), .str [99, 111, 110, 115], .slice 18 0 2 2], .agg [.int .u8 (4), .int .i64 (0), .str [], .nils]], [(18, o2)], .int .i64 (1), [(18, o2)], 18792⟩
theorem c12265_ok {B : Bs} (hS : KK B) : OO B c12265 := mkC allC_leaf hS (by kernel_rfl)
noncomputable def c12360 : Cut := ⟨9, 18802, [.agg [.int .u8 (6), .int .i64 (0), .str [99, 111, 110, 115], .slice 18 0 2 2], .agg [.int .u8 (4), .int .i64 (0), .str [97], .nils]], [(18, o2)], .int .i64 (1), [(18, o2)], 18913⟩
theorem c12360_ok {B : Bs} (hS : KK B) : OO B c12360 := mkC allC_leaf hS (by kernel_rfl)
noncomputable def c12455 : Cut := ⟨9, 18923, [.agg [.int .u8 (6), .int .i64 (0), .str [99, 111, 110, 115], .slice 18 0 2 2], .agg [.int .u8 (5), .int .i64 (0), .str [], .nils]], [(18, o2)], .int .i64 (1), [(18, o2)], 19034⟩
theorem c12455_ok {B : Bs} (hS : KK B) : OO B c12455 := mkC allC_leaf hS (by kernel_rfl)
noncomputable def c12550 : Cut := ⟨9, 19044, [.agg [.int .u8 (6), .int .i64 (0), .str [99, 111, 110, 115], .slice 18 0 2 2], .agg [.int .u8 (5), .int .i64 (0), .str [], .slice 10 0 2 2]], [(10, o0), (18, o2)], .int .i64 (1), [(10, o0), (18, o2)], 19203⟩
theorem c12550_ok {B : Bs} (hS : KK B) : OO B c12550 := mkC allC_leaf hS (by kernel_rfl)
end Go.Proofs.YtbdegmhpdjpppaaGreatDoor
