/- Stretches of the run. -/
import Derived.Test.YtkccahalpdcbcaaGreatDoorCt0
namespace Go.Proofs.YtkccahalpdcbcaaGreatDoor
open Go Go.Xe
set_option maxRecDepth 10000000
set_option linter.unusedVariables false
noncomputable def c7570 : Cut := ⟨18, 10336, [.ptr 2897 0], [(2896, o185), (2897, .row [.grow 2896 0 50 0, .bool false] 57)], .agg [.int .u8 (5), .int .i64 (0), .str [], .grow 10455 0 16 0], [(2896, o185), (2897, .row [.grow 2896 50 0 50, .bool false] 57), (10455, .opn [.int .u8 (1), .int .i64 (1), .str [], .nils, .int .u8 (1), .int .i64 (1), .str [], .nils, .int .u8 (1), .int .i64 (1), .str [], .nils, .int .u8 (1), .int .i64 (1), .str [], .nils, .int .u8 (1), .int .i64 (1), .str [], .nils, .int .u8 (1), .int .i64 (1), .str [], .nils, .int .u8 (1), .int .i64 (1), .str [], .nils, .int .u8 (1), .int .i64 (1), .str [], .nils, .int .u8 (1), .int .i64 (1), .str [], .nils, .int .u8 (1), .int .i64 (1), .str [], .nils, .int .u8 (1), .int .i64 (1), .str [], .nils, .int .u8 (1), .int .i64 (1), .str [], .nils, .int .u8 (1), .int .i64 (1), .str [], .nils, .int .u8 (1), .int .i64 (1), .str [], .nils, .int .u8 (1), .int .i64 (1), .str [], .nils, .int .u8 (1), .int .i64 (1), .str [], .nils] 34 4)], 10865⟩
theorem c7570_ok {B : Bs} (hS : KK B) : OO B c7570 := mkC allC_leaf hS (by kernel_rfl)
end Go.Proofs.YtkccahalpdcbcaaGreatDoor
