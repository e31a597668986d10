/- Stretches of the run. -/
import Derived.Test.YtbdegmhpdjpppaaGreatDoorCt0
namespace Go.Proofs.YtbdegmhpdjpppaaGreatDoor
open Go Go.Xe
set_option maxRecDepth 10000000
set_option linter.unusedVariables false
noncomputable def c7977 : Cut := ⟨9, 11975, [.agg [.int .u8 (4), .int .i64 (0), .str [97], .nils], .agg [.int .u8 (6), .int .i64 (0), .str [99, 111, 110, 115], .slice 21 0 1 1]], [(21, o3)], .int .i64 (-1), [(21, o3)], 12061⟩
theorem c7977_ok {B : Bs} (hS : KK B) : OO B c7977 := mkC allC_leaf hS (by kernel_rfl)
noncomputable def c8046 : Cut := ⟨9, 12071, [.agg [.int .u8 (4), .int .i64 (0), .str [97], .nils], .agg [.int .u8 (6), .int .i64 (0), .str [110, 105, 108], .nils]], [], .int .i64 (-1), [], 12133⟩
theorem c8046_ok {B : Bs} (hS : KK B) : OO B c8046 := mkC allC_leaf hS (by kernel_rfl)
noncomputable def c8100 : Cut := ⟨9, 12143, [.agg [.int .u8 (4), .int .i64 (0), .str [97], .nils], .agg [.int .u8 (0), .int .i64 (0), .str [], .nils]], [], .int .i64 (-1), [], 12194⟩
theorem c8100_ok {B : Bs} (hS : KK B) : OO B c8100 := mkC allC_leaf hS (by kernel_rfl)
noncomputable def c8129 : Cut := ⟨9, 12204, [.agg [.int .u8 (5), .int .i64 (0), .str [], .nils], .agg [.int .u8 (1), .int .i64 (0), .str [], .nils]], [], .int .i64 (1), [], 12265⟩
theorem c8129_ok {B : Bs} (hS : KK B) : OO B c8129 := mkC allC_leaf hS (by kernel_rfl)
noncomputable def c8171 : Cut := ⟨9, 12275, [.agg [.int .u8 (5), .int .i64 (0), .str [], .nils], .agg [.int .u8 (1), .int .i64 (1), .str [], .nils]], [], .int .i64 (1), [], 12336⟩
theorem c8171_ok {B : Bs} (hS : KK B) : OO B c8171 := mkC allC_leaf hS (by kernel_rfl)
noncomputable def c8213 : Cut := ⟨9, 12346, [.agg [.int .u8 (5), .int .i64 (0), .str [], .nils], .agg [.int .u8 (2), .int .i64 (-5), .str [], .nils]], [], .int .i64 (1), [], 12407⟩
theorem c8213_ok {B : Bs} (hS : KK B) : OO B c8213 := mkC allC_leaf hS (by kernel_rfl)
noncomputable def c8255 : Cut := ⟨9, 12417, [.agg [.int .u8 (5), .int .i64 (0), .str [], .nils], .agg [.int .u8 (2), .int .i64 (3), .str [], .nils]], [], .int .i64 (1), [], 12478⟩
theorem c8255_ok {B : Bs} (hS : KK B) : OO B c8255 := mkC allC_leaf hS (by kernel_rfl)
noncomputable def c8297 : Cut := ⟨9, 12488, [.agg [.int .u8 (5), .int .i64 (0), .str [], .nils], .agg [.int .u8 (3), .int .i64 (0), .str [45, 53], .nils]], [], .int .i64 (1), [], 12551⟩
theorem c8297_ok {B : Bs} (hS : KK B) : OO B c8297 := mkC allC_leaf hS (by kernel_rfl)
noncomputable def c8347 : Cut := ⟨9, 12561, [.agg [.int .u8 (5), .int .i64 (0), .str [], .nils], .agg [.int .u8 (3), .int .i64 (0), .str [51], .nils]], [], .int .i64 (1), [], 12624⟩
theorem c8347_ok {B : Bs} (hS : KK B) : OO B c8347 := mkC allC_leaf hS (by kernel_rfl)
noncomputable def c8397 : Cut := ⟨9, 12634, [.agg [.int .u8 (5), .int .i64 (0), .str [], .nils], .agg [.int .u8 (3), .int .i64 (0), .str [49, 48], .nils]], [], .int .i64 (1), [], 12697⟩
theorem c8397_ok {B : Bs} (hS : KK B) : OO B c8397 := mkC allC_leaf hS (by kernel_rfl)
noncomputable def c8447 : Cut := ⟨9, 12707, [.agg [.int .u8 (5), .int .i64 (0), .str [], .nils], .agg [.int .u8 (4), .int .i64 (0), .str [], .nils]], [], .int .i64 (1), [], 12768⟩
theorem c8447_ok {B : Bs} (hS : KK B) : OO B c8447 := mkC allC_leaf hS (by kernel_rfl)
noncomputable def c8489 : Cut := ⟨9, 12778, [.agg [.int .u8 (5), .int .i64 (0), .str [], .nils], .agg [.int .u8 (4), .int .i64 (0), .str [97], .nils]], [], .int .i64 (1), [], 12839⟩
theorem c8489_ok {B : Bs} (hS : KK B) : OO B c8489 := mkC allC_leaf hS (by kernel_rfl)
noncomputable def c8531 : Cut := ⟨9, 12849, [.agg [.int .u8 (5), .int .i64 (0), .str [], .nils], .agg [.int .u8 (5), .int .i64 (0), .str [], .nils]], [], .int .i64 (0), [], 12924⟩
theorem c8531_ok {B : Bs} (hS : KK B) : OO B c8531 := mkC allC_leaf hS (by kernel_rfl)
noncomputable def c8575 : Cut := ⟨9, 12934, [.agg [.int .u8 (5), .int .i64 (0), .str [], .nils], .agg [.int .u8 (5), .int .i64 (0), .str [], .slice 10 0 2 2]], [(10, o0)], .int .i64 (-1), [(10, o0)], 13057⟩
theorem c8575_ok {B : Bs} (hS : KK B) : OO B c8575 := mkC allC_leaf hS (by kernel_rfl)
noncomputable def c8647 : Cut := ⟨9, 13067, [.agg [.int .u8 (5), .int .i64 (0), .str [], .nils], .agg [.int .u8 (5), .int .i64 (0), .str [], .slice 14 0 2 2]], [(14, o1)], .int .i64 (-1), [(14, o1)], 13190⟩
theorem c8647_ok {B : Bs} (hS : KK B) : OO B c8647 := mkC allC_leaf hS (by kernel_rfl)
noncomputable def c8719 : Cut := ⟨9, 13200, [.agg [.int .u8 (5), .int .i64 (0), .str [], .nils], .agg [.int .u8 (6), .int .i64 (0), .str [99, 111, 110, 115], .slice 18 0 2 2]], [(18, o2)], .int .i64 (-1), [(18, o2)], 13311⟩
theorem c8719_ok {B : Bs} (hS : KK B) : OO B c8719 := mkC allC_leaf hS (by kernel_rfl)
noncomputable def c8814 : Cut := ⟨9, 13321, [.agg [.int .u8 (5), .int .i64 (0), .str [], .nils], .agg [.int .u8 (6), .int .i64 (0), .str [99, 111, 110, 115], .slice 21 0 1 1]], [(21, o3)], .int .i64 (-1), [(21, o3)], 13407⟩
theorem c8814_ok {B : Bs} (hS : KK B) : OO B c8814 := mkC allC_leaf hS (by kernel_rfl)
noncomputable def c8883 : Cut := ⟨9, 13417, [.agg [.int .u8 (5), .int .i64 (0), .str [], .nils], .agg [.int .u8 (6), .int .i64 (0), .str [110, 105, 108], .nils]], [], .int .i64 (-1), [], 13479⟩
theorem c8883_ok {B : Bs} (hS : KK B) : OO B c8883 := mkC allC_leaf hS (by kernel_rfl)
noncomputable def c8937 : Cut := ⟨9, 13489, [.agg [.int .u8 (5), .int .i64 (0), .str [], .nils], .agg [.int .u8 (0), .int .i64 (0), .str [], .nils]], [], .int .i64 (-1), [], 13540⟩
theorem c8937_ok {B : Bs} (hS : KK B) : OO B c8937 := mkC allC_leaf hS (by kernel_rfl)
noncomputable def c8966 : Cut := ⟨9, 13550, [.agg [.int .u8 (5), .int .i64 (0), .str [], .slice 10 0 2 2], .agg [.int .u8 (1), .int .i64 (0), .str [], .nils]], [(10, o0)], .int .i64 (1), [(10, o0)], 13659⟩
theorem c8966_ok {B : Bs} (hS : KK B) : OO B c8966 := mkC allC_leaf hS (by kernel_rfl)
noncomputable def c9036 : Cut := ⟨9, 13669, [.agg [.int .u8 (5), .int .i64 (0), .str [], .slice 10 0 2 2], .agg [.int .u8 (1), .int .i64 (1), .str [], .nils]], [(10, o0)], .int .i64 (1), [(10, o0)], 13778⟩
theorem c9036_ok {B : Bs} (hS : KK B) : OO B c9036 := mkC allC_leaf hS (by kernel_rfl)
noncomputable def c9106 : Cut := ⟨9, 13788, [.agg [.int .u8 (5), .int .i64 (0), .str [], .slice 10 0 2 2], .agg [.int .u8 (2), .int .i64 (-5), .str [], .nils]], [(10, o0)], .int .i64 (1), [(10, o0)], 13897⟩
theorem c9106_ok {B : Bs} (hS : KK B) : OO B c9106 := mkC allC_leaf hS (by kernel_rfl)
noncomputable def c9176 : Cut := ⟨9, 13907, [.agg [.int .u8 (5), .int .i64 (0), .str [], .slice 10 0 2 2], .agg [.int .u8 (2), .int .i64 (3), .str [], .nils]], [(10, o0)], .int .i64 (1), [(10, o0)], 14016⟩
theorem c9176_ok {B : Bs} (hS : KK B) : OO B c9176 := mkC allC_leaf hS (by kernel_rfl)
noncomputable def c9246 : Cut := ⟨9, 14026, [.agg [.int .u8 (5), .int .i64 (0), .str [], .slice 10 0 2 2], .agg [.int .u8 (3), .int .i64 (0), .str [45, 53], .nils]], [(10, o0)], .int .i64 (1), [(10, o0)], 14137⟩
theorem c9246_ok {B : Bs} (hS : KK B) : OO B c9246 := mkC allC_leaf hS (by kernel_rfl)
noncomputable def c9324 : Cut := ⟨9, 14147, [.agg [.int .u8 (5), .int .i64 (0), .str [], .slice 10 0 2 2], .agg [.int .u8 (3), .int .i64 (0), .str [51], .nils]], [(10, o0)], .int .i64 (1), [(10, o0)], 14258⟩
theorem c9324_ok {B : Bs} (hS : KK B) : OO B c9324 := mkC allC_leaf hS (by kernel_rfl)
noncomputable def c9402 : Cut := ⟨9, 14268, [.agg [.int .u8 (5), .int .i64 (0), .str [], .slice 10 0 2 2], .agg [.int .u8 (3), .int .i64 (0), .str [49, 48], .nils]], [(10, o0)], .int .i64 (1), [(10, o0)], 14379⟩
theorem c9402_ok {B : Bs} (hS : KK B) : OO B c9402 := mkC allC_leaf hS (by kernel_rfl)
noncomputable def c9480 : Cut := ⟨9, 14389, [.agg [.int .u8 (5), .int .i64 (0), .str [], .slice 10 0 2 2], .agg [.int .u8 (4), .int .i64 (0), .str [], .nils]], [(10, o0)], .int .i64 (1), [(10, o0)], 14498⟩
theorem c9480_ok {B : Bs} (hS : KK B) : OO B c9480 := mkC allC_leaf hS (by kernel_rfl)
noncomputable def c9550 : Cut := ⟨9, 14508, [.agg [.int .u8 (5), .int .i64 (0), .str [], .slice 10 0 2 2], .agg [.int .u8 (4), .int .i64 (0), .str [97], .nils]], [(10, o0)], .int .i64 (1), [(10, o0)], 14617⟩
theorem c9550_ok {B : Bs} (hS : KK B) : OO B c9550 := mkC allC_leaf hS (by kernel_rfl)
end Go.Proofs.YtbdegmhpdjpppaaGreatDoor
