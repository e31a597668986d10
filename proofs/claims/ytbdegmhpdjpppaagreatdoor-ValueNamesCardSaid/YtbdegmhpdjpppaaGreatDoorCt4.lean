/- Stretches of the run. -/
import Derived.Test.YtbdegmhpdjpppaaGreatDoorCt0
namespace Go.Proofs.YtbdegmhpdjpppaaGreatDoor
open Go Go.Xe
set_option maxRecDepth 10000000
set_option linter.unusedVariables false
noncomputable def c4834 : Cut := ⟨9, 7290, [.agg [.int .u8 (3), .int .i64 (0), .str [51], .nils], .agg [.int .u8 (4), .int .i64 (0), .str [], .nils]], [], .int .i64 (-1), [], 7353⟩
theorem c4834_ok {B : Bs} (hS : KK B) : OO B c4834 := mkC allC_leaf hS (by kernel_rfl)
noncomputable def c4884 : Cut := ⟨9, 7363, [.agg [.int .u8 (3), .int .i64 (0), .str [51], .nils], .agg [.int .u8 (4), .int .i64 (0), .str [97], .nils]], [], .int .i64 (-1), [], 7426⟩
theorem c4884_ok {B : Bs} (hS : KK B) : OO B c4884 := mkC allC_leaf hS (by kernel_rfl)
noncomputable def c4934 : Cut := ⟨9, 7436, [.agg [.int .u8 (3), .int .i64 (0), .str [51], .nils], .agg [.int .u8 (5), .int .i64 (0), .str [], .nils]], [], .int .i64 (-1), [], 7499⟩
theorem c4934_ok {B : Bs} (hS : KK B) : OO B c4934 := mkC allC_leaf hS (by kernel_rfl)
noncomputable def c4984 : Cut := ⟨9, 7509, [.agg [.int .u8 (3), .int .i64 (0), .str [51], .nils], .agg [.int .u8 (5), .int .i64 (0), .str [], .slice 10 0 2 2]], [(10, o0)], .int .i64 (-1), [(10, o0)], 7620⟩
theorem c4984_ok {B : Bs} (hS : KK B) : OO B c4984 := mkC allC_leaf hS (by kernel_rfl)
noncomputable def c5062 : Cut := ⟨9, 7630, [.agg [.int .u8 (3), .int .i64 (0), .str [51], .nils], .agg [.int .u8 (5), .int .i64 (0), .str [], .slice 14 0 2 2]], [(14, o1)], .int .i64 (-1), [(14, o1)], 7741⟩
theorem c5062_ok {B : Bs} (hS : KK B) : OO B c5062 := mkC allC_leaf hS (by kernel_rfl)
noncomputable def c5140 : Cut := ⟨9, 7751, [.agg [.int .u8 (3), .int .i64 (0), .str [51], .nils], .agg [.int .u8 (6), .int .i64 (0), .str [99, 111, 110, 115], .slice 18 0 2 2]], [(18, o2)], .int .i64 (-1), [(18, o2)], 7864⟩
theorem c5140_ok {B : Bs} (hS : KK B) : OO B c5140 := mkC allC_leaf hS (by kernel_rfl)
noncomputable def c5243 : Cut := ⟨9, 7874, [.agg [.int .u8 (3), .int .i64 (0), .str [51], .nils], .agg [.int .u8 (6), .int .i64 (0), .str [99, 111, 110, 115], .slice 21 0 1 1]], [(21, o3)], .int .i64 (-1), [(21, o3)], 7962⟩
theorem c5243_ok {B : Bs} (hS : KK B) : OO B c5243 := mkC allC_leaf hS (by kernel_rfl)
noncomputable def c5320 : Cut := ⟨9, 7972, [.agg [.int .u8 (3), .int .i64 (0), .str [51], .nils], .agg [.int .u8 (6), .int .i64 (0), .str [110, 105, 108], .nils]], [], .int .i64 (-1), [], 8036⟩
theorem c5320_ok {B : Bs} (hS : KK B) : OO B c5320 := mkC allC_leaf hS (by kernel_rfl)
noncomputable def c5382 : Cut := ⟨9, 8046, [.agg [.int .u8 (3), .int .i64 (0), .str [51], .nils], .agg [.int .u8 (0), .int .i64 (0), .str [], .nils]], [], .int .i64 (-1), [], 8099⟩
theorem c5382_ok {B : Bs} (hS : KK B) : OO B c5382 := mkC allC_leaf hS (by kernel_rfl)
noncomputable def c5419 : Cut := ⟨9, 8109, [.agg [.int .u8 (3), .int .i64 (0), .str [49, 48], .nils], .agg [.int .u8 (1), .int .i64 (0), .str [], .nils]], [], .int .i64 (1), [], 8172⟩
theorem c5419_ok {B : Bs} (hS : KK B) : OO B c5419 := mkC allC_leaf hS (by kernel_rfl)
noncomputable def c5469 : Cut := ⟨9, 8182, [.agg [.int .u8 (3), .int .i64 (0), .str [49, 48], .nils], .agg [.int .u8 (1), .int .i64 (1), .str [], .nils]], [], .int .i64 (1), [], 8245⟩
theorem c5469_ok {B : Bs} (hS : KK B) : OO B c5469 := mkC allC_leaf hS (by kernel_rfl)
noncomputable def c5519 : Cut := ⟨9, 8255, [.agg [.int .u8 (3), .int .i64 (0), .str [49, 48], .nils], .agg [.int .u8 (2), .int .i64 (-5), .str [], .nils]], [], .int .i64 (1), [], 8318⟩
theorem c5519_ok {B : Bs} (hS : KK B) : OO B c5519 := mkC allC_leaf hS (by kernel_rfl)
noncomputable def c5569 : Cut := ⟨9, 8328, [.agg [.int .u8 (3), .int .i64 (0), .str [49, 48], .nils], .agg [.int .u8 (2), .int .i64 (3), .str [], .nils]], [], .int .i64 (1), [], 8391⟩
theorem c5569_ok {B : Bs} (hS : KK B) : OO B c5569 := mkC allC_leaf hS (by kernel_rfl)
noncomputable def c5619 : Cut := ⟨9, 8401, [.agg [.int .u8 (3), .int .i64 (0), .str [49, 48], .nils], .agg [.int .u8 (3), .int .i64 (0), .str [45, 53], .nils]], [], .int .i64 (1), [], 8495⟩
theorem c5619_ok {B : Bs} (hS : KK B) : OO B c5619 := mkC allC_leaf hS (by kernel_rfl)
noncomputable def c5701 : Cut := ⟨9, 8505, [.agg [.int .u8 (3), .int .i64 (0), .str [49, 48], .nils], .agg [.int .u8 (3), .int .i64 (0), .str [51], .nils]], [], .int .i64 (1), [], 8603⟩
theorem c5701_ok {B : Bs} (hS : KK B) : OO B c5701 := mkC allC_leaf hS (by kernel_rfl)
noncomputable def c5789 : Cut := ⟨9, 8613, [.agg [.int .u8 (3), .int .i64 (0), .str [49, 48], .nils], .agg [.int .u8 (3), .int .i64 (0), .str [49, 48], .nils]], [], .int .i64 (0), [], 8711⟩
theorem c5789_ok {B : Bs} (hS : KK B) : OO B c5789 := mkC allC_leaf hS (by kernel_rfl)
noncomputable def c5874 : Cut := ⟨9, 8721, [.agg [.int .u8 (3), .int .i64 (0), .str [49, 48], .nils], .agg [.int .u8 (4), .int .i64 (0), .str [], .nils]], [], .int .i64 (-1), [], 8784⟩
theorem c5874_ok {B : Bs} (hS : KK B) : OO B c5874 := mkC allC_leaf hS (by kernel_rfl)
noncomputable def c5924 : Cut := ⟨9, 8794, [.agg [.int .u8 (3), .int .i64 (0), .str [49, 48], .nils], .agg [.int .u8 (4), .int .i64 (0), .str [97], .nils]], [], .int .i64 (-1), [], 8857⟩
theorem c5924_ok {B : Bs} (hS : KK B) : OO B c5924 := mkC allC_leaf hS (by kernel_rfl)
noncomputable def c5974 : Cut := ⟨9, 8867, [.agg [.int .u8 (3), .int .i64 (0), .str [49, 48], .nils], .agg [.int .u8 (5), .int .i64 (0), .str [], .nils]], [], .int .i64 (-1), [], 8930⟩
theorem c5974_ok {B : Bs} (hS : KK B) : OO B c5974 := mkC allC_leaf hS (by kernel_rfl)
noncomputable def c6024 : Cut := ⟨9, 8940, [.agg [.int .u8 (3), .int .i64 (0), .str [49, 48], .nils], .agg [.int .u8 (5), .int .i64 (0), .str [], .slice 10 0 2 2]], [(10, o0)], .int .i64 (-1), [(10, o0)], 9051⟩
theorem c6024_ok {B : Bs} (hS : KK B) : OO B c6024 := mkC allC_leaf hS (by kernel_rfl)
noncomputable def c6102 : Cut := ⟨9, 9061, [.agg [.int .u8 (3), .int .i64 (0), .str [49, 48], .nils], .agg [.int .u8 (5), .int .i64 (0), .str [], .slice 14 0 2 2]], [(14, o1)], .int .i64 (-1), [(14, o1)], 9172⟩
theorem c6102_ok {B : Bs} (hS : KK B) : OO B c6102 := mkC allC_leaf hS (by kernel_rfl)
noncomputable def c6180 : Cut := ⟨9, 9182, [.agg [.int .u8 (3), .int .i64 (0), .str [49, 48], .nils], .agg [.int .u8 (6), .int .i64 (0), .str [99, 111, 110, 115], .slice 18 0 2 2]], [(18, o2)], .int .i64 (-1), [(18, o2)], 9295⟩
theorem c6180_ok {B : Bs} (hS : KK B) : OO B c6180 := mkC allC_leaf hS (by kernel_rfl)
noncomputable def c6283 : Cut := ⟨9, 9305, [.agg [.int .u8 (3), .int .i64 (0), .str [49, 48], .nils], .agg [.int .u8 (6), .int .i64 (0), .str [99, 111, 110, 115], .slice 21 0 1 1]], [(21, o3)], .int .i64 (-1), [(21, o3)], 9393⟩
theorem c6283_ok {B : Bs} (hS : KK B) : OO B c6283 := mkC allC_leaf hS (by kernel_rfl)
end Go.Proofs.YtbdegmhpdjpppaaGreatDoor
