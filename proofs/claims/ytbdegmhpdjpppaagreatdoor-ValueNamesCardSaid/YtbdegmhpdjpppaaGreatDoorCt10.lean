/- Stretches of the run. -/
import Derived.Test.YtbdegmhpdjpppaaGreatDoorCt0
namespace Go.Proofs.YtbdegmhpdjpppaaGreatDoor
open Go Go.Xe
set_option maxRecDepth 10000000
set_option linter.unusedVariables false
noncomputable def c14089 : Cut := ⟨9, 21117, [.agg [.int .u8 (6), .int .i64 (0), .str [99, 111, 110, 115], .slice 21 0 1 1], .agg [.int .u8 (5), .int .i64 (0), .str [], .slice 14 0 2 2]], [(14, o1), (21, o3)], .int .i64 (1), [(14, o1), (21, o3)], 21251⟩
theorem c14089_ok {B : Bs} (hS : KK B) : OO B c14089 := mkC allC_leaf hS (by kernel_rfl)
noncomputable def c14186 : Cut := ⟨9, 21261, [.agg [.int .u8 (6), .int .i64 (0), .str [99, 111, 110, 115], .slice 21 0 1 1], .agg [.int .u8 (6), .int .i64 (0), .str [99, 111, 110, 115], .slice 18 0 2 2]], [(18, o2), (21, o3)], .int .i64 (1), [(18, o2), (21, o3)], 21417⟩
theorem c14186_ok {B : Bs} (hS : KK B) : OO B c14186 := mkC allC_leaf hS (by kernel_rfl)
noncomputable def c14315 : Cut := ⟨9, 21427, [.agg [.int .u8 (6), .int .i64 (0), .str [99, 111, 110, 115], .slice 21 0 1 1], .agg [.int .u8 (6), .int .i64 (0), .str [99, 111, 110, 115], .slice 21 0 1 1]], [(21, o3)], .int .i64 (0), [(21, o3)], 21558⟩
theorem c14315_ok {B : Bs} (hS : KK B) : OO B c14315 := mkC allC_leaf hS (by kernel_rfl)
noncomputable def c14418 : Cut := ⟨9, 21568, [.agg [.int .u8 (6), .int .i64 (0), .str [99, 111, 110, 115], .slice 21 0 1 1], .agg [.int .u8 (6), .int .i64 (0), .str [110, 105, 108], .nils]], [(21, o3)], .int .i64 (-1), [(21, o3)], 21670⟩
theorem c14418_ok {B : Bs} (hS : KK B) : OO B c14418 := mkC allC_leaf hS (by kernel_rfl)
noncomputable def c14501 : Cut := ⟨9, 21680, [.agg [.int .u8 (6), .int .i64 (0), .str [99, 111, 110, 115], .slice 21 0 1 1], .agg [.int .u8 (0), .int .i64 (0), .str [], .nils]], [(21, o3)], .int .i64 (-1), [(21, o3)], 21756⟩
theorem c14501_ok {B : Bs} (hS : KK B) : OO B c14501 := mkC allC_leaf hS (by kernel_rfl)
noncomputable def c14557 : Cut := ⟨9, 21766, [.agg [.int .u8 (6), .int .i64 (0), .str [110, 105, 108], .nils], .agg [.int .u8 (1), .int .i64 (0), .str [], .nils]], [], .int .i64 (1), [], 21828⟩
theorem c14557_ok {B : Bs} (hS : KK B) : OO B c14557 := mkC allC_leaf hS (by kernel_rfl)
noncomputable def c14611 : Cut := ⟨9, 21838, [.agg [.int .u8 (6), .int .i64 (0), .str [110, 105, 108], .nils], .agg [.int .u8 (1), .int .i64 (1), .str [], .nils]], [], .int .i64 (1), [], 21900⟩
theorem c14611_ok {B : Bs} (hS : KK B) : OO B c14611 := mkC allC_leaf hS (by kernel_rfl)
noncomputable def c14665 : Cut := ⟨9, 21910, [.agg [.int .u8 (6), .int .i64 (0), .str [110, 105, 108], .nils], .agg [.int .u8 (2), .int .i64 (-5), .str [], .nils]], [], .int .i64 (1), [], 21972⟩
theorem c14665_ok {B : Bs} (hS : KK B) : OO B c14665 := mkC allC_leaf hS (by kernel_rfl)
noncomputable def c14719 : Cut := ⟨9, 21982, [.agg [.int .u8 (6), .int .i64 (0), .str [110, 105, 108], .nils], .agg [.int .u8 (2), .int .i64 (3), .str [], .nils]], [], .int .i64 (1), [], 22044⟩
theorem c14719_ok {B : Bs} (hS : KK B) : OO B c14719 := mkC allC_leaf hS (by kernel_rfl)
noncomputable def c14773 : Cut := ⟨9, 22054, [.agg [.int .u8 (6), .int .i64 (0), .str [110, 105, 108], .nils], .agg [.int .u8 (3), .int .i64 (0), .str [45, 53], .nils]], [], .int .i64 (1), [], 22118⟩
theorem c14773_ok {B : Bs} (hS : KK B) : OO B c14773 := mkC allC_leaf hS (by kernel_rfl)
noncomputable def c14835 : Cut := ⟨9, 22128, [.agg [.int .u8 (6), .int .i64 (0), .str [110, 105, 108], .nils], .agg [.int .u8 (3), .int .i64 (0), .str [51], .nils]], [], .int .i64 (1), [], 22192⟩
theorem c14835_ok {B : Bs} (hS : KK B) : OO B c14835 := mkC allC_leaf hS (by kernel_rfl)
noncomputable def c14897 : Cut := ⟨9, 22202, [.agg [.int .u8 (6), .int .i64 (0), .str [110, 105, 108], .nils], .agg [.int .u8 (3), .int .i64 (0), .str [49, 48], .nils]], [], .int .i64 (1), [], 22266⟩
theorem c14897_ok {B : Bs} (hS : KK B) : OO B c14897 := mkC allC_leaf hS (by kernel_rfl)
noncomputable def c14959 : Cut := ⟨9, 22276, [.agg [.int .u8 (6), .int .i64 (0), .str [110, 105, 108], .nils], .agg [.int .u8 (4), .int .i64 (0), .str [], .nils]], [], .int .i64 (1), [], 22338⟩
theorem c14959_ok {B : Bs} (hS : KK B) : OO B c14959 := mkC allC_leaf hS (by kernel_rfl)
noncomputable def c15013 : Cut := ⟨9, 22348, [.agg [.int .u8 (6), .int .i64 (0), .str [110, 105, 108], .nils], .agg [.int .u8 (4), .int .i64 (0), .str [97], .nils]], [], .int .i64 (1), [], 22410⟩
theorem c15013_ok {B : Bs} (hS : KK B) : OO B c15013 := mkC allC_leaf hS (by kernel_rfl)
noncomputable def c15067 : Cut := ⟨9, 22420, [.agg [.int .u8 (6), .int .i64 (0), .str [110, 105, 108], .nils], .agg [.int .u8 (5), .int .i64 (0), .str [], .nils]], [], .int .i64 (1), [], 22482⟩
theorem c15067_ok {B : Bs} (hS : KK B) : OO B c15067 := mkC allC_leaf hS (by kernel_rfl)
noncomputable def c15121 : Cut := ⟨9, 22492, [.agg [.int .u8 (6), .int .i64 (0), .str [110, 105, 108], .nils], .agg [.int .u8 (5), .int .i64 (0), .str [], .slice 10 0 2 2]], [(10, o0)], .int .i64 (1), [(10, o0)], 22602⟩
theorem c15121_ok {B : Bs} (hS : KK B) : OO B c15121 := mkC allC_leaf hS (by kernel_rfl)
noncomputable def c15203 : Cut := ⟨9, 22612, [.agg [.int .u8 (6), .int .i64 (0), .str [110, 105, 108], .nils], .agg [.int .u8 (5), .int .i64 (0), .str [], .slice 14 0 2 2]], [(14, o1)], .int .i64 (1), [(14, o1)], 22722⟩
theorem c15203_ok {B : Bs} (hS : KK B) : OO B c15203 := mkC allC_leaf hS (by kernel_rfl)
noncomputable def c15285 : Cut := ⟨9, 22732, [.agg [.int .u8 (6), .int .i64 (0), .str [110, 105, 108], .nils], .agg [.int .u8 (6), .int .i64 (0), .str [99, 111, 110, 115], .slice 18 0 2 2]], [(18, o2)], .int .i64 (1), [(18, o2)], 22858⟩
theorem c15285_ok {B : Bs} (hS : KK B) : OO B c15285 := mkC allC_leaf hS (by kernel_rfl)
noncomputable def c15394 : Cut := ⟨9, 22868, [.agg [.int .u8 (6), .int .i64 (0), .str [110, 105, 108], .nils], .agg [.int .u8 (6), .int .i64 (0), .str [99, 111, 110, 115], .slice 21 0 1 1]], [(21, o3)], .int .i64 (1), [(21, o3)], 22969⟩
theorem c15394_ok {B : Bs} (hS : KK B) : OO B c15394 := mkC allC_leaf hS (by kernel_rfl)
noncomputable def c15477 : Cut := ⟨9, 22979, [.agg [.int .u8 (6), .int .i64 (0), .str [110, 105, 108], .nils], .agg [.int .u8 (6), .int .i64 (0), .str [110, 105, 108], .nils]], [], .int .i64 (0), [], 23056⟩
theorem c15477_ok {B : Bs} (hS : KK B) : OO B c15477 := mkC allC_leaf hS (by kernel_rfl)
noncomputable def c15545 : Cut := ⟨9, 23066, [.agg [.int .u8 (6), .int .i64 (0), .str [110, 105, 108], .nils], .agg [.int .u8 (0), .int .i64 (0), .str [], .nils]], [], .int .i64 (-1), [], 23118⟩
theorem c15545_ok {B : Bs} (hS : KK B) : OO B c15545 := mkC allC_leaf hS (by kernel_rfl)
end Go.Proofs.YtbdegmhpdjpppaaGreatDoor
