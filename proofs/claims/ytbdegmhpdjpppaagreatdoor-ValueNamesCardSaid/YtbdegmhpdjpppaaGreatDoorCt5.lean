/- Stretches of the run. -/
import Derived.Test.YtbdegmhpdjpppaaGreatDoorCt0
namespace Go.Proofs.YtbdegmhpdjpppaaGreatDoor
open Go Go.Xe
set_option maxRecDepth 10000000
set_option linter.unusedVariables false
noncomputable def c6360 : Cut := ⟨9, 9403, [.agg [.int .u8 (3), .int .i64 (0), .str [49, 48], .nils], .agg [.int .u8 (6), .int .i64 (0), .str [110, 105, 108], .nils]], [], .int .i64 (-1), [], 9467⟩
theorem c6360_ok {B : Bs} (hS : KK B) : OO B c6360 := mkC allC_leaf hS (by kernel_rfl)
noncomputable def c6422 : Cut := ⟨9, 9477, [.agg [.int .u8 (3), .int .i64 (0), .str [49, 48], .nils], .agg [.int .u8 (0), .int .i64 (0), .str [], .nils]], [], .int .i64 (-1), [], 9530⟩
theorem c6422_ok {B : Bs} (hS : KK B) : OO B c6422 := mkC allC_leaf hS (by kernel_rfl)
noncomputable def c6459 : Cut := ⟨9, 9540, [.agg [.int .u8 (4), .int .i64 (0), .str [], .nils], .agg [.int .u8 (1), .int .i64 (0), .str [], .nils]], [], .int .i64 (1), [], 9601⟩
theorem c6459_ok {B : Bs} (hS : KK B) : OO B c6459 := mkC allC_leaf hS (by kernel_rfl)
noncomputable def c6501 : Cut := ⟨9, 9611, [.agg [.int .u8 (4), .int .i64 (0), .str [], .nils], .agg [.int .u8 (1), .int .i64 (1), .str [], .nils]], [], .int .i64 (1), [], 9672⟩
theorem c6501_ok {B : Bs} (hS : KK B) : OO B c6501 := mkC allC_leaf hS (by kernel_rfl)
noncomputable def c6543 : Cut := ⟨9, 9682, [.agg [.int .u8 (4), .int .i64 (0), .str [], .nils], .agg [.int .u8 (2), .int .i64 (-5), .str [], .nils]], [], .int .i64 (1), [], 9743⟩
theorem c6543_ok {B : Bs} (hS : KK B) : OO B c6543 := mkC allC_leaf hS (by kernel_rfl)
noncomputable def c6585 : Cut := ⟨9, 9753, [.agg [.int .u8 (4), .int .i64 (0), .str [], .nils], .agg [.int .u8 (2), .int .i64 (3), .str [], .nils]], [], .int .i64 (1), [], 9814⟩
theorem c6585_ok {B : Bs} (hS : KK B) : OO B c6585 := mkC allC_leaf hS (by kernel_rfl)
noncomputable def c6627 : Cut := ⟨9, 9824, [.agg [.int .u8 (4), .int .i64 (0), .str [], .nils], .agg [.int .u8 (3), .int .i64 (0), .str [45, 53], .nils]], [], .int .i64 (1), [], 9887⟩
theorem c6627_ok {B : Bs} (hS : KK B) : OO B c6627 := mkC allC_leaf hS (by kernel_rfl)
noncomputable def c6677 : Cut := ⟨9, 9897, [.agg [.int .u8 (4), .int .i64 (0), .str [], .nils], .agg [.int .u8 (3), .int .i64 (0), .str [51], .nils]], [], .int .i64 (1), [], 9960⟩
theorem c6677_ok {B : Bs} (hS : KK B) : OO B c6677 := mkC allC_leaf hS (by kernel_rfl)
noncomputable def c6727 : Cut := ⟨9, 9970, [.agg [.int .u8 (4), .int .i64 (0), .str [], .nils], .agg [.int .u8 (3), .int .i64 (0), .str [49, 48], .nils]], [], .int .i64 (1), [], 10033⟩
theorem c6727_ok {B : Bs} (hS : KK B) : OO B c6727 := mkC allC_leaf hS (by kernel_rfl)
noncomputable def c6777 : Cut := ⟨9, 10043, [.agg [.int .u8 (4), .int .i64 (0), .str [], .nils], .agg [.int .u8 (4), .int .i64 (0), .str [], .nils]], [], .int .i64 (0), [], 10118⟩
theorem c6777_ok {B : Bs} (hS : KK B) : OO B c6777 := mkC allC_leaf hS (by kernel_rfl)
noncomputable def c6821 : Cut := ⟨9, 10128, [.agg [.int .u8 (4), .int .i64 (0), .str [], .nils], .agg [.int .u8 (4), .int .i64 (0), .str [97], .nils]], [], .int .i64 (-1), [], 10203⟩
theorem c6821_ok {B : Bs} (hS : KK B) : OO B c6821 := mkC allC_leaf hS (by kernel_rfl)
noncomputable def c6865 : Cut := ⟨9, 10213, [.agg [.int .u8 (4), .int .i64 (0), .str [], .nils], .agg [.int .u8 (5), .int .i64 (0), .str [], .nils]], [], .int .i64 (-1), [], 10274⟩
theorem c6865_ok {B : Bs} (hS : KK B) : OO B c6865 := mkC allC_leaf hS (by kernel_rfl)
noncomputable def c6907 : Cut := ⟨9, 10284, [.agg [.int .u8 (4), .int .i64 (0), .str [], .nils], .agg [.int .u8 (5), .int .i64 (0), .str [], .slice 10 0 2 2]], [(10, o0)], .int .i64 (-1), [(10, o0)], 10393⟩
theorem c6907_ok {B : Bs} (hS : KK B) : OO B c6907 := mkC allC_leaf hS (by kernel_rfl)
noncomputable def c6977 : Cut := ⟨9, 10403, [.agg [.int .u8 (4), .int .i64 (0), .str [], .nils], .agg [.int .u8 (5), .int .i64 (0), .str [], .slice 14 0 2 2]], [(14, o1)], .int .i64 (-1), [(14, o1)], 10512⟩
theorem c6977_ok {B : Bs} (hS : KK B) : OO B c6977 := mkC allC_leaf hS (by kernel_rfl)
noncomputable def c7047 : Cut := ⟨9, 10522, [.agg [.int .u8 (4), .int .i64 (0), .str [], .nils], .agg [.int .u8 (6), .int .i64 (0), .str [99, 111, 110, 115], .slice 18 0 2 2]], [(18, o2)], .int .i64 (-1), [(18, o2)], 10633⟩
theorem c7047_ok {B : Bs} (hS : KK B) : OO B c7047 := mkC allC_leaf hS (by kernel_rfl)
noncomputable def c7142 : Cut := ⟨9, 10643, [.agg [.int .u8 (4), .int .i64 (0), .str [], .nils], .agg [.int .u8 (6), .int .i64 (0), .str [99, 111, 110, 115], .slice 21 0 1 1]], [(21, o3)], .int .i64 (-1), [(21, o3)], 10729⟩
theorem c7142_ok {B : Bs} (hS : KK B) : OO B c7142 := mkC allC_leaf hS (by kernel_rfl)
noncomputable def c7211 : Cut := ⟨9, 10739, [.agg [.int .u8 (4), .int .i64 (0), .str [], .nils], .agg [.int .u8 (6), .int .i64 (0), .str [110, 105, 108], .nils]], [], .int .i64 (-1), [], 10801⟩
theorem c7211_ok {B : Bs} (hS : KK B) : OO B c7211 := mkC allC_leaf hS (by kernel_rfl)
noncomputable def c7265 : Cut := ⟨9, 10811, [.agg [.int .u8 (4), .int .i64 (0), .str [], .nils], .agg [.int .u8 (0), .int .i64 (0), .str [], .nils]], [], .int .i64 (-1), [], 10862⟩
theorem c7265_ok {B : Bs} (hS : KK B) : OO B c7265 := mkC allC_leaf hS (by kernel_rfl)
noncomputable def c7294 : Cut := ⟨9, 10872, [.agg [.int .u8 (4), .int .i64 (0), .str [97], .nils], .agg [.int .u8 (1), .int .i64 (0), .str [], .nils]], [], .int .i64 (1), [], 10933⟩
theorem c7294_ok {B : Bs} (hS : KK B) : OO B c7294 := mkC allC_leaf hS (by kernel_rfl)
noncomputable def c7336 : Cut := ⟨9, 10943, [.agg [.int .u8 (4), .int .i64 (0), .str [97], .nils], .agg [.int .u8 (1), .int .i64 (1), .str [], .nils]], [], .int .i64 (1), [], 11004⟩
theorem c7336_ok {B : Bs} (hS : KK B) : OO B c7336 := mkC allC_leaf hS (by kernel_rfl)
noncomputable def c7378 : Cut := ⟨9, 11014, [.agg [.int .u8 (4), .int .i64 (0), .str [97], .nils], .agg [.int .u8 (2), .int .i64 (-5), .str [], .nils]], [], .int .i64 (1), [], 11075⟩
theorem c7378_ok {B : Bs} (hS : KK B) : OO B c7378 := mkC allC_leaf hS (by kernel_rfl)
noncomputable def c7420 : Cut := ⟨9, 11085, [.agg [.int .u8 (4), .int .i64 (0), .str [97], .nils], .agg [.int .u8 (2), .int .i64 (3), .str [], .nils]], [], .int .i64 (1), [], 11146⟩
theorem c7420_ok {B : Bs} (hS : KK B) : OO B c7420 := mkC allC_leaf hS (by kernel_rfl)
noncomputable def c7462 : Cut := ⟨9, 11156, [.agg [.int .u8 (4), .int .i64 (0), .str [97], .nils], .agg [.int .u8 (3), .int .i64 (0), .str [45, 53], .nils]], [], .int .i64 (1), [], 11219⟩
theorem c7462_ok {B : Bs} (hS : KK B) : OO B c7462 := mkC allC_leaf hS (by kernel_rfl)
noncomputable def c7512 : Cut := ⟨9, 11229, [.agg [.int .u8 (4), .int .i64 (0), .str [97], .nils], .agg [.int .u8 (3), .int .i64 (0), .str [51], .nils]], [], .int .i64 (1), [], 11292⟩
theorem c7512_ok {B : Bs} (hS : KK B) : OO B c7512 := mkC allC_leaf hS (by kernel_rfl)
noncomputable def c7562 : Cut := ⟨9, 11302, [.agg [.int .u8 (4), .int .i64 (0), .str [97], .nils], .agg [.int .u8 (3), .int .i64 (0), .str [49, 48], .nils]], [], .int .i64 (1), [], 11365⟩
theorem c7562_ok {B : Bs} (hS : KK B) : OO B c7562 := mkC allC_leaf hS (by kernel_rfl)
noncomputable def c7612 : Cut := ⟨9, 11375, [.agg [.int .u8 (4), .int .i64 (0), .str [97], .nils], .agg [.int .u8 (4), .int .i64 (0), .str [], .nils]], [], .int .i64 (1), [], 11450⟩
theorem c7612_ok {B : Bs} (hS : KK B) : OO B c7612 := mkC allC_leaf hS (by kernel_rfl)
noncomputable def c7656 : Cut := ⟨9, 11460, [.agg [.int .u8 (4), .int .i64 (0), .str [97], .nils], .agg [.int .u8 (4), .int .i64 (0), .str [97], .nils]], [], .int .i64 (0), [], 11535⟩
theorem c7656_ok {B : Bs} (hS : KK B) : OO B c7656 := mkC allC_leaf hS (by kernel_rfl)
noncomputable def c7700 : Cut := ⟨9, 11545, [.agg [.int .u8 (4), .int .i64 (0), .str [97], .nils], .agg [.int .u8 (5), .int .i64 (0), .str [], .nils]], [], .int .i64 (-1), [], 11606⟩
theorem c7700_ok {B : Bs} (hS : KK B) : OO B c7700 := mkC allC_leaf hS (by kernel_rfl)
noncomputable def c7742 : Cut := ⟨9, 11616, [.agg [.int .u8 (4), .int .i64 (0), .str [97], .nils], .agg [.int .u8 (5), .int .i64 (0), .str [], .slice 10 0 2 2]], [(10, o0)], .int .i64 (-1), [(10, o0)], 11725⟩
theorem c7742_ok {B : Bs} (hS : KK B) : OO B c7742 := mkC allC_leaf hS (by kernel_rfl)
noncomputable def c7812 : Cut := ⟨9, 11735, [.agg [.int .u8 (4), .int .i64 (0), .str [97], .nils], .agg [.int .u8 (5), .int .i64 (0), .str [], .slice 14 0 2 2]], [(14, o1)], .int .i64 (-1), [(14, o1)], 11844⟩
theorem c7812_ok {B : Bs} (hS : KK B) : OO B c7812 := mkC allC_leaf hS (by kernel_rfl)
noncomputable def c7882 : Cut := ⟨9, 11854, [.agg [.int .u8 (4), .int .i64 (0), .str [97], .nils], .agg [.int .u8 (6), .int .i64 (0), .str [99, 111, 110, 115], .slice 18 0 2 2]], [(18, o2)], .int .i64 (-1), [(18, o2)], 11965⟩
theorem c7882_ok {B : Bs} (hS : KK B) : OO B c7882 := mkC allC_leaf hS (by kernel_rfl)
end Go.Proofs.YtbdegmhpdjpppaaGreatDoor
