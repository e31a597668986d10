/- Stretches of the run. -/
import Derived.Test.YtbdegmhpdjpppaaGreatDoorCt0
namespace Go.Proofs.YtbdegmhpdjpppaaGreatDoor
open Go Go.Xe
set_option maxRecDepth 10000000
set_option linter.unusedVariables false
noncomputable def c15586 : Cut := ⟨9, 23128, [.agg [.int .u8 (0), .int .i64 (0), .str [], .nils], .agg [.int .u8 (1), .int .i64 (0), .str [], .nils]], [], .int .i64 (1), [], 23179⟩
theorem c15586_ok {B : Bs} (hS : KK B) : OO B c15586 := mkC allC_leaf hS (by kernel_rfl)
noncomputable def c15615 : Cut := ⟨9, 23189, [.agg [.int .u8 (0), .int .i64 (0), .str [], .nils], .agg [.int .u8 (1), .int .i64 (1), .str [], .nils]], [], .int .i64 (1), [], 23240⟩
theorem c15615_ok {B : Bs} (hS : KK B) : OO B c15615 := mkC allC_leaf hS (by kernel_rfl)
noncomputable def c15644 : Cut := ⟨9, 23250, [.agg [.int .u8 (0), .int .i64 (0), .str [], .nils], .agg [.int .u8 (2), .int .i64 (-5), .str [], .nils]], [], .int .i64 (1), [], 23301⟩
theorem c15644_ok {B : Bs} (hS : KK B) : OO B c15644 := mkC allC_leaf hS (by kernel_rfl)
noncomputable def c15673 : Cut := ⟨9, 23311, [.agg [.int .u8 (0), .int .i64 (0), .str [], .nils], .agg [.int .u8 (2), .int .i64 (3), .str [], .nils]], [], .int .i64 (1), [], 23362⟩
theorem c15673_ok {B : Bs} (hS : KK B) : OO B c15673 := mkC allC_leaf hS (by kernel_rfl)
noncomputable def c15702 : Cut := ⟨9, 23372, [.agg [.int .u8 (0), .int .i64 (0), .str [], .nils], .agg [.int .u8 (3), .int .i64 (0), .str [45, 53], .nils]], [], .int .i64 (1), [], 23425⟩
theorem c15702_ok {B : Bs} (hS : KK B) : OO B c15702 := mkC allC_leaf hS (by kernel_rfl)
noncomputable def c15739 : Cut := ⟨9, 23435, [.agg [.int .u8 (0), .int .i64 (0), .str [], .nils], .agg [.int .u8 (3), .int .i64 (0), .str [51], .nils]], [], .int .i64 (1), [], 23488⟩
theorem c15739_ok {B : Bs} (hS : KK B) : OO B c15739 := mkC allC_leaf hS (by kernel_rfl)
noncomputable def c15776 : Cut := ⟨9, 23498, [.agg [.int .u8 (0), .int .i64 (0), .str [], .nils], .agg [.int .u8 (3), .int .i64 (0), .str [49, 48], .nils]], [], .int .i64 (1), [], 23551⟩
theorem c15776_ok {B : Bs} (hS : KK B) : OO B c15776 := mkC allC_leaf hS (by kernel_rfl)
noncomputable def c15813 : Cut := ⟨9, 23561, [.agg [.int .u8 (0), .int .i64 (0), .str [], .nils], .agg [.int .u8 (4), .int .i64 (0), .str [], .nils]], [], .int .i64 (1), [], 23612⟩
theorem c15813_ok {B : Bs} (hS : KK B) : OO B c15813 := mkC allC_leaf hS (by kernel_rfl)
noncomputable def c15842 : Cut := ⟨9, 23622, [.agg [.int .u8 (0), .int .i64 (0), .str [], .nils], .agg [.int .u8 (4), .int .i64 (0), .str [97], .nils]], [], .int .i64 (1), [], 23673⟩
theorem c15842_ok {B : Bs} (hS : KK B) : OO B c15842 := mkC allC_leaf hS (by kernel_rfl)
noncomputable def c15871 : Cut := ⟨9, 23683, [.agg [.int .u8 (0), .int .i64 (0), .str [], .nils], .agg [.int .u8 (5), .int .i64 (0), .str [], .nils]], [], .int .i64 (1), [], 23734⟩
theorem c15871_ok {B : Bs} (hS : KK B) : OO B c15871 := mkC allC_leaf hS (by kernel_rfl)
noncomputable def c15900 : Cut := ⟨9, 23744, [.agg [.int .u8 (0), .int .i64 (0), .str [], .nils], .agg [.int .u8 (5), .int .i64 (0), .str [], .slice 10 0 2 2]], [(10, o0)], .int .i64 (1), [(10, o0)], 23843⟩
theorem c15900_ok {B : Bs} (hS : KK B) : OO B c15900 := mkC allC_leaf hS (by kernel_rfl)
noncomputable def c15957 : Cut := ⟨9, 23853, [.agg [.int .u8 (0), .int .i64 (0), .str [], .nils], .agg [.int .u8 (5), .int .i64 (0), .str [], .slice 14 0 2 2]], [(14, o1)], .int .i64 (1), [(14, o1)], 23952⟩
theorem c15957_ok {B : Bs} (hS : KK B) : OO B c15957 := mkC allC_leaf hS (by kernel_rfl)
noncomputable def c16014 : Cut := ⟨9, 23962, [.agg [.int .u8 (0), .int .i64 (0), .str [], .nils], .agg [.int .u8 (6), .int .i64 (0), .str [99, 111, 110, 115], .slice 18 0 2 2]], [(18, o2)], .int .i64 (1), [(18, o2)], 24063⟩
theorem c16014_ok {B : Bs} (hS : KK B) : OO B c16014 := mkC allC_leaf hS (by kernel_rfl)
noncomputable def c16096 : Cut := ⟨9, 24073, [.agg [.int .u8 (0), .int .i64 (0), .str [], .nils], .agg [.int .u8 (6), .int .i64 (0), .str [99, 111, 110, 115], .slice 21 0 1 1]], [(21, o3)], .int .i64 (1), [(21, o3)], 24149⟩
theorem c16096_ok {B : Bs} (hS : KK B) : OO B c16096 := mkC allC_leaf hS (by kernel_rfl)
noncomputable def c16152 : Cut := ⟨9, 24159, [.agg [.int .u8 (0), .int .i64 (0), .str [], .nils], .agg [.int .u8 (6), .int .i64 (0), .str [110, 105, 108], .nils]], [], .int .i64 (1), [], 24211⟩
theorem c16152_ok {B : Bs} (hS : KK B) : OO B c16152 := mkC allC_leaf hS (by kernel_rfl)
noncomputable def c16193 : Cut := ⟨9, 24221, [.agg [.int .u8 (0), .int .i64 (0), .str [], .nils], .agg [.int .u8 (0), .int .i64 (0), .str [], .nils]], [], .int .i64 (0), [], 24269⟩
theorem c16193_ok {B : Bs} (hS : KK B) : OO B c16193 := mkC allC_leaf hS (by kernel_rfl)
noncomputable def c16281 : Cut := ⟨10, 24414, [.agg [.int .u8 (3), .int .i64 (0), .str [48, 49], .nils]], [], .int .i64 (4), [], 24433⟩
theorem c16281_ok {B : Bs} (hS : KK B) : OO B c16281 := mkC allC_leaf hS (by kernel_rfl)
noncomputable def c16293 : Cut := ⟨10, 24435, [.agg [.int .u8 (5), .int .i64 (0), .str [], .slice 24403 0 1 1]], [(24403, o4)], .int .i64 (4), [(24403, o4)], 24457⟩
theorem c16293_ok {B : Bs} (hS : KK B) : OO B c16293 := mkC allC_leaf hS (by kernel_rfl)
noncomputable def c16304 : Cut := ⟨10, 24458, [.agg [.int .u8 (5), .int .i64 (0), .str [], .slice 24407 0 17 17]], [(24407, o5)], .int .i64 (4), [(24407, o5)], 24545⟩
theorem c16304_ok {B : Bs} (hS : KK B) : OO B c16304 := mkC allC_leaf hS (by kernel_rfl)
noncomputable def c16401 : Cut := ⟨10, 24564, [.agg [.int .u8 (5), .int .i64 (0), .str [], .slice 24562 0 17 17]], [(24562, o6)], .int .i64 (40), [(24562, o6)], 24926⟩
theorem c16401_ok {B : Bs} (hS : KK B) : OO B c16401 := mkC allC_leaf hS (by kernel_rfl)
noncomputable def c16565 : Cut := ⟨10, 24927, [.agg [.int .u8 (3), .int .i64 (0), .str [55, 55, 55, 55, 55, 55, 55, 55, 55, 55, 55, 55, 55, 55, 55, 55, 55, 55, 55, 55, 55, 55, 55, 55, 55, 55, 55, 55, 55, 55, 55, 55, 55, 55, 55, 55, 55, 55, 55, 55, 55, 55, 55, 55, 55, 55, 55, 55, 55, 55, 55, 55, 55, 55, 55, 55, 55, 55, 55, 55, 55, 55, 55, 55, 55, 55, 55, 55, 55, 55, 55, 55, 55, 55, 55, 55, 55, 55, 55, 55, 55, 55, 55, 55, 55, 55, 55, 55, 55, 55, 55, 55, 55, 55, 55, 55, 55, 55, 55, 55, 55, 55, 55, 55, 55, 55, 55, 55, 55, 55, 55, 55, 55, 55, 55, 55, 55, 55, 55, 55, 55, 55, 55, 55, 55, 55, 55, 55, 55, 55, 55, 55, 55, 55, 55, 55, 55, 55, 55, 55, 55, 55, 55, 55, 55, 55, 55, 55, 55, 55, 55, 55, 55, 55, 55, 55, 55, 55, 55, 55, 55, 55, 55, 55, 55, 55, 55, 55, 55, 55, 55, 55, 55, 55, 55, 55, 55, 55, 55, 55, 55, 55, 55, 55, 55, 55, 55, 55, 55, 55, 55, 55, 55, 55, 55, 55, 55, 55, 55, 55], .nils]], [], .int .i64 (0), [], 24951⟩
theorem c16565_ok {B : Bs} (hS : KK B) : OO B c16565 := mkC allC_leaf hS (by kernel_rfl)
noncomputable def c16586 : Cut := ⟨10, 24952, [.agg [.int .u8 (3), .int .i64 (0), .str [45, 55, 55, 55, 55, 55, 55, 55, 55, 55, 55, 55, 55, 55, 55, 55, 55, 55, 55, 55, 55, 55, 55, 55, 55, 55, 55, 55, 55, 55, 55, 55, 55, 55, 55, 55, 55, 55, 55, 55, 55, 55, 55, 55, 55, 55, 55, 55, 55, 55, 55, 55, 55, 55, 55, 55, 55, 55, 55, 55, 55, 55, 55, 55, 55, 55, 55, 55, 55, 55, 55, 55, 55, 55, 55, 55, 55, 55, 55, 55, 55, 55, 55, 55, 55, 55, 55, 55, 55, 55, 55, 55, 55, 55, 55, 55, 55, 55, 55, 55, 55, 55, 55, 55, 55, 55, 55, 55, 55, 55, 55, 55, 55, 55, 55, 55, 55, 55, 55, 55, 55, 55, 55, 55, 55, 55, 55, 55, 55, 55, 55, 55, 55, 55, 55, 55, 55, 55, 55, 55, 55, 55, 55, 55, 55, 55, 55, 55, 55, 55, 55, 55, 55, 55, 55, 55, 55, 55, 55, 55, 55, 55, 55, 55, 55, 55, 55, 55, 55, 55, 55, 55, 55, 55, 55, 55, 55, 55, 55, 55, 55, 55, 55, 55, 55, 55, 55, 55, 55, 55, 55, 55, 55, 55, 55, 55, 55, 55, 55, 55, 55], .nils]], [], .int .i64 (0), [], 24976⟩
theorem c16586_ok {B : Bs} (hS : KK B) : OO B c16586 := mkC allC_leaf hS (by kernel_rfl)
end Go.Proofs.YtbdegmhpdjpppaaGreatDoor
