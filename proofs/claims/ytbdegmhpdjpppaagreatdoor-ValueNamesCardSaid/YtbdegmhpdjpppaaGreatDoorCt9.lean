/- Stretches of the run. -/
import Derived.Test.YtbdegmhpdjpppaaGreatDoorCt0
namespace Go.Proofs.YtbdegmhpdjpppaaGreatDoor
open Go Go.Xe
set_option maxRecDepth 10000000
set_option linter.unusedVariables false
noncomputable def c12673 : Cut := ⟨9, 19213, [.agg [.int .u8 (6), .int .i64 (0), .str [99, 111, 110, 115], .slice 18 0 2 2], .agg [.int .u8 (5), .int .i64 (0), .str [], .slice 14 0 2 2]], [(14, o1), (18, o2)], .int .i64 (1), [(14, o1), (18, o2)], 19372⟩
theorem c12673_ok {B : Bs} (hS : KK B) : OO B c12673 := mkC allC_leaf hS (by kernel_rfl)
noncomputable def c12796 : Cut := ⟨9, 19382, [.agg [.int .u8 (6), .int .i64 (0), .str [99, 111, 110, 115], .slice 18 0 2 2], .agg [.int .u8 (6), .int .i64 (0), .str [99, 111, 110, 115], .slice 18 0 2 2]], [(18, o2)], .int .i64 (0), [(18, o2)], 19583⟩
theorem c12796_ok {B : Bs} (hS : KK B) : OO B c12796 := mkC allC_leaf hS (by kernel_rfl)
noncomputable def c12958 : Cut := ⟨9, 19593, [.agg [.int .u8 (6), .int .i64 (0), .str [99, 111, 110, 115], .slice 18 0 2 2], .agg [.int .u8 (6), .int .i64 (0), .str [99, 111, 110, 115], .slice 21 0 1 1]], [(18, o2), (21, o3)], .int .i64 (-1), [(18, o2), (21, o3)], 19749⟩
theorem c12958_ok {B : Bs} (hS : KK B) : OO B c12958 := mkC allC_leaf hS (by kernel_rfl)
noncomputable def c13087 : Cut := ⟨9, 19759, [.agg [.int .u8 (6), .int .i64 (0), .str [99, 111, 110, 115], .slice 18 0 2 2], .agg [.int .u8 (6), .int .i64 (0), .str [110, 105, 108], .nils]], [(18, o2)], .int .i64 (-1), [(18, o2)], 19886⟩
theorem c13087_ok {B : Bs} (hS : KK B) : OO B c13087 := mkC allC_leaf hS (by kernel_rfl)
noncomputable def c13196 : Cut := ⟨9, 19896, [.agg [.int .u8 (6), .int .i64 (0), .str [99, 111, 110, 115], .slice 18 0 2 2], .agg [.int .u8 (0), .int .i64 (0), .str [], .nils]], [(18, o2)], .int .i64 (-1), [(18, o2)], 19997⟩
theorem c13196_ok {B : Bs} (hS : KK B) : OO B c13196 := mkC allC_leaf hS (by kernel_rfl)
noncomputable def c13278 : Cut := ⟨9, 20007, [.agg [.int .u8 (6), .int .i64 (0), .str [99, 111, 110, 115], .slice 21 0 1 1], .agg [.int .u8 (1), .int .i64 (0), .str [], .nils]], [(21, o3)], .int .i64 (1), [(21, o3)], 20093⟩
theorem c13278_ok {B : Bs} (hS : KK B) : OO B c13278 := mkC allC_leaf hS (by kernel_rfl)
noncomputable def c13347 : Cut := ⟨9, 20103, [.agg [.int .u8 (6), .int .i64 (0), .str [99, 111, 110, 115], .slice 21 0 1 1], .agg [.int .u8 (1), .int .i64 (1), .str [], .nils]], [(21, o3)], .int .i64 (1), [(21, o3)], 20189⟩
theorem c13347_ok {B : Bs} (hS : KK B) : OO B c13347 := mkC allC_leaf hS (by kernel_rfl)
noncomputable def c13416 : Cut := ⟨9, 20199, [.agg [.int .u8 (6), .int .i64 (0), .str [99, 111, 110, 115], .slice 21 0 1 1], .agg [.int .u8 (2), .int .i64 (-5), .str [], .nils]], [(21, o3)], .int .i64 (1), [(21, o3)], 20285⟩
theorem c13416_ok {B : Bs} (hS : KK B) : OO B c13416 := mkC allC_leaf hS (by kernel_rfl)
noncomputable def c13485 : Cut := ⟨9, 20295, [.agg [.int .u8 (6), .int .i64 (0), .str [99, 111, 110, 115], .slice 21 0 1 1], .agg [.int .u8 (2), .int .i64 (3), .str [], .nils]], [(21, o3)], .int .i64 (1), [(21, o3)], 20381⟩
theorem c13485_ok {B : Bs} (hS : KK B) : OO B c13485 := mkC allC_leaf hS (by kernel_rfl)
noncomputable def c13554 : Cut := ⟨9, 20391, [.agg [.int .u8 (6), .int .i64 (0), .str [99, 111, 110, 115], .slice 21 0 1 1], .agg [.int .u8 (3), .int .i64 (0), .str [45, 53], .nils]], [(21, o3)], .int .i64 (1), [(21, o3)], 20479⟩
theorem c13554_ok {B : Bs} (hS : KK B) : OO B c13554 := mkC allC_leaf hS (by kernel_rfl)
noncomputable def c13631 : Cut := ⟨9, 20489, [.agg [.int .u8 (6), .int .i64 (0), .str [99, 111, 110, 115], .slice 21 0 1 1], .agg [.int .u8 (3), .int .i64 (0), .str [51], .nils]], [(21, o3)], .int .i64 (1), [(21, o3)], 20577⟩
theorem c13631_ok {B : Bs} (hS : KK B) : OO B c13631 := mkC allC_leaf hS (by kernel_rfl)
noncomputable def c13708 : Cut := ⟨9, 20587, [.agg [.int .u8 (6), .int .i64 (0), .str [99, 111, 110, 115], .slice 21 0 1 1], .agg [.int .u8 (3), .int .i64 (0), .str [49, 48], .nils]], [(21, o3)], .int .i64 (1), [(21, o3)], 20675⟩
theorem c13708_ok {B : Bs} (hS : KK B) : OO B c13708 := mkC allC_leaf hS (by kernel_rfl)
noncomputable def c13785 : Cut := ⟨9, 20685, [.agg [.int .u8 (6), .int .i64 (0), .str [99, 111, 110, 115], .slice 21 0 1 1], .agg [.int .u8 (4), .int .i64 (0), .str [], .nils]], [(21, o3)], .int .i64 (1), [(21, o3)], 20771⟩
theorem c13785_ok {B : Bs} (hS : KK B) : OO B c13785 := mkC allC_leaf hS (by kernel_rfl)
noncomputable def c13854 : Cut := ⟨9, 20781, [.agg [.int .u8 (6), .int .i64 (0), .str [99, 111, 110, 115], .slice 21 0 1 1], .agg [.int .u8 (4), .int .i64 (0), .str [97], .nils]], [(21, o3)], .int .i64 (1), [(21, o3)], 20867⟩
theorem c13854_ok {B : Bs} (hS : KK B) : OO B c13854 := mkC allC_leaf hS (by kernel_rfl)
noncomputable def c13923 : Cut := ⟨9, 20877, [.agg [.int .u8 (6), .int .i64 (0), .str [99, 111, 110, 115], .slice 21 0 1 1], .agg [.int .u8 (5), .int .i64 (0), .str [], .nils]], [(21, o3)], .int .i64 (1), [(21, o3)], 20963⟩
theorem c13923_ok {B : Bs} (hS : KK B) : OO B c13923 := mkC allC_leaf hS (by kernel_rfl)
noncomputable def c13992 : Cut := ⟨9, 20973, [.agg [.int .u8 (6), .int .i64 (0), .str [99, 111, 110, 115], .slice 21 0 1 1], .agg [.int .u8 (5), .int .i64 (0), .str [], .slice 10 0 2 2]], [(10, o0), (21, o3)], .int .i64 (1), [(10, o0), (21, o3)], 21107⟩
theorem c13992_ok {B : Bs} (hS : KK B) : OO B c13992 := mkC allC_leaf hS (by kernel_rfl)
end Go.Proofs.YtbdegmhpdjpppaaGreatDoor
