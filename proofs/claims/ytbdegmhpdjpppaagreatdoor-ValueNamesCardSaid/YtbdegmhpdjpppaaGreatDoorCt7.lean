/- Stretches of the run. -/
import Derived.Test.YtbdegmhpdjpppaaGreatDoorCt0
namespace Go.Proofs.YtbdegmhpdjpppaaGreatDoor
open Go Go.Xe
set_option maxRecDepth 10000000
set_option linter.unusedVariables false
noncomputable def c9620 : Cut := ⟨9, 14627, [.agg [.int .u8 (5), .int .i64 (0), .str [], .slice 10 0 2 2], .agg [.int .u8 (5), .int .i64 (0), .str [], .nils]], [(10, o0)], .int .i64 (1), [(10, o0)], 14751⟩
theorem c9620_ok {B : Bs} (hS : KK B) : OO B c9620 := mkC allC_leaf hS (by kernel_rfl)
noncomputable def c9692 : Cut := ⟨9, 14761, [.agg [.int .u8 (5), .int .i64 (0), .str [], .slice 10 0 2 2], .agg [.int .u8 (5), .int .i64 (0), .str [], .slice 10 0 2 2]], [(10, o0)], .int .i64 (0), [(10, o0)], 14944⟩
theorem c9692_ok {B : Bs} (hS : KK B) : OO B c9692 := mkC allC_leaf hS (by kernel_rfl)
noncomputable def c9802 : Cut := ⟨9, 14954, [.agg [.int .u8 (5), .int .i64 (0), .str [], .slice 10 0 2 2], .agg [.int .u8 (5), .int .i64 (0), .str [], .slice 14 0 2 2]], [(10, o0), (14, o1)], .int .i64 (-1), [(10, o0), (14, o1)], 15137⟩
theorem c9802_ok {B : Bs} (hS : KK B) : OO B c9802 := mkC allC_leaf hS (by kernel_rfl)
noncomputable def c9912 : Cut := ⟨9, 15147, [.agg [.int .u8 (5), .int .i64 (0), .str [], .slice 10 0 2 2], .agg [.int .u8 (6), .int .i64 (0), .str [99, 111, 110, 115], .slice 18 0 2 2]], [(10, o0), (18, o2)], .int .i64 (-1), [(10, o0), (18, o2)], 15306⟩
theorem c9912_ok {B : Bs} (hS : KK B) : OO B c9912 := mkC allC_leaf hS (by kernel_rfl)
noncomputable def c10035 : Cut := ⟨9, 15316, [.agg [.int .u8 (5), .int .i64 (0), .str [], .slice 10 0 2 2], .agg [.int .u8 (6), .int .i64 (0), .str [99, 111, 110, 115], .slice 21 0 1 1]], [(10, o0), (21, o3)], .int .i64 (-1), [(10, o0), (21, o3)], 15450⟩
theorem c10035_ok {B : Bs} (hS : KK B) : OO B c10035 := mkC allC_leaf hS (by kernel_rfl)
noncomputable def c10132 : Cut := ⟨9, 15460, [.agg [.int .u8 (5), .int .i64 (0), .str [], .slice 10 0 2 2], .agg [.int .u8 (6), .int .i64 (0), .str [110, 105, 108], .nils]], [(10, o0)], .int .i64 (-1), [(10, o0)], 15570⟩
theorem c10132_ok {B : Bs} (hS : KK B) : OO B c10132 := mkC allC_leaf hS (by kernel_rfl)
noncomputable def c10214 : Cut := ⟨9, 15580, [.agg [.int .u8 (5), .int .i64 (0), .str [], .slice 10 0 2 2], .agg [.int .u8 (0), .int .i64 (0), .str [], .nils]], [(10, o0)], .int .i64 (-1), [(10, o0)], 15679⟩
theorem c10214_ok {B : Bs} (hS : KK B) : OO B c10214 := mkC allC_leaf hS (by kernel_rfl)
noncomputable def c10271 : Cut := ⟨9, 15689, [.agg [.int .u8 (5), .int .i64 (0), .str [], .slice 14 0 2 2], .agg [.int .u8 (1), .int .i64 (0), .str [], .nils]], [(14, o1)], .int .i64 (1), [(14, o1)], 15798⟩
theorem c10271_ok {B : Bs} (hS : KK B) : OO B c10271 := mkC allC_leaf hS (by kernel_rfl)
noncomputable def c10341 : Cut := ⟨9, 15808, [.agg [.int .u8 (5), .int .i64 (0), .str [], .slice 14 0 2 2], .agg [.int .u8 (1), .int .i64 (1), .str [], .nils]], [(14, o1)], .int .i64 (1), [(14, o1)], 15917⟩
theorem c10341_ok {B : Bs} (hS : KK B) : OO B c10341 := mkC allC_leaf hS (by kernel_rfl)
noncomputable def c10411 : Cut := ⟨9, 15927, [.agg [.int .u8 (5), .int .i64 (0), .str [], .slice 14 0 2 2], .agg [.int .u8 (2), .int .i64 (-5), .str [], .nils]], [(14, o1)], .int .i64 (1), [(14, o1)], 16036⟩
theorem c10411_ok {B : Bs} (hS : KK B) : OO B c10411 := mkC allC_leaf hS (by kernel_rfl)
noncomputable def c10481 : Cut := ⟨9, 16046, [.agg [.int .u8 (5), .int .i64 (0), .str [], .slice 14 0 2 2], .agg [.int .u8 (2), .int .i64 (3), .str [], .nils]], [(14, o1)], .int .i64 (1), [(14, o1)], 16155⟩
theorem c10481_ok {B : Bs} (hS : KK B) : OO B c10481 := mkC allC_leaf hS (by kernel_rfl)
noncomputable def c10551 : Cut := ⟨9, 16165, [.agg [.int .u8 (5), .int .i64 (0), .str [], .slice 14 0 2 2], .agg [.int .u8 (3), .int .i64 (0), .str [45, 53], .nils]], [(14, o1)], .int .i64 (1), [(14, o1)], 16276⟩
theorem c10551_ok {B : Bs} (hS : KK B) : OO B c10551 := mkC allC_leaf hS (by kernel_rfl)
noncomputable def c10629 : Cut := ⟨9, 16286, [.agg [.int .u8 (5), .int .i64 (0), .str [], .slice 14 0 2 2], .agg [.int .u8 (3), .int .i64 (0), .str [51], .nils]], [(14, o1)], .int .i64 (1), [(14, o1)], 16397⟩
theorem c10629_ok {B : Bs} (hS : KK B) : OO B c10629 := mkC allC_leaf hS (by kernel_rfl)
noncomputable def c10707 : Cut := ⟨9, 16407, [.agg [.int .u8 (5), .int .i64 (0), .str [], .slice 14 0 2 2], .agg [.int .u8 (3), .int .i64 (0), .str [49, 48], .nils]], [(14, o1)], .int .i64 (1), [(14, o1)], 16518⟩
theorem c10707_ok {B : Bs} (hS : KK B) : OO B c10707 := mkC allC_leaf hS (by kernel_rfl)
noncomputable def c10785 : Cut := ⟨9, 16528, [.agg [.int .u8 (5), .int .i64 (0), .str [], .slice 14 0 2 2], .agg [.int .u8 (4), .int .i64 (0), .str [], .nils]], [(14, o1)], .int .i64 (1), [(14, o1)], 16637⟩
theorem c10785_ok {B : Bs} (hS : KK B) : OO B c10785 := mkC allC_leaf hS (by kernel_rfl)
noncomputable def c10855 : Cut := ⟨9, 16647, [.agg [.int .u8 (5), .int .i64 (0), .str [], .slice 14 0 2 2], .agg [.int .u8 (4), .int .i64 (0), .str [97], .nils]], [(14, o1)], .int .i64 (1), [(14, o1)], 16756⟩
theorem c10855_ok {B : Bs} (hS : KK B) : OO B c10855 := mkC allC_leaf hS (by kernel_rfl)
noncomputable def c10925 : Cut := ⟨9, 16766, [.agg [.int .u8 (5), .int .i64 (0), .str [], .slice 14 0 2 2], .agg [.int .u8 (5), .int .i64 (0), .str [], .nils]], [(14, o1)], .int .i64 (1), [(14, o1)], 16890⟩
theorem c10925_ok {B : Bs} (hS : KK B) : OO B c10925 := mkC allC_leaf hS (by kernel_rfl)
noncomputable def c10997 : Cut := ⟨9, 16900, [.agg [.int .u8 (5), .int .i64 (0), .str [], .slice 14 0 2 2], .agg [.int .u8 (5), .int .i64 (0), .str [], .slice 10 0 2 2]], [(10, o0), (14, o1)], .int .i64 (1), [(10, o0), (14, o1)], 17083⟩
theorem c10997_ok {B : Bs} (hS : KK B) : OO B c10997 := mkC allC_leaf hS (by kernel_rfl)
noncomputable def c11107 : Cut := ⟨9, 17093, [.agg [.int .u8 (5), .int .i64 (0), .str [], .slice 14 0 2 2], .agg [.int .u8 (5), .int .i64 (0), .str [], .slice 14 0 2 2]], [(14, o1)], .int .i64 (0), [(14, o1)], 17276⟩
theorem c11107_ok {B : Bs} (hS : KK B) : OO B c11107 := mkC allC_leaf hS (by kernel_rfl)
end Go.Proofs.YtbdegmhpdjpppaaGreatDoor
