/- Stretches of the run. -/
import Derived.Test.YtifoonbjnohdbaaGreatDoorCt0
namespace Go.Proofs.YtifoonbjnohdbaaGreatDoor
open Go Go.Xe
set_option maxRecDepth 10000000
set_option linter.unusedVariables false
noncomputable def c8092 : Cut := ⟨80, 6131, [.slice 4830 0 256 257, .func (.func 40) [] []], [(4830, o71)], .int .i64 (-1), [(4830, o71)], 6387⟩
theorem c8092_ok {B : Bs} (hS : KK B) : OO B c8092 := mkC allC_leaf hS (by kernel_rfl)
noncomputable def c9390 : Cut := ⟨51, 6398, o73, [(6393, o69)], .bool true, [(6393, o69)], 6401⟩
theorem c9390_ok {B : Bs} (hS : KK B) : OO B c9390 := mkC allC_leaf hS (by kernel_rfl)
noncomputable def c9407 : Cut := ⟨51, 6402, o73, [(6393, o69)], .bool true, [(6393, o69)], 6405⟩
theorem c9407_ok {B : Bs} (hS : KK B) : OO B c9407 := mkC allC_leaf hS (by kernel_rfl)
noncomputable def c9424 : Cut := ⟨51, 6406, o73, [(6393, o69)], .bool true, [(6393, o69)], 6409⟩
theorem c9424_ok {B : Bs} (hS : KK B) : OO B c9424 := mkC allC_leaf hS (by kernel_rfl)
noncomputable def c9441 : Cut := ⟨51, 6410, o73, [(6393, o69)], .bool true, [(6393, o69)], 6413⟩
theorem c9441_ok {B : Bs} (hS : KK B) : OO B c9441 := mkC allC_leaf hS (by kernel_rfl)
noncomputable def c9458 : Cut := ⟨51, 6414, o73, [(6393, o69)], .bool true, [(6393, o69)], 6417⟩
theorem c9458_ok {B : Bs} (hS : KK B) : OO B c9458 := mkC allC_leaf hS (by kernel_rfl)
noncomputable def c9475 : Cut := ⟨51, 6418, o73, [(6393, o69)], .bool true, [(6393, o69)], 6421⟩
theorem c9475_ok {B : Bs} (hS : KK B) : OO B c9475 := mkC allC_leaf hS (by kernel_rfl)
noncomputable def c9492 : Cut := ⟨51, 6422, o73, [(6393, o69)], .bool true, [(6393, o69)], 6425⟩
theorem c9492_ok {B : Bs} (hS : KK B) : OO B c9492 := mkC allC_leaf hS (by kernel_rfl)
noncomputable def c9509 : Cut := ⟨51, 6426, o73, [(6393, o69)], .bool true, [(6393, o69)], 6429⟩
theorem c9509_ok {B : Bs} (hS : KK B) : OO B c9509 := mkC allC_leaf hS (by kernel_rfl)
noncomputable def c9526 : Cut := ⟨51, 6430, o73, [(6393, o69)], .bool true, [(6393, o69)], 6433⟩
theorem c9526_ok {B : Bs} (hS : KK B) : OO B c9526 := mkC allC_leaf hS (by kernel_rfl)
noncomputable def c9543 : Cut := ⟨51, 6434, o73, [(6393, o69)], .bool true, [(6393, o69)], 6437⟩
theorem c9543_ok {B : Bs} (hS : KK B) : OO B c9543 := mkC allC_leaf hS (by kernel_rfl)
noncomputable def c9560 : Cut := ⟨51, 6438, o73, [(6393, o69)], .bool true, [(6393, o69)], 6441⟩
theorem c9560_ok {B : Bs} (hS : KK B) : OO B c9560 := mkC allC_leaf hS (by kernel_rfl)
noncomputable def c9577 : Cut := ⟨51, 6442, o73, [(6393, o69)], .bool true, [(6393, o69)], 6445⟩
theorem c9577_ok {B : Bs} (hS : KK B) : OO B c9577 := mkC allC_leaf hS (by kernel_rfl)
noncomputable def c9594 : Cut := ⟨51, 6446, o73, [(6393, o69)], .bool true, [(6393, o69)], 6449⟩
theorem c9594_ok {B : Bs} (hS : KK B) : OO B c9594 := mkC allC_leaf hS (by kernel_rfl)
noncomputable def c9611 : Cut := ⟨51, 6450, o73, [(6393, o69)], .bool true, [(6393, o69)], 6453⟩
theorem c9611_ok {B : Bs} (hS : KK B) : OO B c9611 := mkC allC_leaf hS (by kernel_rfl)
noncomputable def c9628 : Cut := ⟨51, 6454, o73, [(6393, o69)], .bool true, [(6393, o69)], 6457⟩
theorem c9628_ok {B : Bs} (hS : KK B) : OO B c9628 := mkC allC_leaf hS (by kernel_rfl)
noncomputable def c9645 : Cut := ⟨51, 6458, o73, [(6393, o69)], .bool true, [(6393, o69)], 6461⟩
theorem c9645_ok {B : Bs} (hS : KK B) : OO B c9645 := mkC allC_leaf hS (by kernel_rfl)
noncomputable def c9662 : Cut := ⟨51, 6462, o73, [(6393, o69)], .bool true, [(6393, o69)], 6465⟩
theorem c9662_ok {B : Bs} (hS : KK B) : OO B c9662 := mkC allC_leaf hS (by kernel_rfl)
noncomputable def c9679 : Cut := ⟨51, 6466, o73, [(6393, o69)], .bool true, [(6393, o69)], 6469⟩
theorem c9679_ok {B : Bs} (hS : KK B) : OO B c9679 := mkC allC_leaf hS (by kernel_rfl)
noncomputable def c9696 : Cut := ⟨51, 6470, o73, [(6393, o69)], .bool true, [(6393, o69)], 6473⟩
theorem c9696_ok {B : Bs} (hS : KK B) : OO B c9696 := mkC allC_leaf hS (by kernel_rfl)
noncomputable def c9713 : Cut := ⟨51, 6474, o73, [(6393, o69)], .bool true, [(6393, o69)], 6477⟩
theorem c9713_ok {B : Bs} (hS : KK B) : OO B c9713 := mkC allC_leaf hS (by kernel_rfl)
noncomputable def c9730 : Cut := ⟨51, 6478, o73, [(6393, o69)], .bool true, [(6393, o69)], 6481⟩
theorem c9730_ok {B : Bs} (hS : KK B) : OO B c9730 := mkC allC_leaf hS (by kernel_rfl)
noncomputable def c9747 : Cut := ⟨51, 6482, o73, [(6393, o69)], .bool true, [(6393, o69)], 6485⟩
theorem c9747_ok {B : Bs} (hS : KK B) : OO B c9747 := mkC allC_leaf hS (by kernel_rfl)
noncomputable def c9764 : Cut := ⟨51, 6486, o73, [(6393, o69)], .bool true, [(6393, o69)], 6489⟩
theorem c9764_ok {B : Bs} (hS : KK B) : OO B c9764 := mkC allC_leaf hS (by kernel_rfl)
noncomputable def c9781 : Cut := ⟨51, 6490, o73, [(6393, o69)], .bool true, [(6393, o69)], 6493⟩
theorem c9781_ok {B : Bs} (hS : KK B) : OO B c9781 := mkC allC_leaf hS (by kernel_rfl)
noncomputable def c9798 : Cut := ⟨51, 6494, o73, [(6393, o69)], .bool true, [(6393, o69)], 6497⟩
theorem c9798_ok {B : Bs} (hS : KK B) : OO B c9798 := mkC allC_leaf hS (by kernel_rfl)
noncomputable def c9815 : Cut := ⟨51, 6498, o73, [(6393, o69)], .bool true, [(6393, o69)], 6501⟩
theorem c9815_ok {B : Bs} (hS : KK B) : OO B c9815 := mkC allC_leaf hS (by kernel_rfl)
noncomputable def c9832 : Cut := ⟨51, 6502, o73, [(6393, o69)], .bool true, [(6393, o69)], 6505⟩
theorem c9832_ok {B : Bs} (hS : KK B) : OO B c9832 := mkC allC_leaf hS (by kernel_rfl)
end Go.Proofs.YtifoonbjnohdbaaGreatDoor
