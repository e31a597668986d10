/- Stretches of the run. -/
import Derived.Test.YtbdegmhpdjpppaaGreatDoorCt0
namespace Go.Proofs.YtbdegmhpdjpppaaGreatDoor
open Go Go.Xe
set_option maxRecDepth 10000000
set_option linter.unusedVariables false
noncomputable def c1683 : Cut := ⟨9, 2643, [.agg [.int .u8 (2), .int .i64 (-5), .str [], .nils], .agg [.int .u8 (1), .int .i64 (0), .str [], .nils]], [], .int .i64 (1), [], 2704⟩
theorem c1683_ok {B : Bs} (hS : KK B) : OO B c1683 := mkC allC_leaf hS (by kernel_rfl)
noncomputable def c1725 : Cut := ⟨9, 2714, [.agg [.int .u8 (2), .int .i64 (-5), .str [], .nils], .agg [.int .u8 (1), .int .i64 (1), .str [], .nils]], [], .int .i64 (1), [], 2775⟩
theorem c1725_ok {B : Bs} (hS : KK B) : OO B c1725 := mkC allC_leaf hS (by kernel_rfl)
noncomputable def c1767 : Cut := ⟨9, 2785, [.agg [.int .u8 (2), .int .i64 (-5), .str [], .nils], .agg [.int .u8 (2), .int .i64 (-5), .str [], .nils]], [], .int .i64 (0), [], 2846⟩
theorem c1767_ok {B : Bs} (hS : KK B) : OO B c1767 := mkC allC_leaf hS (by kernel_rfl)
noncomputable def c1809 : Cut := ⟨9, 2856, [.agg [.int .u8 (2), .int .i64 (-5), .str [], .nils], .agg [.int .u8 (2), .int .i64 (3), .str [], .nils]], [], .int .i64 (-1), [], 2917⟩
theorem c1809_ok {B : Bs} (hS : KK B) : OO B c1809 := mkC allC_leaf hS (by kernel_rfl)
noncomputable def c1851 : Cut := ⟨9, 2927, [.agg [.int .u8 (2), .int .i64 (-5), .str [], .nils], .agg [.int .u8 (3), .int .i64 (0), .str [45, 53], .nils]], [], .int .i64 (-1), [], 2990⟩
theorem c1851_ok {B : Bs} (hS : KK B) : OO B c1851 := mkC allC_leaf hS (by kernel_rfl)
noncomputable def c1901 : Cut := ⟨9, 3000, [.agg [.int .u8 (2), .int .i64 (-5), .str [], .nils], .agg [.int .u8 (3), .int .i64 (0), .str [51], .nils]], [], .int .i64 (-1), [], 3063⟩
theorem c1901_ok {B : Bs} (hS : KK B) : OO B c1901 := mkC allC_leaf hS (by kernel_rfl)
noncomputable def c1951 : Cut := ⟨9, 3073, [.agg [.int .u8 (2), .int .i64 (-5), .str [], .nils], .agg [.int .u8 (3), .int .i64 (0), .str [49, 48], .nils]], [], .int .i64 (-1), [], 3136⟩
theorem c1951_ok {B : Bs} (hS : KK B) : OO B c1951 := mkC allC_leaf hS (by kernel_rfl)
noncomputable def c2001 : Cut := ⟨9, 3146, [.agg [.int .u8 (2), .int .i64 (-5), .str [], .nils], .agg [.int .u8 (4), .int .i64 (0), .str [], .nils]], [], .int .i64 (-1), [], 3207⟩
theorem c2001_ok {B : Bs} (hS : KK B) : OO B c2001 := mkC allC_leaf hS (by kernel_rfl)
noncomputable def c2043 : Cut := ⟨9, 3217, [.agg [.int .u8 (2), .int .i64 (-5), .str [], .nils], .agg [.int .u8 (4), .int .i64 (0), .str [97], .nils]], [], .int .i64 (-1), [], 3278⟩
theorem c2043_ok {B : Bs} (hS : KK B) : OO B c2043 := mkC allC_leaf hS (by kernel_rfl)
noncomputable def c2085 : Cut := ⟨9, 3288, [.agg [.int .u8 (2), .int .i64 (-5), .str [], .nils], .agg [.int .u8 (5), .int .i64 (0), .str [], .nils]], [], .int .i64 (-1), [], 3349⟩
theorem c2085_ok {B : Bs} (hS : KK B) : OO B c2085 := mkC allC_leaf hS (by kernel_rfl)
noncomputable def c2127 : Cut := ⟨9, 3359, [.agg [.int .u8 (2), .int .i64 (-5), .str [], .nils], .agg [.int .u8 (5), .int .i64 (0), .str [], .slice 10 0 2 2]], [(10, o0)], .int .i64 (-1), [(10, o0)], 3468⟩
theorem c2127_ok {B : Bs} (hS : KK B) : OO B c2127 := mkC allC_leaf hS (by kernel_rfl)
noncomputable def c2197 : Cut := ⟨9, 3478, [.agg [.int .u8 (2), .int .i64 (-5), .str [], .nils], .agg [.int .u8 (5), .int .i64 (0), .str [], .slice 14 0 2 2]], [(14, o1)], .int .i64 (-1), [(14, o1)], 3587⟩
theorem c2197_ok {B : Bs} (hS : KK B) : OO B c2197 := mkC allC_leaf hS (by kernel_rfl)
noncomputable def c2267 : Cut := ⟨9, 3597, [.agg [.int .u8 (2), .int .i64 (-5), .str [], .nils], .agg [.int .u8 (6), .int .i64 (0), .str [99, 111, 110, 115], .slice 18 0 2 2]], [(18, o2)], .int .i64 (-1), [(18, o2)], 3708⟩
theorem c2267_ok {B : Bs} (hS : KK B) : OO B c2267 := mkC allC_leaf hS (by kernel_rfl)
noncomputable def c2362 : Cut := ⟨9, 3718, [.agg [.int .u8 (2), .int .i64 (-5), .str [], .nils], .agg [.int .u8 (6), .int .i64 (0), .str [99, 111, 110, 115], .slice 21 0 1 1]], [(21, o3)], .int .i64 (-1), [(21, o3)], 3804⟩
theorem c2362_ok {B : Bs} (hS : KK B) : OO B c2362 := mkC allC_leaf hS (by kernel_rfl)
noncomputable def c2431 : Cut := ⟨9, 3814, [.agg [.int .u8 (2), .int .i64 (-5), .str [], .nils], .agg [.int .u8 (6), .int .i64 (0), .str [110, 105, 108], .nils]], [], .int .i64 (-1), [], 3876⟩
theorem c2431_ok {B : Bs} (hS : KK B) : OO B c2431 := mkC allC_leaf hS (by kernel_rfl)
noncomputable def c2485 : Cut := ⟨9, 3886, [.agg [.int .u8 (2), .int .i64 (-5), .str [], .nils], .agg [.int .u8 (0), .int .i64 (0), .str [], .nils]], [], .int .i64 (-1), [], 3937⟩
theorem c2485_ok {B : Bs} (hS : KK B) : OO B c2485 := mkC allC_leaf hS (by kernel_rfl)
noncomputable def c2514 : Cut := ⟨9, 3947, [.agg [.int .u8 (2), .int .i64 (3), .str [], .nils], .agg [.int .u8 (1), .int .i64 (0), .str [], .nils]], [], .int .i64 (1), [], 4008⟩
theorem c2514_ok {B : Bs} (hS : KK B) : OO B c2514 := mkC allC_leaf hS (by kernel_rfl)
noncomputable def c2556 : Cut := ⟨9, 4018, [.agg [.int .u8 (2), .int .i64 (3), .str [], .nils], .agg [.int .u8 (1), .int .i64 (1), .str [], .nils]], [], .int .i64 (1), [], 4079⟩
theorem c2556_ok {B : Bs} (hS : KK B) : OO B c2556 := mkC allC_leaf hS (by kernel_rfl)
noncomputable def c2598 : Cut := ⟨9, 4089, [.agg [.int .u8 (2), .int .i64 (3), .str [], .nils], .agg [.int .u8 (2), .int .i64 (-5), .str [], .nils]], [], .int .i64 (1), [], 4150⟩
theorem c2598_ok {B : Bs} (hS : KK B) : OO B c2598 := mkC allC_leaf hS (by kernel_rfl)
noncomputable def c2640 : Cut := ⟨9, 4160, [.agg [.int .u8 (2), .int .i64 (3), .str [], .nils], .agg [.int .u8 (2), .int .i64 (3), .str [], .nils]], [], .int .i64 (0), [], 4221⟩
theorem c2640_ok {B : Bs} (hS : KK B) : OO B c2640 := mkC allC_leaf hS (by kernel_rfl)
noncomputable def c2682 : Cut := ⟨9, 4231, [.agg [.int .u8 (2), .int .i64 (3), .str [], .nils], .agg [.int .u8 (3), .int .i64 (0), .str [45, 53], .nils]], [], .int .i64 (-1), [], 4294⟩
theorem c2682_ok {B : Bs} (hS : KK B) : OO B c2682 := mkC allC_leaf hS (by kernel_rfl)
noncomputable def c2732 : Cut := ⟨9, 4304, [.agg [.int .u8 (2), .int .i64 (3), .str [], .nils], .agg [.int .u8 (3), .int .i64 (0), .str [51], .nils]], [], .int .i64 (-1), [], 4367⟩
theorem c2732_ok {B : Bs} (hS : KK B) : OO B c2732 := mkC allC_leaf hS (by kernel_rfl)
noncomputable def c2782 : Cut := ⟨9, 4377, [.agg [.int .u8 (2), .int .i64 (3), .str [], .nils], .agg [.int .u8 (3), .int .i64 (0), .str [49, 48], .nils]], [], .int .i64 (-1), [], 4440⟩
theorem c2782_ok {B : Bs} (hS : KK B) : OO B c2782 := mkC allC_leaf hS (by kernel_rfl)
noncomputable def c2832 : Cut := ⟨9, 4450, [.agg [.int .u8 (2), .int .i64 (3), .str [], .nils], .agg [.int .u8 (4), .int .i64 (0), .str [], .nils]], [], .int .i64 (-1), [], 4511⟩
theorem c2832_ok {B : Bs} (hS : KK B) : OO B c2832 := mkC allC_leaf hS (by kernel_rfl)
noncomputable def c2874 : Cut := ⟨9, 4521, [.agg [.int .u8 (2), .int .i64 (3), .str [], .nils], .agg [.int .u8 (4), .int .i64 (0), .str [97], .nils]], [], .int .i64 (-1), [], 4582⟩
theorem c2874_ok {B : Bs} (hS : KK B) : OO B c2874 := mkC allC_leaf hS (by kernel_rfl)
noncomputable def c2916 : Cut := ⟨9, 4592, [.agg [.int .u8 (2), .int .i64 (3), .str [], .nils], .agg [.int .u8 (5), .int .i64 (0), .str [], .nils]], [], .int .i64 (-1), [], 4653⟩
theorem c2916_ok {B : Bs} (hS : KK B) : OO B c2916 := mkC allC_leaf hS (by kernel_rfl)
noncomputable def c2958 : Cut := ⟨9, 4663, [.agg [.int .u8 (2), .int .i64 (3), .str [], .nils], .agg [.int .u8 (5), .int .i64 (0), .str [], .slice 10 0 2 2]], [(10, o0)], .int .i64 (-1), [(10, o0)], 4772⟩
theorem c2958_ok {B : Bs} (hS : KK B) : OO B c2958 := mkC allC_leaf hS (by kernel_rfl)
noncomputable def c3028 : Cut := ⟨9, 4782, [.agg [.int .u8 (2), .int .i64 (3), .str [], .nils], .agg [.int .u8 (5), .int .i64 (0), .str [], .slice 14 0 2 2]], [(14, o1)], .int .i64 (-1), [(14, o1)], 4891⟩
theorem c3028_ok {B : Bs} (hS : KK B) : OO B c3028 := mkC allC_leaf hS (by kernel_rfl)
noncomputable def c3098 : Cut := ⟨9, 4901, [.agg [.int .u8 (2), .int .i64 (3), .str [], .nils], .agg [.int .u8 (6), .int .i64 (0), .str [99, 111, 110, 115], .slice 18 0 2 2]], [(18, o2)], .int .i64 (-1), [(18, o2)], 5012⟩
theorem c3098_ok {B : Bs} (hS : KK B) : OO B c3098 := mkC allC_leaf hS (by kernel_rfl)
noncomputable def c3193 : Cut := ⟨9, 5022, [.agg [.int .u8 (2), .int .i64 (3), .str [], .nils], .agg [.int .u8 (6), .int .i64 (0), .str [99, 111, 110, 115], .slice 21 0 1 1]], [(21, o3)], .int .i64 (-1), [(21, o3)], 5108⟩
theorem c3193_ok {B : Bs} (hS : KK B) : OO B c3193 := mkC allC_leaf hS (by kernel_rfl)
noncomputable def c3262 : Cut := ⟨9, 5118, [.agg [.int .u8 (2), .int .i64 (3), .str [], .nils], .agg [.int .u8 (6), .int .i64 (0), .str [110, 105, 108], .nils]], [], .int .i64 (-1), [], 5180⟩
theorem c3262_ok {B : Bs} (hS : KK B) : OO B c3262 := mkC allC_leaf hS (by kernel_rfl)
noncomputable def c3316 : Cut := ⟨9, 5190, [.agg [.int .u8 (2), .int .i64 (3), .str [], .nils], .agg [.int .u8 (0), .int .i64 (0), .str [], .nils]], [], .int .i64 (-1), [], 5241⟩
theorem c3316_ok {B : Bs} (hS : KK B) : OO B c3316 := mkC allC_leaf hS (by kernel_rfl)
end Go.Proofs.YtbdegmhpdjpppaaGreatDoor
