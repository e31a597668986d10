/- Stretches of the run. -/
import Derived.Test.YtecmncaomlcanaaGreatCt0
namespace Go.Proofs.YtecmncaomlcanaaGreat
open Go Go.Xe
set_option maxRecDepth 10000000
set_option linter.unusedVariables false
noncomputable def c7794 : Cut := ⟨8, 3941, [.slice 141 0 1 1], p2, .tup [.agg [.str [], .nils, .nils, .nils, .nils, .nils], .agg [.str [103], .int .i64 (4), .int .i64 (0)], .int .i64 (6)], p2, 4025⟩
theorem c7794_ok {B : Bs} (hS : KK B) : OO B c7794 := mkC allC_leaf hS (by kernel_rfl)
noncomputable def c7912 : Cut := ⟨8, 4028, [.slice 151 0 1 1], [(147, o31), (149, o32), (151, o33), (700, o14)], .tup [.agg [.str [], .nils, .nils, .nils, .nils, .nils], .agg [.str [103], .int .i64 (7), .int .i64 (2)], .int .i64 (63)], [(147, o31), (149, o32), (151, o33), (700, o14)], 4151⟩
theorem c7912_ok {B : Bs} (hS : KK B) : OO B c7912 := mkC allC_leaf hS (by kernel_rfl)
noncomputable def c8009 : Cut := ⟨9, 4153, [], [], .bool true, [], 4544⟩
theorem c8009_ok {B : Bs} (hS : KK B) : OO B c8009 := mkC allC_leaf hS (by kernel_rfl)
end Go.Proofs.YtecmncaomlcanaaGreat
