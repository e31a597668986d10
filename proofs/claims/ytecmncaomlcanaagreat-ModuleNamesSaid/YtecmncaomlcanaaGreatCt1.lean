/- Stretches of the run. -/
import Derived.Test.YtecmncaomlcanaaGreatCt0
namespace Go.Proofs.YtecmncaomlcanaaGreat
open Go Go.Xe
set_option maxRecDepth 10000000
set_option linter.unusedVariables false
noncomputable def c11 : Cut := ⟨7, 171, [.slice 97 0 2 2], [(97, o0)], .grow 694 0 2 0, [(97, o0), (172, o1), (431, o2), (435, o1), (692, o3), (694, o4)], 695⟩
theorem c11_ok {B : Bs} (hS : KK B) : OO B c11 := mkC allC_leaf hS (by kernel_rfl)
noncomputable def c259 : Cut := ⟨8, 963, [.slice 42 0 2 2], [(3, o5), (5, o5), (6, o6), (42, o7), (158, o8)], .tup [.agg [.str [], .nils, .nils, .nils, .nils, .nils], .agg [.str [103], .int .i64 (2), .int .i64 (0)], .int .i64 (6)], [(3, o5), (5, o5), (6, o6), (42, o7), (158, o8)], 1093⟩
theorem c259_ok {B : Bs} (hS : KK B) : OO B c259 := mkC allC_leaf hS (by kernel_rfl)
noncomputable def c431 : Cut := ⟨8, 1096, [.slice 58 0 2 2], p0, o15, p0, 1383⟩
theorem c431_ok {B : Bs} (hS : KK B) : OO B c431 := mkC allC_leaf hS (by kernel_rfl)
noncomputable def c736 : Cut := ⟨8, 1386, [.slice 73 0 2 2], p1, o15, p1, 1642⟩
theorem c736_ok {B : Bs} (hS : KK B) : OO B c736 := mkC allC_leaf hS (by kernel_rfl)
end Go.Proofs.YtecmncaomlcanaaGreat
