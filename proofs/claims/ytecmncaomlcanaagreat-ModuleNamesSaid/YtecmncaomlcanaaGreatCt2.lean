/- Stretches of the run. -/
import Derived.Test.YtecmncaomlcanaaGreatCt0
namespace Go.Proofs.YtecmncaomlcanaaGreat
open Go Go.Xe
set_option maxRecDepth 10000000
set_option linter.unusedVariables false
noncomputable def c1018 : Cut := ⟨8, 1645, [.slice 83 0 2 2], [(1, o9), (3, o5), (5, o5), (6, o6), (80, o20), (83, o21)], .tup [.agg [.str [], .nils, .nils, .nils, .nils, .nils], .agg [.str [103], .int .i64 (3), .int .i64 (1)], .int .i64 (63)], [(1, o9), (3, o5), (5, o5), (6, o6), (80, o20), (83, o21)], 1865⟩
theorem c1018_ok {B : Bs} (hS : KK B) : OO B c1018 := mkC allC_leaf hS (by kernel_rfl)
noncomputable def c1240 : Cut := ⟨8, 1868, [.slice 93 0 2 2], [(1, o9), (3, o5), (5, o5), (6, o6), (90, o20), (93, o22)], .tup [.agg [.str [], .nils, .nils, .nils, .nils, .nils], .agg [.str [98], .int .i64 (3), .int .i64 (1)], .int .i64 (63)], [(1, o9), (3, o5), (5, o5), (6, o6), (90, o20), (93, o22)], 2088⟩
theorem c1240_ok {B : Bs} (hS : KK B) : OO B c1240 := mkC allC_leaf hS (by kernel_rfl)
noncomputable def c1465 : Cut := ⟨32, 2097, [.agg [.str [97], .nils, .nils, .slice 172 0 1 1, .grow 431 0 129 0, .nils]], [(172, o1), (431, o2)], .bool false, [(172, o1), (431, o2)], 2228⟩
theorem c1465_ok {B : Bs} (hS : KK B) : OO B c1465 := mkC allC_leaf hS (by kernel_rfl)
noncomputable def c2148 : Cut := ⟨71, 2243, o24, [(2234, o23)], .bool true, [(2234, o23)], 2246⟩
theorem c2148_ok {B : Bs} (hS : KK B) : OO B c2148 := mkC allC_leaf hS (by kernel_rfl)
noncomputable def c2165 : Cut := ⟨71, 2247, o24, [(2234, o23)], .bool true, [(2234, o23)], 2250⟩
theorem c2165_ok {B : Bs} (hS : KK B) : OO B c2165 := mkC allC_leaf hS (by kernel_rfl)
noncomputable def c2182 : Cut := ⟨71, 2251, o24, [(2234, o23)], .bool true, [(2234, o23)], 2254⟩
theorem c2182_ok {B : Bs} (hS : KK B) : OO B c2182 := mkC allC_leaf hS (by kernel_rfl)
noncomputable def c2199 : Cut := ⟨71, 2255, o24, [(2234, o23)], .bool true, [(2234, o23)], 2258⟩
theorem c2199_ok {B : Bs} (hS : KK B) : OO B c2199 := mkC allC_leaf hS (by kernel_rfl)
noncomputable def c2216 : Cut := ⟨71, 2259, o24, [(2234, o23)], .bool true, [(2234, o23)], 2262⟩
theorem c2216_ok {B : Bs} (hS : KK B) : OO B c2216 := mkC allC_leaf hS (by kernel_rfl)
noncomputable def c2233 : Cut := ⟨71, 2263, o24, [(2234, o23)], .bool true, [(2234, o23)], 2266⟩
theorem c2233_ok {B : Bs} (hS : KK B) : OO B c2233 := mkC allC_leaf hS (by kernel_rfl)
noncomputable def c2250 : Cut := ⟨71, 2267, o24, [(2234, o23)], .bool true, [(2234, o23)], 2270⟩
theorem c2250_ok {B : Bs} (hS : KK B) : OO B c2250 := mkC allC_leaf hS (by kernel_rfl)
noncomputable def c2267 : Cut := ⟨71, 2271, o24, [(2234, o23)], .bool true, [(2234, o23)], 2274⟩
theorem c2267_ok {B : Bs} (hS : KK B) : OO B c2267 := mkC allC_leaf hS (by kernel_rfl)
noncomputable def c2284 : Cut := ⟨71, 2275, o24, [(2234, o23)], .bool true, [(2234, o23)], 2278⟩
theorem c2284_ok {B : Bs} (hS : KK B) : OO B c2284 := mkC allC_leaf hS (by kernel_rfl)
noncomputable def c2301 : Cut := ⟨71, 2279, o24, [(2234, o23)], .bool true, [(2234, o23)], 2282⟩
theorem c2301_ok {B : Bs} (hS : KK B) : OO B c2301 := mkC allC_leaf hS (by kernel_rfl)
noncomputable def c2318 : Cut := ⟨71, 2283, o24, [(2234, o23)], .bool true, [(2234, o23)], 2286⟩
theorem c2318_ok {B : Bs} (hS : KK B) : OO B c2318 := mkC allC_leaf hS (by kernel_rfl)
noncomputable def c2335 : Cut := ⟨71, 2287, o24, [(2234, o23)], .bool true, [(2234, o23)], 2290⟩
theorem c2335_ok {B : Bs} (hS : KK B) : OO B c2335 := mkC allC_leaf hS (by kernel_rfl)
noncomputable def c2352 : Cut := ⟨71, 2291, o24, [(2234, o23)], .bool true, [(2234, o23)], 2294⟩
theorem c2352_ok {B : Bs} (hS : KK B) : OO B c2352 := mkC allC_leaf hS (by kernel_rfl)
noncomputable def c2369 : Cut := ⟨71, 2295, o24, [(2234, o23)], .bool true, [(2234, o23)], 2298⟩
theorem c2369_ok {B : Bs} (hS : KK B) : OO B c2369 := mkC allC_leaf hS (by kernel_rfl)
noncomputable def c2386 : Cut := ⟨71, 2299, o24, [(2234, o23)], .bool true, [(2234, o23)], 2302⟩
theorem c2386_ok {B : Bs} (hS : KK B) : OO B c2386 := mkC allC_leaf hS (by kernel_rfl)
noncomputable def c2403 : Cut := ⟨71, 2303, o24, [(2234, o23)], .bool true, [(2234, o23)], 2306⟩
theorem c2403_ok {B : Bs} (hS : KK B) : OO B c2403 := mkC allC_leaf hS (by kernel_rfl)
noncomputable def c2420 : Cut := ⟨71, 2307, o24, [(2234, o23)], .bool true, [(2234, o23)], 2310⟩
theorem c2420_ok {B : Bs} (hS : KK B) : OO B c2420 := mkC allC_leaf hS (by kernel_rfl)
noncomputable def c2437 : Cut := ⟨71, 2311, o24, [(2234, o23)], .bool true, [(2234, o23)], 2314⟩
theorem c2437_ok {B : Bs} (hS : KK B) : OO B c2437 := mkC allC_leaf hS (by kernel_rfl)
noncomputable def c2454 : Cut := ⟨71, 2315, o24, [(2234, o23)], .bool true, [(2234, o23)], 2318⟩
theorem c2454_ok {B : Bs} (hS : KK B) : OO B c2454 := mkC allC_leaf hS (by kernel_rfl)
noncomputable def c2471 : Cut := ⟨71, 2319, o24, [(2234, o23)], .bool true, [(2234, o23)], 2322⟩
theorem c2471_ok {B : Bs} (hS : KK B) : OO B c2471 := mkC allC_leaf hS (by kernel_rfl)
noncomputable def c2488 : Cut := ⟨71, 2323, o24, [(2234, o23)], .bool true, [(2234, o23)], 2326⟩
theorem c2488_ok {B : Bs} (hS : KK B) : OO B c2488 := mkC allC_leaf hS (by kernel_rfl)
noncomputable def c2505 : Cut := ⟨71, 2327, o24, [(2234, o23)], .bool true, [(2234, o23)], 2330⟩
theorem c2505_ok {B : Bs} (hS : KK B) : OO B c2505 := mkC allC_leaf hS (by kernel_rfl)
end Go.Proofs.YtecmncaomlcanaaGreat
