/- What the stretches of the run share. -/
import Derived.Test.YtbdegmhpdjpppaaGreatDoorTab
import Derived.Test.YtbdegmhpdjpppaaGreatDoorEv6
import Derived.Test.YtbdegmhpdjpppaaGreatDoorNd
namespace Go.Proofs.YtbdegmhpdjpppaaGreatDoor
open Go Go.Xe
set_option maxRecDepth 10000000
set_option linter.unusedVariables false
abbrev KK (B : Bs) : Prop := COk tab Tryz.prog B (orS 65 ndS noS)
abbrev OO (B : Bs) : Cut → Prop := CutOk tab Tryz.prog B
theorem follows : Tryz.prog.follows .mixedOrders = true := by kernel_rfl
theorem mkC {B : Bs} {t : T Cut} {c : Cut} (ht : AllC (OO B) t) (hS : KK B) (hc : c.good tab (cutsE t (orS 65 ndS noS)) 400 500 = true) : OO B c := fun _ h2 => cut_ok tab_ok follows rfl (cutsE_ok ht hS) hc h2
noncomputable def o0 : AO := .row [.int .u8 (2), .int .i64 (1), .str [], .nils, .int .u8 (2), .int .i64 (2), .str [], .nils] 24
noncomputable def o1 : AO := .row [.int .u8 (2), .int .i64 (1), .str [], .nils, .int .u8 (2), .int .i64 (3), .str [], .nils] 24
noncomputable def o2 : AO := .row [.int .u8 (2), .int .i64 (1), .str [], .nils, .int .u8 (6), .int .i64 (0), .str [110, 105, 108], .nils] 24
noncomputable def o3 : AO := .row [.int .u8 (2), .int .i64 (2), .str [], .nils] 24
noncomputable def o4 : AO := .row [.int .u8 (2), .int .i64 (1), .str [], .nils] 24
noncomputable def o5 : AO := .row [.int .u8 (0), .int .i64 (0), .str [], .nils, .int .u8 (0), .int .i64 (0), .str [], .nils, .int .u8 (0), .int .i64 (0), .str [], .nils, .int .u8 (0), .int .i64 (0), .str [], .nils, .int .u8 (0), .int .i64 (0), .str [], .nils, .int .u8 (0), .int .i64 (0), .str [], .nils, .int .u8 (0), .int .i64 (0), .str [], .nils, .int .u8 (0), .int .i64 (0), .str [], .nils, .int .u8 (0), .int .i64 (0), .str [], .nils, .int .u8 (0), .int .i64 (0), .str [], .nils, .int .u8 (0), .int .i64 (0), .str [], .nils, .int .u8 (0), .int .i64 (0), .str [], .nils, .int .u8 (0), .int .i64 (0), .str [], .nils, .int .u8 (0), .int .i64 (0), .str [], .nils, .int .u8 (0), .int .i64 (0), .str [], .nils, .int .u8 (0), .int .i64 (0), .str [], .nils, .int .u8 (0), .int .i64 (0), .str [], .nils] 24
noncomputable def o6 : AO := .row [.int .u8 (2), .int .i64 (0), .str [], .nils, .int .u8 (2), .int .i64 (1), .str [], .nils, .int .u8 (2), .int .i64 (2), .str [], .nils, .int .u8 (2), .int .i64 (3), .str [], .nils, .int .u8 (2), .int .i64 (4), .str [], .nils, .int .u8 (2), .int .i64 (5), .str [], .nils, .int .u8 (2), .int .i64 (6), .str [], .nils, .int .u8 (2), .int .i64 (7), .str [], .nils, .int .u8 (2), .int .i64 (8), .str [], .nils, .int .u8 (2), .int .i64 (9), .str [], .nils, .int .u8 (2), .int .i64 (0), .str [], .nils, .int .u8 (2), .int .i64 (1), .str [], .nils, .int .u8 (2), .int .i64 (2), .str [], .nils, .int .u8 (2), .int .i64 (3), .str [], .nils, .int .u8 (2), .int .i64 (4), .str [], .nils, .int .u8 (2), .int .i64 (5), .str [], .nils, .int .u8 (2), .int .i64 (6), .str [], .nils] 24
noncomputable def o7 : AO := .row [.int .u8 (5), .int .i64 (0), .str [], .nils] 24
noncomputable def o8 : AO := .row [.int .u8 (6), .int .i64 (0), .str [99], .slice 24271 0 1 1] 24
noncomputable def o9 : AO := .row [.int .u8 (6), .int .i64 (0), .str [99], .slice 24273 0 1 1] 24
noncomputable def o10 : AO := .row [.int .u8 (6), .int .i64 (0), .str [99], .slice 24275 0 1 1] 24
noncomputable def o11 : AO := .row [.int .u8 (6), .int .i64 (0), .str [99], .slice 24277 0 1 1] 24
noncomputable def o12 : AO := .row [.int .u8 (6), .int .i64 (0), .str [99], .slice 24279 0 1 1] 24
noncomputable def o13 : AO := .row [.int .u8 (6), .int .i64 (0), .str [99], .slice 24281 0 1 1] 24
noncomputable def o14 : AO := .row [.int .u8 (6), .int .i64 (0), .str [99], .slice 24283 0 1 1] 24
noncomputable def o15 : AO := .row [.int .u8 (6), .int .i64 (0), .str [99], .slice 24285 0 1 1] 24
noncomputable def o16 : AO := .row [.int .u8 (6), .int .i64 (0), .str [99], .slice 24287 0 1 1] 24
noncomputable def o17 : AO := .row [.int .u8 (6), .int .i64 (0), .str [99], .slice 24289 0 1 1] 24
noncomputable def o18 : AO := .row [.int .u8 (6), .int .i64 (0), .str [99], .slice 24291 0 1 1] 24
noncomputable def o19 : AO := .row [.int .u8 (6), .int .i64 (0), .str [99], .slice 24293 0 1 1] 24
noncomputable def o20 : AO := .row [.int .u8 (6), .int .i64 (0), .str [99], .slice 24295 0 1 1] 24
noncomputable def o21 : AO := .row [.int .u8 (6), .int .i64 (0), .str [99], .slice 24297 0 1 1] 24
noncomputable def o22 : AO := .row [.int .u8 (6), .int .i64 (0), .str [99], .slice 24299 0 1 1] 24
noncomputable def o23 : AO := .row [.int .u8 (6), .int .i64 (0), .str [99], .slice 24301 0 1 1] 24
noncomputable def o24 : AO := .row [.int .u8 (6), .int .i64 (0), .str [99], .slice 24303 0 1 1] 24
noncomputable def o25 : AO := .row [.int .u8 (6), .int .i64 (0), .str [99], .slice 24305 0 1 1] 24
noncomputable def o26 : AO := .row [.int .u8 (6), .int .i64 (0), .str [99], .slice 24307 0 1 1] 24
noncomputable def o27 : AO := .row [.int .u8 (6), .int .i64 (0), .str [99], .slice 24309 0 1 1] 24
noncomputable def o28 : AO := .row [.int .u8 (6), .int .i64 (0), .str [99], .slice 24311 0 1 1] 24
noncomputable def o29 : AO := .row [.int .u8 (6), .int .i64 (0), .str [99], .slice 24313 0 1 1] 24
noncomputable def o30 : AO := .row [.int .u8 (6), .int .i64 (0), .str [99], .slice 24315 0 1 1] 24
noncomputable def o31 : AO := .row [.int .u8 (6), .int .i64 (0), .str [99], .slice 24317 0 1 1] 24
noncomputable def o32 : AO := .row [.int .u8 (6), .int .i64 (0), .str [99], .slice 24319 0 1 1] 24
noncomputable def o33 : AO := .row [.int .u8 (6), .int .i64 (0), .str [99], .slice 24321 0 1 1] 24
noncomputable def o34 : AO := .row [.int .u8 (6), .int .i64 (0), .str [99], .slice 24323 0 1 1] 24
noncomputable def o35 : AO := .row [.int .u8 (6), .int .i64 (0), .str [99], .slice 24325 0 1 1] 24
noncomputable def o36 : AO := .row [.int .u8 (6), .int .i64 (0), .str [99], .slice 24327 0 1 1] 24
noncomputable def o37 : AO := .row [.int .u8 (6), .int .i64 (0), .str [99], .slice 24329 0 1 1] 24
noncomputable def o38 : AO := .row [.int .u8 (6), .int .i64 (0), .str [99], .slice 24331 0 1 1] 24
noncomputable def o39 : AO := .row [.int .u8 (6), .int .i64 (0), .str [99], .slice 24333 0 1 1] 24
noncomputable def o40 : AO := .row [.int .u8 (6), .int .i64 (0), .str [99], .slice 24335 0 1 1] 24
noncomputable def o41 : AO := .row [.int .u8 (6), .int .i64 (0), .str [99], .slice 24337 0 1 1] 24
noncomputable def o42 : AO := .row [.int .u8 (6), .int .i64 (0), .str [99], .slice 24339 0 1 1] 24
noncomputable def o43 : AO := .row [.int .u8 (6), .int .i64 (0), .str [99], .slice 24341 0 1 1] 24
noncomputable def o44 : AO := .row [.int .u8 (6), .int .i64 (0), .str [99], .slice 24343 0 1 1] 24
noncomputable def o45 : AO := .row [.int .u8 (6), .int .i64 (0), .str [99], .slice 24345 0 1 1] 24
noncomputable def o46 : AO := .row [.int .u8 (6), .int .i64 (0), .str [99], .slice 24347 0 1 1] 24
noncomputable def o47 : AO := .row [.int .u8 (6), .int .i64 (0), .str [99], .slice 24349 0 1 1] 24
noncomputable def o48 : AO := .row [.int .u8 (6), .int .i64 (0), .str [99], .slice 24351 0 1 1] 24
noncomputable def o49 : AO := .row [.int .u8 (6), .int .i64 (0), .str [99], .slice 24353 0 1 1] 24
noncomputable def o50 : AO := .row [.int .u8 (6), .int .i64 (0), .str [99], .slice 24355 0 1 1] 24
noncomputable def o51 : AO := .row [.int .u8 (6), .int .i64 (0), .str [99], .slice 24357 0 1 1] 24
noncomputable def o52 : AO := .row [.int .u8 (6), .int .i64 (0), .str [99], .slice 24359 0 1 1] 24
noncomputable def o53 : AO := .row [.int .u8 (6), .int .i64 (0), .str [99], .slice 24361 0 1 1] 24
noncomputable def o54 : AO := .row [.int .u8 (6), .int .i64 (0), .str [99], .slice 24363 0 1 1] 24
noncomputable def o55 : AO := .row [.int .u8 (6), .int .i64 (0), .str [99], .slice 24365 0 1 1] 24
noncomputable def o56 : AO := .row [.int .u8 (6), .int .i64 (0), .str [99], .slice 24367 0 1 1] 24
noncomputable def o57 : AO := .row [.int .u8 (6), .int .i64 (0), .str [99], .slice 24369 0 1 1] 24
noncomputable def o58 : AO := .row [.int .u8 (6), .int .i64 (0), .str [99], .slice 24371 0 1 1] 24
noncomputable def o59 : AO := .row [.int .u8 (6), .int .i64 (0), .str [99], .slice 24373 0 1 1] 24
noncomputable def o60 : AO := .row [.int .u8 (6), .int .i64 (0), .str [99], .slice 24375 0 1 1] 24
noncomputable def o61 : AO := .row [.int .u8 (6), .int .i64 (0), .str [99], .slice 24377 0 1 1] 24
noncomputable def o62 : AO := .row [.int .u8 (6), .int .i64 (0), .str [99], .slice 24379 0 1 1] 24
noncomputable def o63 : AO := .row [.int .u8 (6), .int .i64 (0), .str [99], .slice 24381 0 1 1] 24
noncomputable def o64 : AO := .row [.int .u8 (6), .int .i64 (0), .str [99], .slice 24383 0 1 1] 24
noncomputable def o65 : AO := .row [.int .u8 (6), .int .i64 (0), .str [99], .slice 24385 0 1 1] 24
noncomputable def o66 : AO := .row [.int .u8 (6), .int .i64 (0), .str [99], .slice 24387 0 1 1] 24
noncomputable def o67 : AO := .row [.int .u8 (6), .int .i64 (0), .str [99], .slice 24389 0 1 1] 24
noncomputable def o68 : AO := .row [.int .u8 (6), .int .i64 (0), .str [99], .slice 24391 0 1 1] 24
noncomputable def o69 : AO := .row [.int .u8 (6), .int .i64 (0), .str [99], .slice 24393 0 1 1] 24
noncomputable def o70 : AO := .row [.int .u8 (6), .int .i64 (0), .str [99], .slice 24395 0 1 1] 24
noncomputable def o71 : AO := .row [.int .u8 (2), .int .i64 (1), .str [], .nils, .int .u8 (6), .int .i64 (0), .str [110, 105, 108], .nils, .int .u8 (4), .int .i64 (0), .str [97, 34, 255, 92], .nils] 24
noncomputable def p0 : Pl := [(24271, o7), (24273, o8), (24275, o9), (24277, o10), (24279, o11), (24281, o12), (24283, o13), (24285, o14), (24287, o15), (24289, o16), (24291, o17), (24293, o18), (24295, o19), (24297, o20), (24299, o21), (24301, o22), (24303, o23), (24305, o24), (24307, o25), (24309, o26), (24311, o27), (24313, o28), (24315, o29), (24317, o30), (24319, o31), (24321, o32), (24323, o33), (24325, o34), (24327, o35), (24329, o36), (24331, o37), (24333, o38), (24335, o39), (24337, o40), (24339, o41), (24341, o42), (24343, o43), (24345, o44), (24347, o45), (24349, o46), (24351, o47), (24353, o48), (24355, o49), (24357, o50), (24359, o51), (24361, o52), (24363, o53), (24365, o54), (24367, o55), (24369, o56), (24371, o57), (24373, o58), (24375, o59), (24377, o60), (24379, o61), (24381, o62), (24383, o63), (24385, o64), (24387, o65), (24389, o66), (24391, o67), (24393, o68), (24395, o69)]
noncomputable def p1 : Pl := [(24271, o7), (24273, o8), (24275, o9), (24277, o10), (24279, o11), (24281, o12), (24283, o13), (24285, o14), (24287, o15), (24289, o16), (24291, o17), (24293, o18), (24295, o19), (24297, o20), (24299, o21), (24301, o22), (24303, o23), (24305, o24), (24307, o25), (24309, o26), (24311, o27), (24313, o28), (24315, o29), (24317, o30), (24319, o31), (24321, o32), (24323, o33), (24325, o34), (24327, o35), (24329, o36), (24331, o37), (24333, o38), (24335, o39), (24337, o40), (24339, o41), (24341, o42), (24343, o43), (24345, o44), (24347, o45), (24349, o46), (24351, o47), (24353, o48), (25609, .row [.func (.func 16) [] []] 38)]
noncomputable def p2 : Pl := [(24271, o7), (24273, o8), (24275, o9), (24277, o10), (24279, o11), (24281, o12), (24283, o13), (24285, o14), (24287, o15), (24289, o16), (24291, o17), (24293, o18), (24295, o19), (24297, o20), (24299, o21), (24301, o22), (24303, o23), (24305, o24), (24307, o25), (24309, o26), (24311, o27), (24313, o28), (24315, o29), (24317, o30), (24319, o31), (24321, o32), (24323, o33), (24325, o34), (24327, o35), (24329, o36), (24331, o37), (24333, o38), (24335, o39), (24337, o40), (24339, o41), (24341, o42), (24343, o43), (24345, o44), (24347, o45), (24349, o46), (24351, o47), (24353, o48), (24355, o49), (24357, o50), (24359, o51), (24361, o52), (24363, o53), (24365, o54), (24367, o55), (24369, o56), (24371, o57), (24373, o58), (24375, o59), (24377, o60), (24379, o61), (24381, o62), (24383, o63), (24385, o64), (24387, o65), (24389, o66), (24391, o67), (24393, o68), (24395, o69), (25025, o70)]
end Go.Proofs.YtbdegmhpdjpppaaGreatDoor
