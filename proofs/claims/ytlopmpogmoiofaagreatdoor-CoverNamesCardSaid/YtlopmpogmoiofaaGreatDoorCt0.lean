/- What the stretches of the run share. -/
import Derived.Test.YtlopmpogmoiofaaGreatDoorTab
import Derived.Test.YtlopmpogmoiofaaGreatDoorEv6
namespace Go.Proofs.YtlopmpogmoiofaaGreatDoor
open Go Go.Xe
set_option maxRecDepth 10000000
set_option linter.unusedVariables false
abbrev KK (B : Bs) : Prop := COk tab Tryz.prog B (noS)
abbrev OO (B : Bs) : Cut → Prop := CutOk tab Tryz.prog B
theorem follows : Tryz.prog.follows .mixedOrders = true := by kernel_rfl
theorem mkC {B : Bs} {t : T Cut} {c : Cut} (ht : AllC (OO B) t) (hS : KK B) (hc : c.good tab (cutsE t (noS)) 400 500 = true) : OO B c := fun _ h2 => cut_ok tab_ok follows rfl (cutsE_ok ht hS) hc h2
noncomputable def o0 : AO := .row [.str [], .str [39, 97], .nils, .str [], .str [108, 105, 115, 116], .slice 4 0 1 1] 77
noncomputable def o1 : AO := .row [.str [110, 105, 108], .nils, .str [99, 111, 110, 115], .slice 5 0 2 2] 75
noncomputable def o2 : AO := .row [.int .i64 (0), .int .i64 (0), .bool false, .str [108, 105, 115, 116], .slice 3 0 1 1, .slice 6 0 2 2] 40
noncomputable def o3 : AO := .map [(.str [108, 105, 115, 116], .agg [.int .i64 (0), .int .i64 (0), .bool false, .str [108, 105, 115, 116], .slice 255 0 1 1, .slice 256 0 2 2, .map 115], 0)] 1
noncomputable def o4 : AO := .map [(.str [110, 105, 108], .agg [.str [108, 105, 115, 116], .int .i64 (0)], 0), (.str [99, 111, 110, 115], .agg [.str [108, 105, 115, 116], .int .i64 (1)], 1)] 2
noncomputable def o5 : AO := .map [(.str [39, 97], .int .i64 (0), 0)] 1
noncomputable def o6 : AO := .row [.str [110, 105, 108], .nils, .str [99, 111, 110, 115], .slice 263 0 2 2] 75
noncomputable def o7 : AO := .row [.str [], .str [39, 97], .nils, .str [], .str [108, 105, 115, 116], .slice 312 0 1 1] 77
noncomputable def o8 : AO := .row [.str [108, 105, 115, 116], .slice 613 0 1 1] 56
noncomputable def o9 : AO := .row [.int .u8 (5), .int .i64 (0), .int .i64 (0), .str [110, 105, 108], .int .u8 (0), .int .i64 (0), .str [], .nils, .nils] 29
noncomputable def o10 : AO := .row [.int .u8 (3), .int .i64 (0), .int .i64 (0), .str [], .int .u8 (0), .int .i64 (0), .str [], .nils, .nils, .int .u8 (3), .int .i64 (0), .int .i64 (0), .str [], .int .u8 (0), .int .i64 (0), .str [], .nils, .nils] 29
noncomputable def o11 : AO := .row [.int .u8 (5), .int .i64 (0), .int .i64 (0), .str [99, 111, 110, 115], .int .u8 (0), .int .i64 (0), .str [], .nils, .slice 623 0 2 2] 29
noncomputable def o12 : AO := .row [.slice 619 0 1 1, .slice 625 0 1 1] 27
noncomputable def o13 : AO := .row [.ptr 14 0, .ptr 1145 0, .map 1146] 142
noncomputable def o14 : AO := .map [(.agg [.str [108, 105, 115, 116], .str [49]], .int .i64 (2), 0)] 1
noncomputable def o15 : AO := .map [(.agg [.int .i64 (0), .int .i64 (0)], .int .i64 (1), 0)] 1
noncomputable def o16 : AO := .opn [.str [108, 105, 115, 116], .str [49]] 285 2
noncomputable def o17 : AO := .opn [.int .i64 (1), .str [110, 105, 108], .int .i64 (2), .nils] 145 4
noncomputable def o18 : AO := .row [.int .u8 (1), .int .i64 (0), .int .i64 (0), .str [], .int .u8 (2), .int .i64 (1), .str [], .nils, .nils, .int .u8 (3), .int .i64 (0), .int .i64 (0), .str [], .int .u8 (0), .int .i64 (0), .str [], .nils, .nils] 29
noncomputable def o19 : AO := .row [.int .u8 (5), .int .i64 (0), .int .i64 (0), .str [99, 111, 110, 115], .int .u8 (0), .int .i64 (0), .str [], .nils, .slice 3053 0 2 2] 29
noncomputable def o20 : AO := .row [.slice 3048 0 1 1, .slice 3055 0 1 1] 27
noncomputable def o21 : List AV := [.ptr 14 0, .slice 614 0 1 1, .slice 3056 0 2 2]
noncomputable def o22 : AO := .row [.ptr 14 0, .ptr 3685 0, .map 3686] 142
noncomputable def o23 : AO := .row [.int .u8 (3), .int .i64 (0), .int .i64 (0), .str [], .int .u8 (0), .int .i64 (0), .str [], .nils, .nils, .int .u8 (5), .int .i64 (0), .int .i64 (0), .str [110, 105, 108], .int .u8 (0), .int .i64 (0), .str [], .nils, .nils] 29
noncomputable def o24 : AO := .row [.int .u8 (5), .int .i64 (0), .int .i64 (0), .str [99, 111, 110, 115], .int .u8 (0), .int .i64 (0), .str [], .nils, .slice 5742 0 2 2] 29
noncomputable def o25 : AO := .row [.int .u8 (1), .int .i64 (0), .int .i64 (0), .str [], .int .u8 (2), .int .i64 (1), .str [], .nils, .nils, .int .u8 (5), .int .i64 (0), .int .i64 (0), .str [110, 105, 108], .int .u8 (0), .int .i64 (0), .str [], .nils, .nils] 29
noncomputable def o26 : AO := .row [.int .u8 (5), .int .i64 (0), .int .i64 (0), .str [99, 111, 110, 115], .int .u8 (0), .int .i64 (0), .str [], .nils, .slice 5750 0 2 2] 29
noncomputable def o27 : AO := .row [.slice 5737 0 1 1, .slice 5744 0 1 1, .slice 5752 0 1 1] 27
noncomputable def o28 : List AV := [.ptr 14 0, .slice 614 0 1 1, .slice 5753 0 3 3]
noncomputable def o29 : AO := .row [.ptr 14 0, .ptr 6823 0, .map 6824] 142
noncomputable def o30 : AO := .row [.str [105, 110, 116], .nils, .str [105, 110, 116], .nils] 56
noncomputable def o31 : AO := .row [.int .u8 (3), .int .i64 (0), .int .i64 (0), .str [], .int .u8 (0), .int .i64 (0), .str [], .nils, .nils, .int .u8 (1), .int .i64 (0), .int .i64 (0), .str [], .int .u8 (2), .int .i64 (1), .str [], .nils, .nils] 29
noncomputable def o32 : AO := .row [.slice 9569 0 2 2, .slice 9573 0 2 2] 27
noncomputable def o33 : AO := .row [.int .u8 (2), .int .i64 (0), .int .i64 (0), .str [88], .int .u8 (0), .int .i64 (0), .str [], .nils, .nils, .int .u8 (2), .int .i64 (0), .int .i64 (0), .str [88], .int .u8 (0), .int .i64 (0), .str [], .nils, .nils] 29
noncomputable def o34 : AO := .row [.int .u8 (5), .int .i64 (0), .int .i64 (0), .str [99, 111, 110, 115], .int .u8 (0), .int .i64 (0), .str [], .nils, .slice 11789 0 2 2] 29
noncomputable def o35 : AO := .row [.str [], .str [39, 97], .nils, .str [], .str [108, 105, 115, 116], .slice 12939 0 1 1] 77
noncomputable def o36 : AO := .row [.str [110, 105, 108], .nils, .str [99, 111, 110, 115], .slice 12940 0 2 2] 75
noncomputable def o37 : AO := .row [.int .i64 (0), .int .i64 (0), .bool false, .str [108, 105, 115, 116], .slice 12938 0 1 1, .slice 12941 0 2 2] 40
noncomputable def o38 : AO := .map [(.str [108, 105, 115, 116], .agg [.int .i64 (0), .int .i64 (0), .bool false, .str [108, 105, 115, 116], .slice 13190 0 1 1, .slice 13191 0 2 2, .map 13050], 0)] 1
noncomputable def o39 : AO := .row [.map 12946, .map 12947, .map 12948] 103
noncomputable def o40 : AO := .row [.str [98, 111, 111, 108], .nils] 56
noncomputable def o41 : AO := .row [.int .u8 (1), .int .i64 (0), .int .i64 (0), .str [], .int .u8 (1), .int .i64 (1), .str [], .nils, .nils] 29
noncomputable def o42 : AO := .row [.int .u8 (1), .int .i64 (0), .int .i64 (0), .str [], .int .u8 (1), .int .i64 (0), .str [], .nils, .nils] 29
noncomputable def o43 : AO := .row [.slice 13412 0 1 1, .slice 13413 0 1 1] 27
noncomputable def p0 : Pl := [(11, o3), (12, o4), (14, .row [.map 11, .map 12, .map 13] 103), (115, o5), (255, .row [.str [39, 97]] 9), (256, o6), (263, o7), (312, .row [.str [39, 97], .nils] 56), (613, .row [.str [105, 110, 116], .nils] 56), (614, o8), (619, o9), (623, o10), (625, o11), (626, o12)]
noncomputable def p1 : Pl := [(11, o3), (12, o4), (14, .row [.map 11, .map 12, .map 13] 103), (115, o5), (255, .row [.str [39, 97]] 9), (256, o6), (263, o7), (312, .row [.str [39, 97], .nils] 56), (613, .row [.str [105, 110, 116], .nils] 56), (614, o8), (3048, o9), (3053, o18), (3055, o19), (3056, o20)]
noncomputable def p2 : Pl := [(11, o3), (12, o4), (14, .row [.map 11, .map 12, .map 13] 103), (115, o5), (255, .row [.str [39, 97]] 9), (256, o6), (263, o7), (312, .row [.str [39, 97], .nils] 56), (613, .row [.str [105, 110, 116], .nils] 56), (614, o8), (5737, o9), (5742, o23), (5744, o24), (5750, o25), (5752, o26), (5753, o27)]
noncomputable def p3 : Pl := [(11, o3), (14, .row [.map 11, .map 12, .map 13] 103), (9565, o30), (9569, o18), (9573, o31), (9574, o32)]
noncomputable def p4 : Pl := [(11, o3), (12, o4), (14, .row [.map 11, .map 12, .map 13] 103), (115, o5), (255, .row [.str [39, 97]] 9), (256, o6), (263, o7), (312, .row [.str [39, 97], .nils] 56), (613, .row [.str [105, 110, 116], .nils] 56), (614, o8), (11789, o33), (11791, o34), (11792, .row [.slice 11791 0 1 1] 27)]
noncomputable def p5 : Pl := [(12946, o38), (12949, o39), (13411, o40), (13412, o41), (13413, o42), (13414, o43)]
noncomputable def p6 : Pl := [(12946, o38), (12949, o39), (14561, o40), (14562, o41), (14563, .row [.slice 14562 0 1 1] 27)]
end Go.Proofs.YtlopmpogmoiofaaGreatDoor
