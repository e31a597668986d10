/- Stretches of the run. -/
import Derived.Test.YtkccahalpdcbcaaGreatDoorCt0
import Derived.Test.YtkccahalpdcbcaaGreatDoorCt4
namespace Go.Proofs.YtkccahalpdcbcaaGreatDoor
open Go Go.Xe
set_option maxRecDepth 10000000
set_option linter.unusedVariables false
noncomputable def c2924 : Cut := ⟨16, 3510, [.nils, .agg [.int .u8 (6), .int .i64 (0), .str [99], .slice 2066 0 1 1]], p0, .grow 7399 0 380 0, p1, 7400⟩
noncomputable def t2924 : T Cut := (.node (.node (.node (.node .leaf none (.node .leaf none (.node .leaf none (.node .leaf none (.node (.node (.node .leaf none (.node .leaf none (.node .leaf (some c3181) .leaf))) none .leaf) none .leaf))))) none .leaf) none (.node (.node .leaf none (.node .leaf none (.node .leaf none (.node .leaf none (.node .leaf none (.node .leaf none (.node .leaf none (.node (.node (.node .leaf (some c4450) .leaf) none .leaf) none .leaf)))))))) none .leaf)) none .leaf)
theorem t2924_ok {B : Bs} (hS : KK B) : AllC (OO B) t2924 := (allC_node noneC (allC_node noneC (allC_node noneC (allC_node noneC allC_leaf (allC_node noneC allC_leaf (allC_node noneC allC_leaf (allC_node noneC allC_leaf (allC_node noneC (allC_node noneC (allC_node noneC allC_leaf (allC_node noneC allC_leaf (allC_node (someC (c3181_ok hS)) allC_leaf allC_leaf))) allC_leaf) allC_leaf))))) allC_leaf) (allC_node noneC (allC_node noneC allC_leaf (allC_node noneC allC_leaf (allC_node noneC allC_leaf (allC_node noneC allC_leaf (allC_node noneC allC_leaf (allC_node noneC allC_leaf (allC_node noneC allC_leaf (allC_node noneC (allC_node noneC (allC_node (someC (c4450_ok hS)) allC_leaf allC_leaf) allC_leaf) allC_leaf)))))))) allC_leaf)) allC_leaf)
theorem c2924_ok {B : Bs} (hS : KK B) : OO B c2924 := mkC (t2924_ok hS) hS (by kernel_rfl)
noncomputable def c5442 : Cut := ⟨55, 7599, [.ptr 7402 0, .int .i64 (32)], [(7401, o121), (7402, .row [.grow 7401 160 220 160, .bool false] 57)], .agg [.int .u8 (6), .int .i64 (0), .str [99], .grow 7881 0 1 0], [(7401, o121), (7402, .row [.grow 7401 348 32 348, .bool false] 57), (7791, o122), (7794, o123), (7797, o124), (7800, o125), (7803, o126), (7806, o127), (7809, o128), (7812, o129), (7815, o130), (7818, o131), (7821, o132), (7824, o133), (7827, o134), (7830, o135), (7833, o136), (7836, o137), (7839, o138), (7842, o139), (7845, o140), (7848, o141), (7851, o142), (7854, o143), (7857, o144), (7860, o145), (7863, o146), (7866, o147), (7869, o148), (7872, o149), (7875, o150), (7878, o151), (7881, o152)], 7883⟩
theorem c5442_ok {B : Bs} (hS : KK B) : OO B c5442 := mkC allC_leaf hS (by kernel_rfl)
end Go.Proofs.YtkccahalpdcbcaaGreatDoor
