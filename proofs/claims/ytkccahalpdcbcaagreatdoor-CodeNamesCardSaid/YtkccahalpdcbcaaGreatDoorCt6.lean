/- Stretches of the run. -/
import Derived.Test.YtkccahalpdcbcaaGreatDoorCt0
import Derived.Test.YtkccahalpdcbcaaGreatDoorCt5
namespace Go.Proofs.YtkccahalpdcbcaaGreatDoor
open Go Go.Xe
set_option maxRecDepth 10000000
set_option linter.unusedVariables false
noncomputable def c5104 : Cut := ⟨74, 7416, [.ptr 7402 0, .int .i64 (63)], [(7401, o121), (7402, .row [.grow 7401 6 374 6, .bool false] 57)], .agg [.int .u8 (0), .int .i64 (0), .str [99], .grow 7974 0 1 0], [(7401, o121), (7402, .row [.grow 7401 379 1 379, .bool false] 57), (7791, o122), (7794, o123), (7797, o124), (7800, o125), (7803, o126), (7806, o127), (7809, o128), (7812, o129), (7815, o130), (7818, o131), (7821, o132), (7824, o133), (7827, o134), (7830, o135), (7833, o136), (7836, o137), (7839, o138), (7842, o139), (7845, o140), (7848, o141), (7851, o142), (7854, o143), (7857, o144), (7860, o145), (7863, o146), (7866, o147), (7869, o148), (7872, o149), (7875, o150), (7878, o151), (7881, o152), (7884, o153), (7887, o154), (7890, o155), (7893, o156), (7896, o157), (7899, o158), (7902, o159), (7905, o160), (7908, o161), (7911, o162), (7914, o163), (7917, o164), (7920, o165), (7923, o166), (7926, o167), (7929, o168), (7932, o169), (7935, o170), (7938, o171), (7941, o172), (7944, o173), (7947, o174), (7950, o175), (7953, o176), (7956, o177), (7959, o178), (7962, o179), (7965, o180), (7968, o181), (7971, o182), (7974, o183)], 7975⟩
noncomputable def t5104 : T Cut := (.node (.node (.node (.node (.node .leaf none (.node .leaf none (.node (.node .leaf none (.node .leaf none (.node (.node .leaf none (.node .leaf none (.node .leaf (some c5442) .leaf))) none .leaf))) none .leaf))) none .leaf) none .leaf) none .leaf) none .leaf)
theorem t5104_ok {B : Bs} (hS : KK B) : AllC (OO B) t5104 := (allC_node noneC (allC_node noneC (allC_node noneC (allC_node noneC (allC_node noneC allC_leaf (allC_node noneC allC_leaf (allC_node noneC (allC_node noneC allC_leaf (allC_node noneC allC_leaf (allC_node noneC (allC_node noneC allC_leaf (allC_node noneC allC_leaf (allC_node (someC (c5442_ok hS)) allC_leaf allC_leaf))) allC_leaf))) allC_leaf))) allC_leaf) allC_leaf) allC_leaf) allC_leaf)
theorem c5104_ok {B : Bs} (hS : KK B) : OO B c5104 := mkC (t5104_ok hS) hS (by kernel_rfl)
noncomputable def c6499 : Cut := ⟨58, 8567, [.grow 7914 0 1 0, .func (.func 60) [] [.ptr 8551 0]], p4, .bool false, p4, 9322⟩
theorem c6499_ok {B : Bs} (hS : KK B) : OO B c6499 := mkC allC_leaf hS (by kernel_rfl)
end Go.Proofs.YtkccahalpdcbcaaGreatDoor
