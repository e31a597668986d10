/- Package code: the form of a kind. -/
import Derived.Test.YtlhkjmckigblpaaGreatDoorYc
import Derived.Laws.EntriesVeiled
namespace Go.Proofs.YtlhkjmckigblpaaGreatDoor
open Go.RowKit Vp Cp
open Go
attribute [local go_sem] Oper.semAt_some

set_option maxRecDepth 100000 in
set_option maxHeartbeats 4000000 in
theorem form1_c (w : World) :
    Calls Tryz.prog 90 #[.int .u8 1] w fun e w' => e = .returned (.agg #[.func (.func 111) #[] #[], .func (.func 112) #[] #[]]) ∧ Below w.heap.size w w' := by
  go_enter Tryz.func90, Tryz.ntmps90
  go_wp2_with fail
  refine bodyPost_ret (v := .agg #[.func (.func 111) #[] #[], .func (.func 112) #[] #[]]) (by simp [results, Tryz.results90, go_sem]) rfl ⟨rfl, ?_⟩
  repeat (first | exact Below.refl _ _ | refine Below.setCell ?_ (by simp) _ | refine Below.alloc ?_ (by simp) _)

set_option maxRecDepth 100000 in
set_option maxHeartbeats 4000000 in
theorem form2_c (w : World) :
    Calls Tryz.prog 90 #[.int .u8 2] w fun e w' => e = .returned (.agg #[.func (.func 113) #[] #[], .func (.func 114) #[] #[]]) ∧ Below w.heap.size w w' := by
  go_enter Tryz.func90, Tryz.ntmps90
  go_wp2_with fail
  refine bodyPost_ret (v := .agg #[.func (.func 113) #[] #[], .func (.func 114) #[] #[]]) (by simp [results, Tryz.results90, go_sem]) rfl ⟨rfl, ?_⟩
  repeat (first | exact Below.refl _ _ | refine Below.setCell ?_ (by simp) _ | refine Below.alloc ?_ (by simp) _)

set_option maxRecDepth 100000 in
set_option maxHeartbeats 4000000 in
theorem form3_c (w : World) :
    Calls Tryz.prog 90 #[.int .u8 3] w fun e w' => e = .returned (.agg #[.func (.func 115) #[] #[], .func (.func 116) #[] #[]]) ∧ Below w.heap.size w w' := by
  go_enter Tryz.func90, Tryz.ntmps90
  go_wp2_with fail
  refine bodyPost_ret (v := .agg #[.func (.func 115) #[] #[], .func (.func 116) #[] #[]]) (by simp [results, Tryz.results90, go_sem]) rfl ⟨rfl, ?_⟩
  repeat (first | exact Below.refl _ _ | refine Below.setCell ?_ (by simp) _ | refine Below.alloc ?_ (by simp) _)

set_option maxRecDepth 100000 in
set_option maxHeartbeats 4000000 in
theorem form4_c (w : World) :
    Calls Tryz.prog 90 #[.int .u8 4] w fun e w' => e = .returned (.agg #[.func (.func 117) #[] #[], .func (.func 118) #[] #[]]) ∧ Below w.heap.size w w' := by
  go_enter Tryz.func90, Tryz.ntmps90
  go_wp2_with fail
  refine bodyPost_ret (v := .agg #[.func (.func 117) #[] #[], .func (.func 118) #[] #[]]) (by simp [results, Tryz.results90, go_sem]) rfl ⟨rfl, ?_⟩
  repeat (first | exact Below.refl _ _ | refine Below.setCell ?_ (by simp) _ | refine Below.alloc ?_ (by simp) _)

set_option maxRecDepth 100000 in
set_option maxHeartbeats 4000000 in
theorem form5_c (w : World) :
    Calls Tryz.prog 90 #[.int .u8 5] w fun e w' => e = .returned (.agg #[.func (.func 119) #[] #[], .func (.func 120) #[] #[]]) ∧ Below w.heap.size w w' := by
  go_enter Tryz.func90, Tryz.ntmps90
  go_wp2_with fail
  refine bodyPost_ret (v := .agg #[.func (.func 119) #[] #[], .func (.func 120) #[] #[]]) (by simp [results, Tryz.results90, go_sem]) rfl ⟨rfl, ?_⟩
  repeat (first | exact Below.refl _ _ | refine Below.setCell ?_ (by simp) _ | refine Below.alloc ?_ (by simp) _)

set_option maxRecDepth 100000 in
set_option maxHeartbeats 4000000 in
theorem form6_c (w : World) :
    Calls Tryz.prog 90 #[.int .u8 6] w fun e w' => e = .returned (.agg #[.func (.func 121) #[] #[], .func (.func 122) #[] #[]]) ∧ Below w.heap.size w w' := by
  go_enter Tryz.func90, Tryz.ntmps90
  go_wp2_with fail
  refine bodyPost_ret (v := .agg #[.func (.func 121) #[] #[], .func (.func 122) #[] #[]]) (by simp [results, Tryz.results90, go_sem]) rfl ⟨rfl, ?_⟩
  repeat (first | exact Below.refl _ _ | refine Below.setCell ?_ (by simp) _ | refine Below.alloc ?_ (by simp) _)
end Go.Proofs.YtlhkjmckigblpaaGreatDoor
