/- What the rows share beyond Vz: single values that come in; the table of the powers of ten. -/
import Derived.Test.YtaapppieipfinaaGreatDoorVz
import Derived.Lib.AppendIntMem
import Derived.Lib.LaidTab
namespace Go.Proofs.YtaapppieipfinaaGreatDoor
open Go.ChangeShapes Go.WideShapes Go.ChangeAt Go.RowKit Vp

section
variable {H : Type} {enc : TypeId × Value → H}
set_option maxRecDepth 100000 in
/-- A value that is handed in. -/
theorem open_value {w : World} {b0 : Nat} {r : Reach} {v : Value} {d : DataW H} {ps : List MemPlace} {sp : Nat → Bool} {held : Bool}
    (hval : Value.okWide Tryz.prog w r b0 28 v) (hd : DataW.Trod enc Tryz.prog w 0 sp held 28 v d ps) : ∃ t : V, VRep w w.heap.size t v := by
  obtain ⟨cs, rfl, _⟩ := okWide_struct Tryz.underlying28 hval
  obtain ⟨fuel, hf⟩ := hd
  obtain ⟨t, ht, _⟩ := open_val Tryz.underlying28 cellsV rfl rfl rfl rfl (by kernel_rfl) (by kernel_rfl) (by kernel_rfl) (by kernel_rfl) rfl rfl rfl rfl Tryz.underlying5 Tryz.underlying2 Tryz.underlying9 Tryz.underlying22 fuel _ _ hf
  exact ⟨t, by simpa [Value.cells] using ht⟩
/-- It reads behind the call as it did. -/
theorem value_stays {W W' : World} {v : Value} {d : DataW H} {ps : List MemPlace} (h : DataW.Trod enc Tryz.prog W 0 (fun _ => true) true 28 v d ps) (hb : Below W.heap.size W W') (hlt : ∀ x ∈ ps, x.block < W.heap.size)
    {sp : Nat → Bool} (hs : ∀ p ∈ ps, sp p.block = true) : DataW.Trod enc Tryz.prog W' 0 sp true 28 v d ps :=
  WideElems.Trod_stays laidOut (by kernel_rfl) (of_decide_eq_true (by kernel_rfl)) h (fun x hx => hb.same (hlt x hx)) hs
end
theorem gTab : Tryz.prog.globalNamed "internal/strconv.uint64pow10" = some 1 := by kernel_rfl
theorem gTabType : (Tryz.prog.globals[1]?).map (·.type) = some 128 := by kernel_rfl
theorem cellsTabE : Tryz.prog.cellsOf 116 = 1 := by kernel_rfl
theorem cellsTab : Tryz.prog.cellsOf 128 = 20 := by kernel_rfl
theorem laid_tab {W : World} {r : List (String × DataW Unit)} (h : laidMet Tryz.prog (("internal/strconv.uint64pow10", Rows.laid_internal_strconv_uint64pow10) :: r) W) :
    ∀ W', Below W.heap.size W W' → Lib.TabIs Tryz.prog W' "internal/strconv.uint64pow10" .u64 Lib.pow10Tab :=
  Lib.tabBelow_of_tabIs (Lib.tabIs_of_head (zs := Lib.pow10Tab) (rest := r) gTab gTabType Tryz.underlying128 Tryz.underlying116 cellsTabE cellsTab h)
end Go.Proofs.YtaapppieipfinaaGreatDoor
