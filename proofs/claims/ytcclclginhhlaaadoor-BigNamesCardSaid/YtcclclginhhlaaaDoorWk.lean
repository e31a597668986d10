/- The examples that each outright law asks first. -/
import Derived.Test.YtcclclginhhlaaaDoorBigU
import Derived.Test.YtcclclginhhlaaaDoorOrdersW
namespace Go.Proofs.YtcclclginhhlaaaDoor
open Go.RowKit Go.Shelf
open Pl Dig

theorem ex1 : opOut [57, 57, 57] [49] (valL [57, 57, 57] + valL [49]) = ([49, 48, 48, 48], 0) := by decide +kernel
theorem ex2 : opOut [49] [49, 48, 48, 48] (valL [49] - valL [49, 48, 48, 48]) = ([45, 57, 57, 57], 0) := by decide +kernel
theorem ex3 : opOut [45, 49, 50] [49, 50] (valL [45, 49, 50] * valL [49, 50]) = ([45, 49, 52, 52], 0) := by decide +kernel
theorem ex4 : divOut [45, 55] [50] ((valL [45, 55]).tdiv (valL [50])) = ([45, 51], 0) := by decide +kernel
theorem ex5 : divOut [45, 55] [50] ((valL [45, 55]).tmod (valL [50])) = ([45, 49], 0) := by decide +kernel
theorem ex6 : chk [48] = 0 ∧ txt (-valL [48]) = [48] := by decide +kernel
theorem ex7 : pairE [45, 50] [49] = 0 ∧ cz [45, 50] [49] = -1 := by decide +kernel

abbrev Tab (w : World) : Prop := ∀ W, Below w.heap.size w W → Lib.TabIs Tryd.prog W "internal/strconv.uint64pow10" .u64 Lib.pow10Tab
theorem tab_on {w w' : World} (h : ∀ W, Below w.heap.size w W → Lib.TabIs Tryd.prog W "internal/strconv.uint64pow10" .u64 Lib.pow10Tab) (hb : Below w.heap.size w w') : ∀ W, Below w'.heap.size w' W → Lib.TabIs Tryd.prog W "internal/strconv.uint64pow10" .u64 Lib.pow10Tab :=
  fun W hW => h W (hb.trans (hW.mono hb.size))

set_option maxRecDepth 100000 in
set_option maxHeartbeats 1000000 in
theorem works_any (w : World) (htab : ∀ W, Below w.heap.size w W → Lib.TabIs Tryd.prog W "internal/strconv.uint64pow10" .u64 Lib.pow10Tab) :
    Calls Tryd.prog 12 #[] w fun e w' => e = .returned (.bool true) ∧ Below w.heap.size w w' := by
  have h1 := fun W h => add_out ⟨#[57, 57, 57]⟩ ⟨#[49]⟩ W (by decide) (by decide) h
  have h2 := fun W h => sub_out ⟨#[49]⟩ ⟨#[49, 48, 48, 48]⟩ W (by decide) (by decide) h
  have h3 := fun W h => mul_out ⟨#[45, 49, 50]⟩ ⟨#[49, 50]⟩ W (by decide) (by decide) h
  have h4 := fun W h => div_out ⟨#[45, 55]⟩ ⟨#[50]⟩ W (by decide) (by decide) h
  have h5 := fun W h => mod_out ⟨#[45, 55]⟩ ⟨#[50]⟩ W (by decide) (by decide) h
  have h6 := fun W h => neg_good ⟨#[48]⟩ W ex6.1 h
  have h7 := fun W => cmp25 ⟨#[45, 50]⟩ ⟨#[49]⟩ W (by decide) (by decide)
  dsimp only at h1 h2 h3 h4 h5 h6 h7
  rw [ex1] at h1
  rw [ex2] at h2
  rw [ex3] at h3
  rw [ex4] at h4
  rw [ex5] at h5
  rw [ex6.2] at h6
  rw [ex7.1, ex7.2] at h7
  have H1 := Lib.hid h1; have H2 := Lib.hid h2; have H3 := Lib.hid h3; have H4 := Lib.hid h4; have H5 := Lib.hid h5; have H6 := Lib.hid h6; have H7 := Lib.hid h7; have HT := Lib.hid htab
  clear h1 h2 h3 h4 h5 h6 h7 htab
  go_enter Tryd.func12, Tryd.ntmps12
  go_wp2_with fail
  refine (H1.out _ HT.out).mono ?_
  rintro e w1 ⟨rfl, hB1⟩
  have HB1 := Lib.hid hB1; clear hB1
  go_wp2_with fail
  refine (H2.out _ (tab_on HT.out HB1.out)).mono ?_
  rintro e w2 ⟨rfl, hB2⟩
  have HB2 := Lib.hid (HB1.out.trans (hB2.mono HB1.out.size)); clear hB2
  go_wp2_with fail
  refine (H3.out _ (tab_on HT.out HB2.out)).mono ?_
  rintro e w3 ⟨rfl, hB3⟩
  have HB3 := Lib.hid (HB2.out.trans (hB3.mono HB2.out.size)); clear hB3
  go_wp2_with fail
  refine (H4.out _ (tab_on HT.out HB3.out)).mono ?_
  rintro e w4 ⟨rfl, hB4⟩
  have HB4 := Lib.hid (HB3.out.trans (hB4.mono HB3.out.size)); clear hB4
  go_wp2_with fail
  refine (H5.out _ (tab_on HT.out HB4.out)).mono ?_
  rintro e w5 ⟨rfl, hB5⟩
  have HB5 := Lib.hid (HB4.out.trans (hB5.mono HB4.out.size)); clear hB5
  go_wp2_with fail
  refine (H6.out _ (tab_on HT.out HB5.out)).mono ?_
  rintro e w6 ⟨rfl, hB6⟩
  have HB6 := Lib.hid (HB5.out.trans (hB6.mono HB5.out.size)); clear hB6
  go_wp2_with fail
  refine (H7.out _).mono ?_
  rintro e w7 ⟨rfl, hB7⟩
  have HB7 := Lib.hid (HB6.out.trans (hB7.mono HB6.out.size)); clear hB7
  go_wp2_with fail
  go_ret
  exact ⟨by rfl, HB7.out⟩
end Go.Proofs.YtcclclginhhlaaaDoor
