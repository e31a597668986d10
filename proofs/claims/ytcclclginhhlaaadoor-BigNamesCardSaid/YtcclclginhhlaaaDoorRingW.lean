/- BigRing: its walk. -/
import Derived.Test.YtcclclginhhlaaaDoorRestW
namespace Go.Proofs.YtcclclginhhlaaaDoor
open Go.RowKit Go.Shelf
open Pl Dig

/-- A function of the program, at these texts, answers this text and this number. -/
abbrev Says (f : Nat) (args : Array Value) (s : ByteArray) (n : Int) : Prop :=
  ∀ w, Tab w → Calls Tryd.prog f args w fun e w' => e = .returned (.tuple #[.string s, .int .i64 n]) ∧ Below w.heap.size w w'
abbrev Tells (f : Nat) (args : Array Value) (v : Value) : Prop :=
  ∀ w, Calls Tryd.prog f args w fun e w' => e = .returned v ∧ Below w.heap.size w w'
theorem one_tab {w : World} (h : ∀ W, Below w.heap.size w W → Lib.TabIs Tryd.prog W "internal/strconv.uint64pow10" .u64 Lib.pow10Tab) : Tab w := h

theorem says_check {a : ByteArray} {n : Int} (ha : a.size ≤ maxLen) (h : chk a.data.toList = n) : Tells 13 #[.string a] (.int .i64 n) := fun w => by rw [← h]; exact big_check a w ha

set_option maxRecDepth 100000 in
theorem same_far (p t : ByteArray) (m : Int) : Tells 32 #[.string p, .int .i64 m, .string t, .int .i64 80] (.bool true) := by
  intro w
  cases h : (m != 0) with
  | true =>
    go_enter Tryd.func32, Tryd.ntmps32
    go_wp2_with fail
    go_ret
    exact ⟨rfl, Below.refl _ _⟩
  | false =>
    go_enter Tryd.func32, Tryd.ntmps32
    go_wp2_with fail
    go_ret
    exact ⟨rfl, Below.refl _ _⟩
set_option maxRecDepth 100000 in
theorem same_same (p : ByteArray) (m : Int) : Tells 32 #[.string p, .int .i64 m, .string p, .int .i64 m] (.bool true) := by
  intro w
  cases h : (m != 0) with
  | true =>
    go_enter Tryd.func32, Tryd.ntmps32
    go_wp2_with fail
    go_ret
    exact ⟨rfl, Below.refl _ _⟩
  | false =>
    go_enter Tryd.func32, Tryd.ntmps32
    go_wp2_with fail
    go_ret
    exact ⟨rfl, Below.refl _ _⟩

set_option maxRecDepth 100000 in
set_option maxHeartbeats 2000000 in
theorem ring_bad1 (a b c : ByteArray) (w : World) (k : Int) (hk : (k != 0) = true) (ca : Tells 13 #[.string a] (.int .i64 k))
    (htab : ∀ W, Below w.heap.size w W → Lib.TabIs Tryd.prog W "internal/strconv.uint64pow10" .u64 Lib.pow10Tab) :
    Calls Tryd.prog 9 #[.string a, .string b, .string c] w fun e w' => e = .returned (.bool true) ∧ Below w.heap.size w w' := by
  have HT := Lib.hid htab; have CA := Lib.hid ca; clear htab ca
  go_enter Tryd.func9, Tryd.ntmps9
  go_wp2_with fail
  refine (works_any _ HT.out).mono ?_
  rintro e w1 ⟨rfl, hB1⟩
  have HB1 := Lib.hid hB1; clear hB1
  go_wp2_with fail
  refine (CA.out _).mono ?_
  rintro e w2 ⟨rfl, hB2⟩
  have HB2 := Lib.hid (HB1.out.trans (hB2.mono HB1.out.size)); clear hB2
  go_wp2_with fail
  refine (works_any _ (tab_on HT.out HB2.out)).mono ?_
  rintro e w3 ⟨rfl, hB3⟩
  have HB3 := Lib.hid (HB2.out.trans (hB3.mono HB2.out.size)); clear hB3
  go_wp2_with fail
  go_ret
  exact ⟨rfl, HB3.out⟩

set_option maxRecDepth 100000 in
set_option maxHeartbeats 2000000 in
theorem ring_bad2 (a b c : ByteArray) (w : World) (k : Int) (hk : (k != 0) = true) (ca : Tells 13 #[.string a] (.int .i64 0)) (cb : Tells 13 #[.string b] (.int .i64 k))
    (htab : ∀ W, Below w.heap.size w W → Lib.TabIs Tryd.prog W "internal/strconv.uint64pow10" .u64 Lib.pow10Tab) :
    Calls Tryd.prog 9 #[.string a, .string b, .string c] w fun e w' => e = .returned (.bool true) ∧ Below w.heap.size w w' := by
  have HT := Lib.hid htab; have CA := Lib.hid ca; have CB := Lib.hid cb; clear htab ca cb
  go_enter Tryd.func9, Tryd.ntmps9
  go_wp2_with fail
  refine (works_any _ HT.out).mono ?_
  rintro e w1 ⟨rfl, hB1⟩
  have HB1 := Lib.hid hB1; clear hB1
  go_wp2_with fail
  refine (CA.out _).mono ?_
  rintro e w2 ⟨rfl, hB2⟩
  have HB2 := Lib.hid (HB1.out.trans (hB2.mono HB1.out.size)); clear hB2
  go_wp2_with fail
  refine (CB.out _).mono ?_
  rintro e w3 ⟨rfl, hB3⟩
  have HB3 := Lib.hid (HB2.out.trans (hB3.mono HB2.out.size)); clear hB3
  go_wp2_with fail
  refine (works_any _ (tab_on HT.out HB3.out)).mono ?_
  rintro e w4 ⟨rfl, hB4⟩
  have HB4 := Lib.hid (HB3.out.trans (hB4.mono HB3.out.size)); clear hB4
  go_wp2_with fail
  go_ret
  exact ⟨rfl, HB4.out⟩

set_option maxRecDepth 100000 in
set_option maxHeartbeats 2000000 in
theorem ring_bad3 (a b c : ByteArray) (w : World) (k : Int) (hk : (k != 0) = true) (ca : Tells 13 #[.string a] (.int .i64 0)) (cb : Tells 13 #[.string b] (.int .i64 0)) (cc : Tells 13 #[.string c] (.int .i64 k))
    (htab : ∀ W, Below w.heap.size w W → Lib.TabIs Tryd.prog W "internal/strconv.uint64pow10" .u64 Lib.pow10Tab) :
    Calls Tryd.prog 9 #[.string a, .string b, .string c] w fun e w' => e = .returned (.bool true) ∧ Below w.heap.size w w' := by
  have HT := Lib.hid htab; have CA := Lib.hid ca; have CB := Lib.hid cb; have CC := Lib.hid cc; clear htab ca cb cc
  go_enter Tryd.func9, Tryd.ntmps9
  go_wp2_with fail
  refine (works_any _ HT.out).mono ?_
  rintro e w1 ⟨rfl, hB1⟩
  have HB1 := Lib.hid hB1; clear hB1
  go_wp2_with fail
  refine (CA.out _).mono ?_
  rintro e w2 ⟨rfl, hB2⟩
  have HB2 := Lib.hid (HB1.out.trans (hB2.mono HB1.out.size)); clear hB2
  go_wp2_with fail
  refine (CB.out _).mono ?_
  rintro e w3 ⟨rfl, hB3⟩
  have HB3 := Lib.hid (HB2.out.trans (hB3.mono HB2.out.size)); clear hB3
  go_wp2_with fail
  refine (CC.out _).mono ?_
  rintro e w4 ⟨rfl, hB4⟩
  have HB4 := Lib.hid (HB3.out.trans (hB4.mono HB3.out.size)); clear hB4
  go_wp2_with fail
  refine (works_any _ (tab_on HT.out HB4.out)).mono ?_
  rintro e w5 ⟨rfl, hB5⟩
  have HB5 := Lib.hid (HB4.out.trans (hB5.mono HB4.out.size)); clear hB5
  go_wp2_with fail
  go_ret
  exact ⟨rfl, HB5.out⟩

set_option maxRecDepth 100000 in
set_option maxHeartbeats 2000000 in
theorem ring_far1 (a b c AB M BC N : ByteArray) (e g i : Int) (w : World) (k1 : (e == 0) = false)
    (ca : Tells 13 #[.string a] (.int .i64 0))
    (cb : Tells 13 #[.string b] (.int .i64 0))
    (cc : Tells 13 #[.string c] (.int .i64 0))
    (h1 : Says 15 #[.string a, .string b] AB e)
    (h2 : Says 15 #[.string b, .string a] AB e)
    (h3 : Says 16 #[.string a, .string b] M g)
    (h4 : Says 16 #[.string b, .string a] M g)
    (h5 : Says 15 #[.string b, .string c] BC i)
    (h6 : Says 20 #[.string a, .string a] ⟨#[48]⟩ 0)
    (h7 : Says 27 #[.string a] N 0)
    (h8 : Says 15 #[.string a, .string N] ⟨#[48]⟩ 0)
    (h9 : Says 27 #[.string N] a 0)
    (htab : ∀ W, Below w.heap.size w W → Lib.TabIs Tryd.prog W "internal/strconv.uint64pow10" .u64 Lib.pow10Tab) :
    Calls Tryd.prog 9 #[.string a, .string b, .string c] w fun e w' => e = .returned (.bool true) ∧ Below w.heap.size w w' := by
  have HT := Lib.hid htab; have CA := Lib.hid ca; have CB := Lib.hid cb; have CC := Lib.hid cc; have H1 := Lib.hid h1; have H2 := Lib.hid h2; have H3 := Lib.hid h3; have H4 := Lib.hid h4; have H5 := Lib.hid h5; have H6 := Lib.hid h6; have H7 := Lib.hid h7; have H8 := Lib.hid h8; have H9 := Lib.hid h9; clear htab ca cb cc h1 h2 h3 h4 h5 h6 h7 h8 h9
  go_enter Tryd.func9, Tryd.ntmps9
  go_wp2_with fail
  refine (works_any _ HT.out).mono ?_
  rintro e w1 ⟨rfl, hB1⟩
  have HB1 := Lib.hid hB1; clear hB1
  go_wp2_with fail
  refine (CA.out _).mono ?_
  rintro e w2 ⟨rfl, hB2⟩
  have HB2 := Lib.hid (HB1.out.trans (hB2.mono HB1.out.size)); clear hB2
  go_wp2_with fail
  refine (CB.out _).mono ?_
  rintro e w3 ⟨rfl, hB3⟩
  have HB3 := Lib.hid (HB2.out.trans (hB3.mono HB2.out.size)); clear hB3
  go_wp2_with fail
  refine (CC.out _).mono ?_
  rintro e w4 ⟨rfl, hB4⟩
  have HB4 := Lib.hid (HB3.out.trans (hB4.mono HB3.out.size)); clear hB4
  go_wp2_with fail
  refine (H1.out _ (tab_on HT.out HB4.out)).mono ?_
  rintro e w5 ⟨rfl, hB5⟩
  have HB5 := Lib.hid (HB4.out.trans (hB5.mono HB4.out.size)); clear hB5
  go_wp2_with fail
  refine (H2.out _ (tab_on HT.out HB5.out)).mono ?_
  rintro e w6 ⟨rfl, hB6⟩
  have HB6 := Lib.hid (HB5.out.trans (hB6.mono HB5.out.size)); clear hB6
  go_wp2_with fail
  refine (H3.out _ (tab_on HT.out HB6.out)).mono ?_
  rintro e w7 ⟨rfl, hB7⟩
  have HB7 := Lib.hid (HB6.out.trans (hB7.mono HB6.out.size)); clear hB7
  go_wp2_with fail
  refine (H4.out _ (tab_on HT.out HB7.out)).mono ?_
  rintro e w8 ⟨rfl, hB8⟩
  have HB8 := Lib.hid (HB7.out.trans (hB8.mono HB7.out.size)); clear hB8
  go_wp2_with fail
  refine (H5.out _ (tab_on HT.out HB8.out)).mono ?_
  rintro e w9 ⟨rfl, hB9⟩
  have HB9 := Lib.hid (HB8.out.trans (hB9.mono HB8.out.size)); clear hB9
  go_wp2_with fail
  refine (H6.out _ (tab_on HT.out HB9.out)).mono ?_
  rintro e w10 ⟨rfl, hB10⟩
  have HB10 := Lib.hid (HB9.out.trans (hB10.mono HB9.out.size)); clear hB10
  go_wp2_with fail
  refine (H7.out _ (tab_on HT.out HB10.out)).mono ?_
  rintro e w11 ⟨rfl, hB11⟩
  have HB11 := Lib.hid (HB10.out.trans (hB11.mono HB10.out.size)); clear hB11
  go_wp2_with fail
  refine (H8.out _ (tab_on HT.out HB11.out)).mono ?_
  rintro e w12 ⟨rfl, hB12⟩
  have HB12 := Lib.hid (HB11.out.trans (hB12.mono HB11.out.size)); clear hB12
  go_wp2_with fail
  refine (H9.out _ (tab_on HT.out HB12.out)).mono ?_
  rintro e w13 ⟨rfl, hB13⟩
  have HB13 := Lib.hid (HB12.out.trans (hB13.mono HB12.out.size)); clear hB13
  go_wp2_with fail
  go_ret
  exact ⟨rfl, HB13.out⟩

set_option maxRecDepth 100000 in
set_option maxHeartbeats 2000000 in
theorem ring_far2 (a b c AB M BC N : ByteArray) (e g i : Int) (w : World) (k1 : (e == 0) = true) (k2 : (i == 0) = false)
    (ca : Tells 13 #[.string a] (.int .i64 0))
    (cb : Tells 13 #[.string b] (.int .i64 0))
    (cc : Tells 13 #[.string c] (.int .i64 0))
    (h1 : Says 15 #[.string a, .string b] AB e)
    (h2 : Says 15 #[.string b, .string a] AB e)
    (h3 : Says 16 #[.string a, .string b] M g)
    (h4 : Says 16 #[.string b, .string a] M g)
    (h5 : Says 15 #[.string b, .string c] BC i)
    (h6 : Says 20 #[.string a, .string a] ⟨#[48]⟩ 0)
    (h7 : Says 27 #[.string a] N 0)
    (h8 : Says 15 #[.string a, .string N] ⟨#[48]⟩ 0)
    (h9 : Says 27 #[.string N] a 0)
    (htab : ∀ W, Below w.heap.size w W → Lib.TabIs Tryd.prog W "internal/strconv.uint64pow10" .u64 Lib.pow10Tab) :
    Calls Tryd.prog 9 #[.string a, .string b, .string c] w fun e w' => e = .returned (.bool true) ∧ Below w.heap.size w w' := by
  have HT := Lib.hid htab; have CA := Lib.hid ca; have CB := Lib.hid cb; have CC := Lib.hid cc; have H1 := Lib.hid h1; have H2 := Lib.hid h2; have H3 := Lib.hid h3; have H4 := Lib.hid h4; have H5 := Lib.hid h5; have H6 := Lib.hid h6; have H7 := Lib.hid h7; have H8 := Lib.hid h8; have H9 := Lib.hid h9; clear htab ca cb cc h1 h2 h3 h4 h5 h6 h7 h8 h9
  go_enter Tryd.func9, Tryd.ntmps9
  go_wp2_with fail
  refine (works_any _ HT.out).mono ?_
  rintro e w1 ⟨rfl, hB1⟩
  have HB1 := Lib.hid hB1; clear hB1
  go_wp2_with fail
  refine (CA.out _).mono ?_
  rintro e w2 ⟨rfl, hB2⟩
  have HB2 := Lib.hid (HB1.out.trans (hB2.mono HB1.out.size)); clear hB2
  go_wp2_with fail
  refine (CB.out _).mono ?_
  rintro e w3 ⟨rfl, hB3⟩
  have HB3 := Lib.hid (HB2.out.trans (hB3.mono HB2.out.size)); clear hB3
  go_wp2_with fail
  refine (CC.out _).mono ?_
  rintro e w4 ⟨rfl, hB4⟩
  have HB4 := Lib.hid (HB3.out.trans (hB4.mono HB3.out.size)); clear hB4
  go_wp2_with fail
  refine (H1.out _ (tab_on HT.out HB4.out)).mono ?_
  rintro e w5 ⟨rfl, hB5⟩
  have HB5 := Lib.hid (HB4.out.trans (hB5.mono HB4.out.size)); clear hB5
  go_wp2_with fail
  refine (H2.out _ (tab_on HT.out HB5.out)).mono ?_
  rintro e w6 ⟨rfl, hB6⟩
  have HB6 := Lib.hid (HB5.out.trans (hB6.mono HB5.out.size)); clear hB6
  go_wp2_with fail
  refine (H3.out _ (tab_on HT.out HB6.out)).mono ?_
  rintro e w7 ⟨rfl, hB7⟩
  have HB7 := Lib.hid (HB6.out.trans (hB7.mono HB6.out.size)); clear hB7
  go_wp2_with fail
  refine (H4.out _ (tab_on HT.out HB7.out)).mono ?_
  rintro e w8 ⟨rfl, hB8⟩
  have HB8 := Lib.hid (HB7.out.trans (hB8.mono HB7.out.size)); clear hB8
  go_wp2_with fail
  refine (H5.out _ (tab_on HT.out HB8.out)).mono ?_
  rintro e w9 ⟨rfl, hB9⟩
  have HB9 := Lib.hid (HB8.out.trans (hB9.mono HB8.out.size)); clear hB9
  go_wp2_with fail
  refine (H6.out _ (tab_on HT.out HB9.out)).mono ?_
  rintro e w10 ⟨rfl, hB10⟩
  have HB10 := Lib.hid (HB9.out.trans (hB10.mono HB9.out.size)); clear hB10
  go_wp2_with fail
  refine (H7.out _ (tab_on HT.out HB10.out)).mono ?_
  rintro e w11 ⟨rfl, hB11⟩
  have HB11 := Lib.hid (HB10.out.trans (hB11.mono HB10.out.size)); clear hB11
  go_wp2_with fail
  refine (H8.out _ (tab_on HT.out HB11.out)).mono ?_
  rintro e w12 ⟨rfl, hB12⟩
  have HB12 := Lib.hid (HB11.out.trans (hB12.mono HB11.out.size)); clear hB12
  go_wp2_with fail
  refine (H9.out _ (tab_on HT.out HB12.out)).mono ?_
  rintro e w13 ⟨rfl, hB13⟩
  have HB13 := Lib.hid (HB12.out.trans (hB13.mono HB12.out.size)); clear hB13
  go_wp2_with fail
  go_ret
  exact ⟨rfl, HB13.out⟩

set_option maxRecDepth 100000 in
set_option maxHeartbeats 2000000 in
theorem ring_near1 (a b c AB M BC N L P Q S T : ByteArray) (g j m n o u : Int) (w : World) (k1 : (n != 0) = true) (hs : Tells 32 #[.string P, .int .i64 m, .string T, .int .i64 80] (.bool true))
    (ca : Tells 13 #[.string a] (.int .i64 0))
    (cb : Tells 13 #[.string b] (.int .i64 0))
    (cc : Tells 13 #[.string c] (.int .i64 0))
    (h1 : Says 15 #[.string a, .string b] AB 0)
    (h2 : Says 15 #[.string b, .string a] AB 0)
    (h3 : Says 16 #[.string a, .string b] M g)
    (h4 : Says 16 #[.string b, .string a] M g)
    (h5 : Says 15 #[.string b, .string c] BC 0)
    (h6 : Says 20 #[.string a, .string a] ⟨#[48]⟩ 0)
    (h7 : Says 27 #[.string a] N 0)
    (h8 : Says 15 #[.string a, .string N] ⟨#[48]⟩ 0)
    (h9 : Says 27 #[.string N] a 0)
    (n1 : Says 15 #[.string AB, .string c] L j)
    (n2 : Says 15 #[.string a, .string BC] L j)
    (n3 : Says 16 #[.string AB, .string c] P m)
    (n4 : Says 16 #[.string a, .string c] Q n)
    (n5 : Says 16 #[.string b, .string c] S o)
    (n6 : Says 15 #[.string Q, .string S] T u)
    (htab : ∀ W, Below w.heap.size w W → Lib.TabIs Tryd.prog W "internal/strconv.uint64pow10" .u64 Lib.pow10Tab) :
    Calls Tryd.prog 9 #[.string a, .string b, .string c] w fun e w' => e = .returned (.bool true) ∧ Below w.heap.size w w' := by
  have HT := Lib.hid htab; have HS := Lib.hid hs; have CA := Lib.hid ca; have CB := Lib.hid cb; have CC := Lib.hid cc; have H1 := Lib.hid h1; have H2 := Lib.hid h2; have H3 := Lib.hid h3; have H4 := Lib.hid h4; have H5 := Lib.hid h5; have H6 := Lib.hid h6; have H7 := Lib.hid h7; have H8 := Lib.hid h8; have H9 := Lib.hid h9; have N1 := Lib.hid n1; have N2 := Lib.hid n2; have N3 := Lib.hid n3; have N4 := Lib.hid n4; have N5 := Lib.hid n5; have N6 := Lib.hid n6; clear htab hs ca cb cc h1 h2 h3 h4 h5 h6 h7 h8 h9 n1 n2 n3 n4 n5 n6
  go_enter Tryd.func9, Tryd.ntmps9
  go_wp2_with fail
  refine (works_any _ HT.out).mono ?_
  rintro e w1 ⟨rfl, hB1⟩
  have HB1 := Lib.hid hB1; clear hB1
  go_wp2_with fail
  refine (CA.out _).mono ?_
  rintro e w2 ⟨rfl, hB2⟩
  have HB2 := Lib.hid (HB1.out.trans (hB2.mono HB1.out.size)); clear hB2
  go_wp2_with fail
  refine (CB.out _).mono ?_
  rintro e w3 ⟨rfl, hB3⟩
  have HB3 := Lib.hid (HB2.out.trans (hB3.mono HB2.out.size)); clear hB3
  go_wp2_with fail
  refine (CC.out _).mono ?_
  rintro e w4 ⟨rfl, hB4⟩
  have HB4 := Lib.hid (HB3.out.trans (hB4.mono HB3.out.size)); clear hB4
  go_wp2_with fail
  refine (H1.out _ (tab_on HT.out HB4.out)).mono ?_
  rintro e w5 ⟨rfl, hB5⟩
  have HB5 := Lib.hid (HB4.out.trans (hB5.mono HB4.out.size)); clear hB5
  go_wp2_with fail
  refine (H2.out _ (tab_on HT.out HB5.out)).mono ?_
  rintro e w6 ⟨rfl, hB6⟩
  have HB6 := Lib.hid (HB5.out.trans (hB6.mono HB5.out.size)); clear hB6
  go_wp2_with fail
  refine (H3.out _ (tab_on HT.out HB6.out)).mono ?_
  rintro e w7 ⟨rfl, hB7⟩
  have HB7 := Lib.hid (HB6.out.trans (hB7.mono HB6.out.size)); clear hB7
  go_wp2_with fail
  refine (H4.out _ (tab_on HT.out HB7.out)).mono ?_
  rintro e w8 ⟨rfl, hB8⟩
  have HB8 := Lib.hid (HB7.out.trans (hB8.mono HB7.out.size)); clear hB8
  go_wp2_with fail
  refine (H5.out _ (tab_on HT.out HB8.out)).mono ?_
  rintro e w9 ⟨rfl, hB9⟩
  have HB9 := Lib.hid (HB8.out.trans (hB9.mono HB8.out.size)); clear hB9
  go_wp2_with fail
  refine (N1.out _ (tab_on HT.out HB9.out)).mono ?_
  rintro e w10 ⟨rfl, hB10⟩
  have HB10 := Lib.hid (HB9.out.trans (hB10.mono HB9.out.size)); clear hB10
  go_wp2_with fail
  refine (N2.out _ (tab_on HT.out HB10.out)).mono ?_
  rintro e w11 ⟨rfl, hB11⟩
  have HB11 := Lib.hid (HB10.out.trans (hB11.mono HB10.out.size)); clear hB11
  go_wp2_with fail
  refine (N3.out _ (tab_on HT.out HB11.out)).mono ?_
  rintro e w12 ⟨rfl, hB12⟩
  have HB12 := Lib.hid (HB11.out.trans (hB12.mono HB11.out.size)); clear hB12
  go_wp2_with fail
  refine (N4.out _ (tab_on HT.out HB12.out)).mono ?_
  rintro e w13 ⟨rfl, hB13⟩
  have HB13 := Lib.hid (HB12.out.trans (hB13.mono HB12.out.size)); clear hB13
  go_wp2_with fail
  refine (N5.out _ (tab_on HT.out HB13.out)).mono ?_
  rintro e w14 ⟨rfl, hB14⟩
  have HB14 := Lib.hid (HB13.out.trans (hB14.mono HB13.out.size)); clear hB14
  go_wp2_with fail
  refine (N6.out _ (tab_on HT.out HB14.out)).mono ?_
  rintro e w15 ⟨rfl, hB15⟩
  have HB15 := Lib.hid (HB14.out.trans (hB15.mono HB14.out.size)); clear hB15
  go_wp2_with fail
  refine (HS.out _).mono ?_
  rintro e w16 ⟨rfl, hB16⟩
  have HB16 := Lib.hid (HB15.out.trans (hB16.mono HB15.out.size)); clear hB16
  go_wp2_with fail
  refine (H6.out _ (tab_on HT.out HB16.out)).mono ?_
  rintro e w17 ⟨rfl, hB17⟩
  have HB17 := Lib.hid (HB16.out.trans (hB17.mono HB16.out.size)); clear hB17
  go_wp2_with fail
  refine (H7.out _ (tab_on HT.out HB17.out)).mono ?_
  rintro e w18 ⟨rfl, hB18⟩
  have HB18 := Lib.hid (HB17.out.trans (hB18.mono HB17.out.size)); clear hB18
  go_wp2_with fail
  refine (H8.out _ (tab_on HT.out HB18.out)).mono ?_
  rintro e w19 ⟨rfl, hB19⟩
  have HB19 := Lib.hid (HB18.out.trans (hB19.mono HB18.out.size)); clear hB19
  go_wp2_with fail
  refine (H9.out _ (tab_on HT.out HB19.out)).mono ?_
  rintro e w20 ⟨rfl, hB20⟩
  have HB20 := Lib.hid (HB19.out.trans (hB20.mono HB19.out.size)); clear hB20
  go_wp2_with fail
  go_ret
  exact ⟨rfl, HB20.out⟩

set_option maxRecDepth 100000 in
set_option maxHeartbeats 2000000 in
theorem ring_near2 (a b c AB M BC N L P Q S T : ByteArray) (g j m n o u : Int) (w : World) (k1 : (n != 0) = false) (k2 : (o != 0) = true) (hs : Tells 32 #[.string P, .int .i64 m, .string T, .int .i64 80] (.bool true))
    (ca : Tells 13 #[.string a] (.int .i64 0))
    (cb : Tells 13 #[.string b] (.int .i64 0))
    (cc : Tells 13 #[.string c] (.int .i64 0))
    (h1 : Says 15 #[.string a, .string b] AB 0)
    (h2 : Says 15 #[.string b, .string a] AB 0)
    (h3 : Says 16 #[.string a, .string b] M g)
    (h4 : Says 16 #[.string b, .string a] M g)
    (h5 : Says 15 #[.string b, .string c] BC 0)
    (h6 : Says 20 #[.string a, .string a] ⟨#[48]⟩ 0)
    (h7 : Says 27 #[.string a] N 0)
    (h8 : Says 15 #[.string a, .string N] ⟨#[48]⟩ 0)
    (h9 : Says 27 #[.string N] a 0)
    (n1 : Says 15 #[.string AB, .string c] L j)
    (n2 : Says 15 #[.string a, .string BC] L j)
    (n3 : Says 16 #[.string AB, .string c] P m)
    (n4 : Says 16 #[.string a, .string c] Q n)
    (n5 : Says 16 #[.string b, .string c] S o)
    (n6 : Says 15 #[.string Q, .string S] T u)
    (htab : ∀ W, Below w.heap.size w W → Lib.TabIs Tryd.prog W "internal/strconv.uint64pow10" .u64 Lib.pow10Tab) :
    Calls Tryd.prog 9 #[.string a, .string b, .string c] w fun e w' => e = .returned (.bool true) ∧ Below w.heap.size w w' := by
  have HT := Lib.hid htab; have HS := Lib.hid hs; have CA := Lib.hid ca; have CB := Lib.hid cb; have CC := Lib.hid cc; have H1 := Lib.hid h1; have H2 := Lib.hid h2; have H3 := Lib.hid h3; have H4 := Lib.hid h4; have H5 := Lib.hid h5; have H6 := Lib.hid h6; have H7 := Lib.hid h7; have H8 := Lib.hid h8; have H9 := Lib.hid h9; have N1 := Lib.hid n1; have N2 := Lib.hid n2; have N3 := Lib.hid n3; have N4 := Lib.hid n4; have N5 := Lib.hid n5; have N6 := Lib.hid n6; clear htab hs ca cb cc h1 h2 h3 h4 h5 h6 h7 h8 h9 n1 n2 n3 n4 n5 n6
  go_enter Tryd.func9, Tryd.ntmps9
  go_wp2_with fail
  refine (works_any _ HT.out).mono ?_
  rintro e w1 ⟨rfl, hB1⟩
  have HB1 := Lib.hid hB1; clear hB1
  go_wp2_with fail
  refine (CA.out _).mono ?_
  rintro e w2 ⟨rfl, hB2⟩
  have HB2 := Lib.hid (HB1.out.trans (hB2.mono HB1.out.size)); clear hB2
  go_wp2_with fail
  refine (CB.out _).mono ?_
  rintro e w3 ⟨rfl, hB3⟩
  have HB3 := Lib.hid (HB2.out.trans (hB3.mono HB2.out.size)); clear hB3
  go_wp2_with fail
  refine (CC.out _).mono ?_
  rintro e w4 ⟨rfl, hB4⟩
  have HB4 := Lib.hid (HB3.out.trans (hB4.mono HB3.out.size)); clear hB4
  go_wp2_with fail
  refine (H1.out _ (tab_on HT.out HB4.out)).mono ?_
  rintro e w5 ⟨rfl, hB5⟩
  have HB5 := Lib.hid (HB4.out.trans (hB5.mono HB4.out.size)); clear hB5
  go_wp2_with fail
  refine (H2.out _ (tab_on HT.out HB5.out)).mono ?_
  rintro e w6 ⟨rfl, hB6⟩
  have HB6 := Lib.hid (HB5.out.trans (hB6.mono HB5.out.size)); clear hB6
  go_wp2_with fail
  refine (H3.out _ (tab_on HT.out HB6.out)).mono ?_
  rintro e w7 ⟨rfl, hB7⟩
  have HB7 := Lib.hid (HB6.out.trans (hB7.mono HB6.out.size)); clear hB7
  go_wp2_with fail
  refine (H4.out _ (tab_on HT.out HB7.out)).mono ?_
  rintro e w8 ⟨rfl, hB8⟩
  have HB8 := Lib.hid (HB7.out.trans (hB8.mono HB7.out.size)); clear hB8
  go_wp2_with fail
  refine (H5.out _ (tab_on HT.out HB8.out)).mono ?_
  rintro e w9 ⟨rfl, hB9⟩
  have HB9 := Lib.hid (HB8.out.trans (hB9.mono HB8.out.size)); clear hB9
  go_wp2_with fail
  refine (N1.out _ (tab_on HT.out HB9.out)).mono ?_
  rintro e w10 ⟨rfl, hB10⟩
  have HB10 := Lib.hid (HB9.out.trans (hB10.mono HB9.out.size)); clear hB10
  go_wp2_with fail
  refine (N2.out _ (tab_on HT.out HB10.out)).mono ?_
  rintro e w11 ⟨rfl, hB11⟩
  have HB11 := Lib.hid (HB10.out.trans (hB11.mono HB10.out.size)); clear hB11
  go_wp2_with fail
  refine (N3.out _ (tab_on HT.out HB11.out)).mono ?_
  rintro e w12 ⟨rfl, hB12⟩
  have HB12 := Lib.hid (HB11.out.trans (hB12.mono HB11.out.size)); clear hB12
  go_wp2_with fail
  refine (N4.out _ (tab_on HT.out HB12.out)).mono ?_
  rintro e w13 ⟨rfl, hB13⟩
  have HB13 := Lib.hid (HB12.out.trans (hB13.mono HB12.out.size)); clear hB13
  go_wp2_with fail
  refine (N5.out _ (tab_on HT.out HB13.out)).mono ?_
  rintro e w14 ⟨rfl, hB14⟩
  have HB14 := Lib.hid (HB13.out.trans (hB14.mono HB13.out.size)); clear hB14
  go_wp2_with fail
  refine (N6.out _ (tab_on HT.out HB14.out)).mono ?_
  rintro e w15 ⟨rfl, hB15⟩
  have HB15 := Lib.hid (HB14.out.trans (hB15.mono HB14.out.size)); clear hB15
  go_wp2_with fail
  refine (HS.out _).mono ?_
  rintro e w16 ⟨rfl, hB16⟩
  have HB16 := Lib.hid (HB15.out.trans (hB16.mono HB15.out.size)); clear hB16
  go_wp2_with fail
  refine (H6.out _ (tab_on HT.out HB16.out)).mono ?_
  rintro e w17 ⟨rfl, hB17⟩
  have HB17 := Lib.hid (HB16.out.trans (hB17.mono HB16.out.size)); clear hB17
  go_wp2_with fail
  refine (H7.out _ (tab_on HT.out HB17.out)).mono ?_
  rintro e w18 ⟨rfl, hB18⟩
  have HB18 := Lib.hid (HB17.out.trans (hB18.mono HB17.out.size)); clear hB18
  go_wp2_with fail
  refine (H8.out _ (tab_on HT.out HB18.out)).mono ?_
  rintro e w19 ⟨rfl, hB19⟩
  have HB19 := Lib.hid (HB18.out.trans (hB19.mono HB18.out.size)); clear hB19
  go_wp2_with fail
  refine (H9.out _ (tab_on HT.out HB19.out)).mono ?_
  rintro e w20 ⟨rfl, hB20⟩
  have HB20 := Lib.hid (HB19.out.trans (hB20.mono HB19.out.size)); clear hB20
  go_wp2_with fail
  go_ret
  exact ⟨rfl, HB20.out⟩

set_option maxRecDepth 100000 in
set_option maxHeartbeats 2000000 in
theorem ring_near3 (a b c AB M BC N L P Q S : ByteArray) (g j m n o : Int) (w : World) (k1 : (n != 0) = false) (k2 : (o != 0) = false) (hs : Tells 32 #[.string P, .int .i64 m, .string P, .int .i64 m] (.bool true))
    (ca : Tells 13 #[.string a] (.int .i64 0))
    (cb : Tells 13 #[.string b] (.int .i64 0))
    (cc : Tells 13 #[.string c] (.int .i64 0))
    (h1 : Says 15 #[.string a, .string b] AB 0)
    (h2 : Says 15 #[.string b, .string a] AB 0)
    (h3 : Says 16 #[.string a, .string b] M g)
    (h4 : Says 16 #[.string b, .string a] M g)
    (h5 : Says 15 #[.string b, .string c] BC 0)
    (h6 : Says 20 #[.string a, .string a] ⟨#[48]⟩ 0)
    (h7 : Says 27 #[.string a] N 0)
    (h8 : Says 15 #[.string a, .string N] ⟨#[48]⟩ 0)
    (h9 : Says 27 #[.string N] a 0)
    (n1 : Says 15 #[.string AB, .string c] L j)
    (n2 : Says 15 #[.string a, .string BC] L j)
    (n3 : Says 16 #[.string AB, .string c] P m)
    (n4 : Says 16 #[.string a, .string c] Q n)
    (n5 : Says 16 #[.string b, .string c] S o)
    (n6 : Says 15 #[.string Q, .string S] P m)
    (htab : ∀ W, Below w.heap.size w W → Lib.TabIs Tryd.prog W "internal/strconv.uint64pow10" .u64 Lib.pow10Tab) :
    Calls Tryd.prog 9 #[.string a, .string b, .string c] w fun e w' => e = .returned (.bool true) ∧ Below w.heap.size w w' := by
  have HT := Lib.hid htab; have HS := Lib.hid hs; have CA := Lib.hid ca; have CB := Lib.hid cb; have CC := Lib.hid cc; have H1 := Lib.hid h1; have H2 := Lib.hid h2; have H3 := Lib.hid h3; have H4 := Lib.hid h4; have H5 := Lib.hid h5; have H6 := Lib.hid h6; have H7 := Lib.hid h7; have H8 := Lib.hid h8; have H9 := Lib.hid h9; have N1 := Lib.hid n1; have N2 := Lib.hid n2; have N3 := Lib.hid n3; have N4 := Lib.hid n4; have N5 := Lib.hid n5; have N6 := Lib.hid n6; clear htab hs ca cb cc h1 h2 h3 h4 h5 h6 h7 h8 h9 n1 n2 n3 n4 n5 n6
  go_enter Tryd.func9, Tryd.ntmps9
  go_wp2_with fail
  refine (works_any _ HT.out).mono ?_
  rintro e w1 ⟨rfl, hB1⟩
  have HB1 := Lib.hid hB1; clear hB1
  go_wp2_with fail
  refine (CA.out _).mono ?_
  rintro e w2 ⟨rfl, hB2⟩
  have HB2 := Lib.hid (HB1.out.trans (hB2.mono HB1.out.size)); clear hB2
  go_wp2_with fail
  refine (CB.out _).mono ?_
  rintro e w3 ⟨rfl, hB3⟩
  have HB3 := Lib.hid (HB2.out.trans (hB3.mono HB2.out.size)); clear hB3
  go_wp2_with fail
  refine (CC.out _).mono ?_
  rintro e w4 ⟨rfl, hB4⟩
  have HB4 := Lib.hid (HB3.out.trans (hB4.mono HB3.out.size)); clear hB4
  go_wp2_with fail
  refine (H1.out _ (tab_on HT.out HB4.out)).mono ?_
  rintro e w5 ⟨rfl, hB5⟩
  have HB5 := Lib.hid (HB4.out.trans (hB5.mono HB4.out.size)); clear hB5
  go_wp2_with fail
  refine (H2.out _ (tab_on HT.out HB5.out)).mono ?_
  rintro e w6 ⟨rfl, hB6⟩
  have HB6 := Lib.hid (HB5.out.trans (hB6.mono HB5.out.size)); clear hB6
  go_wp2_with fail
  refine (H3.out _ (tab_on HT.out HB6.out)).mono ?_
  rintro e w7 ⟨rfl, hB7⟩
  have HB7 := Lib.hid (HB6.out.trans (hB7.mono HB6.out.size)); clear hB7
  go_wp2_with fail
  refine (H4.out _ (tab_on HT.out HB7.out)).mono ?_
  rintro e w8 ⟨rfl, hB8⟩
  have HB8 := Lib.hid (HB7.out.trans (hB8.mono HB7.out.size)); clear hB8
  go_wp2_with fail
  refine (H5.out _ (tab_on HT.out HB8.out)).mono ?_
  rintro e w9 ⟨rfl, hB9⟩
  have HB9 := Lib.hid (HB8.out.trans (hB9.mono HB8.out.size)); clear hB9
  go_wp2_with fail
  refine (N1.out _ (tab_on HT.out HB9.out)).mono ?_
  rintro e w10 ⟨rfl, hB10⟩
  have HB10 := Lib.hid (HB9.out.trans (hB10.mono HB9.out.size)); clear hB10
  go_wp2_with fail
  refine (N2.out _ (tab_on HT.out HB10.out)).mono ?_
  rintro e w11 ⟨rfl, hB11⟩
  have HB11 := Lib.hid (HB10.out.trans (hB11.mono HB10.out.size)); clear hB11
  go_wp2_with fail
  refine (N3.out _ (tab_on HT.out HB11.out)).mono ?_
  rintro e w12 ⟨rfl, hB12⟩
  have HB12 := Lib.hid (HB11.out.trans (hB12.mono HB11.out.size)); clear hB12
  go_wp2_with fail
  refine (N4.out _ (tab_on HT.out HB12.out)).mono ?_
  rintro e w13 ⟨rfl, hB13⟩
  have HB13 := Lib.hid (HB12.out.trans (hB13.mono HB12.out.size)); clear hB13
  go_wp2_with fail
  refine (N5.out _ (tab_on HT.out HB13.out)).mono ?_
  rintro e w14 ⟨rfl, hB14⟩
  have HB14 := Lib.hid (HB13.out.trans (hB14.mono HB13.out.size)); clear hB14
  go_wp2_with fail
  refine (N6.out _ (tab_on HT.out HB14.out)).mono ?_
  rintro e w15 ⟨rfl, hB15⟩
  have HB15 := Lib.hid (HB14.out.trans (hB15.mono HB14.out.size)); clear hB15
  go_wp2_with fail
  refine (HS.out _).mono ?_
  rintro e w16 ⟨rfl, hB16⟩
  have HB16 := Lib.hid (HB15.out.trans (hB16.mono HB15.out.size)); clear hB16
  go_wp2_with fail
  refine (H6.out _ (tab_on HT.out HB16.out)).mono ?_
  rintro e w17 ⟨rfl, hB17⟩
  have HB17 := Lib.hid (HB16.out.trans (hB17.mono HB16.out.size)); clear hB17
  go_wp2_with fail
  refine (H7.out _ (tab_on HT.out HB17.out)).mono ?_
  rintro e w18 ⟨rfl, hB18⟩
  have HB18 := Lib.hid (HB17.out.trans (hB18.mono HB17.out.size)); clear hB18
  go_wp2_with fail
  refine (H8.out _ (tab_on HT.out HB18.out)).mono ?_
  rintro e w19 ⟨rfl, hB19⟩
  have HB19 := Lib.hid (HB18.out.trans (hB19.mono HB18.out.size)); clear hB19
  go_wp2_with fail
  refine (H9.out _ (tab_on HT.out HB19.out)).mono ?_
  rintro e w20 ⟨rfl, hB20⟩
  have HB20 := Lib.hid (HB19.out.trans (hB20.mono HB19.out.size)); clear hB20
  go_wp2_with fail
  go_ret
  exact ⟨rfl, HB20.out⟩


theorem txtOut_chk {z : Int} (h : (txtOut z).2 = 0) : chk (txtOut z).1 = 0 ∧ (txtOut z).1 = txt z := by
  unfold txtOut at h ⊢
  by_cases k : (dg 10 z.natAbs).length ≤ 200
  · rw [if_pos k]; exact ⟨by rw [chk_txt, if_neg (by omega)], rfl⟩
  · rw [if_neg k] at h; exact absurd h (by decide)
theorem txtOut_len (z : Int) : (txtOut z).1.length ≤ 201 := by
  by_cases h : (txtOut z).2 = 0
  · exact len_chk (txtOut_chk h).1
  · unfold txtOut at h ⊢
    by_cases k : (dg 10 z.natAbs).length ≤ 200
    · rw [if_pos k] at h; exact absurd rfl h
    · rw [if_neg k]; simp
abbrev bT (l : List UInt8) : ByteArray := ⟨l.toArray⟩
theorem bT_size (l : List UInt8) : (bT l).size = l.length := by rw [size_len]
theorem bT_len {z : Int} : (bT (txtOut z).1).size ≤ maxLen := by rw [bT_size]; have := txtOut_len z; unfold maxLen; omega
theorem op_ok {k l : List UInt8} (hk : chk k = 0) (hl : chk l = 0) (z : Int) : opOut k l z = txtOut z := by
  unfold opOut; rw [if_neg (by simp [pair_ok hk hl])]
theorem says_add {a b : ByteArray} {z : Int} (ha : chk a.data.toList = 0) (hb : chk b.data.toList = 0) (h : valL a.data.toList + valL b.data.toList = z) :
    Says 15 #[.string a, .string b] (bT (txtOut z).1) (txtOut z).2 := by
  intro w hw
  have := add_out a b w (size_chk ha) (size_chk hb) hw
  rw [op_ok ha hb, h] at this; exact this
theorem says_sub {a b : ByteArray} {z : Int} (ha : chk a.data.toList = 0) (hb : chk b.data.toList = 0) (h : valL a.data.toList - valL b.data.toList = z) :
    Says 20 #[.string a, .string b] (bT (txtOut z).1) (txtOut z).2 := by
  intro w hw
  have := sub_out a b w (size_chk ha) (size_chk hb) hw
  rw [op_ok ha hb, h] at this; exact this
theorem says_mul {a b : ByteArray} {z : Int} (ha : chk a.data.toList = 0) (hb : chk b.data.toList = 0) (h : valL a.data.toList * valL b.data.toList = z) :
    Says 16 #[.string a, .string b] (bT (txtOut z).1) (txtOut z).2 := by
  intro w hw
  have := mul_out a b w (size_chk ha) (size_chk hb) hw
  rw [op_ok ha hb, h] at this; exact this
theorem says_any (a b : ByteArray) (ha : a.size ≤ maxLen) (hb : b.size ≤ maxLen) : ∃ T u, Says 15 #[.string a, .string b] T u :=
  ⟨_, _, fun w hw => add_out a b w ha hb hw⟩
theorem says_neg {a : ByteArray} (ha : chk a.data.toList = 0) : Says 27 #[.string a] (bT (txt (-valL a.data.toList))) 0 :=
  fun w hw => neg_good a w ha hw

theorem law_ring (a b c : ByteArray) (w : World) (ha : a.size ≤ maxLen) (hb : b.size ≤ maxLen) (hc : c.size ≤ maxLen)
    (htab : ∀ W, Below w.heap.size w W → Lib.TabIs Tryd.prog W "internal/strconv.uint64pow10" .u64 Lib.pow10Tab) :
    Calls Tryd.prog 9 #[.string a, .string b, .string c] w fun e w' => e = .returned (.bool true) ∧ Below w.heap.size w w' := by
  by_cases ka : chk a.data.toList = 0
  · have ca := says_check ha ka
    by_cases kb : chk b.data.toList = 0
    · have cb := says_check hb kb
      by_cases kc : chk c.data.toList = 0
      · have cc := says_check hc kc
        have cn : chk (txt (-valL a.data.toList)) = 0 := fit_chk ka (by simp)
        have h1 := says_add ka kb rfl
        have h2 := says_add kb ka (Int.add_comm _ _)
        have h3 := says_mul ka kb rfl
        have h4 := says_mul kb ka (Int.mul_comm _ _)
        have h5 := says_add kb kc rfl
        have h6 : Says 20 #[.string a, .string a] ⟨#[48]⟩ 0 := says_sub (z := 0) ka ka (by omega)
        have h7 := says_neg ka
        have h8 : Says 15 #[.string a, .string (bT (txt (-valL a.data.toList)))] ⟨#[48]⟩ 0 := says_add (z := 0) ka cn (by show _ + valL (txt _) = 0; rw [val_txt]; omega)
        have h9 : Says 27 #[.string (bT (txt (-valL a.data.toList)))] a 0 := by
          have := says_neg (a := bT (txt (-valL a.data.toList))) cn
          have e : bT (txt (-valL (bT (txt (-valL a.data.toList))).data.toList)) = a := by
            show bT (txt (-valL (txt (-valL a.data.toList)))) = a
            rw [val_txt, Int.neg_neg, txt_val ka]
          rw [e] at this; exact this
        by_cases ke : (txtOut (valL a.data.toList + valL b.data.toList)).2 = 0
        · by_cases ki : (txtOut (valL b.data.toList + valL c.data.toList)).2 = 0
          · obtain ⟨e1, e2⟩ := txtOut_chk ke
            obtain ⟨i1, i2⟩ := txtOut_chk ki
            rw [ke] at h1 h2
            rw [ki] at h5
            have eAB : valL (bT (txtOut (valL a.data.toList + valL b.data.toList)).1).data.toList = valL a.data.toList + valL b.data.toList := by
              show valL (txtOut _).1 = _; rw [e2, val_txt]
            have eBC : valL (bT (txtOut (valL b.data.toList + valL c.data.toList)).1).data.toList = valL b.data.toList + valL c.data.toList := by
              show valL (txtOut _).1 = _; rw [i2, val_txt]
            have n1 := says_add (a := bT (txtOut (valL a.data.toList + valL b.data.toList)).1) (b := c) (z := valL a.data.toList + valL b.data.toList + valL c.data.toList) e1 kc (by rw [eAB])
            have n2 := says_add (a := a) (b := bT (txtOut (valL b.data.toList + valL c.data.toList)).1) (z := valL a.data.toList + valL b.data.toList + valL c.data.toList) ka i1 (by rw [eBC]; omega)
            have n3 := says_mul (a := bT (txtOut (valL a.data.toList + valL b.data.toList)).1) (b := c) (z := valL a.data.toList * valL c.data.toList + valL b.data.toList * valL c.data.toList) e1 kc (by rw [eAB, Int.add_mul])
            have n4 := says_mul ka kc rfl
            have n5 := says_mul kb kc rfl
            by_cases kn : (txtOut (valL a.data.toList * valL c.data.toList)).2 = 0
            · by_cases ko : (txtOut (valL b.data.toList * valL c.data.toList)).2 = 0
              · obtain ⟨p1, p2⟩ := txtOut_chk kn
                obtain ⟨q1, q2⟩ := txtOut_chk ko
                have n6 := says_add (a := bT (txtOut (valL a.data.toList * valL c.data.toList)).1) (b := bT (txtOut (valL b.data.toList * valL c.data.toList)).1) (z := valL a.data.toList * valL c.data.toList + valL b.data.toList * valL c.data.toList) p1 q1
                  (by show valL (txtOut _).1 + valL (txtOut _).1 = _; rw [p2, q2, val_txt, val_txt])
                exact ring_near3 a b c _ _ _ _ _ _ _ _ _ _ _ _ _ w (by rw [kn]; rfl) (by rw [ko]; rfl) (same_same _ _) ca cb cc h1 h2 h3 h4 h5 h6 h7 h8 h9 n1 n2 n3 n4 n5 n6 htab
              · obtain ⟨T, u, n6⟩ := says_any (bT (txtOut (valL a.data.toList * valL c.data.toList)).1) (bT (txtOut (valL b.data.toList * valL c.data.toList)).1) bT_len bT_len
                exact ring_near2 a b c _ _ _ _ _ _ _ _ _ _ _ _ _ _ _ w (by rw [kn]; rfl) (by simpa using ko) (same_far _ _ _) ca cb cc h1 h2 h3 h4 h5 h6 h7 h8 h9 n1 n2 n3 n4 n5 n6 htab
            · obtain ⟨T, u, n6⟩ := says_any (bT (txtOut (valL a.data.toList * valL c.data.toList)).1) (bT (txtOut (valL b.data.toList * valL c.data.toList)).1) bT_len bT_len
              exact ring_near1 a b c _ _ _ _ _ _ _ _ _ _ _ _ _ _ _ w (by simpa using kn) (same_far _ _ _) ca cb cc h1 h2 h3 h4 h5 h6 h7 h8 h9 n1 n2 n3 n4 n5 n6 htab
          · exact ring_far2 a b c _ _ _ _ _ _ _ w (by rw [ke]; rfl) (by simpa using ki) ca cb cc h1 h2 h3 h4 h5 h6 h7 h8 h9 htab
        · exact ring_far1 a b c _ _ _ _ _ _ _ w (by simpa using ke) ca cb cc h1 h2 h3 h4 h5 h6 h7 h8 h9 htab
      · exact ring_bad3 a b c w _ (by simpa using kc) ca cb (says_check hc rfl) htab
    · exact ring_bad2 a b c w _ (by simpa using kb) ca (says_check hb rfl) htab
  · exact ring_bad1 a b c w _ (by simpa using ka) (says_check ha rfl) htab

end Go.Proofs.YtcclclginhhlaaaDoor
