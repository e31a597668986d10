/- Package code: a reader's calls, whatever the bytes: numbers, counts, texts, truth values; what a question tells. -/
import Derived.Test.YtlcfokejoikaaaaGreatDoorUk
namespace Go.Proofs.YtlcfokejoikaaaaGreatDoor
open Go.RowKit Go.Shelf Vp Cp Rm
open Go
attribute [local go_sem] Oper.semAt_some

set_option maxRecDepth 100000 in
set_option maxHeartbeats 2000000 in
theorem unlessB_int64 (p B : Nat) (rest : List UInt8) (w : World) (h : Rdr p B rest false w)
    (hc : Calls Tryz.prog 48 #[.pointer (some ⟨p, 0, none⟩)] w fun e w' => ∃ v, Reads p B w v [] true e w') :
    Calls Tryz.prog 47 #[.pointer (some ⟨p, 0, none⟩), .func (.func 48) #[] #[]] w fun e w' => Reads p B w (.int .i64 0) [] true e w' := by
  have HO := Lib.hid (ok_c p B rest false w h); have HC := Lib.hid hc
  clear h hc
  go_enter Tryz.func47, Tryz.ntmps47
  go_wp2_with fail
  refine HO.out.mono ?_
  rintro e w0 ⟨rfl, rfl⟩
  go_wp2_with fail
  refine HC.out.mono ?_
  rintro e w1 ⟨v, rfl, hr, hg⟩
  have HR := Lib.hid hr; have HG := Lib.hid hg
  have HO2 := Lib.hid (ok_c p B [] true w1 hr)
  clear hr hg
  go_wp2_with fail
  refine HO2.out.mono ?_
  rintro e w2 ⟨rfl, rfl⟩
  go_wp2_with fail
  go_ret
  exact ⟨rfl, HR.out, HG.out⟩

set_option maxRecDepth 100000 in
set_option maxHeartbeats 2000000 in
theorem unlessB_bool (p B : Nat) (rest : List UInt8) (w : World) (h : Rdr p B rest false w)
    (hc : Calls Tryz.prog 61 #[.pointer (some ⟨p, 0, none⟩)] w fun e w' => ∃ v, Reads p B w v [] true e w') :
    Calls Tryz.prog 60 #[.pointer (some ⟨p, 0, none⟩), .func (.func 61) #[] #[]] w fun e w' => Reads p B w (.bool false) [] true e w' := by
  have HO := Lib.hid (ok_c p B rest false w h); have HC := Lib.hid hc
  clear h hc
  go_enter Tryz.func60, Tryz.ntmps60
  go_wp2_with fail
  refine HO.out.mono ?_
  rintro e w0 ⟨rfl, rfl⟩
  go_wp2_with fail
  refine HC.out.mono ?_
  rintro e w1 ⟨v, rfl, hr, hg⟩
  have HR := Lib.hid hr; have HG := Lib.hid hg
  have HO2 := Lib.hid (ok_c p B [] true w1 hr)
  clear hr hg
  go_wp2_with fail
  refine HO2.out.mono ?_
  rintro e w2 ⟨rfl, rfl⟩
  go_wp2_with fail
  go_ret
  exact ⟨rfl, HR.out, HG.out⟩

set_option maxRecDepth 100000 in
set_option maxHeartbeats 2000000 in
theorem unlessB_int (p B : Nat) (q : Nat) (rest : List UInt8) (w : World) (h : Rdr p B rest false w)
    (hc : Calls Tryz.prog 58 #[.pointer (some ⟨p, 0, none⟩), .pointer (some ⟨q, 0, none⟩)] w fun e w' => ∃ v, Reads p B w v [] true e w') :
    Calls Tryz.prog 57 #[.pointer (some ⟨p, 0, none⟩), .func (.func 58) #[] #[.pointer (some ⟨q, 0, none⟩)]] w fun e w' => Reads p B w (.int .i64 0) [] true e w' := by
  have HO := Lib.hid (ok_c p B rest false w h); have HC := Lib.hid hc
  clear h hc
  go_enter Tryz.func57, Tryz.ntmps57
  go_wp2_with fail
  refine HO.out.mono ?_
  rintro e w0 ⟨rfl, rfl⟩
  go_wp2_with fail
  refine HC.out.mono ?_
  rintro e w1 ⟨v, rfl, hr, hg⟩
  have HR := Lib.hid hr; have HG := Lib.hid hg
  have HO2 := Lib.hid (ok_c p B [] true w1 hr)
  clear hr hg
  go_wp2_with fail
  refine HO2.out.mono ?_
  rintro e w2 ⟨rfl, rfl⟩
  go_wp2_with fail
  go_ret
  exact ⟨rfl, HR.out, HG.out⟩

set_option maxRecDepth 100000 in
set_option maxHeartbeats 2000000 in
theorem unlessB_string (p B : Nat) (q : Nat) (rest : List UInt8) (w : World) (h : Rdr p B rest false w)
    (hc : Calls Tryz.prog 50 #[.pointer (some ⟨p, 0, none⟩), .pointer (some ⟨q, 0, none⟩)] w fun e w' => ∃ v, Reads p B w v [] true e w') :
    Calls Tryz.prog 49 #[.pointer (some ⟨p, 0, none⟩), .func (.func 50) #[] #[.pointer (some ⟨q, 0, none⟩)]] w fun e w' => Reads p B w (.string ⟨#[]⟩) [] true e w' := by
  have HO := Lib.hid (ok_c p B rest false w h); have HC := Lib.hid hc
  clear h hc
  go_enter Tryz.func49, Tryz.ntmps49
  go_wp2_with fail
  refine HO.out.mono ?_
  rintro e w0 ⟨rfl, rfl⟩
  go_wp2_with fail
  refine HC.out.mono ?_
  rintro e w1 ⟨v, rfl, hr, hg⟩
  have HR := Lib.hid hr; have HG := Lib.hid hg
  have HO2 := Lib.hid (ok_c p B [] true w1 hr)
  clear hr hg
  go_wp2_with fail
  refine HO2.out.mono ?_
  rintro e w2 ⟨rfl, rfl⟩
  go_wp2_with fail
  go_ret
  exact ⟨rfl, HR.out, HG.out⟩

set_option maxRecDepth 100000 in
set_option maxHeartbeats 2000000 in
theorem count1_b (p B q : Nat) (most : Int) (w : World) (hq : w.cell? ⟨q, 0, none⟩ = some (.int .i64 most))
    (hc : Calls Tryz.prog 59 #[.pointer (some ⟨p, 0, none⟩), .int .i64 most, .int .u8 0] w fun e w' => ∃ v, Reads p B w v [] true e w') :
    Calls Tryz.prog 58 #[.pointer (some ⟨p, 0, none⟩), .pointer (some ⟨q, 0, none⟩)] w fun e w' => ∃ v, Reads p B w v [] true e w' := by
  have HC := Lib.hid hc
  clear hc
  go_enter Tryz.func58, Tryz.ntmps58
  go_wp2_with fail
  refine HC.out.mono ?_
  rintro e w1 ⟨v, rfl, hr, hg⟩
  have HR := Lib.hid hr; have HG := Lib.hid hg
  clear hr hg
  go_wp2_with fail
  go_ret
  exact ⟨v, rfl, HR.out, HG.out⟩

set_option maxRecDepth 100000 in
set_option maxHeartbeats 2000000 in
theorem countP_b (p B : Nat) (most : Int) (rest : List UInt8) (w : World) (h : Rdr p B rest false w)
    (hc : ∀ W, Rdr p B rest false W → Calls Tryz.prog 59 #[.pointer (some ⟨p, 0, none⟩), .int .i64 most, .int .u8 0] W fun e w' => ∃ v, Reads p B W v [] true e w') :
    Calls Tryz.prog 25 #[.pointer (some ⟨p, 0, none⟩), .int .i64 most] w fun e w' => Reads p B w (.int .i64 0) [] true e w' := by
  have hr1 := h.alloc (.cells #[.int .i64 most] 3)
  have hq : (w.alloc (.cells #[.int .i64 most] 3)).cell? ⟨w.heap.size, 0, none⟩ = some (.int .i64 most) := by simp [World.cell?_alloc_new]
  have HU := Lib.hid (unlessB_int p B w.heap.size rest _ hr1 (count1_b p B w.heap.size most _ hq (hc _ hr1)))
  clear hq hr1 hc h
  go_enter Tryz.func25, Tryz.ntmps25
  go_wp2_with fail
  refine HU.out.mono ?_
  rintro e w1 ⟨rfl, hr, hg⟩
  have HR := Lib.hid hr; have HG := Lib.hid (grown_from_alloc hg)
  clear hr hg
  go_wp2_with fail
  go_ret
  exact ⟨rfl, HR.out, HG.out⟩

set_option maxRecDepth 100000 in
set_option maxHeartbeats 2000000 in
theorem str1_b (p B q : Nat) (most : Int) (w : World) (hq : w.cell? ⟨q, 0, none⟩ = some (.int .i64 most))
    (hc : Calls Tryz.prog 51 #[.pointer (some ⟨p, 0, none⟩), .int .i64 most] w fun e w' => ∃ v, Reads p B w v [] true e w') :
    Calls Tryz.prog 50 #[.pointer (some ⟨p, 0, none⟩), .pointer (some ⟨q, 0, none⟩)] w fun e w' => ∃ v, Reads p B w v [] true e w' := by
  have HC := Lib.hid hc
  clear hc
  go_enter Tryz.func50, Tryz.ntmps50
  go_wp2_with fail
  refine HC.out.mono ?_
  rintro e w1 ⟨v, rfl, hr, hg⟩
  have HR := Lib.hid hr; have HG := Lib.hid hg
  clear hr hg
  go_wp2_with fail
  go_ret
  exact ⟨v, rfl, HR.out, HG.out⟩

set_option maxRecDepth 100000 in
set_option maxHeartbeats 2000000 in
theorem strP_b (p B : Nat) (most : Int) (rest : List UInt8) (w : World) (h : Rdr p B rest false w)
    (hc : ∀ W, Rdr p B rest false W → Calls Tryz.prog 51 #[.pointer (some ⟨p, 0, none⟩), .int .i64 most] W fun e w' => ∃ v, Reads p B W v [] true e w') :
    Calls Tryz.prog 18 #[.pointer (some ⟨p, 0, none⟩), .int .i64 most] w fun e w' => Reads p B w (.string ⟨#[]⟩) [] true e w' := by
  have hr1 := h.alloc (.cells #[.int .i64 most] 3)
  have hq : (w.alloc (.cells #[.int .i64 most] 3)).cell? ⟨w.heap.size, 0, none⟩ = some (.int .i64 most) := by simp [World.cell?_alloc_new]
  have HU := Lib.hid (unlessB_string p B w.heap.size rest _ hr1 (str1_b p B w.heap.size most _ hq (hc _ hr1)))
  clear hq hr1 hc h
  go_enter Tryz.func18, Tryz.ntmps18
  go_wp2_with fail
  refine HU.out.mono ?_
  rintro e w1 ⟨rfl, hr, hg⟩
  have HR := Lib.hid hr; have HG := Lib.hid (grown_from_alloc hg)
  clear hr hg
  go_wp2_with fail
  go_ret
  exact ⟨rfl, HR.out, HG.out⟩

set_option maxRecDepth 100000 in
set_option maxHeartbeats 2000000 in
theorem numP_b (p B : Nat) (rest : List UInt8) (w : World) (h : Rdr p B rest false w)
    (hc : Calls Tryz.prog 48 #[.pointer (some ⟨p, 0, none⟩)] w fun e w' => ∃ v, Reads p B w v [] true e w') :
    Calls Tryz.prog 17 #[.pointer (some ⟨p, 0, none⟩)] w fun e w' => Reads p B w (.int .i64 0) [] true e w' := by
  have HU := Lib.hid (unlessB_int64 p B rest w h hc)
  clear hc h
  go_enter Tryz.func17, Tryz.ntmps17
  go_wp2_with fail
  refine HU.out.mono ?_
  rintro e w1 ⟨rfl, hr, hg⟩
  have HR := Lib.hid hr; have HG := Lib.hid hg
  clear hr hg
  go_wp2_with fail
  go_ret
  exact ⟨rfl, HR.out, HG.out⟩

set_option maxRecDepth 100000 in
set_option maxHeartbeats 2000000 in
theorem flagP_b (p B : Nat) (rest : List UInt8) (w : World) (h : Rdr p B rest false w)
    (hc : Calls Tryz.prog 61 #[.pointer (some ⟨p, 0, none⟩)] w fun e w' => ∃ v, Reads p B w v [] true e w') :
    Calls Tryz.prog 26 #[.pointer (some ⟨p, 0, none⟩)] w fun e w' => Reads p B w (.bool false) [] true e w' := by
  have HU := Lib.hid (unlessB_bool p B rest w h hc)
  clear hc h
  go_enter Tryz.func26, Tryz.ntmps26
  go_wp2_with fail
  refine HU.out.mono ?_
  rintro e w1 ⟨rfl, hr, hg⟩
  have HR := Lib.hid hr; have HG := Lib.hid hg
  clear hr hg
  go_wp2_with fail
  go_ret
  exact ⟨rfl, HR.out, HG.out⟩

/-- What is told: none, if it failed. -/
def intO : Option (Int × List UInt8) → Int
  | some x => x.1
  | none => 0
def txtO : Option (List UInt8 × List UInt8) → List UInt8
  | some x => x.1
  | none => []
theorem numP_all (p B : Nat) (l : List UInt8) (w : World) (h : Rdr p B l false w) :
    Calls Tryz.prog 17 #[.pointer (some ⟨p, 0, none⟩)] w fun e w' => Reads p B w (.int .i64 (intO (numG l))) (restO (numG l)) (failO false (numG l)) e w' := by
  have hc := num_all p B l false w h
  cases hq : numG l with
  | none =>
    rw [hq] at hc
    exact numP_b p B l w h (hc.mono fun e w' ⟨z, hz, _, _⟩ => ⟨_, hz⟩)
  | some x =>
    rw [hq] at hc
    refine numP_c p B l x.2 _ w h (hc.mono fun e w' ⟨z, hz, _, hx⟩ => ?_)
    have e1 : z = x.1 := hx x rfl
    subst e1
    exact hz
theorem flagP_all (p B : Nat) (l : List UInt8) (w : World) (h : Rdr p B l false w) :
    Calls Tryz.prog 26 #[.pointer (some ⟨p, 0, none⟩)] w fun e w' => Reads p B w (.bool (boolO (flagG l))) (restO (flagG l)) (failO false (flagG l)) e w' := by
  have hc := flag_all p B l false w h
  cases hq : flagG l with
  | none =>
    rw [hq] at hc
    exact flagP_b p B l w h (hc.mono fun e w' hz => ⟨_, hz⟩)
  | some x =>
    rw [hq] at hc
    exact flagP_c p B l x.2 _ w h hc
theorem countP_all (p B : Nat) (most : Int) (l : List UInt8) (w : World) (h : Rdr p B l false w) :
    Calls Tryz.prog 25 #[.pointer (some ⟨p, 0, none⟩), .int .i64 most] w fun e w' => Reads p B w (.int .i64 (natO (countG most 0 l) : Int)) (restO (countG most 0 l)) (failO false (countG most 0 l)) e w' := by
  have hc := fun W hW => count_all p B most 0 (.inl rfl) l false W hW
  cases hq : countG most 0 l with
  | none =>
    rw [hq] at hc
    exact countP_b p B most l w h fun W hW => (hc W hW).mono fun e w' hz => ⟨_, hz⟩
  | some x =>
    rw [hq] at hc
    exact countP_c p B most l x.2 _ w h hc
theorem strP_all (p B : Nat) (most : Int) (l : List UInt8) (hs : l.length ≤ 140000000000000) (w : World) (h : Rdr p B l false w) :
    Calls Tryz.prog 18 #[.pointer (some ⟨p, 0, none⟩), .int .i64 most] w fun e w' => Reads p B w (.string ⟨(txtO (strG most [] l)).toArray⟩) (restO (strG most [] l)) (failO false (strG most [] l)) e w' := by
  have hc := fun W hW => str_all p B l most false W hs hW
  cases hq : strG most [] l with
  | none =>
    rw [hq] at hc
    exact strP_b p B most l w h fun W hW => (hc W hW).mono fun e w' ⟨t, hz, _, _⟩ => ⟨_, hz⟩
  | some x =>
    rw [hq] at hc
    refine strP_c p B most l x.2 _ w h fun W hW => (hc W hW).mono fun e w' ⟨t, hz, _, hx⟩ => ?_
    have e1 : t = x.1 := hx x rfl
    subst e1
    exact hz
end Go.Proofs.YtlcfokejoikaaaaGreatDoor
