/- Package unify: canonName, Canon. -/
import Derived.Test.YtfhjfhbfgndheaaDoorFb
import Derived.Test.YtfhjfhbfgndheaaDoorObx
namespace Go.Proofs.YtfhjfhbfgndheaaDoor
open Go.RowKit Go.Shelf Un
open Go
attribute [local go_sem] Oper.semAt_some

def letN (n : Nat) : ByteArray := { data := #[39] } ++ Utf8.encode (97 + ((n % 26 : Nat) : Int))
def canonNm (n : Nat) : ByteArray := if n < 26 then letN n else letN n ++ ⟨(Lib.itoa ((n / 26 : Nat) : Int)).toArray⟩
theorem enc_small : ∀ r, r < 26 → (Utf8.encode (97 + ((r : Nat) : Int))).size ≤ 4 := by decide +kernel
set_option maxRecDepth 2000 in
theorem canonName_c (n : Nat) (hn : n < 100000000) (w : World) (htab : Lib.TabIs Tryd.prog w "internal/strconv.uint64pow10" .u64 Lib.pow10Tab) :
    Calls Tryd.prog 24 #[.int .i64 (n : Int)] w fun e w' => e = .returned (.string (canonNm n)) ∧ Below w.heap.size w w' := by
  have HI := Lib.hid (Tryd.strconv_Itoa ((n / 26 : Nat) : Int) (by omega) (by omega) w htab)
  have hisz : (⟨(Lib.itoa ((n / 26 : Nat) : Int)).toArray⟩ : ByteArray).size ≤ 21 := by
    have := Lib.itoa_length_le ((n / 26 : Nat) : Int) (by omega) (by omega)
    show (Lib.itoa ((n / 26 : Nat) : Int)).toArray.size ≤ 21
    simpa using this
  clear htab
  have hmax : maxLen = 9223372036854775807 := rfl
  have hes := enc_small (n % 26) (by omega)
  have hlet : letN n = { data := #[39] } ++ Utf8.encode (97 + ((n % 26 : Nat) : Int)) := rfl
  obtain ⟨s, hs⟩ : ∃ s, s = Utf8.encode (97 + ((n % 26 : Nat) : Int)) := ⟨_, rfl⟩
  rw [← hs] at hes hlet
  obtain ⟨r1, hr1⟩ : ∃ r1 : Int, r1 = 97 + ((n % 26 : Nat) : Int) := ⟨_, rfl⟩
  rw [← hr1] at hs
  obtain ⟨r0, hr0⟩ : ∃ r0 : Int, r0 = ((n % 26 : Nat) : Int) := ⟨_, rfl⟩
  obtain ⟨d0, hd0⟩ : ∃ d0 : Int, d0 = ((n / 26 : Nat) : Int) := ⟨_, rfl⟩
  have q4 : Utf8.encode r1 = s := hs.symm
  obtain ⟨z, hz⟩ : ∃ z : Int, z = (n : Int) := ⟨_, rfl⟩
  have z0 : 0 ≤ z := by omega
  have z1 : z < 100000000 := by omega
  have q0 : z % 26 = r0 := by omega
  have q1 : 97 + r0 = r1 := by omega
  have q3 : z / 26 = d0 := by omega
  have r00 : 0 ≤ r0 ∧ r0 < 26 := by omega
  have r11 : 97 ≤ r1 ∧ r1 < 123 := by omega
  have d00 : 0 ≤ d0 ∧ d0 < 100000000 := by omega
  rw [← hd0] at HI hisz
  have hcan : canonNm n = if n < 26 then letN n else letN n ++ ⟨(Lib.itoa d0).toArray⟩ := by rw [hd0]; rfl
  rw [hcan, hlet]
  generalize (⟨(Lib.itoa d0).toArray⟩ : ByteArray) = t at HI hisz ⊢
  rw [← hz]
  clear hr0 hd0 hs hr1 hlet hcan
  by_cases hlt : n < 26
  · have hltz : z < 26 := by omega
    rw [if_pos hlt]
    clear HI hz hlt hn n
    go_enter Tryd.func24, Tryd.ntmps24
    go_wp2_with fail
    go_ret
    exact ⟨rfl, Below.refl _ _⟩
  · have hltz : ¬ z < 26 := by omega
    rw [if_neg hlt]
    clear hz hlt hn n
    have hss : ({ data := #[39] } ++ s : ByteArray).size ≤ 10 := by rw [ByteArray.size_append]; show 1 + s.size ≤ 10; omega
    go_enter Tryd.func24, Tryd.ntmps24
    go_wp2_with (go_at_call 42; refine HI.out.mono ?_; rintro e w' ⟨rfl, k, os, rfl⟩)
    go_ret
    exact ⟨rfl, below_grow _ _ _⟩
end Go.Proofs.YtfhjfhbfgndheaaDoor
