/- Package lex: plain names, names of fields: closures over the words. -/
import Derived.Test.YteppdnlchjpekaaDoorEw
namespace Go.Proofs.YteppdnlchjpekaaDoor
open Go.RowKit Lx
open Go
attribute [local go_sem] Oper.semAt_some

namespace Lx
def lowB (c : UInt8) : Bool := decide (97 ≤ c.toNat ∧ c.toNat ≤ 122)
def plainN (l : List UInt8) : List UInt8 :=
  match lead l with
  | [] => []
  | c :: r => if lowB c && !isW (c :: r) then c :: r else []
def fieldN (l : List UInt8) : List UInt8 :=
  match l with
  | [] => []
  | c :: r => if c = 46 then plainN r else []
theorem lead_len (l : List UInt8) : (lead l).length ≤ l.length := by
  induction l with
  | nil => simp [lead]
  | cons c l ih =>
    unfold lead at ih ⊢
    rw [List.takeWhile_cons]
    split
    · simpa using ih
    · simp
theorem plain_len (l : List UInt8) : (plainN l).length ≤ l.length := by
  have := lead_len l
  unfold plainN
  cases h : lead l with
  | nil => simp
  | cons c r =>
    rw [h] at this
    dsimp only
    split
    · exact this
    · simp
end Lx
/-- A variable at block p holds the map of the words. -/
def Env (W : World) (p b : Nat) : Prop := Blk W p 74 #[.map (some b)] ∧ WM W b wordL
theorem Env.under {W W' : World} {p b : Nat} (h : Env W p b) (hb : Below W.heap.size W W') : Env W' p b := ⟨h.1.below hb h.1.lt, h.2.under hb⟩
theorem leading_s (s : ByteArray) (hs : s.size ≤ maxLen) : ∃ S : ByteArray, S.data.toList = lead s.data.toList ∧ S.size ≤ s.size ∧ ∀ w, Calls Tryd.prog 32 #[.string s] w fun e w' => e = .returned (.string S) ∧ w = w' :=
  ⟨⟨(lead s.data.toList).toArray⟩, rfl, by rw [size_list, size_list]; exact lead_len _, fun w => leading_c s hs w⟩
theorem emp_iff (S : ByteArray) : S.toList.isEmpty = S.data.toList.isEmpty := by rw [Lib.toList_data]

set_option maxRecDepth 100000 in
set_option maxHeartbeats 4000000 in
theorem plain_c (s : ByteArray) (hs : s.size ≤ maxLen) (p b : Nat) (w : World) (hE : Env w p b) :
    Calls Tryd.prog 31 #[.string s, .pointer (some ⟨p, 0, none⟩)] w fun e w' => e = .returned (.string ⟨(plainN s.data.toList).toArray⟩) ∧ w = w' := by
  obtain ⟨S, hS, hSs, hl⟩ := leading_s s hs
  have hmax : maxLen = 9223372036854775807 := rfl
  have e0 := hE.1.cell 0
  simp at e0
  have hlk := look_word hE.2 S (by omega)
  rw [hS] at hlk
  have hem := emp_iff S
  have HL := Lib.hid (hl w)
  have HSS := Lib.hid hSs
  unfold plainN
  have hsl := size_list S
  rw [hS] at hem hsl
  clear hl hE hSs
  cases hld : lead s.data.toList with
  | nil =>
    rw [hld] at hem
    have hem : S.toList.isEmpty = true := hem
    clear hlk hsl hS hld
    go_enter Tryd.func31, Tryd.ntmps31
    go_wp2_with fail
    refine HL.out.mono ?_
    rintro e w1 ⟨rfl, rfl⟩
    go_wp2_with fail
    go_ret
    exact ⟨rfl, rfl⟩
  | cons c r =>
    rw [hld] at hem hlk hsl
    have hem : S.toList.isEmpty = false := hem
    have hpos : 0 < S.size := by rw [hsl, List.length_cons]; omega
    have hc : S[0] = c := by
      have h1 : S.data.toList[0]? = some c := by rw [hS, hld]; rfl
      obtain ⟨_, h2⟩ := List.getElem?_eq_some_iff.1 h1
      exact h2
    have hSe : S = ⟨(c :: r).toArray⟩ := ba_eq (by rw [hS, hld])
    have hcn : (S[0].toNat : Int) = (c.toNat : Int) := by rw [hc]
    obtain ⟨q, hq⟩ : ∃ q, wordL.contains (c :: r) = q := ⟨_, rfl⟩
    have hiw : isW (c :: r) = q := hq
    rw [hq] at hlk
    dsimp only
    rw [hiw]
    have HSE := Lib.hid hSe
    clear hS hld hsl hc hq hiw hSe
    obtain ⟨y, hy⟩ : ∃ y, lowB c = y := ⟨_, rfl⟩
    rw [hy]
    unfold lowB at hy
    by_cases h1 : (c.toNat : Int) < 97
    · obtain rfl : y = false := by rw [← hy]; exact decide_eq_false (by omega)
      clear hy
      go_enter Tryd.func31, Tryd.ntmps31
      go_wp2_with fail
      refine HL.out.mono ?_
      rintro e w1 ⟨rfl, rfl⟩
      go_wp2_with fail
      go_ret
      exact ⟨rfl, rfl⟩
    · by_cases h2 : (122 : Int) < (c.toNat : Int)
      · obtain rfl : y = false := by rw [← hy]; exact decide_eq_false (by omega)
        clear hy
        go_enter Tryd.func31, Tryd.ntmps31
        go_wp2_with fail
        refine HL.out.mono ?_
        rintro e w1 ⟨rfl, rfl⟩
        go_wp2_with fail
        go_ret
        exact ⟨rfl, rfl⟩
      · obtain rfl : y = true := by rw [← hy]; exact decide_eq_true (by omega)
        clear hy
        cases q
        · go_enter Tryd.func31, Tryd.ntmps31
          go_wp2_with fail
          refine HL.out.mono ?_
          rintro e w1 ⟨rfl, rfl⟩
          go_wp2_with fail
          go_ret
          exact ⟨by rw [HSE.out]; rfl, rfl⟩
        · go_enter Tryd.func31, Tryd.ntmps31
          go_wp2_with fail
          refine HL.out.mono ?_
          rintro e w1 ⟨rfl, rfl⟩
          go_wp2_with fail
          go_ret
          exact ⟨rfl, rfl⟩

/-- A variable at block p2 holds the function that finds plain names. -/
def Env2 (W : World) (p2 p b : Nat) : Prop := Blk W p2 35 #[.func (.func 31) #[] #[.pointer (some ⟨p, 0, none⟩)]] ∧ Env W p b
theorem Env2.under {W W' : World} {p2 p b : Nat} (h : Env2 W p2 p b) (hb : Below W.heap.size W W') : Env2 W' p2 p b := ⟨h.1.below hb h.1.lt, h.2.under hb⟩
theorem pre_one (l : List UInt8) (x : UInt8) : Lib.hasPrefix l [x] = (l.head? == some x) := by
  cases l with
  | nil => rfl
  | cons c r => simp [Lib.hasPrefix, List.isPrefixOf, Bool.beq_comm]

set_option maxRecDepth 100000 in
set_option maxHeartbeats 4000000 in
theorem field_c (s : ByteArray) (hs : s.size ≤ maxLen) (p2 p b : Nat) (w : World) (hE : Env2 w p2 p b) :
    Calls Tryd.prog 33 #[.string s, .pointer (some ⟨p2, 0, none⟩)] w fun e w' => e = .returned (.string ⟨(fieldN s.data.toList).toArray⟩) ∧ Below w.heap.size w w' := by
  have hmax : maxLen = 9223372036854775807 := rfl
  have hpre := Tryd.strings_HasPrefix s ⟨#[46]⟩ w
  rw [show (⟨#[46]⟩ : ByteArray).data.toList = [46] from rfl, pre_one] at hpre
  unfold fieldN
  have hsl := size_list s
  cases hd : s.data.toList with
  | nil =>
    rw [hd] at hpre
    have HP := Lib.hid hpre
    clear hpre hsl hd hE
    go_enter Tryd.func33, Tryd.ntmps33
    go_wp2_with fail
    refine HP.out.mono ?_
    rintro e w1 ⟨rfl, rfl⟩
    go_wp2_with fail
    go_ret
    exact ⟨rfl, Below.refl _ _⟩
  | cons c r =>
    rw [hd] at hpre hsl
    rw [List.length_cons] at hsl
    dsimp only
    by_cases hc : c = 46
    · subst hc
      rw [if_pos rfl]
      have hex : s.extract 1 s.size = ⟨r.toArray⟩ := by rw [ex_drop, hd]; rfl
      have hpl : Calls Tryd.prog 31 #[.string (s.extract 1 s.size), .pointer (some ⟨p, 0, none⟩)] w.drew fun e w' => e = .returned (.string ⟨(plainN r).toArray⟩) ∧ w.drew = w' := by
        rw [hex]; exact plain_c ⟨r.toArray⟩ (by rw [size_list]; show r.length ≤ _; omega) p b w.drew hE.2
      have e0 := hE.1.cell 0
      simp at e0
      have h1s : (1 : Int) ≤ (s.size : Int) := by omega
      have HP := Lib.hid hpre; have HPL := Lib.hid hpl
      clear hpre hd hex hpl hE hsl
      go_enter Tryd.func33, Tryd.ntmps33
      go_wp2_with fail
      refine HP.out.mono ?_
      rintro e w1 ⟨rfl, rfl⟩
      go_wp2_with fail
      go_region_with (go_at_call 31; refine HPL.out.mono ?_; rintro e w2 ⟨rfl, rfl⟩)
      go_wp2_with fail
      go_ret
      exact ⟨rfl, (Below.refl _ _).drew⟩
    · have hpre' : (some c == some (46 : UInt8)) = false := by simpa using hc
      rw [if_neg hc]
      rw [show ((c :: r).head? == some (46 : UInt8)) = false from hpre'] at hpre
      have HP := Lib.hid hpre
      clear hpre hsl hd hE hpre'
      go_enter Tryd.func33, Tryd.ntmps33
      go_wp2_with fail
      refine HP.out.mono ?_
      rintro e w1 ⟨rfl, rfl⟩
      go_wp2_with fail
      go_ret
      exact ⟨rfl, Below.refl _ _⟩
end Go.Proofs.YteppdnlchjpekaaDoor
