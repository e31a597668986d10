/- Package value: which texts are names. -/
import Derived.Test.YtibpebhepoeikaaDoorVc
import Derived.Test.YtibpebhepoeikaaDoorVs
import Derived.Laws.RangeAny
import Derived.Laws.RangeString
namespace Go.Proofs.YtibpebhepoeikaaDoor
open Go.RowKit Go.Lib Vp
open Go

def partN (r : Nat) : Bool := decide (97 ≤ r ∧ r ≤ 122 ∨ 65 ≤ r ∧ r ≤ 90 ∨ 48 ≤ r ∧ r ≤ 57 ∨ r = 95)
theorem part_eq (c : UInt8) : partB c = partN c.toNat := rfl
theorem vsize_len (s : ByteArray) : s.size = s.data.toList.length := by rw [Array.length_toList]; rfl
theorem vtoList_ne {s : ByteArray} (h : 0 < s.size) : ¬ s.toList = [] := by
  rw [Lib.toList_data]; intro h'; rw [vsize_len, h'] at h; exact absurd h (by decide)
theorem vtoList_nil {s : ByteArray} (h : ¬ 0 < s.size) : s.toList = [] := by
  rw [Lib.toList_data]; rw [vsize_len] at h; exact List.eq_nil_of_length_eq_zero (by omega)
theorem idx_from (s : ByteArray) : ∀ (f pos : Nat), s.size ≤ pos + f → decide (0 ≤ Lib.idxFuncFrom (fun r => !partN r) true s f pos) = !((s.data.toList.drop pos).all partB)
  | 0, pos, h => by
    rw [List.drop_of_length_le (by rw [← vsize_len]; omega)]; rfl
  | f + 1, pos, h => by
    unfold Lib.idxFuncFrom
    by_cases hp : pos < s.size
    · rw [if_pos hp]
      have hl : pos < s.data.toList.length := by rw [← vsize_len]; exact hp
      have hg : s.data.toList[pos] = s[pos] := rfl
      rw [List.drop_eq_getElem_cons hl, List.all_cons, hg]
      by_cases ha : (s[pos]).toNat < 128
      · rw [decode_ascii s pos hp ha]
        cases hq : partB s[pos] with
        | true =>
          have : partN (s[pos]).toNat = true := hq
          simp only [this]
          rw [if_neg (by simp), idx_from s f (pos + 1) (by omega)]
          simp
        | false =>
          have : partN (s[pos]).toNat = false := hq
          simp only [this]
          simp
      · have hd := (decode_high s pos hp (by omega)).1
        have h1 : partN (Utf8.decode s pos).1 = false := by unfold partN; simp; omega
        have h2 : partB s[pos] = false := by rw [part_eq]; unfold partN; simp; omega
        simp only [h1, h2]
        simp
    · rw [if_neg hp, List.drop_of_length_le (by rw [← vsize_len]; omega)]; rfl
theorem idx_all (s : ByteArray) : decide (0 ≤ Lib.idxFunc (fun r => !partN r) true s) = !(s.data.toList.all partB) := by
  unfold Lib.idxFunc; rw [idx_from s s.size 0 (by omega), List.drop_zero]

set_option maxHeartbeats 2000000 in
theorem noPart_c (w : World) : PredAt Tryd.prog 66 #[] encR (fun r => !partN r) w := fun W r _ => by
  unfold FnGives
  show Calls Tryd.prog 66 #[.int .i32 (r : Int)] W _
  have hp : partN r = decide ((97 : Int) ≤ r ∧ (r : Int) ≤ 122 ∨ (65 : Int) ≤ r ∧ (r : Int) ≤ 90 ∨ (48 : Int) ≤ r ∧ (r : Int) ≤ 57 ∨ (r : Int) = 95) := by
    unfold partN; congr 1; apply propext; constructor <;> intro h <;> omega
  simp only [hp]
  clear hp
  generalize (r : Int) = q
  by_cases a1 : (97 : Int) ≤ q <;> by_cases a2 : q ≤ 122 <;> by_cases a3 : (65 : Int) ≤ q <;> by_cases a4 : q ≤ 90 <;> by_cases a5 : (48 : Int) ≤ q <;> by_cases a6 : q ≤ 57 <;> by_cases a7 : q = 95 <;>
    first
      | (exfalso; omega)
      | (go_enter Tryd.func66, Tryd.ntmps66
         go_wp2_with fail
         go_ret
         exact ⟨by first | (simp_all; done) | (simp_all; rw [Bool.eq_iff_iff]; simp; omega), 0, rfl⟩)

theorem name_eq (s : ByteArray) (h : 0 < s.size) : name s.data.toList = (decide (s.size ≤ 32) && small s[0] && s.data.toList.all partB) := by
  obtain ⟨⟨l⟩⟩ := s
  cases l with
  | nil => exact absurd h (by decide)
  | cons c l => rfl
theorem name_none (s : ByteArray) (h : ¬ 0 < s.size) : name s.data.toList = false := by
  have hl : s.data.toList.length = 0 := by rw [← vsize_len]; omega
  rw [List.eq_nil_of_length_eq_zero hl]; rfl

set_option maxHeartbeats 1000000 in
theorem isName_c (s : ByteArray) (w : World) : Calls Tryd.prog 56 #[.string s] w fun e w' => e = .returned (.bool (name s.data.toList)) ∧ Below w.heap.size w w' := by
  by_cases h0 : 0 < s.size
  · have hne : s.toList.isEmpty = false := by simpa using vtoList_ne h0
    rw [name_eq s h0]
    by_cases h32 : s.size ≤ 32
    · have hi : ¬ (32 : Int) < s.size := by omega
      by_cases ha : (97 : Int) ≤ (s[0]).toNat
      · have ha' : ¬ ((s[0]).toNat : Int) < 97 := by omega
        by_cases hz : ((s[0]).toNat : Int) ≤ 122
        · have hz' : ¬ (122 : Int) < (s[0]).toNat := by omega
          have hsm : small s[0] = true := by unfold small; simp; omega
          rw [decide_eq_true h32, hsm, Bool.true_and, Bool.true_and]
          have hc := Tryd.strings_ContainsFunc 66 #[] (enters_of Tryd.func66 (by kernel_rfl) rfl) (fun r => !partN r) s w (noPart_c w)
          rw [idx_all] at hc
          generalize s.data.toList.all partB = q at hc ⊢
          have HC := Lib.hid hc
          clear hc hsm
          go_enter Tryd.func56, Tryd.ntmps56
          go_wp2_with (go_at_call 65; refine HC.out.mono ?_; rintro e w1 ⟨rfl, hb1⟩; have HB1 := Lib.hid hb1; clear hb1)
          go_ret
          exact ⟨by first | rfl | (simp; done), HB1.out⟩
        · have hz' : (122 : Int) < (s[0]).toNat := by omega
          have hsm : small s[0] = false := by unfold small; simp; omega
          rw [hsm, Bool.and_false, Bool.false_and]
          clear hsm
          go_enter Tryd.func56, Tryd.ntmps56
          go_wp2_with fail
          go_ret
          exact ⟨by first | rfl | (simp; done), Below.refl _ _⟩
      · have ha' : ((s[0]).toNat : Int) < 97 := by omega
        have hsm : small s[0] = false := by unfold small; simp; omega
        rw [hsm, Bool.and_false, Bool.false_and]
        clear hsm
        go_enter Tryd.func56, Tryd.ntmps56
        go_wp2_with fail
        go_ret
        exact ⟨by first | rfl | (simp; done), Below.refl _ _⟩
    · have hi : (32 : Int) < s.size := by omega
      rw [decide_eq_false h32, Bool.false_and, Bool.false_and]
      go_enter Tryd.func56, Tryd.ntmps56
      go_wp2_with fail
      go_ret
      exact ⟨by first | rfl | (simp; done), Below.refl _ _⟩
  · have hn : s.toList.isEmpty = true := by simpa using vtoList_nil h0
    rw [name_none s h0]
    go_enter Tryd.func56, Tryd.ntmps56
    go_wp2_with fail
    go_ret
    exact ⟨by first | rfl | (simp; done), Below.refl _ _⟩

theorem cut_index : ∀ l : List UInt8, (Lib.indexByte l 46 = -1 ∧ Vp.cut l = none) ∨ (∃ i : Nat, Lib.indexByte l 46 = i ∧ i < l.length ∧ Vp.cut l = some (l.take i, l.drop (i + 1)))
  | [] => .inl ⟨rfl, rfl⟩
  | c :: l => by
    by_cases hc : c = 46
    · exact .inr ⟨0, by unfold Lib.indexByte; simp [hc], by simp, by simp [Vp.cut, hc]⟩
    · have hb : (c == 46) = false := by simpa using hc
      rcases cut_index l with ⟨h1, h2⟩ | ⟨i, h1, h2, h3⟩
      · exact .inl ⟨by unfold Lib.indexByte; rw [hb, h1]; rfl, by unfold Vp.cut; rw [if_neg hc, h2]; rfl⟩
      · refine .inr ⟨i + 1, ?_, by simp; omega, by unfold Vp.cut; rw [if_neg hc, h3]; rfl⟩
        unfold Lib.indexByte
        rw [hb, h1]
        have : ((i : Int) == -1) = false := by simp
        simp [this]

/-- What strings.Cut tells, at a dot. -/
def CutIs (s m o : ByteArray) (f : Bool) : Prop := m.size ≤ maxLen ∧ o.size ≤ maxLen ∧ ((f = true ∧ Vp.cut s.data.toList = some (m.data.toList, o.data.toList)) ∨ (f = false ∧ Vp.cut s.data.toList = none ∧ m = s))
set_option maxHeartbeats 1000000 in
theorem cut0_c (s : ByteArray) (w : World) (hs : s.size ≤ maxLen) :
    Calls Tryd.prog 64 #[.string s, .string ⟨#[46]⟩] w fun e w' => (∃ m o f, e = .returned (.tuple #[.string m, .string o, .bool f]) ∧ CutIs s m o f) ∧ Below w.heap.size w w' := by
  have hmax : maxLen = 9223372036854775807 := rfl
  have hi := Tryd.stringslite_Index_one s 46 w
  rcases cut_index s.data.toList with ⟨h1, h2⟩ | ⟨i, h1, h2, h3⟩
  · rw [h1] at hi
    have HI := Lib.hid hi; have H2 := Lib.hid h2
    clear hi h1 h2
    go_enter Tryd.func64, Tryd.ntmps64
    go_wp2_with (go_at_call 74; refine HI.out.mono ?_; rintro e w1 ⟨rfl, hw⟩; obtain rfl := hw; refine Hid.out ?_)
    refine Lib.hid ?_
    go_wp2_with fail
    go_ret3
    exact ⟨⟨s, ⟨#[]⟩, false, rfl, hs, by decide, .inr ⟨rfl, H2.out, rfl⟩⟩, Below.refl _ _⟩
  · rw [h1] at hi
    rw [← vsize_len] at h2
    have HI := Lib.hid hi; have H3 := Lib.hid h3
    clear hi h1 h3
    have hi1 : IntKind.i64.wrap ((i : Int) + 1) = (i : Int) + 1 := by rw [IntWalk.i64_in _ (by omega)]
    go_enter Tryd.func64, Tryd.ntmps64
    go_wp2_with (go_at_call 74; refine HI.out.mono ?_; rintro e w1 ⟨rfl, hw⟩; obtain rfl := hw; refine Hid.out ?_)
    refine Lib.hid ?_
    go_upto_region 3 with fail
    go_region
    go_wp2_with fail
    go_ret3
    have hsz := vsize_len s
    have e1 : (s.extract 0 i).data.toList = s.data.toList.take i := by simp [ByteArray.data_extract]
    have e2 : (s.extract (i + 1) s.size).data.toList = s.data.toList.drop (i + 1) := by
      simp [ByteArray.data_extract]
      rw [List.take_of_length_le (by simp)]
    refine ⟨⟨_, _, true, rfl, ?_, ?_, .inl ⟨rfl, by rw [e1, e2]; exact H3.out⟩⟩, (Below.refl _ _).drew⟩
    · have := vsize_len (s.extract 0 i); rw [e1] at this; rw [this, List.length_take]; omega
    · have := vsize_len (s.extract (i + 1) s.size); rw [e2] at this; rw [this, List.length_drop]; omega

theorem cut_c (s : ByteArray) (w : World) (hs : s.size ≤ maxLen) :
    Calls Tryd.prog 55 #[.string s, .string ⟨#[46]⟩] w fun e w' => (∃ m o f, e = .returned (.tuple #[.string m, .string o, .bool f]) ∧ CutIs s m o f) ∧ Below w.heap.size w w' := by
  have HC := Lib.hid (cut0_c s w hs)
  go_enter Tryd.func55, Tryd.ntmps55
  go_wp2_with (go_at_call 64; refine HC.out.mono ?_; rintro e w1 ⟨⟨m, o, f, rfl, hc⟩, hb⟩; have HCI := Lib.hid hc; have HB := Lib.hid hb; clear hc hb)
  go_ret3
  exact ⟨⟨m, o, f, rfl, HCI.out⟩, HB.out⟩

theorem toList_ne_lit (s : ByteArray) (l : List UInt8) : (!(s.toList == l)) = decide (s.data.toList ≠ l) := by
  rw [Lib.toList_data]
  by_cases h : s.data.toList = l <;> simp [h]

set_option maxHeartbeats 1000000 in
theorem isCons_c (s : ByteArray) (w : World) (hs : s.size ≤ maxLen) :
    Calls Tryd.prog 41 #[.string s] w fun e w' => e = .returned (.bool (cons s.data.toList)) ∧ Below w.heap.size w w' := by
  have HC := Lib.hid (cut_c s w hs)
  have HN := Lib.hid (fun (x : ByteArray) W => isName_c x W)
  have hcons : cons s.data.toList = match Vp.cut s.data.toList with | some (m, o) => name m && name o | none => name s.data.toList && decide (s.data.toList ≠ tTrue) && decide (s.data.toList ≠ tFalse) := rfl
  obtain ⟨q, hq⟩ : ∃ q, q = cons s.data.toList := ⟨_, rfl⟩
  rw [← hq] at hcons ⊢
  have HQ := Lib.hid hcons
  clear hq hcons
  go_enter Tryd.func41, Tryd.ntmps41
  go_upto_region 1 with fail
  go_wp2_with (go_at_call 55; refine HC.out.mono ?_; rintro e w1 ⟨⟨m, o, f, rfl, hc⟩, hb⟩; have HCI := Lib.hid hc; have HB := Lib.hid hb; clear hc hb; refine Hid.out ?_)
  refine Lib.hid ?_
  obtain ⟨_, _, ⟨rfl, hcut⟩ | ⟨rfl, hcut, hm⟩⟩ := HCI.out
  · have hq := HQ.out
    rw [hcut] at hq
    have HNM := Lib.hid (HN.out m w1)
    cases hnm : name m.data.toList with
    | true =>
      rw [hnm] at HNM
      simp only [hnm, Bool.true_and] at hq
      have HQ2 := Lib.hid hq
      clear hcut hq hnm HQ
      go_wp2_with fail
      refine HNM.out.mono ?_
      rintro e w2 ⟨rfl, hb2⟩
      have HB2 := Lib.hid (HB.out.trans (hb2.mono HB.out.size)); clear hb2
      go_wp2_with fail
      refine (HN.out o _).mono ?_
      rintro e w3 ⟨rfl, hb3⟩
      have HB3 := Lib.hid (HB2.out.trans (hb3.mono HB2.out.size)); clear hb3
      go_wp2_with fail
      go_ret
      exact ⟨by rw [HQ2.out]; rfl, HB3.out⟩
    | false =>
      rw [hnm] at HNM
      simp only [hnm, Bool.false_and] at hq
      subst hq
      clear hcut hnm HQ
      go_wp2_with (go_at_call 56; refine HNM.out.mono ?_; rintro e w2 ⟨rfl, hb2⟩; have HB2 := Lib.hid (HB.out.trans (hb2.mono HB.out.size)); clear hb2)
      go_ret
      exact ⟨rfl, HB2.out⟩
  · have hq := HQ.out
    rw [hcut] at hq
    have HNM := Lib.hid (HN.out s w1)
    have ht := toList_ne_lit s tTrue; have hf := toList_ne_lit s tFalse
    cases hnm : name s.data.toList with
    | true =>
      rw [hnm] at HNM
      simp only [hnm, Bool.true_and] at hq
      rw [← ht, ← hf] at hq
      have HQ2 := Lib.hid hq
      clear hcut hq hnm HQ ht hf hm
      go_wp2_with (go_at_call 56; refine HNM.out.mono ?_; rintro e w2 ⟨rfl, hb2⟩; have HB2 := Lib.hid (HB.out.trans (hb2.mono HB.out.size)); clear hb2)
      all_goals
        go_ret
        exact ⟨by rw [HQ2.out]; simp_all [tTrue, tFalse], HB2.out⟩
    | false =>
      rw [hnm] at HNM
      simp only [hnm, Bool.false_and] at hq
      subst hq
      clear hcut hnm HQ ht hf hm
      go_wp2_with (go_at_call 56; refine HNM.out.mono ?_; rintro e w2 ⟨rfl, hb2⟩; have HB2 := Lib.hid (HB.out.trans (hb2.mono HB.out.size)); clear hb2)
      go_ret
      exact ⟨rfl, HB2.out⟩
end Go.Proofs.YtibpebhepoeikaaDoor
