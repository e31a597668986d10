/- Package big: a text's check. -/
import Derived.Test.YtibpebhepoeikaaDoorVn
import Derived.Lib.OthersKept
import Derived.Lib.ParseIntBTie
namespace Go.Proofs.YtibpebhepoeikaaDoor
open Go.RowKit
namespace Pl

def isDig (c : UInt8) : Bool := decide (48 ≤ c.toNat ∧ c.toNat ≤ 57)
def mag (l : List UInt8) : List UInt8 := if l.head? = some 45 then l.tail else l
def chk (l : List UInt8) : Int :=
  if mag l = [] then 4 else if (mag l).head? = some 48 ∧ l ≠ [48] then 4 else if (mag l).all isDig = false then 4 else if 200 < (mag l).length then 80 else 0

theorem chk_nil {l : List UInt8} (h : mag l = []) : chk l = 4 := by simp [chk, h]
theorem chk_zero {l : List UInt8} (h : (mag l).head? = some 48) (h2 : l ≠ [48]) : chk l = 4 := by
  unfold chk; split
  · rfl
  · rw [if_pos ⟨h, h2⟩]
theorem chk_bad {l : List UInt8} (h : (mag l).all isDig = false) : chk l = 4 := by
  unfold chk; simp [h]
theorem chk_end {l : List UInt8} (h1 : mag l ≠ []) (h2 : ¬ ((mag l).head? = some 48 ∧ l ≠ [48])) (h3 : (mag l).all isDig = true) :
    chk l = if 200 < (mag l).length then 80 else 0 := by
  unfold chk; rw [if_neg h1, if_neg h2, if_neg (by simp [h3])]
theorem all_take_snoc {p : UInt8 → Bool} {l : List UInt8} {k : Nat} (hk : k < l.length) (h : (l.take k).all p = true) (hc : p l[k] = true) : (l.take (k + 1)).all p = true := by
  rw [List.take_succ_eq_append_getElem hk, List.all_append, h]; simp [hc]
theorem all_bad {p : UInt8 → Bool} {l : List UInt8} {k : Nat} (hk : k < l.length) (hc : p l[k] = false) : l.all p = false := by
  rw [List.all_eq_false]; exact ⟨l[k], List.getElem_mem hk, by simp [hc]⟩
end Pl
open Pl
theorem ret_int {k : IntKind} {a b : Int} (h : a = b) : Ending.returned (.int k a) = .returned (.int k b) := by rw [h]
theorem size_len (s : ByteArray) : s.size = s.data.toList.length := by rw [Array.length_toList]; rfl
theorem byte_at (s : ByteArray) (k : Nat) (_hk : k < s.size) (h' : k < s.data.toList.length) : s.data.toList[k] = s[k] := rfl
def negB (s : ByteArray) : Bool := decide (s.data.toList.head? = some 45)
def badB (s d : ByteArray) : Bool := decide (d.data.toList = []) || (decide (d.data.toList.head? = some 48) && decide (s.data.toList ≠ [48]))
theorem toList_ne {s : ByteArray} (h : 0 < s.size) : ¬ s.toList = [] := by
  rw [Lib.toList_data]; intro h'; rw [size_len, h'] at h; exact absurd h (by decide)
theorem toList_nil {s : ByteArray} (h : ¬ 0 < s.size) : s.toList = [] := by
  rw [Lib.toList_data]; rw [size_len] at h; exact List.eq_nil_of_length_eq_zero (by omega)
theorem head_of {s : ByteArray} (h : 0 < s.size) : s.data.toList.head? = some s[0] := by
  rw [List.head?_eq_getElem?, List.getElem?_eq_getElem (by rw [← size_len]; exact h)]; rfl
theorem int_byte (a b : UInt8) : (((a.toNat : Int) == (b.toNat : Int)) = true) ↔ a = b := by
  rw [beq_iff_eq]; constructor
  · intro h; exact UInt8.toNat_inj.1 (by omega)
  · rintro rfl; rfl


theorem negB_pos {s : ByteArray} (h : negB s = true) : 0 < s.size := by
  unfold negB at h; rw [size_len]
  cases e : s.data.toList with
  | nil => rw [e] at h; simp at h
  | cons => simp
theorem neg_yes {s : ByteArray} (h : 0 < s.size) : (((s[0]).toNat : Int) == 45) = negB s := by
  unfold negB; rw [head_of h, Bool.eq_iff_iff]; simp
  constructor
  · intro h; exact UInt8.toNat_inj.1 (by show _ = 45; omega)
  · intro h; rw [h]; rfl
theorem neg_no {s : ByteArray} (h : ¬ 0 < s.size) : negB s = false := by
  cases e : negB s with
  | false => rfl
  | true => exact absurd (negB_pos e) h
theorem ext_mag {s d : ByteArray} (hd : d.data.toList = mag s.data.toList) (h : negB s = true) : s.extract 1 s.size = d := by
  apply ByteArray.ext; apply Array.ext'; rw [Lib.extract_data, hd]
  unfold mag negB at *; rw [if_pos (by simpa using h)]
  rw [List.drop_one, List.take_of_length_le]; rw [size_len]; simp
theorem same_mag {s d : ByteArray} (hd : d.data.toList = mag s.data.toList) (h : negB s = false) : s = d := by
  apply ByteArray.ext; apply Array.ext'; rw [hd]
  unfold mag negB at *; rw [if_neg (by simpa using h)]
theorem bad_nil {s d : ByteArray} (h : ¬ 0 < d.size) : badB s d = true := by
  unfold badB; rw [← Lib.toList_data, toList_nil h]; simp
theorem bad_zero {s d : ByteArray} (h : 0 < d.size) (h1 : ((d[0].toNat : Int)) = 48) : badB s d = !(s.toList == [48]) := by
  have n0 := toList_ne h; rw [Lib.toList_data] at n0
  unfold badB; rw [head_of h, Lib.toList_data]
  have : d[0] = 48 := UInt8.toNat_inj.1 (by show _ = 48; omega)
  simp only [n0, this, decide_false, decide_true, Bool.false_or, Bool.true_and]
  cases h : (s.data.toList == [48]) with
  | true => simpa using h
  | false => simpa using h
theorem bad_other {s d : ByteArray} (h : 0 < d.size) (h1 : ¬ ((d[0].toNat : Int)) = 48) : badB s d = false := by
  have n0 := toList_ne h; rw [Lib.toList_data] at n0
  have : d[0] ≠ 48 := fun e => h1 (by rw [e]; rfl)
  unfold badB; rw [head_of h]
  simp [n0, this]

theorem bad_chk {s d : ByteArray} (hd : d.data.toList = mag s.data.toList) (h : badB s d = true) : chk s.data.toList = 4 := by
  unfold badB at h; rw [hd] at h; simp only [Bool.or_eq_true, Bool.and_eq_true, decide_eq_true_eq] at h
  rcases h with h | h
  · exact chk_nil h
  · exact chk_zero h.1 h.2
theorem bad_dig {s d : ByteArray} {k : Nat} (hd : d.data.toList = mag s.data.toList) (hk : k < d.size) (h : ¬ isDig d[k] = true) : chk s.data.toList = 4 := by
  apply chk_bad; rw [← hd]
  exact all_bad (k := k) (by rw [← size_len]; exact hk) (by rw [byte_at _ _ hk]; simpa using h)
theorem good_of {s d : ByteArray} (hd : d.data.toList = mag s.data.toList) (h : badB s d = false) (hA : (d.data.toList.take d.size).all isDig = true) :
    chk s.data.toList = if 200 < d.size then 80 else 0 := by
  unfold badB at h; rw [hd] at h
  rw [hd, List.take_of_length_le (by rw [size_len, hd]; exact Nat.le_refl _)] at hA
  simp only [Bool.or_eq_false_iff, decide_eq_false_iff_not] at h
  rw [chk_end h.1 (by intro hh; have := h.2; simp [hh.1, hh.2] at this) hA, size_len, hd]
theorem good_chk {s d : ByteArray} (hd : d.data.toList = mag s.data.toList) (h : badB s d = false) (hA : (d.data.toList.take d.size).all isDig = true) (hz : d.size ≤ 200) : chk s.data.toList = 0 := by
  rw [good_of hd h hA, if_neg (by omega)]
theorem good_chk_over {s d : ByteArray} (hd : d.data.toList = mag s.data.toList) (h : badB s d = false) (hA : (d.data.toList.take d.size).all isDig = true) (hz : 200 < d.size) : chk s.data.toList = 80 := by
  rw [good_of hd h hA, if_pos hz]

theorem trim_mag (l : List UInt8) : Lib.trimPrefix l [45] = mag l := by
  unfold Lib.trimPrefix Lib.hasPrefix mag
  cases l with
  | nil => simp
  | cons x xs =>
    by_cases h : x = 45
    · subst h; simp [List.isPrefixOf]
    · have h' : ¬ (45 : UInt8) = x := fun e => h e.symm
      simp [List.isPrefixOf, h, h']

set_option maxRecDepth 100000 in
set_option maxHeartbeats 400000 in
theorem big_check (s : ByteArray) (w : World) (_hs : s.size ≤ maxLen) :
    Calls Tryd.prog 40 #[.string s] w fun e w' => e = .returned (.int .i64 (chk s.data.toList)) ∧ Below w.heap.size w w' := by

  obtain ⟨d, hd, hds, hdd⟩ : ∃ d : ByteArray, d.data.toList = mag s.data.toList ∧ d.size ≤ s.size ∧ (⟨(mag s.data.toList).toArray⟩ : ByteArray) = d := ⟨⟨(mag s.data.toList).toArray⟩, rfl, by
    show (mag s.data.toList).toArray.size ≤ s.data.size
    unfold mag; split <;> simp, rfl⟩
  have HD := Lib.hid hd; have HDD := Lib.hid hdd
  clear hd hdd
  go_enter Tryd.func40, Tryd.ntmps40
  go_wp2_with (go_at_call 54; refine (Tryd.strings_TrimPrefix s ⟨#[45]⟩ w).mono ?_; rw [show (⟨#[45]⟩ : ByteArray).data.toList = [45] from rfl, trim_mag, HDD.out]; rintro e w' ⟨rfl, hw⟩; obtain rfl := hw; refine Hid.out ?_)
  refine Lib.hid ?_
  go_upto_region 2 with fail
  go_cut [18] (fun b wx => b = .bool (badB s d) ∧ wx = w')
  case first =>
    by_cases h0 : 0 < d.size
    · have n0 := toList_ne h0
      by_cases h48 : ((d[0].toNat : Int)) = 48
      · have H := Lib.hid (bad_zero (s := s) h0 h48)
        go_wp2
        go_meet
        exact ⟨by rw [H.out]; simp [n0], rfl⟩
      · have H := Lib.hid (bad_other (s := s) h0 h48)
        go_wp2
        go_meet
        exact ⟨by rw [H.out]; simp [n0], rfl⟩
    · have n0 := toList_nil h0
      have H := Lib.hid (bad_nil (s := s) h0)
      go_wp2
      go_meet
      exact ⟨by rw [H.out], rfl⟩
  case rest =>
    obtain ⟨rfl, hw⟩ := hcut
    subst hw
    cases hb : badB s d with
    | true =>
      have HB := Lib.hid hb; clear hb
      go_wp2_with fail
      go_ret
      exact ⟨ret_int (bad_chk HD.out HB.out).symm, Below.refl _ _⟩
    | false =>
      have HB := Lib.hid hb; clear hb
      go_wp2_with fail
      obtain ⟨w, hw⟩ : ∃ w, w = wc := ⟨_, rfl⟩
      subst hw
      go_loopg [5] (d.size + 1) (fun g s5 wr => ∃ pos : Nat, g = d.size - pos + 1 ∧ pos ≤ d.size ∧ wr.heap[w.heap.size]? = some (.stringIter d pos) ∧ (d.data.toList.take pos).all isDig = true ∧ Below w.heap.size w wr)
      case atStart =>
        exact ⟨0, rfl, by omega, World.iter_heap _ _ _, rfl, (Below.refl _ w).alloc (Nat.le_refl _) _⟩
      case round =>
        obtain ⟨pos, hg, hp, hit, hA, hB⟩ := hrel
        have HG := Lib.hid hg; have HA := Lib.hid hA; have HB2 := Lib.hid hB; have HIT := Lib.hid hit
        clear hg hA hB
        by_cases hlt : pos < d.size
        · by_cases hc : isDig d[pos] = true
          · have hc1 : 48 ≤ d[pos].toNat ∧ d[pos].toNat ≤ 57 := by unfold isDig at hc; exact of_decide_eq_true hc
            have hnx := fun ty => Lib.run_next_ascii_at (P := Tryd.prog) wr w.heap.size d pos ty hit hlt (by omega)
            obtain ⟨hc1, hc2⟩ := hc1
            have hc3 : (48 : Int) ≤ (d[pos].toNat : Int) := by omega
            have hc4 : (d[pos].toNat : Int) ≤ 57 := by omega
            have HC := Lib.hid hc; clear hc
            clear hit
            go_wp2_with fail
            go_roundg (d.size - (pos + 1) + 1)
            case measure => have := HG.out; omega
            case rel => exact ⟨pos + 1, rfl, by omega, Lib.iterAt_heap _ _ _ _ _ HIT.out, all_take_snoc (by rw [← size_len]; exact hlt) HA.out HC.out, Lib.below_iterAt HB2.out (Nat.le_refl _) _ _⟩
          · have hc1 : d[pos].toNat < 48 ∨ 57 < d[pos].toNat := by unfold isDig at hc; simp at hc; omega
            have hr : ((Utf8.decode d pos).1 : Int) < 48 ∨ 57 < ((Utf8.decode d pos).1 : Int) := by
              by_cases h128 : d[pos].toNat < 128
              · rw [decode_ascii d pos hlt h128]; show (d[pos].toNat : Int) < 48 ∨ _; omega
              · have := (decode_high d pos hlt (by omega)).1; omega
            have hr2 : ((Utf8.decode d pos).1 : Int) ≤ 2147483647 := by have := decode_le d pos; omega
            have hnx := fun ty => Lib.run_next_any_at (P := Tryd.prog) wr w.heap.size d pos ty hit hlt
            have HC := Lib.hid hc; clear hc hc1
            generalize (Utf8.decode d pos).1 = r at hr hr2 hnx
            generalize (Utf8.decode d pos).2 = r2 at hnx
            clear hit
            rcases hr with hr | hr
            all_goals
              go_wp2_with fail
              go_ret
              exact ⟨ret_int (bad_dig HD.out hlt HC.out).symm, Lib.below_iterAt HB2.out (Nat.le_refl _) _ _⟩
        · have hnx := fun ty => Lib.run_next_end_at (P := Tryd.prog) wr w.heap.size d pos ty hit hlt
          obtain rfl : pos = d.size := by omega
          clear hit
          by_cases h200 : 200 < (d.size : Int)
          · go_wp2_with fail
            go_ret
            exact ⟨ret_int (good_chk_over HD.out HB.out HA.out (by omega)).symm, HB2.out⟩
          · go_wp2_with fail
            go_ret
            exact ⟨ret_int (good_chk HD.out HB.out HA.out (by omega)).symm, HB2.out⟩
end Go.Proofs.YtibpebhepoeikaaDoor
