/- The walks over the document's own answer for layer 1: a text's check; a number without noughts ahead. -/
import Derived.Test.YtcclclginhhlaaaDoorBase
namespace Go.Proofs.YtcclclginhhlaaaDoor
open Go.RowKit
open Pl Dig

theorem size_len (s : ByteArray) : s.size = s.data.toList.length := by rw [Array.length_toList]; rfl
theorem byte_at (s : ByteArray) (k : Nat) (_hk : k < s.size) (h' : k < s.data.toList.length) : s.data.toList[k] = s[k] := rfl
def negB (s : ByteArray) : Bool := decide (s.data.toList.head? = some 45)
def badB (s d : ByteArray) : Bool := decide (d.data.toList = []) || (decide (d.data.toList.head? = some 48) && decide (s.data.toList ≠ [48]))
theorem toList_ne {s : ByteArray} (h : 0 < s.size) : ¬ s.toList = [] := by
  rw [Lib.toList_data]; intro h'; rw [size_len, h'] at h; exact absurd h (by decide)
theorem toList_nil {s : ByteArray} (h : ¬ 0 < s.size) : s.toList = [] := by
  rw [Lib.toList_data]; rw [size_len] at h; exact List.eq_nil_of_length_eq_zero (by omega)
theorem head_of {s : ByteArray} (h : 0 < s.size) : s.data.toList.head? = some s[0] := by
  rw [List.head?_eq_getElem?, List.getElem?_eq_getElem (by rw [← size_len]; exact h)]; rfl
theorem int_byte (a b : UInt8) : (((a.toNat : Int) == (b.toNat : Int)) = true) ↔ a = b := by
  rw [beq_iff_eq]; constructor
  · intro h; exact UInt8.toNat_inj.1 (by omega)
  · rintro rfl; rfl


theorem negB_pos {s : ByteArray} (h : negB s = true) : 0 < s.size := by
  unfold negB at h; rw [size_len]
  cases e : s.data.toList with
  | nil => rw [e] at h; simp at h
  | cons => simp
theorem neg_yes {s : ByteArray} (h : 0 < s.size) : (((s[0]).toNat : Int) == 45) = negB s := by
  unfold negB; rw [head_of h, Bool.eq_iff_iff]; simp
  constructor
  · intro h; exact UInt8.toNat_inj.1 (by show _ = 45; omega)
  · intro h; rw [h]; rfl
theorem neg_no {s : ByteArray} (h : ¬ 0 < s.size) : negB s = false := by
  cases e : negB s with
  | false => rfl
  | true => exact absurd (negB_pos e) h
theorem ext_mag {s d : ByteArray} (hd : d.data.toList = mag s.data.toList) (h : negB s = true) : s.extract 1 s.size = d := by
  apply ByteArray.ext; apply Array.ext'; rw [Lib.extract_data, hd]
  unfold mag negB at *; rw [if_pos (by simpa using h)]
  rw [List.drop_one, List.take_of_length_le]; rw [size_len]; simp
theorem same_mag {s d : ByteArray} (hd : d.data.toList = mag s.data.toList) (h : negB s = false) : s = d := by
  apply ByteArray.ext; apply Array.ext'; rw [hd]
  unfold mag negB at *; rw [if_neg (by simpa using h)]
theorem bad_nil {s d : ByteArray} (h : ¬ 0 < d.size) : badB s d = true := by
  unfold badB; rw [← Lib.toList_data, toList_nil h]; simp
theorem bad_zero {s d : ByteArray} (h : 0 < d.size) (h1 : ((d[0].toNat : Int)) = 48) : badB s d = !(s.toList == [48]) := by
  have n0 := toList_ne h; rw [Lib.toList_data] at n0
  unfold badB; rw [head_of h, Lib.toList_data]
  have : d[0] = 48 := UInt8.toNat_inj.1 (by show _ = 48; omega)
  simp only [n0, this, decide_false, decide_true, Bool.false_or, Bool.true_and]
  cases h : (s.data.toList == [48]) with
  | true => simpa using h
  | false => simpa using h
theorem bad_other {s d : ByteArray} (h : 0 < d.size) (h1 : ¬ ((d[0].toNat : Int)) = 48) : badB s d = false := by
  have n0 := toList_ne h; rw [Lib.toList_data] at n0
  have : d[0] ≠ 48 := fun e => h1 (by rw [e]; rfl)
  unfold badB; rw [head_of h]
  simp [n0, this]

theorem bad_chk {s d : ByteArray} (hd : d.data.toList = mag s.data.toList) (h : badB s d = true) : chk s.data.toList = 4 := by
  unfold badB at h; rw [hd] at h; simp only [Bool.or_eq_true, Bool.and_eq_true, decide_eq_true_eq] at h
  rcases h with h | h
  · exact chk_nil h
  · exact chk_zero h.1 h.2
theorem bad_dig {s d : ByteArray} {k : Nat} (hd : d.data.toList = mag s.data.toList) (hk : k < d.size) (h : ¬ isDig d[k] = true) : chk s.data.toList = 4 := by
  apply chk_bad; rw [← hd]
  exact all_bad (k := k) (by rw [← size_len]; exact hk) (by rw [byte_at _ _ hk]; simpa using h)
theorem good_of {s d : ByteArray} (hd : d.data.toList = mag s.data.toList) (h : badB s d = false) (hA : (d.data.toList.take d.size).all isDig = true) :
    chk s.data.toList = if 200 < d.size then 80 else 0 := by
  unfold badB at h; rw [hd] at h
  rw [hd, List.take_of_length_le (by rw [size_len, hd]; exact Nat.le_refl _)] at hA
  simp only [Bool.or_eq_false_iff, decide_eq_false_iff_not] at h
  rw [chk_end h.1 (by intro hh; have := h.2; simp [hh.1, hh.2] at this) hA, size_len, hd]
theorem good_chk {s d : ByteArray} (hd : d.data.toList = mag s.data.toList) (h : badB s d = false) (hA : (d.data.toList.take d.size).all isDig = true) (hz : d.size ≤ 200) : chk s.data.toList = 0 := by
  rw [good_of hd h hA, if_neg (by omega)]
theorem good_chk_over {s d : ByteArray} (hd : d.data.toList = mag s.data.toList) (h : badB s d = false) (hA : (d.data.toList.take d.size).all isDig = true) (hz : 200 < d.size) : chk s.data.toList = 80 := by
  rw [good_of hd h hA, if_pos hz]

set_option maxHeartbeats 400000 in
theorem ref_check_any (s : ByteArray) (w : World) (hs : s.size ≤ maxLen) :
    Calls Tryd.prog 23 #[.string s] w fun e w' => e = .returned (.int .i64 (chk s.data.toList)) ∧ w' = w := by
  unfold maxLen at hs
  obtain ⟨d, hd, hds⟩ : ∃ d : ByteArray, d.data.toList = mag s.data.toList ∧ d.size ≤ s.size := ⟨⟨(mag s.data.toList).toArray⟩, rfl, by
    show (mag s.data.toList).toArray.size ≤ s.data.size
    unfold mag; split <;> simp⟩
  have HD := Lib.hid hd
  clear hd
  go_enter Tryd.func23, Tryd.ntmps23
  go_upto_region 2 with fail
  go_cut [13] (fun b wx => b = .bool (negB s) ∧ wx = w)
  case first =>
    by_cases h0 : 0 < s.size
    · go_wp2
      go_meet
      exact ⟨by rw [neg_yes h0], rfl⟩
    · go_wp2
      go_meet
      exact ⟨by rw [neg_no h0], rfl⟩
  case rest =>
    obtain ⟨rfl, rfl⟩ := hcut
    go_upto_if 13 with fail
    go_cut [3] (fun v wx => v = .string d ∧ wx = wc)
    case first =>
      cases hn : negB s with
      | true =>
        have hp := negB_pos hn
        have HN := Lib.hid hn; clear hn
        go_wp2
        go_meet
        exact ⟨by rw [ext_mag HD.out HN.out], rfl⟩
      | false =>
        have HN := Lib.hid hn; clear hn
        go_wp2
        go_meet
        exact ⟨by rw [same_mag HD.out HN.out], rfl⟩
    case rest =>
      obtain ⟨rfl, rfl⟩ := hcut
      go_upto_region 4 with fail
      go_cut [26] (fun b wx => b = .bool (badB s d) ∧ wx = wc)
      case first =>
        by_cases h0 : 0 < d.size
        · have n0 := toList_ne h0
          by_cases h48 : ((d[0].toNat : Int)) = 48
          · have H := Lib.hid (bad_zero (s := s) h0 h48)
            go_wp2
            go_meet
            exact ⟨by rw [H.out]; simp [n0], rfl⟩
          · have H := Lib.hid (bad_other (s := s) h0 h48)
            go_wp2
            go_meet
            exact ⟨by rw [H.out]; simp [n0], rfl⟩
        · have n0 := toList_nil h0
          have H := Lib.hid (bad_nil (s := s) h0)
          go_wp2
          go_meet
          exact ⟨by rw [H.out], rfl⟩
      case rest =>
        obtain ⟨rfl, rfl⟩ := hcut
        cases hb : badB s d with
        | true =>
          have HB := Lib.hid hb; clear hb
          go_wp2_with fail
          go_ret
          exact ⟨ret_int (bad_chk HD.out HB.out).symm, rfl⟩
        | false =>
          have HB := Lib.hid hb; clear hb
          go_wp2_with fail
          go_loop [4] (fun i => ∃ k : Nat, k ≤ d.size ∧ i = .int .i64 k ∧ (d.data.toList.take k).all isDig = true) (fun i => d.size - (intOf i).toNat)
          case atStart => exact ⟨0, by omega, rfl, by simp⟩
          case round =>
            obtain ⟨k, hk, rfl, hA⟩ := hrel
            have HA := Lib.hid hA
            clear hA
            by_cases hlt : k < d.size
            · by_cases hc : isDig d[k] = true
              · have hc1 : (48 : Int) ≤ d[k].toNat ∧ (d[k].toNat : Int) ≤ 57 := by
                  unfold isDig at hc; have := of_decide_eq_true hc; omega
                obtain ⟨hc1, hc2⟩ := hc1
                have HC := Lib.hid hc; clear hc
                go_wp2
                go_round
                case rel => exact ⟨k + 1, by omega, by go_num, all_take_snoc (by rw [← size_len]; exact hlt) HA.out HC.out⟩
                case measure => simp [intOf]; omega
              · have hc1 : (d[k].toNat : Int) < 48 ∨ 57 < (d[k].toNat : Int) := by
                  unfold isDig at hc; simp at hc; omega
                have HC := Lib.hid hc; clear hc
                rcases hc1 with hc1 | hc1
                all_goals
                  go_wp2
                  go_ret
                  exact ⟨ret_int (bad_dig HD.out hlt HC.out).symm, rfl⟩
            · obtain rfl : k = d.size := by omega
              by_cases h200 : 200 < (d.size : Int)
              · go_wp2
                go_ret
                exact ⟨ret_int (good_chk_over HD.out HB.out HA.out (by omega)).symm, rfl⟩
              · go_wp2
                go_ret
                exact ⟨ret_int (good_chk HD.out HB.out HA.out (by omega)).symm, rfl⟩

set_option maxHeartbeats 400000 in
theorem tidy_any (b : Bool) (A : Option Addr) (c : Nat) (ds : List Nat) (w : World) (hr : Rd w w.heap.size 3 A (ints ds)) (hc : ds.length ≤ c) (hm : c ≤ maxLen) (hd : ∀ d ∈ ds, d < 10) :
    Calls Tryd.prog 52 #[.agg #[.bool b, .slice A ds.length c]] w fun e w' =>
      (∃ A' k c', e = .returned (.agg #[.bool (b && decide (k ≠ 0)), .slice A' k c']) ∧ k ≤ c' ∧ c' ≤ maxLen ∧ ds.take k = dg 10 (vl 10 ds) ∧ k ≤ ds.length ∧ Rd w' w.heap.size 3 A' (ints (ds.take k))) ∧ Below w.heap.size w w' := by
  unfold maxLen at hm
  go_enter Tryd.func52, Tryd.ntmps52
  go_wp2_with fail
  go_loopg [] (ds.length + 1) (fun g wr => ∃ k : Nat, g = k + 1 ∧ k ≤ ds.length ∧ Blk wr w.heap.size 39 #[.bool b, .slice A k c] ∧ Blk wr (w.heap.size + 1) 39 #[.bool false, .slice none 0 0] ∧ Below w.heap.size w wr ∧ (∀ j, k ≤ j → ∀ d, ds[j]? = some d → d = 0))
  case atStart => 
    refine ⟨ds.length, rfl, Nat.le_refl _, (Blk.new _ _ _).alloc _, ?_, ((Below.refl _ _).alloc (Nat.le_refl _) _).alloc (by simp) _, fun j hj d h => ?_⟩
    · have := Blk.new (w.alloc (.cells #[.bool b, .slice A ds.length c] 39)) 39 #[.bool false, .slice none 0 0]
      simpa using this
    · rw [List.getElem?_eq_none hj] at h; cases h
  case round =>
    obtain ⟨k, hg, hk, b1, b2, hB, hz⟩ := hrel
    subst hg
    have HZ := Lib.hid hz; clear hz
    have HD := Lib.hid hd; clear hd
    have c0 := b1.cell 0
    have c1 := b1.cell 1
    have f0 := b1.frozen 0
    have f1 := b1.frozen 1
    have r0 := b2.cell 0
    have r1 := b2.cell 1
    have g0 := b2.frozen 0
    have g1 := b2.frozen 1
    simp at c0 c1 r0 r1
    have HR := Lib.hid hr; clear hr
    have HB := Lib.hid hB; clear hB
    by_cases h0 : k = 0
    · subst h0
      have H1 := Lib.hid b1; clear b1
      have H2 := Lib.hid b2; clear b2
      go_wp2
      refine bodyPost_ret (ret39 (g := w.heap.size + 1) (x := .bool false) (y := .slice A 0 c) Tryd.results52 rfl ((H2.out.far (by simp) _).store2)) rfl ⟨⟨A, 0, c, by simp, by omega, by unfold maxLen; omega, ?_, by omega, ?_⟩, ?_⟩
      · exact cut_zeros (by decide) (by omega) HD.out HZ.out (fun d _ h => absurd h (by omega))
      · exact Rd.nil_
      · exact ((HB.out.setCell (by simp) _).setCell (by simp) _).setCell (by simp) _
    · have hr' := HR.out.below HB.out
      have hlt : k - 1 < ds.length := by omega
      obtain ⟨bb, off, rfl, hbb, hcell⟩ := hr'.int hlt
      have HR' := Lib.hid hr'; clear hr'
      have H1 := Lib.hid b1; clear b1
      have H2 := Lib.hid b2; clear b2
      by_cases hd0 : ds[k - 1] = 0
      · rw [hd0] at hcell
        have HD0 := Lib.hid hd0; clear hd0
        go_wp2
        go_roundg k
        case measure => omega
        case rel =>
          refine ⟨k - 1, by omega, by omega, H1.out.set_ 1 _, H2.out.far (by simp) _, HB.out.setCell (by simp) _, fun j hj d h => ?_⟩
          by_cases hjk : j = k - 1
          · subst hjk; rw [List.getElem?_eq_getElem hlt] at h; injection h with h; rw [← h]; exact HD0.out
          · exact HZ.out j (by omega) d h
      · have hd1 : (((ds[k - 1] : Nat) : Int) == 0) = false := by rw [beq_eq_false_iff_ne]; omega
        have HD0 := Lib.hid hd0; clear hd0
        obtain ⟨y, hy⟩ : ∃ y : Nat, y = ds[k - 1] := ⟨_, rfl⟩
        rw [← hy] at hcell hd1
        have HY := Lib.hid hy; clear hy
        go_wp2
        refine bodyPost_ret (ret39 (g := w.heap.size + 1) (x := .bool b) (y := .slice (some ⟨bb, off, none⟩) k c) Tryd.results52 rfl H2.out.store2) rfl ⟨⟨some ⟨bb, off, none⟩, k, c, by simp [h0], by omega, by unfold maxLen; omega, ?_, hk, ?_⟩, ?_⟩
        · refine cut_zeros (by decide) (by omega) HD.out HZ.out (fun d h _ => ?_)
          rw [List.getElem?_eq_getElem hlt] at h; injection h with h; rw [← h]; exact HD0.out
        · rw [← ints_take]
          exact ((HR'.out.setCell (by simp) _).setCell (by simp) _).take k
        · exact (HB.out.setCell (by simp) _).setCell (by simp) _

/-- Tidy: the number of any digits, as the one form that it has. -/
theorem tidy_num (b : Bool) (A : Option Addr) (c : Nat) (ds : List Nat) (w : World) (hr : Rd w w.heap.size 3 A (ints ds)) (hc : ds.length ≤ c) (hm : c ≤ maxLen) (hd : ∀ d ∈ ds, d < 10) :
    Calls Tryd.prog 52 #[.agg #[.bool b, .slice A ds.length c]] w fun e w' => ∃ v, e = .returned v ∧ NumIs w' (sgn b (vl 10 ds)) v ∧ Below w.heap.size w w' := by
  refine (tidy_any b A c ds w hr hc hm hd).mono ?_
  rintro e w' ⟨⟨A', k, c', rfl, h1, h2, h3, h4, h5⟩, hB⟩
  refine ⟨_, rfl, ⟨A', c', ?_, ?_, h2, ?_⟩, hB⟩
  · rw [sgn_abs, sgn_neg, ← h3, List.length_take, Nat.min_eq_left h4]
    have : (k ≠ 0) ↔ vl 10 ds ≠ 0 := by
      rw [ne_eq, ne_eq, ← dg_nil (b := 10) (n := vl 10 ds) (by decide), ← h3, List.take_eq_nil_iff]
      constructor
      · intro hk h; rcases h with h | h
        · exact hk h
        · subst h; simp at h4; exact hk h4
      · intro hk h; exact hk (.inl h)
    simp [this]
  · rw [sgn_abs, ← h3, List.length_take, Nat.min_eq_left h4]; exact h1
  · rw [sgn_abs, ← h3]; exact h5.more hB.size

end Go.Proofs.YtcclclginhhlaaaDoor
