/- The document's own answers of layer 2: constructors' names. -/
import Derived.Test.YtddmegbhefmloaaGreatDoorQWe
namespace Go.Proofs.YtddmegbhefmloaaGreatDoor
open Go.RowKit Vp Pl
open Go
attribute [local go_sem] Oper.semAt_some

def noDot (c : UInt8) : Bool := decide (c ≠ 46)
theorem cut_append : ∀ (a b : List UInt8), a.all noDot = true → Vp.cut (a ++ 46 :: b) = some (a, b)
  | [], b, _ => by simp [Vp.cut]
  | c :: a, b, h => by
    rw [List.all_cons, Bool.and_eq_true] at h
    have hc : c ≠ 46 := of_decide_eq_true h.1
    rw [List.cons_append, Vp.cut, if_neg hc, cut_append a b h.2]; rfl
theorem cut_none : ∀ a : List UInt8, a.all noDot = true → Vp.cut a = none
  | [], _ => rfl
  | c :: a, h => by
    rw [List.all_cons, Bool.and_eq_true] at h
    have hc : c ≠ 46 := of_decide_eq_true h.1
    rw [Vp.cut, if_neg hc, cut_none a h.2]; rfl
theorem cut_at (s : ByteArray) {k : Nat} (hk : k < s.size) (h : (s.data.toList.take k).all noDot = true) (hc : s[k] = 46) : Vp.cut s.data.toList = some (s.data.toList.take k, s.data.toList.drop (k + 1)) := by
  have e : s.data.toList = s.data.toList.take k ++ 46 :: s.data.toList.drop (k + 1) := by
    rw [← hc, ← drop_at s hk, List.take_append_drop]
  have := cut_append _ (s.data.toList.drop (k + 1)) h
  rw [← e] at this; exact this
theorem names_true : cons tTrue = false := by decide
theorem names_false : cons tFalse = false := by decide

set_option maxHeartbeats 1000000 in
theorem names_c (s : ByteArray) (hs : s.size ≤ maxLen) (w : World) :
    Calls Tryz.prog 107 #[.string s] w fun e w' => e = .returned (.bool (cons s.data.toList)) ∧ Below w.heap.size w w' := by
  have hmax : maxLen = 9223372036854775807 := rfl
  obtain ⟨q, hq⟩ : ∃ q, q = cons s.data.toList := ⟨_, rfl⟩
  rw [← hq]
  have HQ := Lib.hid hq
  clear hq
  by_cases ht : s.data.toList = tTrue
  · obtain rfl : s = ⟨#[116, 114, 117, 101]⟩ := data_inj ht
    have hq0 : q = false := by rw [HQ.out]; decide
    subst hq0
    clear ht hs
    go_enter Tryz.func107, Tryz.ntmps107
    go_wp2_with fail
    go_ret
    exact ⟨rfl, Below.refl _ _⟩
  by_cases hf : s.data.toList = tFalse
  · obtain rfl : s = ⟨#[102, 97, 108, 115, 101]⟩ := data_inj hf
    have hq0 : q = false := by rw [HQ.out]; decide
    subst hq0
    clear ht hs hf
    go_enter Tryz.func107, Tryz.ntmps107
    go_wp2_with fail
    go_ret
    exact ⟨rfl, Below.refl _ _⟩
  have ht' : (s.toList == [116, 114, 117, 101]) = false := by rw [Lib.toList_data, beq_eq_false_iff_ne]; exact ht
  have hf' : (s.toList == [102, 97, 108, 115, 101]) = false := by rw [Lib.toList_data, beq_eq_false_iff_ne]; exact hf
  have HT := Lib.hid ht; have HF := Lib.hid hf
  clear ht hf
  go_enter Tryz.func107, Tryz.ntmps107
  go_wp2_with fail
  go_loopg [3] (s.size + 1) (fun gg s6 wr => ∃ (kk : Nat), kk ≤ s.size ∧ gg = s.size + 1 - kk ∧ s6 = .int .i64 (kk : Int) ∧ Below w.heap.size w wr ∧ (s.data.toList.take kk).all noDot = true)
  case atStart => exact ⟨0, Nat.zero_le _, by omega, rfl, Below.refl _ _, by simp⟩
  case round =>
    obtain ⟨kk, hk1, hg, rfl, hB, hA⟩ := hrel
    have HB := Lib.hid hB; have HG := Lib.hid hg; have HA := Lib.hid hA
    clear hB hg hA
    by_cases h1 : kk < s.size
    · have h1z : (kk : Int) < (s.size : Int) := by omega
      by_cases hd : (s[kk].toNat : Int) = 46
      · have hdot : s[kk] = 46 := UInt8.toNat_inj.1 (by show _ = 46; omega)
        have hcut := cut_at s h1 HA.out hdot
        obtain ⟨m, hm⟩ : ∃ m, s.extract 0 kk = m := ⟨_, rfl⟩
        obtain ⟨o, ho⟩ : ∃ o, s.extract (kk + 1) s.size = o := ⟨_, rfl⟩
        have hm2 : m.data.toList = s.data.toList.take kk := by rw [← hm, Lib.extract_data]; simp
        have ho2 : o.data.toList = s.data.toList.drop (kk + 1) := by
          rw [← ho, Lib.extract_data, List.take_of_length_le]; rw [size_len]; simp
        have hms : m.size ≤ maxLen := by rw [size_len, hm2]; simp; omega
        have hos : o.size ≤ maxLen := by rw [size_len, ho2]; simp; omega
        have hcons : cons s.data.toList = (name m.data.toList && name o.data.toList) := by unfold cons; rw [hcut, hm2, ho2]
        have HM := Lib.hid (fun W => name_c m hms W); have HO := Lib.hid (fun W => name_c o hos W)
        obtain ⟨z1, hz1⟩ : ∃ z, name m.data.toList = z := ⟨_, rfl⟩
        obtain ⟨z2, hz2⟩ : ∃ z, name o.data.toList = z := ⟨_, rfl⟩
        rw [hz1] at HM hcons
        rw [hz2] at HO hcons
        rw [hcons] at HQ
        clear hm2 ho2 hms hos hcons hcut hz1 hz2 hdot
        cases z1 with
        | false =>
          have hq0 : q = false := HQ.out
          subst hq0
          go_wp2_with (go_at_call 129; refine (HM.out _).mono ?_; rintro e w1 ⟨rfl, hb1⟩; have HB1 := Lib.hid (HB.out.trans (hb1.mono HB.out.size)); clear hb1)
          go_ret
          exact ⟨rfl, HB1.out⟩
        | true =>
          have hq0 : q = z2 := HQ.out
          subst hq0
          go_wp2_with (first
            | (have hx := HB1; clear hx; go_at_call 129; refine (HO.out _).mono ?_; rintro e w2 ⟨rfl, hb1⟩; have HB2 := Lib.hid (HB1.out.trans (hb1.mono HB1.out.size)); clear hb1)
            | (go_at_call 129; refine (HM.out _).mono ?_; rintro e w1 ⟨rfl, hb1⟩; have HB1 := Lib.hid (HB.out.trans (hb1.mono HB.out.size)); clear hb1))
          go_ret
          exact ⟨rfl, HB2.out⟩
      · have hnd : noDot s[kk] = true := decide_eq_true fun e => hd (by rw [e]; rfl)
        have HN := Lib.hid hnd
        clear hnd
        go_wp2_with fail
        go_roundg (s.size + 1 - (kk + 1))
        case measure => have := HG.out; omega
        case rel => exact ⟨kk + 1, by omega, rfl, by go_num, HB.out, all_take_snoc (by rw [← size_len]; exact h1) HA.out HN.out⟩
    · have h1z : ¬ (kk : Int) < (s.size : Int) := by omega
      obtain rfl : kk = s.size := by omega
      have hcut : Vp.cut s.data.toList = none := cut_none _ (by have := HA.out; rwa [List.take_of_length_le (by simp)] at this)
      have hcons : cons s.data.toList = name s.data.toList := by
        unfold cons; rw [hcut]; simp only
        rw [decide_eq_true HT.out, decide_eq_true HF.out]; simp
      have HM := Lib.hid (fun W => name_c s hs W)
      rw [← hcons, ← HQ.out] at HM
      clear hcut hcons
      go_wp2_with (go_at_call 129; refine (HM.out _).mono ?_; rintro e w1 ⟨rfl, hb1⟩; have HB1 := Lib.hid (HB.out.trans (hb1.mono HB.out.size)); clear hb1)
      go_ret
      exact ⟨rfl, HB1.out⟩

theorem digits_c (s : ByteArray) (hs : s.size ≤ maxLen) (hpos : 0 < s.size) (w : World) :
    Calls Tryz.prog 108 #[.string s] w fun e w' => e = .returned (.int .i64 ((mag s.data.toList).length : Int)) ∧ Below w.heap.size w w' := by
  have hmax : maxLen = 9223372036854775807 := rfl
  obtain ⟨q, hq⟩ : ∃ q : Int, q = ((mag s.data.toList).length : Int) := ⟨_, rfl⟩
  rw [← hq]
  have hlen : ((mag s.data.toList).length : Int) = (s.size : Int) - (if negB s then 1 else 0) := by
    rw [mag_drop, List.length_drop, ← size_len]; unfold frm; split <;> omega
  rw [hlen] at hq
  clear hlen
  by_cases hneg : (s[0].toNat : Int) = 45
  · have hnb : negB s = true := by rw [neg_byte hpos]; exact decide_eq_true hneg
    rw [hnb] at hq
    have hw0 : IntKind.i64.wrap ((s.size : Int) - 1) = q := by rw [IntWalk.i64_in _ (by omega), hq]; rfl
    clear hnb hq
    go_enter Tryz.func108, Tryz.ntmps108
    go_wp2_with fail
    go_ret
    exact ⟨rfl, Below.refl _ _⟩
  · have hnb : negB s = false := by rw [neg_byte hpos]; exact decide_eq_false hneg
    rw [hnb] at hq
    have HQ := Lib.hid (show q = (s.size : Int) by rw [hq]; simp)
    clear hnb hq
    go_enter Tryz.func108, Tryz.ntmps108
    go_wp2_with fail
    go_ret
    exact ⟨by rw [HQ.out]; rfl, Below.refl _ _⟩
end Go.Proofs.YtddmegbhefmloaaGreatDoor
