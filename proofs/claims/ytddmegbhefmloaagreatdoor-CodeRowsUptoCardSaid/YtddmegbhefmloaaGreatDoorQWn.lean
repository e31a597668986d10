/- The document's own answers of layer 2: the walk over Bigs. -/
import Derived.Test.YtddmegbhefmloaaGreatDoorQWm
namespace Go.Proofs.YtddmegbhefmloaaGreatDoor
open Go.RowKit Vp Pl
open Go
attribute [local go_sem] Oper.semAt_some

/-- Digits by their length, then byte by byte. -/
def byLen (s s' : ByteArray) : Int := if s.size = s'.size then Lib.compareBytes s.data.toList s'.data.toList else cmpI (s.size : Int) (s'.size : Int)
set_option maxHeartbeats 1000000 in
theorem bigs_pos (s s' : ByteArray) (hs : s.size ≤ maxLen) (hs' : s'.size ≤ maxLen) (h0 : 0 < s.size) (h0' : 0 < s'.size) (hn : negB s = false) (hn' : negB s' = false) (w : World) :
    Calls Tryz.prog 104 #[.string s, .string s'] w fun e w' => e = .returned (.int .i64 (byLen s s')) ∧ Below w.heap.size w w' := by
  have hmax : maxLen = 9223372036854775807 := rfl
  obtain ⟨q, hq⟩ : ∃ q, q = byLen s s' := ⟨_, rfl⟩
  rw [← hq]
  unfold byLen at hq
  have g : ((s[0].toNat : Int) == 45) = false := by rw [neg_byte h0] at hn; simpa using of_decide_eq_false hn
  have g' : ((s'[0].toNat : Int) == 45) = false := by rw [neg_byte h0'] at hn'; simpa using of_decide_eq_false hn'
  clear hn hn'
  by_cases hl : s.size = s'.size
  · rw [if_pos hl] at hq
    have HC := Lib.hid (fun W => texts_c s s' hs hs' W)
    rw [← hq] at HC
    have hlz : ((s.size : Int) != (s'.size : Int)) = false := by simp [hl]
    have HL := Lib.hid hl
    clear hq hl
    go_enter Tryz.func104, Tryz.ntmps104
    go_upto_region 1 with fail
    go_region
    all_goals
      go_wp2_with (go_at_call 105; refine (HC.out _).mono ?_; rintro e w3 ⟨rfl, hb3⟩; have HB3 := Lib.hid hb3; clear hb3)
      go_ret
      exact ⟨rfl, (Below.refl _ _).drew.trans (HB3.out.mono (Nat.le_refl _))⟩
  · rw [if_neg hl] at hq
    have HC := Lib.hid (fun W => ints_c (s.size : Int) (s'.size : Int) W)
    rw [← hq] at HC
    have hlz : ((s.size : Int) != (s'.size : Int)) = true := by simp; omega
    clear hq hl
    go_enter Tryz.func104, Tryz.ntmps104
    go_upto_region 1 with fail
    go_region
    all_goals
      go_wp2_with (go_at_call 103; refine (HC.out _).mono ?_; rintro e w3 ⟨rfl, hb3⟩; have HB3 := Lib.hid hb3; clear hb3)
      go_ret
      exact ⟨rfl, (Below.refl _ _).drew.trans (HB3.out.mono (Nat.le_refl _))⟩

/-- How two numbers' texts stand, by their signs and digits. -/
def bySign (s s' : ByteArray) : Int :=
  if negB s = negB s' then (if negB s then byLen (s'.extract 1 s'.size) (s.extract 1 s.size) else byLen s s') else if negB s then -1 else 1
theorem tail_pos {s : ByteArray} (h : chk s.data.toList = 0) (hn : negB s = true) : 0 < (s.extract 1 s.size).size ∧ negB (s.extract 1 s.size) = false := by
  obtain ⟨h1, _, h3, _⟩ := chk_good h
  rw [← ext_data hn] at h1 h3
  generalize s.extract 1 s.size = d at h1 h3
  have hp : 0 < d.size := by
    rcases Nat.eq_zero_or_pos d.size with h0 | h0
    · exact absurd (size_zero h0) h1
    · exact h0
  refine ⟨hp, ?_⟩
  rw [neg_byte hp]
  have := List.all_eq_true.1 h3 d[0] (List.mem_iff_getElem.2 ⟨0, by rw [← size_len]; exact hp, rfl⟩)
  unfold isDig at this
  have := of_decide_eq_true this
  exact decide_eq_false (by omega)
set_option maxHeartbeats 1000000 in
theorem bigs_any (s s' : ByteArray) (hc : chk s.data.toList = 0) (hc' : chk s'.data.toList = 0) (w : World) :
    Calls Tryz.prog 104 #[.string s, .string s'] w fun e w' => e = .returned (.int .i64 (bySign s s')) ∧ Below w.heap.size w w' := by
  have hmax : maxLen = 9223372036854775807 := rfl
  obtain ⟨z1, z2⟩ := good_size hc
  obtain ⟨z1', z2'⟩ := good_size hc'
  obtain ⟨q, hq⟩ : ∃ q, q = bySign s s' := ⟨_, rfl⟩
  rw [← hq]
  unfold bySign at hq
  cases hn : negB s with
  | false =>
    cases hn' : negB s' with
    | false =>
      rw [hn, hn'] at hq
      rw [hq]
      exact bigs_pos s s' (by omega) (by omega) z2 z2' hn hn' w
    | true =>
      rw [hn, hn'] at hq
      have hq1 : q = 1 := hq
      subst hq1
      have g : ((s[0].toNat : Int) == 45) = false := by rw [neg_byte z2] at hn; simpa using of_decide_eq_false hn
      have g' : (s'[0].toNat : Int) = 45 := by rw [neg_byte z2'] at hn'; exact of_decide_eq_true hn'
      clear hn hn' hq hc hc'
      go_enter Tryz.func104, Tryz.ntmps104
      go_upto_region 1 with fail
      go_region
      all_goals
        go_wp2_with fail
        go_ret
        exact ⟨rfl, (Below.refl _ _).drew⟩
  | true =>
    cases hn' : negB s' with
    | false =>
      rw [hn, hn'] at hq
      have hq1 : q = -1 := hq
      subst hq1
      have g : (s[0].toNat : Int) = 45 := by rw [neg_byte z2] at hn; exact of_decide_eq_true hn
      have g' : ((s'[0].toNat : Int) == 45) = false := by rw [neg_byte z2'] at hn'; simpa using of_decide_eq_false hn'
      clear hn hn' hq hc hc'
      go_enter Tryz.func104, Tryz.ntmps104
      go_upto_region 1 with fail
      go_region
      all_goals
        go_wp2_with fail
        go_ret
        exact ⟨rfl, (Below.refl _ _).drew⟩
    | true =>
      rw [hn, hn'] at hq
      have hq1 : q = byLen (s'.extract 1 s'.size) (s.extract 1 s.size) := hq
      obtain ⟨t1, t2⟩ := tail_pos hc hn
      obtain ⟨t1', t2'⟩ := tail_pos hc' hn'
      have e1 := ext_size s; have e2 := ext_size s'
      obtain ⟨d, hd⟩ : ∃ d, s.extract 1 s.size = d := ⟨_, rfl⟩
      obtain ⟨d', hd'⟩ : ∃ d, s'.extract 1 s'.size = d := ⟨_, rfl⟩
      rw [hd] at hq1 t1 t2 e1
      rw [hd'] at hq1 t1' t2' e2
      have HC := Lib.hid (fun W => bigs_pos d' d (by omega) (by omega) t1' t1 t2' t2 W)
      rw [← hq1] at HC
      have g : (s[0].toNat : Int) = 45 := by rw [neg_byte z2] at hn; exact of_decide_eq_true hn
      have g' : (s'[0].toNat : Int) = 45 := by rw [neg_byte z2'] at hn'; exact of_decide_eq_true hn'
      have i1 : (1 : Int) ≤ (s.size : Int) := by omega
      have i2 : (1 : Int) ≤ (s'.size : Int) := by omega
      clear hn hn' hq hc hc' hq1 t1 t2 t1' t2' e1 e2
      go_enter Tryz.func104, Tryz.ntmps104
      go_upto_region 1 with fail
      go_region
      all_goals
        go_upto_region 7 with fail
        go_region_held3 (fun _ => True) (trivial)
          (first
            | (go_at_call 104; refine (HC.out _).mono ?_; rintro e w1 ⟨rfl, hb1⟩; have HB1 := Lib.hid ((Below.refl w.heap.size w).drew.drew.trans (hb1.mono (Nat.le_refl _))); clear hb1))
        all_goals
          go_wp2_with fail
          go_ret
          exact ⟨rfl, HB1.out⟩
end Go.Proofs.YtddmegbhefmloaaGreatDoor
