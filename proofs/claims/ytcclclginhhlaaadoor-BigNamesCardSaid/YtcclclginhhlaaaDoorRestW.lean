/- BigRest: its walk. -/
import Derived.Test.YtcclclginhhlaaaDoorWk
import Derived.Test.YtcclclginhhlaaaDoorTxtF
namespace Go.Proofs.YtcclclginhhlaaaDoor
open Go.RowKit Go.Shelf
open Pl Dig

set_option maxHeartbeats 400000 in
theorem size33 (s : ByteArray) (w : World) (_hs : s.size ≤ maxLen) (h0 : 0 < s.size) :
    Calls Tryd.prog 33 #[.string s] w fun e w' => e = .returned (.string ⟨(mag s.data.toList).toArray⟩) ∧ Below w.heap.size w w' := by
  have hnn := neg_yes h0
  have hie : s.toList.isEmpty = false := by simpa using toList_ne h0
  obtain ⟨d, hd⟩ : ∃ d : ByteArray, d.data.toList = mag s.data.toList := ⟨⟨(mag s.data.toList).toArray⟩, by simp⟩
  have hd' : (⟨(mag s.data.toList).toArray⟩ : ByteArray) = d := by apply ByteArray.ext; apply Array.ext'; rw [hd]
  rw [hd']
  cases hb : negB s with
  | true =>
    have he := ext_mag hd hb
    rw [hb] at hnn
    clear hd hd' hb
    go_enter Tryd.func33, Tryd.ntmps33
    go_wp2_with fail
    go_ret
    exact ⟨rfl, Below.refl _ _⟩
  | false =>
    have he := same_mag hd hb
    rw [hb] at hnn
    clear hd hd' hb
    subst he
    go_enter Tryd.func33, Tryd.ntmps33
    go_wp2_with fail
    go_ret
    exact ⟨rfl, Below.refl _ _⟩

/-- A number that is no longer than one that is one. -/
theorem fit_of {l : List UInt8} {z : Int} (h : chk l = 0) (hz : z.natAbs ≤ (valL l).natAbs) : (dg 10 z.natAbs).length ≤ 200 :=
  Nat.le_trans ((dg_len (b := 10) (by decide) _ _).2 (Nat.lt_of_le_of_lt hz ((dg_len (b := 10) (by decide) _ _).1 (Nat.le_refl _)))) (val_len h)
theorem fit_chk {l : List UInt8} {z : Int} (h : chk l = 0) (hz : z.natAbs ≤ (valL l).natAbs) : chk (txt z) = 0 := by
  rw [chk_txt, if_neg (by have := fit_of h hz; omega)]
theorem pair_ok {k l : List UInt8} (hk : chk k = 0) (hl : chk l = 0) : pairE k l = 0 := pairE_zero.2 ⟨hk, hl⟩
theorem chk_nonempty {l : List UInt8} (h : chk l = 0) : l ≠ [] := by rintro rfl; exact absurd h (by decide)
theorem mag_nat {z : Int} : mag (txt z) = txt (z.natAbs : Int) := by
  by_cases hz : z = 0
  · subst hz; rfl
  · rw [(mag_txt hz).1, txt_ne (by omega), if_neg (by omega)]; simp
theorem chk_mag {l : List UInt8} (h : chk l = 0) : chk (mag l) = 0 ∧ valL (mag l) = ((valL l).natAbs : Int) := by
  have e : mag l = txt ((valL l).natAbs : Int) := by rw [← mag_nat, txt_val h]
  rw [e]
  exact ⟨fit_chk h (by simp), val_txt _⟩
theorem len_chk {l : List UInt8} (h : chk l = 0) : l.length ≤ 201 := by
  obtain ⟨_, _, _, h4⟩ := chk_good h
  unfold mag at h4
  split at h4
  · rw [List.length_tail] at h4; omega
  · omega
theorem op_fits {a b : List UInt8} {l : List UInt8} {z : Int} (ha : chk a = 0) (hb : chk b = 0) (h : chk l = 0) (hz : z.natAbs ≤ (valL l).natAbs) : opOut a b z = (txt z, 0) := by
  unfold opOut txtOut; rw [if_neg (by simp [pair_ok ha hb]), if_pos (fit_of h hz)]
theorem div_fits {a b : List UInt8} {l : List UInt8} {z : Int} (ha : chk a = 0) (hb : chk b = 0) (h0 : valL b ≠ 0) (h : chk l = 0) (hz : z.natAbs ≤ (valL l).natAbs) : divOut a b z = (txt z, 0) := by
  unfold divOut txtOut; rw [if_neg (by simp [pair_ok ha hb]), if_neg h0, if_pos (fit_of h hz)]

/-- What BigRest asks of the texts that it is told. -/
structure RestOf (a b Q R P : ByteArray) : Prop where
  a0 : 0 < a.size
  r0 : 0 < R.size
  la : a.size ≤ maxLen
  lb : b.size ≤ maxLen
  b0 : 0 < b.size
  lq : Q.size ≤ maxLen
  lr : R.size ≤ maxLen
  lp : P.size ≤ maxLen
  div : divOut a.data.toList b.data.toList ((valL a.data.toList).tdiv (valL b.data.toList)) = (Q.data.toList, 0)
  mod : divOut a.data.toList b.data.toList ((valL a.data.toList).tmod (valL b.data.toList)) = (R.data.toList, 0)
  mul : opOut b.data.toList Q.data.toList (valL b.data.toList * valL Q.data.toList) = (P.data.toList, 0)
  add : opOut P.data.toList R.data.toList (valL P.data.toList + valL R.data.toList) = (a.data.toList, 0)
  sign : R.data.toList = [48] ∨ negB R = negB a
  lm : (⟨(mag R.data.toList).toArray⟩ : ByteArray).size ≤ maxLen
  ln : (⟨(mag b.data.toList).toArray⟩ : ByteArray).size ≤ maxLen
  pair : pairE (mag R.data.toList) (mag b.data.toList) = 0
  less : cz (mag R.data.toList) (mag b.data.toList) = -1

theorem mul_tdiv_le (x y : Int) : (y * x.tdiv y).natAbs ≤ x.natAbs := by
  rw [Int.natAbs_mul, Int.natAbs_tdiv]; exact Nat.mul_div_le _ _
theorem neg_of_txt {z : Int} : (txt z).head? = some 45 ↔ z < 0 := by
  by_cases hz : z = 0
  · subst hz; decide
  · exact (mag_txt hz).2.1
theorem size_pos {s : ByteArray} (h : s.data.toList ≠ []) : 0 < s.size := by
  rw [size_len]; exact List.length_pos_iff.2 h
theorem size_chk {s : ByteArray} (h : chk s.data.toList = 0) : s.size ≤ maxLen := by
  rw [size_len]; have := len_chk h; unfold maxLen; omega
theorem val_ne {l : List UInt8} (h : chk l = 0) (h0 : l ≠ [48]) : valL l ≠ 0 := by
  intro hz; apply h0; rw [← txt_val h, hz]; rfl
theorem sign_tmod {x y : Int} (h : x.tmod y ≠ 0) : x.tmod y < 0 ↔ x < 0 := by
  by_cases hx : x < 0
  · refine ⟨fun _ => hx, fun _ => ?_⟩
    have : 0 ≤ (-x).tmod y := Int.tmod_nonneg _ (by omega)
    rw [Int.neg_tmod] at this; omega
  · have : 0 ≤ x.tmod y := Int.tmod_nonneg _ (by omega)
    omega
theorem rest_of {a b : ByteArray} (ha : chk a.data.toList = 0) (hb : chk b.data.toList = 0) (h0 : b.data.toList ≠ [48]) :
    ∃ Q R P, RestOf a b Q R P := by
  have hy := val_ne hb h0
  have ea := txt_val ha
  have eb := txt_val hb
  obtain ⟨z, hz⟩ : ∃ z, z = valL a.data.toList := ⟨_, rfl⟩
  obtain ⟨y, hyy⟩ : ∃ y, y = valL b.data.toList := ⟨_, rfl⟩
  have hq : (z.tdiv y).natAbs ≤ z.natAbs := by rw [Int.natAbs_tdiv]; exact Nat.div_le_self _ _
  have hr : (z.tmod y).natAbs ≤ z.natAbs := by rw [Int.natAbs_tmod]; exact Nat.mod_le _ _
  have hp := mul_tdiv_le z y
  have hs : y * z.tdiv y + z.tmod y = z := Int.mul_tdiv_add_tmod z y
  have hlt : (z.tmod y).natAbs < y.natAbs := by rw [Int.natAbs_tmod]; exact Nat.mod_lt _ (by omega)
  have hsg : z.tmod y ≠ 0 → (z.tmod y < 0 ↔ z < 0) := sign_tmod
  have cq := fit_chk (z := z.tdiv y) ha (by rw [← hz]; exact hq)
  have cr := fit_chk (z := z.tmod y) ha (by rw [← hz]; exact hr)
  have cp := fit_chk (z := y * z.tdiv y) ha (by rw [← hz]; exact hp)
  have cm := chk_mag cr
  have cn := chk_mag hb
  have nR : (txt (z.tmod y)).head? = some 45 ↔ z.tmod y < 0 := neg_of_txt
  have nA : a.data.toList.head? = some 45 ↔ z < 0 := by rw [← ea, ← hz]; exact neg_of_txt
  refine ⟨⟨(txt (z.tdiv y)).toArray⟩, ⟨(txt (z.tmod y)).toArray⟩, ⟨(txt (y * z.tdiv y)).toArray⟩, size_pos (chk_nonempty ha), size_pos (chk_nonempty cr), size_chk ha, size_chk hb, size_pos (chk_nonempty hb), size_chk cq, size_chk cr, size_chk cp, ?_, ?_, ?_, ?_, ?_, size_chk cm.1, size_chk cn.1, pair_ok cm.1 cn.1, ?_⟩
  · rw [← hz, ← hyy]; exact div_fits ha hb hy ha (by rw [← hz]; exact hq)
  · rw [← hz, ← hyy]; exact div_fits ha hb hy ha (by rw [← hz]; exact hr)
  · show opOut b.data.toList (txt (z.tdiv y)) (valL b.data.toList * valL (txt (z.tdiv y))) = _
    rw [← hyy, val_txt]
    exact op_fits hb cq ha (by rw [← hz]; exact hp)
  · show opOut (txt (y * z.tdiv y)) (txt (z.tmod y)) (valL (txt (y * z.tdiv y)) + valL (txt (z.tmod y))) = _
    rw [val_txt, val_txt, hs, op_fits cp cr ha (by rw [← hz]; exact Nat.le_refl _), hz, ea]
  · by_cases h : z.tmod y = 0
    · left; show txt (z.tmod y) = _; rw [h]; rfl
    · right
      show decide ((txt (z.tmod y)).head? = some 45) = decide (a.data.toList.head? = some 45)
      rw [decide_eq_decide, nR, nA]; exact hsg h
  · show cz (mag (txt (z.tmod y))) (mag b.data.toList) = -1
    unfold cz; rw [if_pos (pair_ok cm.1 cn.1), cm.2, cn.2, val_txt, ← hyy]
    unfold cmpI; rw [if_pos (by omega)]

theorem back_arr (Q : ByteArray) : (⟨Q.data.toList.toArray⟩ : ByteArray) = Q := by rw [Array.toArray_toList]

set_option maxRecDepth 100000 in
set_option maxHeartbeats 1000000 in
theorem rest_bad (a b : ByteArray) (w : World) (ha : a.size ≤ maxLen) (hb : b.size ≤ maxLen)
    (htab : ∀ W, Below w.heap.size w W → Lib.TabIs Tryd.prog W "internal/strconv.uint64pow10" .u64 Lib.pow10Tab)
    (h : chk a.data.toList ≠ 0 ∨ chk b.data.toList ≠ 0 ∨ b.data.toList = [48]) :
    Calls Tryd.prog 10 #[.string a, .string b] w fun e w' => e = .returned (.bool true) ∧ Below w.heap.size w w' := by
  have HT := Lib.hid htab; clear htab
  have hC := fun W => big_check a W ha
  have hD := fun W => big_check b W hb
  have hbz : (b.toList == [48]) = decide (b.data.toList = [48]) := by
    rw [Lib.toList_data, Bool.eq_iff_iff, beq_iff_eq]; simp
  clear ha hb
  by_cases h1 : chk a.data.toList = 0
  · rw [h1] at hC
    by_cases h2 : chk b.data.toList = 0
    · rw [h2] at hD
      have h3 := (h.resolve_left (fun k => k h1)).resolve_left (fun k => k h2)
      rw [decide_eq_true h3] at hbz
      clear h h1 h2 h3
      have HC := Lib.hid hC; have HD := Lib.hid hD; clear hC hD
      go_enter Tryd.func10, Tryd.ntmps10
      go_wp2_with fail
      refine (works_any _ HT.out).mono ?_
      rintro e w1 ⟨rfl, hB1⟩
      have HB1 := Lib.hid hB1; clear hB1
      go_wp2_with fail
      refine (HC.out _).mono ?_
      rintro e w2 ⟨rfl, hB2⟩
      have HB2 := Lib.hid (HB1.out.trans (hB2.mono HB1.out.size)); clear hB2
      go_wp2_with fail
      refine (HD.out _).mono ?_
      rintro e w3 ⟨rfl, hB3⟩
      have HB3 := Lib.hid (HB2.out.trans (hB3.mono HB2.out.size)); clear hB3
      go_wp2_with fail
      refine (works_any _ (tab_on HT.out HB3.out)).mono ?_
      rintro e w4 ⟨rfl, hB4⟩
      have HB4 := Lib.hid (HB3.out.trans (hB4.mono HB3.out.size)); clear hB4
      go_wp2_with fail
      go_ret
      exact ⟨rfl, HB4.out⟩
    · have hn : (chk b.data.toList != 0) = true := by simpa using h2
      generalize chk b.data.toList = kb at hn hD
      clear h h1 h2
      have HC := Lib.hid hC; have HD := Lib.hid hD; clear hC hD
      go_enter Tryd.func10, Tryd.ntmps10
      go_wp2_with fail
      refine (works_any _ HT.out).mono ?_
      rintro e w1 ⟨rfl, hB1⟩
      have HB1 := Lib.hid hB1; clear hB1
      go_wp2_with fail
      refine (HC.out _).mono ?_
      rintro e w2 ⟨rfl, hB2⟩
      have HB2 := Lib.hid (HB1.out.trans (hB2.mono HB1.out.size)); clear hB2
      go_wp2_with fail
      refine (HD.out _).mono ?_
      rintro e w3 ⟨rfl, hB3⟩
      have HB3 := Lib.hid (HB2.out.trans (hB3.mono HB2.out.size)); clear hB3
      go_wp2_with fail
      refine (works_any _ (tab_on HT.out HB3.out)).mono ?_
      rintro e w4 ⟨rfl, hB4⟩
      have HB4 := Lib.hid (HB3.out.trans (hB4.mono HB3.out.size)); clear hB4
      go_wp2_with fail
      go_ret
      exact ⟨rfl, HB4.out⟩
  · have hn : (chk a.data.toList != 0) = true := by simpa using h1
    generalize chk a.data.toList = ka at hn hC
    clear h h1
    have HC := Lib.hid hC; clear hC hD
    go_enter Tryd.func10, Tryd.ntmps10
    go_wp2_with fail
    refine (works_any _ HT.out).mono ?_
    rintro e w1 ⟨rfl, hB1⟩
    have HB1 := Lib.hid hB1; clear hB1
    go_wp2_with fail
    refine (HC.out _).mono ?_
    rintro e w2 ⟨rfl, hB2⟩
    have HB2 := Lib.hid (HB1.out.trans (hB2.mono HB1.out.size)); clear hB2
    go_wp2_with fail
    refine (works_any _ (tab_on HT.out HB2.out)).mono ?_
    rintro e w4 ⟨rfl, hB4⟩
    have HB4 := Lib.hid (HB2.out.trans (hB4.mono HB2.out.size)); clear hB4
    go_wp2_with fail
    go_ret
    exact ⟨rfl, HB4.out⟩

set_option maxRecDepth 100000 in
set_option maxHeartbeats 1000000 in
theorem rest_good (a b Q R P : ByteArray) (w : World) (ha : chk a.data.toList = 0) (hb : chk b.data.toList = 0) (h0 : b.data.toList ≠ [48])
    (h : RestOf a b Q R P)
    (htab : ∀ W, Below w.heap.size w W → Lib.TabIs Tryd.prog W "internal/strconv.uint64pow10" .u64 Lib.pow10Tab) :
    Calls Tryd.prog 10 #[.string a, .string b] w fun e w' => e = .returned (.bool true) ∧ Below w.heap.size w w' := by
  have HT := Lib.hid htab; clear htab
  have hC := fun W => big_check a W h.la
  have hD := fun W => big_check b W h.lb
  rw [ha] at hC
  rw [hb] at hD
  have hbz : (b.toList == [48]) = false := by
    rw [Lib.toList_data, Bool.eq_false_iff, ne_eq, beq_iff_eq]; exact h0
  have h3 := fun W k => div_out a b W h.la h.lb k
  have h4 := fun W k => mod_out a b W h.la h.lb k
  have h5 := fun W k => mul_out b Q W h.lb h.lq k
  have h6 := fun W k => add_out P R W h.lp h.lr k
  have h7 := fun W => size33 R W h.lr h.r0
  have h8 := fun W => size33 b W h.lb h.b0
  have h9 := fun W => cmp25 ⟨(mag R.data.toList).toArray⟩ ⟨(mag b.data.toList).toArray⟩ W h.lm h.ln
  dsimp only at h3 h4 h5 h6 h7 h8 h9
  rw [h.div, back_arr] at h3
  rw [h.mod, back_arr] at h4
  rw [h.mul, back_arr] at h5
  rw [h.add, back_arr] at h6
  rw [h.pair, h.less] at h9
  generalize (⟨(mag R.data.toList).toArray⟩ : ByteArray) = mr at h7 h9
  generalize (⟨(mag b.data.toList).toArray⟩ : ByteArray) = mb at h8 h9
  have ha0 := h.a0
  have hr0 := h.r0
  have na := neg_yes ha0
  have nr := neg_yes hr0
  have hrz : (R.toList == [48]) = decide (R.data.toList = [48]) := by
    rw [Lib.toList_data, Bool.eq_iff_iff, beq_iff_eq]; simp
  have hs : (R.toList == [48]) = false → negB R = negB a := by
    intro k; rw [hrz] at k; exact h.sign.resolve_left (of_decide_eq_false k)
  clear hrz h ha hb h0
  generalize negB a = ba at na hs
  generalize negB R = br at nr hs
  have HC := Lib.hid hC; have HD := Lib.hid hD; have H3 := Lib.hid h3; have H4 := Lib.hid h4; have H5 := Lib.hid h5; have H6 := Lib.hid h6; have H7 := Lib.hid h7; have H8 := Lib.hid h8; have H9 := Lib.hid h9; have HS := Lib.hid hs
  clear hC hD h3 h4 h5 h6 h7 h8 h9 hs
  go_enter Tryd.func10, Tryd.ntmps10
  go_wp2_with fail
  refine (works_any _ HT.out).mono ?_
  rintro e w1 ⟨rfl, hB1⟩
  have HB1 := Lib.hid hB1; clear hB1
  go_wp2_with fail
  refine (HC.out _).mono ?_
  rintro e w2 ⟨rfl, hB2⟩
  have HB2 := Lib.hid (HB1.out.trans (hB2.mono HB1.out.size)); clear hB2
  go_wp2_with fail
  refine (HD.out _).mono ?_
  rintro e w3 ⟨rfl, hB3⟩
  have HB3 := Lib.hid (HB2.out.trans (hB3.mono HB2.out.size)); clear hB3
  go_wp2_with fail
  refine (H3.out _ (tab_on HT.out HB3.out)).mono ?_
  rintro e w4 ⟨rfl, hB4⟩
  have HB4 := Lib.hid (HB3.out.trans (hB4.mono HB3.out.size)); clear hB4
  go_wp2_with fail
  refine (H4.out _ (tab_on HT.out HB4.out)).mono ?_
  rintro e w5 ⟨rfl, hB5⟩
  have HB5 := Lib.hid (HB4.out.trans (hB5.mono HB4.out.size)); clear hB5
  go_wp2_with fail
  refine (H5.out _ (tab_on HT.out HB5.out)).mono ?_
  rintro e w6 ⟨rfl, hB6⟩
  have HB6 := Lib.hid (HB5.out.trans (hB6.mono HB5.out.size)); clear hB6
  go_wp2_with fail
  refine (H6.out _ (tab_on HT.out HB6.out)).mono ?_
  rintro e w7 ⟨rfl, hB7⟩
  have HB7 := Lib.hid (HB6.out.trans (hB7.mono HB6.out.size)); clear hB7
  cases hz : (R.toList == [48]) with
  | true =>
    clear HS
    go_wp2_with fail
    go_region
    go_wp2_with fail
    refine (H7.out _).mono ?_
    rintro e w8 ⟨rfl, hB8⟩
    have HB8 := Lib.hid (HB7.out.drew.trans (hB8.mono HB7.out.size)); clear hB8
    go_wp2_with fail
    refine (H8.out _).mono ?_
    rintro e w9 ⟨rfl, hB9⟩
    have HB9 := Lib.hid (HB8.out.trans (hB9.mono HB8.out.size)); clear hB9
    go_wp2_with fail
    refine (H9.out _).mono ?_
    rintro e w10 ⟨rfl, hB10⟩
    have HB10 := Lib.hid (HB9.out.trans (hB10.mono HB9.out.size)); clear hB10
    go_wp2_with fail
    go_ret
    exact ⟨rfl, HB10.out⟩
  | false =>
    have hbr := HS.out hz
    subst hbr
    clear HS
    go_wp2_with fail
    go_region
    go_wp2_with fail
    refine (H7.out _).mono ?_
    rintro e w8 ⟨rfl, hB8⟩
    have HB8 := Lib.hid (HB7.out.drew.trans (hB8.mono HB7.out.size)); clear hB8
    go_wp2_with fail
    refine (H8.out _).mono ?_
    rintro e w9 ⟨rfl, hB9⟩
    have HB9 := Lib.hid (HB8.out.trans (hB9.mono HB8.out.size)); clear hB9
    go_wp2_with fail
    refine (H9.out _).mono ?_
    rintro e w10 ⟨rfl, hB10⟩
    have HB10 := Lib.hid (HB9.out.trans (hB10.mono HB9.out.size)); clear hB10
    go_wp2_with fail
    go_ret
    exact ⟨rfl, HB10.out⟩

theorem law_rest (a b : ByteArray) (w : World) (ha : a.size ≤ maxLen) (hb : b.size ≤ maxLen)
    (htab : ∀ W, Below w.heap.size w W → Lib.TabIs Tryd.prog W "internal/strconv.uint64pow10" .u64 Lib.pow10Tab) :
    Calls Tryd.prog 10 #[.string a, .string b] w fun e w' => e = .returned (.bool true) ∧ Below w.heap.size w w' := by
  by_cases h : chk a.data.toList ≠ 0 ∨ chk b.data.toList ≠ 0 ∨ b.data.toList = [48]
  · exact rest_bad a b w ha hb htab h
  · have h1 : chk a.data.toList = 0 := Decidable.byContradiction fun k => h (.inl k)
    have h2 : chk b.data.toList = 0 := Decidable.byContradiction fun k => h (.inr (.inl k))
    have h3 : b.data.toList ≠ [48] := fun k => h (.inr (.inr k))
    obtain ⟨Q, R, P, hR⟩ := rest_of h1 h2 h3
    exact rest_good a b Q R P w h1 h2 h3 hR htab
end Go.Proofs.YtcclclginhhlaaaDoor
