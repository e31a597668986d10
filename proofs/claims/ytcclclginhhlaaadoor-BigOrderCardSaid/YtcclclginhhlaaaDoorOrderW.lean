/- BigOrder: its walk. -/
import Derived.Test.YtcclclginhhlaaaDoorRingW
import Derived.Sort.Walk0
namespace Go.Proofs.YtcclclginhhlaaaDoor
open Go.RowKit Go.Shelf
open Pl Dig

/-- A text of digits as a number. -/
def M (l : List UInt8) : Nat := vl 10 (l.reverse.map dig)
theorem M_cons (c : UInt8) (r : List UInt8) : M (c :: r) = M r + 10 ^ r.length * dig c := by
  unfold M
  rw [List.reverse_cons, List.map_append, List.map_cons, List.map_nil, vl_append]
  simp [vl]
theorem M_lt {r : List UInt8} (h : ∀ c ∈ r, isDig c = true) : M r < 10 ^ r.length := by
  have := vl_lt 10 (r.reverse.map dig) (fun d hd => by
    simp only [List.mem_map, List.mem_reverse] at hd
    obtain ⟨x, hx, rfl⟩ := hd
    have := of_decide_eq_true (h x hx)
    unfold dig; omega)
  simpa [M] using this
theorem dig_toNat {c : UInt8} (h : isDig c = true) : c.toNat = 48 + dig c ∧ dig c < 10 := by
  have := of_decide_eq_true h
  unfold dig; omega
theorem lex : ∀ (l k : List UInt8), l.length = k.length → (∀ c ∈ l, isDig c = true) → (∀ c ∈ k, isDig c = true) → (l < k ↔ M l < M k) ∧ (M l = M k → l = k)
  | [], [], _, _, _ => by simp
  | c :: r, d :: s, hl, h1, h2 => by
    have hl' : r.length = s.length := by simpa using hl
    obtain ⟨i1, i2⟩ := lex r s hl' (fun c hc => h1 c (by simp [hc])) (fun c hc => h2 c (by simp [hc]))
    have hr := M_lt (r := r) (fun c hc => h1 c (by simp [hc]))
    have hs := M_lt (r := s) (fun c hc => h2 c (by simp [hc]))
    obtain ⟨c1, c2⟩ := dig_toNat (h1 c (by simp))
    obtain ⟨d1, d2⟩ := dig_toNat (h2 d (by simp))
    rw [M_cons, M_cons, hl', List.cons_lt_cons_iff, i1]
    rw [hl'] at hr
    generalize 10 ^ s.length = t at hr hs
    have hc : c < d ↔ dig c < dig d := by rw [UInt8.lt_iff_toNat_lt]; omega
    have he : c = d ↔ dig c = dig d := ⟨fun h => by rw [h], fun h => UInt8.toNat.inj (by omega)⟩
    rw [hc, he]
    rcases Nat.lt_trichotomy (dig c) (dig d) with h | h | h
    · have : t * dig c + t ≤ t * dig d := by rw [← Nat.mul_succ]; exact Nat.mul_le_mul_left _ h
      refine ⟨⟨fun _ => by omega, fun _ => .inl h⟩, fun e => by omega⟩
    · rw [h]
      refine ⟨⟨fun k => by rcases k with k | ⟨_, k⟩ <;> omega, fun k => .inr ⟨rfl, by omega⟩⟩, fun e => ?_⟩
      rw [he.2 h, i2 (by omega)]
    · have : t * dig d + t ≤ t * dig c := by rw [← Nat.mul_succ]; exact Nat.mul_le_mul_left _ h
      refine ⟨⟨fun k => by rcases k with k | ⟨k, _⟩ <;> omega, fun k => by omega⟩, fun e => by omega⟩

theorem mag_M {l : List UInt8} : M (mag l) = (valL l).natAbs := by unfold valL; rw [sgn_abs]; rfl
theorem mag_len {l : List UInt8} (h : chk l = 0) : (mag l).length = max 1 (dg 10 (valL l).natAbs).length := by
  by_cases hz : valL l = 0
  · have e : l = [48] := by rw [← txt_val h, hz]; rfl
    rw [e]; decide
  · have e : mag l = bodyT (valL l).natAbs := by rw [← (mag_txt hz).1, txt_val h]
    have hp : (dg 10 (valL l).natAbs).length ≠ 0 := fun k => by
      have := (dg_nil (b := 10) (by decide)).1 (List.length_eq_zero_iff.1 k)
      omega
    rw [e, body_len]; omega
theorem dg_mono10 {m n : Nat} (h : m ≤ n) : (dg 10 m).length ≤ (dg 10 n).length :=
  (dg_len (by decide) m _).2 (Nat.lt_of_le_of_lt h ((dg_len (by decide) n _).1 (Nat.le_refl _)))
theorem mag_dig {l : List UInt8} (h : chk l = 0) : ∀ c ∈ mag l, isDig c = true := by
  have := (chk_good h).2.2.1
  rwa [List.all_eq_true] at this
/-- What BigOrder wants of two numbers' sizes. -/
def wantL (p q : List UInt8) : Int := if p.length < q.length ∨ p.length = q.length ∧ p < q then -1 else if p ≠ q then 1 else 0
theorem cmp_lt {x y : Nat} (h : x < y) : cmpI (x : Int) (y : Int) = -1 := by unfold cmpI; rw [if_pos (by omega)]
theorem cmp_gt {x y : Nat} (h : y < x) : cmpI (x : Int) (y : Int) = 1 := by
  unfold cmpI
  have h1 : ¬ ((x : Int) < (y : Int)) := by omega
  have h2 : (y : Int) < (x : Int) := by omega
  rw [if_neg h1, if_pos h2]
theorem cmp_eqI {x : Nat} : cmpI (x : Int) (x : Int) = 0 := by unfold cmpI; simp
theorem want_gt {p q : List UInt8} (h1 : ¬ (p.length < q.length ∨ p.length = q.length ∧ p < q)) (h2 : p ≠ q) : wantL p q = 1 := by
  unfold wantL; rw [if_neg h1, if_pos h2]
theorem want_mag {k l : List UInt8} (hk : chk k = 0) (hl : chk l = 0) : wantL (mag k) (mag l) = cmpI ((valL k).natAbs : Int) ((valL l).natAbs : Int) := by
  have k1 := mag_M (l := k); have l1 := mag_M (l := l)
  have k2 := mag_len hk; have l2 := mag_len hl
  rcases Nat.lt_trichotomy (mag k).length (mag l).length with h | h | h
  · have hlt : (valL k).natAbs < (valL l).natAbs := Nat.lt_of_not_le fun c => by
      have := dg_mono10 c; omega
    rw [cmp_lt hlt]; unfold wantL; rw [if_pos (.inl h)]
  · obtain ⟨e1, e2⟩ := lex (mag k) (mag l) h (mag_dig hk) (mag_dig hl)
    rw [k1, l1] at e1 e2
    by_cases hlt : mag k < mag l
    · rw [cmp_lt (e1.1 hlt)]; unfold wantL; rw [if_pos (.inr ⟨h, hlt⟩)]
    · have hn : ¬ (valL k).natAbs < (valL l).natAbs := fun c => hlt (e1.2 c)
      have hw : ¬ ((mag k).length < (mag l).length ∨ (mag k).length = (mag l).length ∧ mag k < mag l) := by
        rintro (c | c)
        · omega
        · exact hlt c.2
      by_cases he : mag k = mag l
      · have e : (valL k).natAbs = (valL l).natAbs := by rw [← k1, ← l1, he]
        rw [e, cmp_eqI]; unfold wantL; rw [if_neg hw, if_neg (fun c => c he)]
      · have e : (valL k).natAbs ≠ (valL l).natAbs := fun c => he (e2 c)
        rw [cmp_gt (by omega), want_gt hw he]
  · have hgt : (valL l).natAbs < (valL k).natAbs := Nat.lt_of_not_le fun c => by
      have := dg_mono10 c; omega
    have hw : ¬ ((mag k).length < (mag l).length ∨ (mag k).length = (mag l).length ∧ mag k < mag l) := by
      rintro (c | c)
      · omega
      · omega
    rw [cmp_gt hgt, want_gt hw (fun c => by rw [c] at h; omega)]
theorem neg_val {s : ByteArray} (h : chk s.data.toList = 0) : negB s = decide (valL s.data.toList < 0) := by
  unfold negB
  rw [decide_eq_decide, ← neg_of_txt, txt_val h]
/-- The order of two numbers, told by their signs and sizes. -/
theorem cmp_sign (x y : Int) : cmpI x y = if x < 0 ∧ ¬ y < 0 then -1 else if y < 0 ∧ ¬ x < 0 then 1 else if x < 0 then -cmpI (x.natAbs : Int) (y.natAbs : Int) else cmpI (x.natAbs : Int) (y.natAbs : Int) := by
  unfold cmpI
  repeat' split
  all_goals omega
theorem cmp_anti (x y : Int) : cmpI y x = -cmpI x y := by
  unfold cmpI; repeat' split
  all_goals omega
theorem cmp_zero (x y : Int) : cmpI x y = 0 ↔ x = y := by
  unfold cmpI; repeat' split
  all_goals omega
theorem cmp_add (x y z : Int) : cmpI (x + z) (y + z) = cmpI x y := by
  unfold cmpI; repeat' split
  all_goals omega
theorem cmp_three (x y z : Int) : (cmpI x y = -1 ∧ cmpI y z ≠ 1 ∧ cmpI x z = -1) ∨ (cmpI x y = -1 ∧ cmpI y z = 1) ∨ (cmpI x y = 0 ∧ cmpI y z = cmpI x z) ∨ (cmpI x y = 1) := by
  unfold cmpI; repeat' split
  all_goals omega
theorem cmp_is (x y : Int) : cmpI x y = -1 ∨ cmpI x y = 0 ∨ cmpI x y = 1 := by
  unfold cmpI; repeat' split
  all_goals omega

set_option maxRecDepth 100000 in
set_option maxHeartbeats 2000000 in
theorem order_bad1 (a b c : ByteArray) (w : World) (k : Int) (hk : (k != 0) = true) (ca : Tells 13 #[.string a] (.int .i64 k))
    (htab : ∀ W, Below w.heap.size w W → Lib.TabIs Tryd.prog W "internal/strconv.uint64pow10" .u64 Lib.pow10Tab) :
    Calls Tryd.prog 11 #[.string a, .string b, .string c] w fun e w' => e = .returned (.bool true) ∧ Below w.heap.size w w' := by
  have HT := Lib.hid htab; have CA := Lib.hid ca; clear htab ca
  go_enter Tryd.func11, Tryd.ntmps11
  go_wp2_with fail
  refine (works_any _ HT.out).mono ?_
  rintro e w1 ⟨rfl, hB1⟩
  have HB1 := Lib.hid hB1; clear hB1
  go_wp2_with fail
  refine (CA.out _).mono ?_
  rintro e w2 ⟨rfl, hB2⟩
  have HB2 := Lib.hid (HB1.out.trans (hB2.mono HB1.out.size)); clear hB2
  go_wp2_with fail
  refine (works_any _ (tab_on HT.out HB2.out)).mono ?_
  rintro e w3 ⟨rfl, hB3⟩
  have HB3 := Lib.hid (HB2.out.trans (hB3.mono HB2.out.size)); clear hB3
  go_wp2_with fail
  go_ret
  exact ⟨rfl, HB3.out⟩

set_option maxRecDepth 100000 in
set_option maxHeartbeats 2000000 in
theorem order_bad2 (a b c : ByteArray) (w : World) (k : Int) (hk : (k != 0) = true) (ca : Tells 13 #[.string a] (.int .i64 0)) (cb : Tells 13 #[.string b] (.int .i64 k))
    (htab : ∀ W, Below w.heap.size w W → Lib.TabIs Tryd.prog W "internal/strconv.uint64pow10" .u64 Lib.pow10Tab) :
    Calls Tryd.prog 11 #[.string a, .string b, .string c] w fun e w' => e = .returned (.bool true) ∧ Below w.heap.size w w' := by
  have HT := Lib.hid htab; have CA := Lib.hid ca; have CB := Lib.hid cb; clear htab ca cb
  go_enter Tryd.func11, Tryd.ntmps11
  go_wp2_with fail
  refine (works_any _ HT.out).mono ?_
  rintro e w1 ⟨rfl, hB1⟩
  have HB1 := Lib.hid hB1; clear hB1
  go_wp2_with fail
  refine (CA.out _).mono ?_
  rintro e w2 ⟨rfl, hB2⟩
  have HB2 := Lib.hid (HB1.out.trans (hB2.mono HB1.out.size)); clear hB2
  go_wp2_with fail
  refine (CB.out _).mono ?_
  rintro e w3 ⟨rfl, hB3⟩
  have HB3 := Lib.hid (HB2.out.trans (hB3.mono HB2.out.size)); clear hB3
  go_wp2_with fail
  refine (works_any _ (tab_on HT.out HB3.out)).mono ?_
  rintro e w4 ⟨rfl, hB4⟩
  have HB4 := Lib.hid (HB3.out.trans (hB4.mono HB3.out.size)); clear hB4
  go_wp2_with fail
  go_ret
  exact ⟨rfl, HB4.out⟩

set_option maxRecDepth 100000 in
set_option maxHeartbeats 2000000 in
theorem order_bad3 (a b c : ByteArray) (w : World) (k : Int) (hk : (k != 0) = true) (ca : Tells 13 #[.string a] (.int .i64 0)) (cb : Tells 13 #[.string b] (.int .i64 0)) (cc : Tells 13 #[.string c] (.int .i64 k))
    (htab : ∀ W, Below w.heap.size w W → Lib.TabIs Tryd.prog W "internal/strconv.uint64pow10" .u64 Lib.pow10Tab) :
    Calls Tryd.prog 11 #[.string a, .string b, .string c] w fun e w' => e = .returned (.bool true) ∧ Below w.heap.size w w' := by
  have HT := Lib.hid htab; have CA := Lib.hid ca; have CB := Lib.hid cb; have CC := Lib.hid cc; clear htab ca cb cc
  go_enter Tryd.func11, Tryd.ntmps11
  go_wp2_with fail
  refine (works_any _ HT.out).mono ?_
  rintro e w1 ⟨rfl, hB1⟩
  have HB1 := Lib.hid hB1; clear hB1
  go_wp2_with fail
  refine (CA.out _).mono ?_
  rintro e w2 ⟨rfl, hB2⟩
  have HB2 := Lib.hid (HB1.out.trans (hB2.mono HB1.out.size)); clear hB2
  go_wp2_with fail
  refine (CB.out _).mono ?_
  rintro e w3 ⟨rfl, hB3⟩
  have HB3 := Lib.hid (HB2.out.trans (hB3.mono HB2.out.size)); clear hB3
  go_wp2_with fail
  refine (CC.out _).mono ?_
  rintro e w4 ⟨rfl, hB4⟩
  have HB4 := Lib.hid (HB3.out.trans (hB4.mono HB3.out.size)); clear hB4
  go_wp2_with fail
  refine (works_any _ (tab_on HT.out HB4.out)).mono ?_
  rintro e w5 ⟨rfl, hB5⟩
  have HB5 := Lib.hid (HB4.out.trans (hB5.mono HB4.out.size)); clear hB5
  go_wp2_with fail
  go_ret
  exact ⟨rfl, HB5.out⟩

set_option maxRecDepth 100000 in
set_option maxHeartbeats 2000000 in
theorem order_good (a b c D F p q : ByteArray) (x y z e g : Int) (w : World) (na nb : Bool) (a0 : 0 < a.size) (b0 : 0 < b.size) (ka : (((a[0]).toNat : Int) == 45) = na) (kb : (((b[0]).toNat : Int) == 45) = nb)
    (hx : (x = -1 ∨ x = 0 ∨ x = 1)) (hxy : (x = -1 ∧ y ≠ 1 ∧ z = -1) ∨ (x = -1 ∧ y = 1) ∨ (x = 0 ∧ y = z) ∨ x = 1) (hy : (y = -1 ∨ y = 0 ∨ y = 1)) (hz : (z = -1 ∨ z = 0 ∨ z = 1))
    (hab : (a.toList == b.toList) = (x == 0)) (hw : x = if na = true ∧ ¬ nb = true then -1 else if nb = true ∧ ¬ na = true then 1 else if na = true then -wantL p.data.toList q.data.toList else wantL p.data.toList q.data.toList)
    (ca : Tells 13 #[.string a] (.int .i64 0))
    (cb : Tells 13 #[.string b] (.int .i64 0))
    (cc : Tells 13 #[.string c] (.int .i64 0))
    (h1 : Tells 25 #[.string a, .string b] (.tuple #[.int .i64 x, .int .i64 0]))
    (h2 : Tells 25 #[.string b, .string c] (.tuple #[.int .i64 y, .int .i64 0]))
    (h3 : Tells 25 #[.string a, .string c] (.tuple #[.int .i64 z, .int .i64 0]))
    (h4 : Tells 25 #[.string b, .string a] (.tuple #[.int .i64 (-x), .int .i64 0]))
    (h5 : Says 15 #[.string a, .string c] D e)
    (h6 : Says 15 #[.string b, .string c] F g)
    (h7 : e = 0 → g = 0 → Tells 25 #[.string D, .string F] (.tuple #[.int .i64 x, .int .i64 0]))
    (h8 : Tells 33 #[.string a] (.string p))
    (h9 : Tells 33 #[.string b] (.string q))
    (htab : ∀ W, Below w.heap.size w W → Lib.TabIs Tryd.prog W "internal/strconv.uint64pow10" .u64 Lib.pow10Tab) :
    Calls Tryd.prog 11 #[.string a, .string b, .string c] w fun e w' => e = .returned (.bool true) ∧ Below w.heap.size w w' := by
  have HT := Lib.hid htab; have CA := Lib.hid ca; have CB := Lib.hid cb; have CC := Lib.hid cc; have H1 := Lib.hid h1; have H2 := Lib.hid h2; have H3 := Lib.hid h3; have H4 := Lib.hid h4; have H5 := Lib.hid h5; have H6 := Lib.hid h6; have H7 := Lib.hid h7; have H8 := Lib.hid h8; have H9 := Lib.hid h9; have HW := Lib.hid hw; have HXY := Lib.hid hxy; have HX := Lib.hid hx; have HY := Lib.hid hy; have HZ := Lib.hid hz; have HAB := Lib.hid hab; clear htab hw hxy hx hy hz hab ca cb cc h1 h2 h3 h4 h5 h6 h7 h8 h9
  go_enter Tryd.func11, Tryd.ntmps11
  go_wp2_with fail
  refine (works_any _ HT.out).mono ?_
  rintro e w1 ⟨rfl, hB1⟩
  have HB1 := Lib.hid hB1; clear hB1
  go_wp2_with fail
  refine (CA.out _).mono ?_
  rintro e w2 ⟨rfl, hB2⟩
  have HB2 := Lib.hid (HB1.out.trans (hB2.mono HB1.out.size)); clear hB2
  go_wp2_with fail
  refine (CB.out _).mono ?_
  rintro e w3 ⟨rfl, hB3⟩
  have HB3 := Lib.hid (HB2.out.trans (hB3.mono HB2.out.size)); clear hB3
  go_wp2_with fail
  refine (CC.out _).mono ?_
  rintro e w4 ⟨rfl, hB4⟩
  have HB4 := Lib.hid (HB3.out.trans (hB4.mono HB3.out.size)); clear hB4
  go_wp2_with fail
  refine (H1.out _).mono ?_
  rintro e w5 ⟨rfl, hB5⟩
  have HB5 := Lib.hid (HB4.out.trans (hB5.mono HB4.out.size)); clear hB5
  go_wp2_with fail
  refine (H2.out _).mono ?_
  rintro e w6 ⟨rfl, hB6⟩
  have HB6 := Lib.hid (HB5.out.trans (hB6.mono HB5.out.size)); clear hB6
  go_wp2_with fail
  refine (H3.out _).mono ?_
  rintro e w7 ⟨rfl, hB7⟩
  have HB7 := Lib.hid (HB6.out.trans (hB7.mono HB6.out.size)); clear hB7
  go_wp2_with fail
  refine (H4.out _).mono ?_
  rintro e w8 ⟨rfl, hB8⟩
  have HB8 := Lib.hid (HB7.out.trans (hB8.mono HB7.out.size)); clear hB8
  go_upto_region 7 with fail
  go_cut [103] (fun b wx => b = .bool false ∧ wx = w8)
  case first =>
    have hab := HAB.out
    rcases HXY.out with ⟨rfl, k, rfl⟩ | ⟨rfl, rfl⟩ | ⟨rfl, rfl⟩ | rfl
    · rcases HY.out with rfl | rfl | rfl
      · go_wp2
        go_meet
        exact ⟨rfl, rfl⟩
      · go_wp2
        go_meet
        exact ⟨rfl, rfl⟩
      · exact absurd rfl k
    · go_wp2
      go_meet
      exact ⟨rfl, rfl⟩
    · rcases HY.out with rfl | rfl | rfl
      · go_wp2
        go_meet
        exact ⟨rfl, rfl⟩
      · go_wp2
        go_meet
        exact ⟨rfl, rfl⟩
      · go_wp2
        go_meet
        exact ⟨rfl, rfl⟩
    · go_wp2
      go_meet
      exact ⟨rfl, rfl⟩
  case rest =>
    obtain ⟨rfl, rfl⟩ := hcut
    go_wp2_with fail
    refine (H5.out _ (tab_on HT.out HB8.out)).mono ?_
    rintro e w9 ⟨rfl, hB9⟩
    have HB9 := Lib.hid (HB8.out.trans (hB9.mono HB8.out.size)); clear hB9
    go_wp2_with fail
    refine (H6.out _ (tab_on HT.out HB9.out)).mono ?_
    rintro e w10 ⟨rfl, hB10⟩
    have HB10 := Lib.hid (HB9.out.trans (hB10.mono HB9.out.size)); clear hB10
    obtain ⟨cb, hcb⟩ : ∃ cb : Bool, cb = ((e == 0) && (g == 0)) := ⟨_, rfl⟩
    have HCB := Lib.hid hcb; clear hcb
    go_upto_region 11 with fail
    go_cut [121] (fun b wx => b = .bool cb ∧ wx = w10)
    case first =>
      by_cases h1 : e = 0
      · by_cases h2 : g = 0
        · subst h1; subst h2
          go_wp2
          go_meet
          exact ⟨by rw [HCB.out]; rfl, rfl⟩
        · subst h1
          have h2' : (g == 0) = false := by simpa using h2
          go_wp2
          go_meet
          exact ⟨by rw [HCB.out, h2']; rfl, rfl⟩
      · have h1' : (e == 0) = false := by simpa using h1
        go_wp2
        go_meet
        exact ⟨by rw [HCB.out, h1']; rfl, rfl⟩
    case rest =>
      obtain ⟨rfl, rfl⟩ := hcut
      go_upto_if 121 with fail
      go_cut [6] (fun b wx => b = .bool false ∧ Below w.heap.size w wx)
      case first =>
        cases cb with
        | true =>
          have h12 : e = 0 ∧ g = 0 := by simpa using HCB.out.symm
          have HC7 := Lib.hid (H7.out h12.1 h12.2)
          clear h12
          go_wp2_with fail
          refine (HC7.out _).mono ?_
          rintro e w11 ⟨rfl, hB11⟩
          have HB11 := Lib.hid (HB10.out.trans (hB11.mono HB10.out.size)); clear hB11
          go_wp2
          go_meet
          exact ⟨rfl, HB11.out⟩
        | false =>
          go_wp2
          go_meet
          exact ⟨rfl, HB10.out⟩
      case rest =>
        obtain ⟨rfl, hB12⟩ := hcut
        have HB12 := Lib.hid hB12; clear hB12
        go_wp2_with fail
        refine (H8.out _).mono ?_
        rintro e w13 ⟨rfl, hB13⟩
        have HB13 := Lib.hid (HB12.out.trans (hB13.mono HB12.out.size)); clear hB13
        go_wp2_with fail
        refine (H9.out _).mono ?_
        rintro e w14 ⟨rfl, hB14⟩
        have HB14 := Lib.hid (HB13.out.trans (hB14.mono HB13.out.size)); clear hB14
        obtain ⟨lb, hlb⟩ : ∃ lb : Bool, lb = decide (p.data.toList.length < q.data.toList.length ∨ p.data.toList.length = q.data.toList.length ∧ p.data.toList < q.data.toList) := ⟨_, rfl⟩
        have HLB := Lib.hid hlb; clear hlb
        go_upto_region 18 with fail
        go_cut [151] (fun b wx => b = .bool lb ∧ wx = w14)
        case first =>
          have hlp : p.data.toList.length = p.size := (size_len p).symm
          have hlq : q.data.toList.length = q.size := (size_len q).symm
          rcases Nat.lt_trichotomy p.size q.size with h | h | h
          · have h' : (p.size : Int) < q.size := by omega
            have hW : lb = true := by rw [HLB.out]; exact decide_eq_true (.inl (by omega))
            subst hW
            clear hlp hlq h
            go_wp2
            go_meet
            exact ⟨rfl, rfl⟩
          · have hW : lb = decide (p.data.toList < q.data.toList) := by
              rw [HLB.out, decide_eq_decide]
              refine ⟨fun k => ?_, fun k => .inr ⟨by omega, k⟩⟩
              rcases k with k | k
              · omega
              · exact k.2
            have h1 : ¬ ((p.size : Int) < q.size) := by omega
            have h2 : ((p.size : Int) == q.size) = true := by simp [h]
            clear hlp hlq
            go_wp2
            go_meet
            exact ⟨by rw [hW, bytesLess_eq, Lib.toList_data, Lib.toList_data], rfl⟩
          · have h1 : ¬ ((p.size : Int) < q.size) := by omega
            have h2 : ((p.size : Int) == q.size) = false := by rw [beq_eq_false_iff_ne]; omega
            have hW : lb = false := by
              rw [HLB.out]; apply decide_eq_false; rintro (k | k)
              · omega
              · omega
            subst hW
            clear hlp hlq h
            go_wp2
            go_meet
            exact ⟨rfl, rfl⟩
        case rest =>
          obtain ⟨rfl, rfl⟩ := hcut
          obtain ⟨W, hWd⟩ : ∃ W, W = wantL p.data.toList q.data.toList := ⟨_, rfl⟩
          go_upto_if 151 with fail
          go_cut [21] (fun v wx => v = .int .i64 W ∧ wx = wc)
          case first =>
            cases lb with
            | true =>
              have k := of_decide_eq_true HLB.out.symm
              have hW : W = -1 := by rw [hWd]; unfold wantL; rw [if_pos k]
              subst hW
              clear k hWd
              go_wp2
              go_meet
              exact ⟨rfl, rfl⟩
            | false =>
              have k := of_decide_eq_false HLB.out.symm
              by_cases h : p.data.toList = q.data.toList
              · have hW : W = 0 := by rw [hWd]; unfold wantL; rw [if_neg k, if_neg (fun c => c h)]
                subst hW
                have e : p = q := ByteArray.ext (Array.ext' h)
                subst e
                clear k hWd h
                go_wp2
                go_meet
                exact ⟨rfl, rfl⟩
              · have hW : W = 1 := by rw [hWd]; unfold wantL; rw [if_neg k, if_pos h]
                subst hW
                have e : (p.toList == q.toList) = false := by rw [Lib.toList_data, Lib.toList_data, beq_eq_false_iff_ne]; exact h
                clear k hWd h
                go_wp2
                go_meet
                exact ⟨rfl, rfl⟩
          case rest =>
            obtain ⟨rfl, rfl⟩ := hcut
            rw [← hWd] at HW
            have hW3 : W = -1 ∨ W = 0 ∨ W = 1 := by
              rw [hWd]; unfold wantL; split
              · exact .inl rfl
              · split
                · exact .inr (.inr rfl)
                · exact .inr (.inl rfl)
            clear hWd
            have hx := HW.out
            clear HW HXY HX HY HZ HAB
            rcases hW3 with rfl | rfl | rfl <;> cases na <;> cases nb <;> simp at hx <;> subst hx
            all_goals
              go_wp2_with fail
              go_ret
              exact ⟨rfl, HB14.out⟩


theorem tells_cmp {a b : ByteArray} (ha : chk a.data.toList = 0) (hb : chk b.data.toList = 0) :
    Tells 25 #[.string a, .string b] (.tuple #[.int .i64 (cmpI (valL a.data.toList) (valL b.data.toList)), .int .i64 0]) := by
  intro w
  have := cmp25 a b w (size_chk ha) (size_chk hb)
  unfold cz at this
  rw [pair_ok ha hb, if_pos rfl] at this; exact this
theorem tells_size {a : ByteArray} (ha : chk a.data.toList = 0) : Tells 33 #[.string a] (.string (bT (mag a.data.toList))) :=
  fun w => size33 a w (size_chk ha) (size_pos (chk_nonempty ha))
theorem law_order (a b c : ByteArray) (w : World) (ha : a.size ≤ maxLen) (hb : b.size ≤ maxLen) (hc : c.size ≤ maxLen)
    (htab : ∀ W, Below w.heap.size w W → Lib.TabIs Tryd.prog W "internal/strconv.uint64pow10" .u64 Lib.pow10Tab) :
    Calls Tryd.prog 11 #[.string a, .string b, .string c] w fun e w' => e = .returned (.bool true) ∧ Below w.heap.size w w' := by
  by_cases ka : chk a.data.toList = 0
  · have ca := says_check ha ka
    by_cases kb : chk b.data.toList = 0
    · have cb := says_check hb kb
      by_cases kc : chk c.data.toList = 0
      · have cc := says_check hc kc
        have h1 := tells_cmp ka kb
        have h2 := tells_cmp kb kc
        have h3 := tells_cmp ka kc
        have h4 := tells_cmp kb ka
        rw [cmp_anti (valL a.data.toList) (valL b.data.toList)] at h4
        have h5 := says_add ka kc rfl
        have h6 := says_add kb kc rfl
        have h7 : (txtOut (valL a.data.toList + valL c.data.toList)).2 = 0 → (txtOut (valL b.data.toList + valL c.data.toList)).2 = 0 →
            Tells 25 #[.string (bT (txtOut (valL a.data.toList + valL c.data.toList)).1), .string (bT (txtOut (valL b.data.toList + valL c.data.toList)).1)] (.tuple #[.int .i64 (cmpI (valL a.data.toList) (valL b.data.toList)), .int .i64 0]) := by
          intro k1 k2
          obtain ⟨e1, e2⟩ := txtOut_chk k1
          obtain ⟨g1, g2⟩ := txtOut_chk k2
          have := tells_cmp (a := bT (txtOut (valL a.data.toList + valL c.data.toList)).1) (b := bT (txtOut (valL b.data.toList + valL c.data.toList)).1) e1 g1
          have E1 : valL (bT (txtOut (valL a.data.toList + valL c.data.toList)).1).data.toList = valL a.data.toList + valL c.data.toList := by
            show valL (txtOut _).1 = _; rw [e2, val_txt]
          have E2 : valL (bT (txtOut (valL b.data.toList + valL c.data.toList)).1).data.toList = valL b.data.toList + valL c.data.toList := by
            show valL (txtOut _).1 = _; rw [g2, val_txt]
          rw [E1, E2, cmp_add] at this
          exact this
        have hab : (a.toList == b.toList) = (cmpI (valL a.data.toList) (valL b.data.toList) == 0) := by
          rw [Bool.eq_iff_iff, beq_iff_eq, beq_iff_eq, cmp_zero, Lib.toList_data, Lib.toList_data]
          exact ⟨fun k => by rw [k], fun k => val_inj ka kb k⟩
        have hw := cmp_sign (valL a.data.toList) (valL b.data.toList)
        rw [← want_mag ka kb] at hw
        have a0 := size_pos (chk_nonempty ka)
        have b0 := size_pos (chk_nonempty kb)
        have na := neg_val ka
        have nb := neg_val kb
        refine order_good a b c _ _ (bT (mag a.data.toList)) (bT (mag b.data.toList)) _ _ _ _ _ w (negB a) (negB b) a0 b0 (neg_yes a0) (neg_yes b0) (cmp_is _ _) ?_ (cmp_is (valL b.data.toList) (valL c.data.toList)) (cmp_is (valL a.data.toList) (valL c.data.toList)) hab ?_ ca cb cc h1 h2 h3 h4 h5 h6 h7 (tells_size ka) (tells_size kb) htab
        · rcases cmp_three (valL a.data.toList) (valL b.data.toList) (valL c.data.toList) with k | k | k | k
          · exact .inl k
          · exact .inr (.inl k)
          · exact .inr (.inr (.inl k))
          · exact .inr (.inr (.inr k))
        · rw [na, nb]
          simp only [decide_eq_true_eq]
          exact hw
      · exact order_bad3 a b c w _ (by simpa using kc) ca cb (says_check hc rfl) htab
    · exact order_bad2 a b c w _ (by simpa using kb) ca (says_check hb rfl) htab
  · exact order_bad1 a b c w _ (by simpa using ka) (says_check ha rfl) htab

end Go.Proofs.YtcclclginhhlaaaDoor
