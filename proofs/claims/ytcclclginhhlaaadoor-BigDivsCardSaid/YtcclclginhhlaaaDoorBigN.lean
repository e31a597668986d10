/- The walks over package big: one part of a quotient. -/
import Derived.Test.YtcclclginhhlaaaDoorBigL
import Derived.Test.YtcclclginhhlaaaDoorBigM
namespace Go.Proofs.YtcclclginhhlaaaDoor
open Go.RowKit Go.Shelf
open Pl Dig

theorem dg_mono {m n : Nat} (h : m ≤ n) : (dg b9 m).length ≤ (dg b9 n).length :=
  (dg_len b9_two m _).2 (Nat.lt_of_le_of_lt h ((dg_len b9_two n _).1 (Nat.le_refl _)))
theorem PartP.below {w w' : World} {m : Nat} {A : Option Addr} {c : Nat} (h : PartP w m A c) (hb : Below w.heap.size w w') : PartP w' m A c := ⟨h.1, h.2.1, (h.2.2.below hb).more hb.size⟩
theorem PartP.alloc {w : World} {m : Nat} {A : Option Addr} {c : Nat} (h : PartP w m A c) (o : Obj) : PartP (w.alloc o) m A c := h.below ((Below.refl _ _).alloc (Nat.le_refl _) o)
theorem sub_parts (m n : Nat) (A B : Option Addr) (ca cb : Nat) (w : World) (hA : Rd w w.heap.size 78 A (u32s (dg b9 m))) (hB : Rd w w.heap.size 78 B (u32s (dg b9 n))) (hl : (dg b9 m).length ≤ 10000) (h : n ≤ m) :
    Calls Tryd.prog 59 #[.slice A (dg b9 m).length ca, .slice B (dg b9 n).length cb] w fun e w' => ∃ A' c', e = .returned (.slice A' (dg b9 (m - n)).length c') ∧ PartP w' (m - n) A' c' ∧ Fr w.heap.size A' ∧ Below w.heap.size w w' := by
  have := sub_any (dg b9 m) (dg b9 n) A B ca cb w hA hB (dg_lt b9_two _) (dg_lt b9_two _) hl (dg_mono h) (by rw [dg_vl b9_two, dg_vl b9_two]; exact h)
  rwa [dg_vl b9_two, dg_vl b9_two] at this
theorem add_parts (m n : Nat) (A B : Option Addr) (ca cb : Nat) (w : World) (hA : Rd w w.heap.size 78 A (u32s (dg b9 m))) (hB : Rd w w.heap.size 78 B (u32s (dg b9 n))) (hl : (dg b9 m).length ≤ 1000) (hl' : (dg b9 n).length ≤ 1000) :
    Calls Tryd.prog 57 #[.slice A (dg b9 m).length ca, .slice B (dg b9 n).length cb] w fun e w' => ∃ A' c', e = .returned (.slice A' (dg b9 (m + n)).length c') ∧ PartP w' (m + n) A' c' ∧ Below w.heap.size w w' := by
  have := add_any (dg b9 m) (dg b9 n) A B ca cb w hA hB (dg_lt b9_two _) (dg_lt b9_two _) hl hl'
  rwa [dg_vl b9_two, dg_vl b9_two] at this
theorem mul_parts (m n : Nat) (A B : Option Addr) (ca cb : Nat) (w : World) (hA : Rd w w.heap.size 78 A (u32s (dg b9 m))) (hB : Rd w w.heap.size 78 B (u32s (dg b9 n))) (hl : (dg b9 m).length ≤ 1000) (hl' : (dg b9 n).length ≤ 1000) :
    Calls Tryd.prog 60 #[.slice A (dg b9 m).length ca, .slice B (dg b9 n).length cb] w fun e w' => ∃ A' c', e = .returned (.slice A' (dg b9 (m * n)).length c') ∧ PartP w' (m * n) A' c' ∧ Below w.heap.size w w' := by
  have := mul_any (dg b9 m) (dg b9 n) A B ca cb w hA hB (dg_lt b9_two _) (dg_lt b9_two _) hl hl'
  rwa [dg_vl b9_two, dg_vl b9_two] at this
theorem one_rd (w : World) (g : Nat) : Rd (w.alloc (.cells #[.int .u32 (g : Int)] 78)) (w.heap.size + 1) 78 (some ⟨w.heap.size, 0, none⟩) (u32s [g]) := fun _ => by
  refine ⟨w.heap.size, 0, rfl, by omega, ⟨_, _, heap_alloc_new w _⟩, fun j u hu => ?_⟩
  match j, hu with
  | 0, hu => simp [u32s] at hu; subst hu; simp [World.cell?_alloc_new]
/-- A list times one part. -/
theorem mul_one_part (n g : Nat) (B : Option Addr) (cb c1 : Nat) (w : World) (hB : Rd w w.heap.size 78 B (u32s (dg b9 n))) (hl : (dg b9 n).length ≤ 1000) (hg : g < b9) :
    Calls Tryd.prog 60 #[.slice B (dg b9 n).length cb, .slice (some ⟨w.heap.size, 0, none⟩) 1 c1] (w.alloc (.cells #[.int .u32 (g : Int)] 78)) fun e w' => ∃ A' c', e = .returned (.slice A' (dg b9 (n * g)).length c') ∧ PartP w' (n * g) A' c' ∧ Below w.heap.size w w' := by
  have hb := (Below.refl w.heap.size w).alloc (Nat.le_refl _) (.cells #[.int .u32 (g : Int)] 78)
  have := mul_any (dg b9 n) [g] B (some ⟨w.heap.size, 0, none⟩) cb c1 (w.alloc (.cells #[.int .u32 (g : Int)] 78)) ((hB.below hb).more (by simp)) (by have := one_rd w g; rwa [World.size_alloc]) (dg_lt b9_two _) (by simpa using hg) hl (by simp)
  rw [dg_vl b9_two, show vl b9 [g] = g by simp [vl]] at this
  refine this.mono ?_
  rintro e w' ⟨A', c', rfl, hp, hB'⟩
  exact ⟨A', c', rfl, hp, hb.trans (hB'.mono (by simp))⟩

theorem dg_mul_len {n q k : Nat} (h : (dg b9 n).length ≤ k) (hq : q < b9) : (dg b9 (n * q)).length ≤ k + 1 := by
  refine (dg_len b9_two _ _).2 ?_
  have h1 := (dg_len b9_two n k).1 h
  rw [Nat.pow_succ]
  rcases Nat.eq_zero_or_pos n with h0 | h0
  · subst h0; rw [Nat.zero_mul]; exact Nat.mul_pos (Nat.pow_pos (by decide)) (by decide)
  · exact Nat.lt_of_lt_of_le (Nat.mul_lt_mul_of_pos_left hq h0) (Nat.mul_le_mul_right _ (Nat.le_of_lt h1))
/-- What the guess of one part of the quotient rests on. -/
theorem once_facts {m n : Nat} (hn : 0 < n) (hm : m < n * b9) (hl : (dg b9 n).length - 1 < (dg b9 m).length) :
    0 < (dg b9 n).length ∧ (dg b9 m).length ≤ (dg b9 n).length + 1 ∧ 0 < (dg b9 n).getD ((dg b9 n).length - 1) 0 ∧
    m / n ≤ min (((dg b9 m).getD ((dg b9 n).length - 1) 0 + (dg b9 m).getD (dg b9 n).length 0 * 1000000000) / (dg b9 n).getD ((dg b9 n).length - 1) 0) 999999999 := by
  have h0 : 0 < (dg b9 n).length := by
    rw [List.length_pos_iff, ne_eq, dg_nil b9_two]; omega
  have h1 : (dg b9 m).length ≤ (dg b9 n).length + 1 := by
    refine (dg_len b9_two m _).2 ?_
    have h2 := (dg_len b9_two n (dg b9 n).length).1 (Nat.le_refl _)
    rw [Nat.pow_succ]
    exact Nat.lt_of_lt_of_le hm (Nat.mul_le_mul_right _ (by omega))
  obtain ⟨l, hl0⟩ : ∃ l, (dg b9 n).length = l + 1 := ⟨(dg b9 n).length - 1, by omega⟩
  have htip := dg_tip b9_two n
  have h9m := dg_lt b9_two m
  have hvm := dg_vl b9_two m
  have hvn := dg_vl b9_two n
  have h9n := dg_lt b9_two n
  generalize dg b9 m = ps at *
  generalize dg b9 n = qs at *
  rw [hl0] at hl h1 ⊢
  simp only [Nat.add_sub_cancel] at hl ⊢
  have ht : 0 < qs.getD l 0 := by
    rcases Nat.eq_zero_or_pos (qs.getD l 0) with h | h
    · exfalso
      apply htip
      rw [List.getLast?_eq_getElem?, hl0, Nat.add_sub_cancel]
      have : l < qs.length := by omega
      rw [List.getElem?_eq_getElem this]
      simp [List.getD_eq_getElem?_getD, this] at h
      rw [h]
    · exact h
  refine ⟨by omega, h1, ht, ?_⟩
  refine guess_ge (l := l) ht ?_ ?_ hm (by decide)
  · rw [← hvn, vl_split b9 qs l (by omega), vl_dropD, List.drop_eq_nil_of_le (by omega)]
    simp only [vl, Nat.mul_zero, Nat.add_zero]
    rw [Nat.mul_comm]; omega
  · rw [← hvm, Dig.head_of (by decide) h9m l (by omega), vl_dropD, vl_dropD b9 ps (l + 1), List.drop_eq_nil_of_le (by omega)]
    simp only [vl, Nat.mul_zero, Nat.add_zero]
    rw [Nat.mul_comm]; rfl

set_option maxRecDepth 100000 in
set_option maxHeartbeats 2000000 in
theorem once_any (m n : Nat) (A B : Option Addr) (ca cb : Nat) (w : World) (hA : PartP w m A ca) (hB : PartP w n B cb) (hlm : (dg b9 m).length ≤ 1000) (hln : (dg b9 n).length ≤ 900) (hn : 0 < n) (hm : m < n * b9) :
    Calls Tryd.prog 79 #[.slice A (dg b9 m).length ca, .slice B (dg b9 n).length cb] w fun e w' => ∃ A' c', e = .returned (.tuple #[.int .u32 ((m / n : Nat) : Int), .slice A' (dg b9 (m % n)).length c']) ∧ PartP w' (m % n) A' c' ∧ (A' = A ∨ Fr w.heap.size A') ∧ Below w.heap.size w w' := by
  by_cases hc : (dg b9 m).length ≤ (dg b9 n).length - 1
  · have h0 : 0 < (dg b9 n).length := by
      rw [List.length_pos_iff, ne_eq, dg_nil b9_two]; omega
    have hlt : m < n := len_cmp (by omega)
    rw [Nat.div_eq_of_lt hlt, Nat.mod_eq_of_lt hlt]
    have HA := Lib.hid hA
    have hci : ((dg b9 m).length : Int) ≤ ((dg b9 n).length : Int) - 1 := by omega
    clear hA hB hlt hm hc
    generalize (dg b9 m).length = lm at *
    generalize (dg b9 n).length = ln at *
    go_enter Tryd.func79, Tryd.ntmps79
    go_wp2_with fail
    go_ret2
    exact ⟨A, ca, rfl, HA.out, .inl rfl, Below.refl _ _⟩
  · have k1 : (dg b9 n).length - 1 < (dg b9 m).length := by omega
    obtain ⟨f1, f2, f3, f4⟩ := once_facts hn hm k1
    have k2 : (dg b9 n).length - 1 < (dg b9 n).length := Nat.sub_lt f1 (by decide)
    have hx9 : (dg b9 m).getD ((dg b9 n).length - 1) 0 < 1000000000 := getD_ltB (by decide) (dg_lt b9_two m) _
    have hy9 : (dg b9 m).getD (dg b9 n).length 0 < 1000000000 := getD_ltB (by decide) (dg_lt b9_two m) _
    have ht9 : (dg b9 n).getD ((dg b9 n).length - 1) 0 < 1000000000 := getD_ltB (by decide) (dg_lt b9_two n) _
    have hy0 : ¬ (dg b9 n).length < (dg b9 m).length → (dg b9 m).getD (dg b9 n).length 0 = 0 := fun h => by
      simp [List.getD_eq_getElem?_getD, List.getElem?_eq_none (by omega : (dg b9 m).length ≤ (dg b9 n).length)]
    obtain ⟨b, off, rfl, hb, hcx⟩ := hA.2.2.u32 k1
    obtain ⟨b', off', rfl, hb', hct⟩ := hB.2.2.u32 k2
    have HA1 := Lib.hid (fun (hk : (dg b9 n).length < (dg b9 m).length) => hA.2.2.u32 hk)
    generalize (dg b9 m).getD ((dg b9 n).length - 1) 0 = x at hx9 f4 hcx
    generalize (dg b9 m).getD (dg b9 n).length 0 = y at hy9 f4 HA1 hy0
    generalize (dg b9 n).getD ((dg b9 n).length - 1) 0 = t at ht9 f3 f4 hct
    obtain ⟨F, hF⟩ : ∃ F, F = x + y * 1000000000 := ⟨_, rfl⟩
    rw [← hF] at f4
    have HA := Lib.hid hA; have HB := Lib.hid hB; have HM := Lib.hid hm; have HF := Lib.hid hF; have F4 := Lib.hid f4; have HY0 := Lib.hid hy0; have HC := Lib.hid hc
    clear hA hB hm f4 hy0 hc hF
    have hl1 : (((dg b9 n).length : Int) - 1).toNat = (dg b9 n).length - 1 := by omega
    have hl2 : ¬ ((dg b9 m).length : Int) ≤ ((dg b9 n).length : Int) - 1 := by omega
    have hl3 : 0 ≤ ((dg b9 n).length : Int) - 1 := by omega
    have hl4 : ((dg b9 n).length : Int) - 1 < ((dg b9 m).length : Int) := by omega
    go_enter Tryd.func79, Tryd.ntmps79
    go_upto_if 27 with fail
    go_cut [7] (fun s7 wx => s7 = .int .u64 (F : Int) ∧ wx = w)
    case first =>
      by_cases hl : (dg b9 n).length < (dg b9 m).length
      · obtain ⟨b2, off2, he2, hb2, hcy⟩ := HA1.out hl
        injection he2 with he2; injection he2 with e1 e2 _
        subst e1; subst e2
        go_wp2_with fail
        go_meet
        exact ⟨by congr 1; have := HF.out; omega, rfl⟩
      · have hy := HY0.out hl
        go_wp2_with fail
        go_meet
        exact ⟨by congr 1; have := HF.out; omega, rfl⟩
    case rest =>
      obtain ⟨rfl, hwx⟩ := hcut
      subst hwx
      obtain ⟨w, hww⟩ : ∃ z, z = wc := ⟨_, rfl⟩
      subst hww
      have hFb : F ≤ 999999999999999999 := by have := HF.out; omega
      have ht0 : (0 : Int) < (t : Int) := by omega
      have hq0 : 0 ≤ (F : Int) / (t : Int) := Int.ediv_nonneg (by omega) (by omega)
      have hq1 : (F : Int) / (t : Int) ≤ 999999999999999999 := by
        have := Int.ediv_le_self (t : Int) (show (0:Int) ≤ (F : Int) by omega); omega
      go_upto_region 7 with fail
      go_cut [8] (fun s8 wx => s8 = .int .u32 ((min (F / t) 999999999 : Nat) : Int) ∧ wx = w)
      case first =>
        go_wp2_with fail
        go_meet
        exact ⟨by rw [show ((min (F / t) 999999999 : Nat) : Int) = min ((F : Int) / (t : Int)) 999999999 from by rw [← Int.natCast_ediv]; omega], rfl⟩
      case rest =>
        obtain ⟨rfl, hwx⟩ := hcut
        subst hwx
        obtain ⟨w, hww⟩ : ∃ z, z = wc := ⟨_, rfl⟩
        subst hww
        obtain ⟨G, hG⟩ : ∃ G, G = min (F / t) 999999999 := ⟨_, rfl⟩
        have hG1 : m / n ≤ G := by rw [hG]; exact F4.out
        have hG2 : G ≤ 999999999 := by rw [hG]; exact Nat.min_le_right _ _
        rw [← hG]
        clear hG hq0 hq1 ht0 hFb hcx hct F4 hb hb' hl1 hl3 hl4 hl2 hx9 hy9 ht9
        have HC1 := Lib.hid (mul_one_part n G (some ⟨b', off', none⟩) cb 1 w HB.out.2.2 (by omega) (Nat.lt_of_le_of_lt hG2 (by decide)))
        have HG1 := Lib.hid hG1
        clear hG1
        go_wp2_with (go_at_call 60; refine HC1.out.mono ?_; rintro e w1 ⟨A1, c1, rfl, hp1, hB1⟩; have HP1 := Lib.hid hp1; have HB1 := Lib.hid hB1; clear hp1 hB1)
        go_loopg [8, 9] (G - m / n + 1) (fun g s8 s9 wr => ∃ (q : Nat) (A : Option Addr) (c : Nat), g = q - m / n + 1 ∧ m / n ≤ q ∧ q ≤ 999999999 ∧ s8 = .int .u32 (q : Int) ∧ s9 = .slice A (dg b9 (n * q)).length c ∧ PartP wr (n * q) A c ∧ Below w.heap.size w wr)
        case atStart => exact ⟨G, A1, c1, rfl, HG1.out, hG2, rfl, rfl, HP1.out, HB1.out⟩
        case round =>
          obtain ⟨q, A, c, hg, hq1, hq2, rfl, rfl, hp, hB⟩ := hrel
          have hcmp : cmpI ((n * q : Nat) : Int) (m : Int) = 1 ∧ m / n < q ∨ cmpI ((n * q : Nat) : Int) (m : Int) ≤ 0 ∧ m / n = q := by
            by_cases h : m < n * q
            · left
              refine ⟨by unfold cmpI; rw [if_neg (by omega), if_pos (by omega)], (Nat.div_lt_iff_lt_mul hn).2 (by rw [Nat.mul_comm]; exact h)⟩
            · right
              refine ⟨?_, Nat.le_antisymm hq1 ((Nat.le_div_iff_mul_le hn).2 (by rw [Nat.mul_comm]; omega))⟩
              unfold cmpI; split
              · decide
              · rw [if_neg (by omega)]; decide
          have hll : (dg b9 (n * q)).length ≤ 1000 := by
            exact Nat.le_trans (dg_mul_len hln (Nat.lt_of_le_of_lt hq2 (by decide))) (by decide)
          have HCP := Lib.hid (compare_parts (n * q) m A (some ⟨b, off, none⟩) c ca wr hp.2.2 (HA.out.below hB).2.2 hll)
          have HG3 := Lib.hid hg; have HP := Lib.hid hp; have HBW := Lib.hid hB; have HQ1 := Lib.hid hq1; have HLL := Lib.hid hll
          clear hg hp hB hq1 hll
          generalize cmpI ((n * q : Nat) : Int) (m : Int) = z at hcmp HCP
          rcases hcmp with ⟨hz, hlt⟩ | ⟨hz, heq⟩
          · subst hz
            have hq0 : 0 < q := Nat.lt_of_le_of_lt (Nat.zero_le _) hlt
            have hsub : n * q - n = n * (q - 1) := by rw [Nat.mul_sub, Nat.mul_one]
            have HSUB := Lib.hid hsub; have HLT := Lib.hid hlt
            clear hsub hlt
            have hq0' : (1 : Int) ≤ (q : Int) := by omega
            go_wp2_with (first
              | (go_at_call 58; refine HCP.out.mono ?_; rintro e w2 ⟨rfl, hB2⟩; have HB2 := Lib.hid (HBW.out.trans (hB2.mono HBW.out.size)); have HP2 := Lib.hid (HP.out.below hB2); clear hB2)
              | (go_at_call 59; refine (sub_parts (n * q) n A (some ⟨b', off', none⟩) c cb _ HP2.out.2.2 (HB.out.below HB2.out).2.2 (by have := HLL.out; omega) (Nat.le_mul_of_pos_right n hq0)).mono ?_; rw [HSUB.out]; rintro e w3 ⟨A3, c3, rfl, hp3, hf3, hB3⟩; have HF3 := Lib.hid hf3; clear hf3; have HP3 := Lib.hid hp3; have HB3 := Lib.hid (HB2.out.trans (hB3.mono HB2.out.size)); clear hp3 hB3))
            go_roundg (q - 1 - m / n + 1)
            case measure => have := HG3.out; have := HLT.out; omega
            case rel => exact ⟨q - 1, A3, c3, rfl, by have := HLT.out; omega, by omega, by rw [show ((q : Int) - 1) = ((q - 1 : Nat) : Int) from by omega], rfl, HP3.out, HB3.out⟩
          · subst heq
            have hle : n * (m / n) ≤ m := Nat.mul_div_le m n
            have hsub : m - n * (m / n) = m % n := by have := Nat.div_add_mod m n; omega
            have hz2 : ¬ 0 < z := by omega
            have HSUB := Lib.hid hsub; have HLE := Lib.hid hle
            clear hsub hle hz
            go_wp2_with (first
              | (go_at_call 58; refine HCP.out.mono ?_; rintro e w2 ⟨rfl, hB2⟩; have HB2 := Lib.hid (HBW.out.trans (hB2.mono HBW.out.size)); have HP2 := Lib.hid (HP.out.below hB2); clear hB2)
              | (go_at_call 59; refine (sub_parts m (n * (m / n)) (some ⟨b, off, none⟩) A ca c _ (HA.out.below HB2.out).2.2 HP2.out.2.2 (by omega) HLE.out).mono ?_; rw [HSUB.out]; rintro e w3 ⟨A3, c3, rfl, hp3, hf3, hB3⟩; have HF3 := Lib.hid hf3; clear hf3; have HP3 := Lib.hid hp3; have HB3 := Lib.hid (HB2.out.trans (hB3.mono HB2.out.size)); clear hp3 hB3))
            go_ret2
            exact ⟨A3, c3, rfl, HP3.out, .inr (fun b off h => Nat.le_trans HB2.out.size (HF3.out b off h)), HB3.out⟩
end Go.Proofs.YtcclclginhhlaaaDoor
