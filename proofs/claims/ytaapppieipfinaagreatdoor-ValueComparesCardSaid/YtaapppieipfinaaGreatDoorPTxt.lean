/- Plain facts on numbers as texts: no program is spoken of. -/
import Derived.Test.YtaapppieipfinaaGreatDoorPBigL
namespace Go.Proofs.YtaapppieipfinaaGreatDoor
open Pl Dig

def chr (d : Nat) : UInt8 := UInt8.ofNat (48 + d)
theorem chr_nat {d : Nat} (h : d < 10) : (chr d).toNat = 48 + d := by
  unfold chr; rw [UInt8.toNat_ofNat']; omega
def txt (z : Int) : List UInt8 := if z = 0 then [48] else (if z < 0 then [45] else []) ++ (dg 10 z.natAbs).reverse.map chr

/-- The digits of a number, the first one first. -/
def bodyT (n : Nat) : List UInt8 := (dg 10 n).reverse.map chr
theorem chr_dig {d : Nat} (h : d < 10) : isDig (chr d) = true := by
  unfold isDig; rw [chr_nat h]; simp; omega
theorem dig_chr {d : Nat} (h : d < 10) : dig (chr d) = d := by
  unfold dig; rw [chr_nat h]; omega
theorem body_dig (n : Nat) : (bodyT n).all isDig = true := by
  rw [List.all_eq_true]
  intro c hc
  simp only [bodyT, List.mem_map, List.mem_reverse] at hc
  obtain ⟨d, hd, rfl⟩ := hc
  exact chr_dig (dg_lt (by decide) n d hd)
theorem body_len (n : Nat) : (bodyT n).length = (dg 10 n).length := by simp [bodyT]
theorem body_back (n : Nat) : (bodyT n).reverse.map dig = dg 10 n := by
  unfold bodyT
  rw [← List.map_reverse, List.reverse_reverse, List.map_map]
  conv => rhs; rw [← List.map_id (dg 10 n)]
  exact List.map_congr_left fun d hd => dig_chr (dg_lt (by decide) n d hd)
/-- What a text of digits begins with. -/
theorem body_head {n : Nat} (hn : n ≠ 0) : ∃ d, d < 10 ∧ d ≠ 0 ∧ (bodyT n).head? = some (chr d) := by
  have h1 : dg 10 n ≠ [] := by rw [ne_eq, dg_nil (by decide)]; exact hn
  have ht := dg_tip (b := 10) (by decide) n
  unfold Tip at ht
  refine ⟨(dg 10 n).getLast h1, dg_lt (by decide) n _ (List.getLast_mem h1), fun h0 => ht ?_, ?_⟩
  · rw [List.getLast?_eq_some_getLast h1, h0]
  · unfold bodyT
    rw [List.head?_map, List.head?_reverse, List.getLast?_eq_some_getLast h1]; rfl
theorem chr_eq {d e : Nat} (hd : d < 10) (h : (chr d).toNat = e) : 48 + d = e := by rw [← h, chr_nat hd]
theorem txt_zero : txt 0 = [48] := rfl
theorem txt_ne {z : Int} (hz : z ≠ 0) : txt z = (if z < 0 then [45] else []) ++ bodyT z.natAbs := by unfold txt; rw [if_neg hz]; rfl
theorem mag_txt {z : Int} (hz : z ≠ 0) : mag (txt z) = bodyT z.natAbs ∧ ((txt z).head? = some 45 ↔ z < 0) ∧ (mag (txt z)).head? ≠ some 48 ∧ mag (txt z) ≠ [] := by
  obtain ⟨d, hd, hd0, hh⟩ := body_head (n := z.natAbs) (by omega)
  have hne45 : chr d ≠ 45 := fun h => by have := chr_eq hd (congrArg UInt8.toNat h); simp at this; omega
  have hne48 : chr d ≠ 48 := fun h => by have := chr_eq hd (congrArg UInt8.toNat h); simp at this; omega
  have hb : bodyT z.natAbs ≠ [] := by intro h; rw [h] at hh; cases hh
  rw [txt_ne hz]
  by_cases hn : z < 0
  · rw [if_pos hn]
    have e : mag ([45] ++ bodyT z.natAbs) = bodyT z.natAbs := by unfold mag; simp
    rw [e]
    exact ⟨rfl, by simp [hn], by rw [hh]; intro h; injection h with h; exact hne48 h, hb⟩
  · rw [if_neg hn, List.nil_append]
    have e : mag (bodyT z.natAbs) = bodyT z.natAbs := by unfold mag; rw [hh, if_neg (by intro h; injection h with h; exact hne45 h)]
    rw [e]
    refine ⟨rfl, ?_, by rw [hh]; intro h; injection h with h; exact hne48 h, hb⟩
    rw [hh]
    exact ⟨fun h => by injection h with h; exact absurd h hne45, fun h => absurd h hn⟩
/-- Whether a number's text is one, as it must be. -/
theorem chk_txt (z : Int) : chk (txt z) = if 200 < (dg 10 z.natAbs).length then 80 else 0 := by
  by_cases hz : z = 0
  · subst hz; rfl
  · obtain ⟨h1, _, h3, h4⟩ := mag_txt hz
    rw [chk_end h4 (fun h => h3 h.1) (by rw [h1]; exact body_dig _), h1, body_len]
/-- The number of a number's text. -/
theorem val_txt (z : Int) : valL (txt z) = z := by
  by_cases hz : z = 0
  · subst hz; rfl
  · obtain ⟨h1, h2, _, _⟩ := mag_txt hz
    unfold valL
    rw [h1, body_back, dg_vl (by decide)]
    unfold sgn
    by_cases hn : z < 0
    · rw [decide_eq_true (h2.2 hn)]; simp; omega
    · rw [decide_eq_false (fun h => hn (h2.1 h))]; simp; omega
theorem chr_of_dig {c : UInt8} (h : isDig c = true) : chr (dig c) = c := by
  unfold isDig at h
  have h := of_decide_eq_true h
  have hd : dig c < 10 := by unfold dig; omega
  apply UInt8.toNat.inj
  rw [chr_nat hd]; unfold dig; omega
/-- A number's own text. -/
theorem txt_val {l : List UInt8} (h : chk l = 0) : txt (valL l) = l := by
  by_cases h48 : l = [48]
  · subst h48; rfl
  · obtain ⟨h1, h2, h3, _⟩ := chk_good h
    have hhead : (mag l).head? ≠ some 48 := fun hh => h2 ⟨hh, h48⟩
    obtain ⟨c, r, hm⟩ : ∃ c r, mag l = c :: r := by
      cases hm : mag l with
      | nil => exact absurd hm h1
      | cons c r => exact ⟨c, r, rfl⟩
    have hall : ∀ x ∈ mag l, isDig x = true := by rwa [List.all_eq_true] at h3
    have hc48 : c ≠ 48 := by rintro rfl; rw [hm] at hhead; exact hhead rfl
    have hcd : isDig c = true := hall c (by rw [hm]; simp)
    have hds : ∀ d ∈ (mag l).reverse.map dig, d < 10 := by
      intro d hd
      simp only [List.mem_map, List.mem_reverse] at hd
      obtain ⟨x, hx, rfl⟩ := hd
      have := of_decide_eq_true (hall x hx)
      unfold dig; omega
    have hc0 : dig c ≠ 0 := by
      have := of_decide_eq_true hcd
      intro h0
      apply hc48
      apply UInt8.toNat.inj
      unfold dig at h0
      show c.toNat = 48
      omega
    have htip : Tip ((mag l).reverse.map dig) := by
      unfold Tip
      rw [hm, List.reverse_cons, List.map_append, List.map_cons, List.map_nil, List.getLast?_append]
      simp
      exact hc0
    have hdg := dg_of (b := 10) (by decide) hds htip
    have hpos : 0 < vl 10 ((mag l).reverse.map dig) := by
      have := vl_ge (b := 10) (by decide) htip (by rw [hm]; simp)
      exact Nat.lt_of_lt_of_le (Nat.pow_pos (by decide)) this
    have hbody : bodyT (vl 10 ((mag l).reverse.map dig)) = mag l := by
      unfold bodyT
      rw [hdg, ← List.map_reverse, List.reverse_reverse, List.map_map]
      conv => rhs; rw [← List.map_id (mag l)]
      exact List.map_congr_left fun x hx => chr_of_dig (hall x hx)
    have hz : valL l ≠ 0 := by
      unfold valL sgn; split <;> omega
    rw [txt_ne hz]
    have habs : (valL l).natAbs = vl 10 ((mag l).reverse.map dig) := by unfold valL; rw [sgn_abs]
    rw [habs, hbody]
    by_cases hn : l.head? = some 45
    · have hlt : valL l < 0 := by unfold valL sgn; rw [decide_eq_true hn, if_pos rfl]; omega
      rw [if_pos hlt]
      unfold mag
      rw [if_pos hn]
      cases l with
      | nil => cases hn
      | cons x r => injection hn with hn; subst hn; rfl
    · have hlt : ¬ valL l < 0 := by unfold valL sgn; rw [decide_eq_false hn]; simp
      rw [if_neg hlt]
      unfold mag
      rw [if_neg hn]; rfl
theorem val_inj {k l : List UInt8} (hk : chk k = 0) (hl : chk l = 0) (h : valL k = valL l) : k = l := by rw [← txt_val hk, ← txt_val hl, h]
end Go.Proofs.YtaapppieipfinaaGreatDoor
