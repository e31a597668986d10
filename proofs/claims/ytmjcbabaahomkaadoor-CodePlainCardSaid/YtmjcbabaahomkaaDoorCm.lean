/- CodeShort: the walk. -/
import Derived.Test.YtmjcbabaahomkaaDoorCl
import Derived.Deep.QuietTactic
namespace Go.Proofs.YtmjcbabaahomkaaDoor
open Go.RowKit Cp
open Go
attribute [local go_sem] Oper.semAt_some

theorem comp_len (l : List UInt8) : (comp l).length = l.length := by simp [comp]
theorem xx_fin : ∀ n : Fin 256, (UInt8.ofNat n.val ^^^ 255) ^^^ 255 = UInt8.ofNat n.val ∧ (UInt8.ofNat n.val).toNat + (UInt8.ofNat n.val ^^^ 255).toNat = 255 := by decide +kernel
theorem xx_of (x : UInt8) : (x ^^^ 255) ^^^ 255 = x ∧ x.toNat + (x ^^^ 255).toNat = 255 := by
  have := xx_fin ⟨x.toNat, x.toNat_lt⟩
  simpa using this
theorem comp_comp (l : List UInt8) : comp (comp l) = l := by
  unfold comp
  rw [List.map_map]
  have : ((fun c : UInt8 => c ^^^ 255) ∘ fun c => c ^^^ 255) = id := funext fun x => (xx_of x).1
  rw [this, List.map_id]
theorem numB_turn (n : Int) : numB (-1 - n) = comp (numB n) := by
  unfold numB
  by_cases h : 0 ≤ n
  · rw [if_neg (by omega), if_pos h, show -1 - (-1 - n) = n by omega]
  · rw [if_pos (by omega), if_neg h, comp_comp]
theorem numB_len {n : Int} (h0 : -9223372036854775808 ≤ n) (h1 : n ≤ 9223372036854775807) : 1 ≤ (numB n).length ∧ (numB n).length ≤ 9 := by
  unfold numB
  split
  · rw [own_len]; have := osz_le (n := n.toNat) (by omega); omega
  · rw [comp_len, own_len]; have := osz_le (n := (-1 - n).toNat) (by omega); omega
theorem cntB_len {m : Nat} (h : m ≤ 2147483647) : (cntB (m : Int)).length = osz m + 1 := by
  unfold cntB
  rw [if_pos ⟨by omega, by omega⟩, Int.toNat_natCast, own_len]
theorem osz_four {m : Nat} (h : m ≤ 2147483647) : osz m ≤ 4 := by
  have h4 : (256 : Nat) ^ 4 = 4294967296 := by decide +kernel
  exact (osz_bd 4 m (by rw [h4]; omega) (by omega)).1
theorem pow_mono' {a b : Nat} (h : a ≤ b) : (256 : Nat) ^ a ≤ 256 ^ b := Nat.pow_le_pow_right (by decide) h
theorem osz_mono {a b : Nat} (h : a ≤ b) (hb : b ≤ 2147483647) : osz a ≤ osz b := by
  by_cases h0 : a = 0
  · subst h0; rw [osz_zero]; omega
  · have h1 := osz_ge (n := a) (by omega) h0
    have h2 := osz_lt (n := b) (by omega)
    rcases Nat.lt_or_ge (osz b) (osz a) with h3 | h3
    · exfalso
      have := pow_mono' (show osz b ≤ osz a - 1 by omega)
      omega
    · exact h3
theorem and_of (c : Int) : ∃ m : Nat, m ≤ 2147483647 ∧ bits BinOp.and IntKind.i64 c 2147483647 = (m : Int) := by
  have e2 : (BitVec.ofInt 64 (2147483647 : Int)).toNat = 2147483647 := by decide
  have hle : (BitVec.ofInt 64 c &&& BitVec.ofInt 64 (2147483647 : Int)).toNat ≤ 2147483647 := by
    rw [BitVec.toNat_and, e2]; exact Nat.and_le_right
  refine ⟨(BitVec.ofInt 64 c &&& BitVec.ofInt 64 (2147483647 : Int)).toNat, hle, ?_⟩
  show IntKind.i64.wrap (((BitVec.ofInt 64 c &&& BitVec.ofInt 64 (2147483647 : Int)).toNat : Nat) : Int) = _
  exact IntWalk.i64_in _ (by omega)
theorem strB_len (s : List UInt8) : (strB s).length = s.length + 2 + s.count 0 := by
  unfold strB
  rw [List.length_append, esc_len]; simp; omega
theorem count_snoc (l : List UInt8) (c : UInt8) : (l ++ [c]).count 0 = l.count 0 + if c = 0 then 1 else 0 := by
  rw [List.count_append, List.count_singleton]; simp

/-- A slice of so many bytes is told. -/
def OfLen (N : Nat) (e : Ending) : Prop := ∃ A c, e = .returned (.slice A N c)
theorem count_len (z : Int) (N : Nat) (h : (cntB z).length = N) (w : World) : Calls Tryd.prog 10 #[.slice none 0 0, .int .i64 z] w fun e w' => OfLen N e ∧ Below w.heap.size w w' := by
  refine (count_c [] (.slice none 0 0) z w (Sees.nil_ w 0 0) (by decide)).mono ?_
  rintro e w' ⟨v, rfl, hy, hb⟩
  rw [List.nil_append] at hy
  obtain ⟨A, c, rfl, _⟩ := own_slice hy
  exact ⟨⟨A, c, by rw [h]⟩, hb⟩
theorem str_len (s : ByteArray) (hs : s.size ≤ 4000000000) (N : Nat) (h : (strB s.data.toList).length = N) (w : World) (hm : MaxAt w) : Calls Tryd.prog 11 #[.slice none 0 0, .string s] w fun e w' => OfLen N e ∧ Below w.heap.size w w' := by
  refine (str_c [] (.slice none 0 0) s hs w (Sees.nil_ w 0 0) (by decide) hm).mono ?_
  rintro e w' ⟨v, rfl, hy, hb⟩
  rw [List.nil_append] at hy
  obtain ⟨A, c, rfl, _⟩ := own_slice hy
  exact ⟨⟨A, c, by rw [h]⟩, hb⟩

set_option maxRecDepth 100000 in
set_option maxHeartbeats 8000000 in
theorem short_c (n c d : Int) (s : ByteArray) (hn0 : -9223372036854775808 ≤ n) (hn1 : n ≤ 9223372036854775807) (hs : s.size ≤ maxLen) (w : World) (hm : MaxAt w) :
    Calls Tryd.prog 4 #[.int .i64 n, .int .i64 c, .int .i64 d, .string s] w fun e w' => e = .returned (.bool true) ∧ Below w.heap.size w w' := by
  have hmax : maxLen = 9223372036854775807 := rfl
  have HM := Lib.hid hm
  have HWK := Lib.hid (works_c w hm)
  clear hm
  by_cases hbig : (3000 : Int) < (s.size : Int)
  · go_enter Tryd.func4, Tryd.ntmps4
    go_wp2_with (go_at_call 7; refine HWK.out.mono ?_; rintro e w1 ⟨rfl, hb⟩; have HB := Lib.hid hb; clear hb)
    go_ret
    exact ⟨rfl, HB.out⟩
  obtain ⟨m1, hm1, hc1⟩ := and_of c
  obtain ⟨m2, hm2, hc2⟩ := and_of d
  have hlen := numB_len hn0 hn1
  have hturn := numB_turn n
  have HT := Lib.hid hturn; have HL := Lib.hid hlen
  have HC1 := Lib.hid hc1; have HC2 := Lib.hid hc2
  clear hturn hlen hc1 hc2
  go_enter Tryd.func4, Tryd.ntmps4
  go_wp2_with fail
  refine HWK.out.mono ?_
  rintro e w1 ⟨rfl, hb⟩
  have HB1 := Lib.hid hb
  have HN1 := Lib.hid (num_c [] (.slice none 0 0) n hn0 hn1 w1 (Sees.nil_ w1 0 0) (by decide))
  rw [List.nil_append] at HN1
  clear hb HWK
  go_wp2_with fail
  refine HN1.out.mono ?_
  rintro e w2 ⟨v1, rfl, hy1, hb⟩
  have HB2 := Lib.hid (HB1.out.trans (hb.mono HB1.out.size))
  have HN2 := Lib.hid (num_c [] (.slice none 0 0) (-1 - n) (by omega) (by omega) w2 (Sees.nil_ w2 0 0) (by decide))
  rw [List.nil_append, HT.out] at HN2
  have HY1 := Lib.hid hy1
  clear hb hy1 HN1
  go_wp2_with fail
  refine HN2.out.mono ?_
  rintro e w3 ⟨v2, rfl, hy2, hb⟩
  have HB3 := Lib.hid (HB2.out.trans (hb.mono HB2.out.size))
  have hy1 := HY1.out.under hb
  have hne : numB n ≠ [] := fun e => by have := HL.out.1; rw [e] at this; simp at this
  obtain ⟨g1, c1, rfl⟩ := hy1.some_ hne
  obtain ⟨g2, c2, rfl⟩ := hy2.some_ (fun e => hne (by have := congrArg List.length e; rw [comp_len] at this; exact List.eq_nil_of_length_eq_zero (by simpa using this)))
  rw [comp_len] at hy2 ⊢
  obtain ⟨ow, how⟩ : ∃ ow, numB n = ow := ⟨_, rfl⟩
  rw [how] at hy1 hy2 hne HL ⊢
  obtain ⟨N, hN⟩ : ∃ N, ow.length = N := ⟨_, rfl⟩
  rw [hN] at hy1 hy2 HL ⊢
  have hN1 := HL.out.1; have hN9 := HL.out.2
  have hN1z : ¬ (N : Int) < 1 := by omega
  have hN9z : ¬ (9 : Int) < (N : Int) := by omega
  have HYA := Lib.hid hy1; have HYB := Lib.hid hy2; have HNN := Lib.hid hN
  clear hb hy1 hy2 HN2 hne how hN HY1 HT HL
  go_wp2_with fail
  go_loopg [11] (N + 1) (fun gg s11 wr => ∃ i : Nat, i ≤ N ∧ gg = N + 1 - i ∧ s11 = .int .i64 (i : Int) ∧ Below w3.heap.size w3 wr)
  case atStart => exact ⟨0, Nat.zero_le _, by omega, rfl, Below.refl _ _⟩
  case round =>
    obtain ⟨i, hi, hg, rfl, hb⟩ := hrel
    have HG := Lib.hid hg; have HB := Lib.hid hb
    clear hg hb
    by_cases hlt : i < N
    · have hltz : (i : Int) < (N : Int) := by omega
      obtain ⟨x, hx⟩ : ∃ x, ow[i]? = some x := ⟨_, List.getElem?_eq_getElem (by rw [HNN.out]; exact hlt)⟩
      have hx2 : (comp ow)[i]? = some (x ^^^ 255) := by simp [comp, hx]
      have k1 := (HYA.out.under HB.out).cell hx
      have k2 := (HYB.out.under HB.out).cell hx2
      have hsum : (x.toNat : Int) + ((x ^^^ 255).toNat : Int) = 255 := by have := (xx_of x).2; omega
      have hxl := x.toNat_lt
      obtain ⟨y, hy⟩ : ∃ y : Nat, (x ^^^ 255).toNat = y := ⟨_, rfl⟩
      rw [hy] at k2 hsum
      have hyl : y < 256 := by omega
      clear hx hx2 hy
      go_upto_region 9 with fail
      go_region
      go_wp2_with fail
      go_roundg (N + 1 - (i + 1))
      case measure => have := HG.out; omega
      case rel => exact ⟨i + 1, by omega, rfl, by go_num, HB.out.drew⟩
    · have hltz : ¬ (i : Int) < (N : Int) := by omega
      clear HYA HYB HNN HG
      have hc1 := HC1.out; have hc2 := HC2.out
      go_wp2_with fail
      clear hc1 hc2 HC1 HC2
      have HBW := Lib.hid (HB3.out.trans (HB.out.mono HB3.out.size))
      go_loopg [12, 13] (s.size + 1) (fun gg s12 s13 wq => ∃ k : Nat, k ≤ s.size ∧ gg = s.size + 1 - k ∧ s12 = .int .i64 ((s.size + 2 + (s.data.toList.take k).count 0 : Nat) : Int) ∧ s13 = .int .i64 (k : Int) ∧ wr = wq)
      case atStart => exact ⟨0, Nat.zero_le _, by omega, by simp, rfl, rfl⟩
      case round =>
        obtain ⟨k, hk, hg, rfl, rfl, rfl⟩ := hrel
        have HG := Lib.hid hg
        clear hg
        have hcl := count_le_len (s.data.toList.take k)
        have hcl2 : (s.data.toList.take k).length ≤ k := List.length_take_le _ _
        by_cases hlt2 : k < s.size
        · have hlt2z : (k : Int) < (s.size : Int) := by omega
          have htk : s.data.toList.take (k + 1) = s.data.toList.take k ++ [s[k]] := by rw [List.take_succ_eq_append_getElem (by simpa using hlt2)]; rfl
          have hcs := count_snoc (s.data.toList.take k) s[k]
          rw [← htk] at hcs
          obtain ⟨q, hq⟩ : ∃ q, (s.data.toList.take k).count 0 = q := ⟨_, rfl⟩
          rw [hq] at hcs hcl ⊢
          by_cases h0 : s[k] = 0
          · have h0z : (s[k].toNat : Int) = 0 := by rw [h0]; rfl
            rw [if_pos h0] at hcs
            have HCS := Lib.hid hcs
            clear hcs htk hq h0
            go_wp2_with fail
            go_roundg (s.size + 1 - (k + 1))
            case measure => have := HG.out; omega
            case rel => exact ⟨k + 1, by omega, rfl, by rw [HCS.out]; go_num, by go_num, rfl⟩
          · have h0z : ((s[k].toNat : Int) == 0) = false := by
              rw [beq_eq_false_iff_ne]; intro e; exact h0 (UInt8.toNat_inj.1 (by simp; omega))
            rw [if_neg h0] at hcs
            have HCS := Lib.hid hcs
            clear hcs htk hq h0
            go_wp2_with fail
            go_roundg (s.size + 1 - (k + 1))
            case measure => have := HG.out; omega
            case rel => exact ⟨k + 1, by omega, rfl, by rw [HCS.out]; go_num, by go_num, rfl⟩
        · have hlt2z : ¬ (k : Int) < (s.size : Int) := by omega
          obtain rfl : k = s.size := by omega
          have hta : s.data.toList.take s.size = s.data.toList := by rw [size_list]; exact List.take_length
          rw [hta]
          have hsl := strB_len s.data.toList
          rw [← size_list] at hsl
          obtain ⟨L, hL⟩ : ∃ L, s.size + 2 + s.data.toList.count 0 = L := ⟨_, rfl⟩
          rw [hL] at hsl ⊢
          have HSL := Lib.hid hsl
          clear hsl hL hta hcl hcl2
          have hle1 : (osz (max m1 m2) : Nat) + 1 ≤ 5 := by have := osz_four (m := max m1 m2) (by omega); omega
          have hle2 : osz (min m1 m2) + 1 ≤ osz (max m1 m2) + 1 := by have := osz_mono (a := min m1 m2) (b := max m1 m2) (by omega) (by omega); omega
          have hx1 : (cntB (max (m1 : Int) (m2 : Int))).length = osz (max m1 m2) + 1 := by rw [show max (m1 : Int) (m2 : Int) = ((max m1 m2 : Nat) : Int) by omega]; exact cntB_len (by omega)
          have hx2 : (cntB (min (m1 : Int) (m2 : Int))).length = osz (min m1 m2) + 1 := by rw [show min (m1 : Int) (m2 : Int) = ((min m1 m2 : Nat) : Int) by omega]; exact cntB_len (by omega)
          have hk1 := fun W => count_len _ _ hx1 W
          have hk2 := fun W => count_len _ _ hx2 W
          obtain ⟨a, ha⟩ : ∃ a, osz (max m1 m2) + 1 = a := ⟨_, rfl⟩
          obtain ⟨b, hb⟩ : ∃ b, osz (min m1 m2) + 1 = b := ⟨_, rfl⟩
          rw [ha] at hk1 hle1 hle2
          rw [hb] at hk2 hle2
          have HK1 := Lib.hid hk1; have HK2 := Lib.hid hk2
          have hs4 : s.size ≤ 4000000000 := by omega
          have HK3 := Lib.hid fun W (h : Below w.heap.size w W) => str_len s hs4 L HSL.out W (HM.out.under h)
          clear hx1 hx2 hk1 hk2 ha hb
          have ha5 : (a : Int) ≤ 5 := by omega
          have hab : (b : Int) ≤ (a : Int) := by omega
          go_wp2_with fail
          refine (HK1.out _).mono ?_
          rintro e w5 ⟨⟨A1, c5, rfl⟩, hb5⟩
          have HB5 := Lib.hid (HBW.out.trans (hb5.mono HBW.out.size)); clear hb5
          go_wp2_with fail
          refine (HK2.out _).mono ?_
          rintro e w6 ⟨⟨A2, c6, rfl⟩, hb6⟩
          have HB6 := Lib.hid (HB5.out.trans (hb6.mono HB5.out.size)); clear hb6
          go_wp2_with fail
          refine (HK1.out _).mono ?_
          rintro e w7 ⟨⟨A3, c7, rfl⟩, hb7⟩
          have HB7 := Lib.hid (HB6.out.trans (hb7.mono HB6.out.size)); clear hb7
          go_wp2_with fail
          refine (HK3.out _ HB7.out).mono ?_
          rintro e w8 ⟨⟨A4, c8, rfl⟩, hb8⟩
          have HB8 := Lib.hid (HB7.out.trans (hb8.mono HB7.out.size)); clear hb8
          go_wp2_with fail
          go_ret
          exact ⟨rfl, HB8.out⟩
end Go.Proofs.YtmjcbabaahomkaaDoor
