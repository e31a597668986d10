/- The document's own answer of layer 5: the text of tokens. -/
import Derived.Test.YteppdnlchjpekaaLk
namespace Go.Proofs.Yteppdnlchjpekaa
open Go.RowKit Lx
open Go
attribute [local go_sem] Oper.semAt_some

theorem ba_eq {a : ByteArray} {l : List UInt8} (h : a.data.toList = l) : a = ⟨l.toArray⟩ := by subst h; exact arr_self a
set_option maxRecDepth 100000 in
set_option maxHeartbeats 8000000 in
theorem refshow_c (l : List T) (A : Option Addr) (c : Nat) (w : World) (hR : TRep w w.heap.size l A c) (hb : bulk l ≤ 2000000) :
    Calls Try.prog 6 #[.slice A l.length c] w fun e w' => e = .returned (.string ⟨(show_ l).toArray⟩) ∧ Below w.heap.size w w' := by
  have hlen := hR.1; have hcap := hR.2.1
  have hlb := len_bulk l
  have hmax : maxLen = 9223372036854775807 := rfl
  have HR := Lib.hid hR
  clear hR
  go_enter Try.func6, Try.ntmps6
  go_wp2_with fail
  go_loopg [3, 4] (l.length + 1) (fun gg s3 s4 wr => ∃ k : Nat, k ≤ l.length ∧ gg = l.length + 1 - k ∧ s3 = .string ⟨(show_ (l.take k)).toArray⟩ ∧ s4 = .int .i64 (k : Int) ∧ Below w.heap.size w wr)
  case atStart => exact ⟨0, Nat.zero_le _, by omega, rfl, rfl, Below.refl _ _⟩
  case round =>
    obtain ⟨k, hk, hg, h3, rfl, hu⟩ := hrel
    have HG := Lib.hid hg; have HU := Lib.hid hu
    clear hg hu
    have hsl := show_len (l.take k)
    have hbt := bulk_take l k
    obtain ⟨X, hX⟩ : ∃ X : ByteArray, X = ⟨(show_ (l.take k)).toArray⟩ := ⟨_, rfl⟩
    rw [← hX] at h3
    subst h3
    have hXl : X.data.toList = show_ (l.take k) := by rw [hX]
    have hXs : X.size ≤ 8000000 := by rw [size_list, hXl]; omega
    by_cases hlt : k < l.length
    · have hltz : (k : Int) < (l.length : Int) := by omega
      obtain ⟨b', off, rfl, hb', c0, c1, c2, c3⟩ := (HR.out.under HU.out).2.2 k hlt
      have hsz := text_bulk hlt
      have htk : l.take (k + 1) = l.take k ++ [l[k]] := List.take_succ_eq_append_getElem hlt
      have hsn := show_snoc (l.take k) l[k]
      rw [← htk] at hsn
      obtain ⟨t, ht⟩ : ∃ t : ByteArray, t = l[k].text := ⟨_, rfl⟩
      have hts : t.size ≤ 2000000 := by rw [ht]; omega
      have hsh : l[k].shown = if l[k].kind = 6 then t.data.toList ++ [98] else if l[k].kind = 7 then quo t.data.toList else if l[k].kind = 9 then 46 :: t.data.toList else t.data.toList := by rw [ht]; rfl
      have hqs : (⟨(quo t.data.toList).toArray⟩ : ByteArray).size ≤ 8000002 := by
        have := quo_len t.data.toList
        rw [← size_list] at this
        rw [size_list]
        show (quo t.data.toList).length ≤ _
        omega
      rw [← ht] at c3
      have HQ := Lib.hid (refquote_c t (by omega) wr)
      have z1 : (⟨#[32]⟩ : ByteArray).size = 1 := rfl
      have z2 : (⟨#[46]⟩ : ByteArray).size = 1 := rfl
      have z3 : (⟨#[98]⟩ : ByteArray).size = 1 := rfl
      have f0 : ¬ 9223372036854775807 < X.size + 1 := by omega
      have f1 : ¬ 9223372036854775807 < X.size + 1 + t.size := by omega
      have f2 : ¬ 9223372036854775807 < X.size + 1 + t.size + 1 := by omega
      have f3 : ¬ 9223372036854775807 < X.size + 1 + 1 := by omega
      have f4 : ¬ 9223372036854775807 < X.size + 1 + 1 + t.size := by omega
      have f5 : ¬ 9223372036854775807 < X.size + t.size := by omega
      have f6 : ¬ 9223372036854775807 < X.size + t.size + 1 := by omega
      have f7 : ¬ 9223372036854775807 < X.size + 1 + (⟨(quo t.data.toList).toArray⟩ : ByteArray).size := by omega
      have f8 : ¬ 9223372036854775807 < X.size + (⟨(quo t.data.toList).toArray⟩ : ByteArray).size := by omega
      generalize hkn : l[k].kind = kn at c2 hsh
      have HSN := Lib.hid hsn; have HX := Lib.hid hXl; have HT := Lib.hid ht
      clear hsn htk hX hXl ht hsl hbt hsz hkn
      obtain ⟨QQ, hQQ⟩ : ∃ QQ : ByteArray, QQ = ⟨(quo t.data.toList).toArray⟩ := ⟨_, rfl⟩
      rw [← hQQ] at f7 f8 hqs HQ
      have HQQ := Lib.hid (show QQ.data.toList = quo t.data.toList by rw [hQQ])
      clear hQQ
      by_cases hk0 : k = 0
      · have he : (l.take k).isEmpty = true := by subst hk0; rfl
        have hkz : ¬ (0 : Int) < (k : Int) := by omega
        have HE := Lib.hid he
        clear he hk0
        by_cases h6 : (kn : Int) = 6
        · obtain rfl : kn = 6 := by omega
          rw [if_pos rfl] at hsh
          have HSH := Lib.hid hsh
          clear hsh h6
          go_wp2_with fail
          go_roundg (l.length + 1 - (k + 1))
          case measure => have := HG.out; omega
          case rel =>
            refine ⟨k + 1, by omega, rfl, ?_, by go_num, HU.out⟩
            refine congrArg Value.string (ba_eq ?_)
            rw [HSN.out, HE.out, HSH.out]
            simp [HX.out]
        · by_cases h7 : (kn : Int) = 7
          · obtain rfl : kn = 7 := by omega
            rw [if_neg (by decide), if_pos rfl] at hsh
            have HSH := Lib.hid hsh
            clear hsh h6 h7
            go_wp2_with fail
            refine HQ.out.mono ?_
            rintro e w2 ⟨rfl, hb2⟩
            have HU2 := Lib.hid (HU.out.trans (hb2.mono HU.out.size))
            clear hb2
            go_wp2_with fail
            go_roundg (l.length + 1 - (k + 1))
            case measure => have := HG.out; omega
            case rel =>
              refine ⟨k + 1, by omega, rfl, ?_, by go_num, HU2.out⟩
              refine congrArg Value.string (ba_eq ?_)
              rw [HSN.out, HE.out, HSH.out]
              simp [HX.out, HQQ.out]
          · by_cases h9 : (kn : Int) = 9
            · obtain rfl : kn = 9 := by omega
              rw [if_neg (by decide), if_neg (by decide), if_pos rfl] at hsh
              have HSH := Lib.hid hsh
              clear hsh h6 h7 h9
              go_wp2_with fail
              go_roundg (l.length + 1 - (k + 1))
              case measure => have := HG.out; omega
              case rel =>
                refine ⟨k + 1, by omega, rfl, ?_, by go_num, HU.out⟩
                refine congrArg Value.string (ba_eq ?_)
                rw [HSN.out, HE.out, HSH.out]
                simp [HX.out]
            · rw [if_neg (by omega), if_neg (by omega), if_neg (by omega)] at hsh
              have HSH := Lib.hid hsh
              clear hsh
              go_wp2_with fail
              go_roundg (l.length + 1 - (k + 1))
              case measure => have := HG.out; omega
              case rel =>
                refine ⟨k + 1, by omega, rfl, ?_, by go_num, HU.out⟩
                refine congrArg Value.string (ba_eq ?_)
                rw [HSN.out, HE.out, HSH.out]
                simp [HX.out]
      · have he : (l.take k).isEmpty = false := by
          cases h : l.take k with
          | nil => have := congrArg List.length h; rw [List.length_take] at this; simp only [List.length_nil] at this; omega
          | cons => rfl
        have hkz : (0 : Int) < (k : Int) := by omega
        have HE := Lib.hid he
        clear he hk0
        by_cases h6 : (kn : Int) = 6
        · obtain rfl : kn = 6 := by omega
          rw [if_pos rfl] at hsh
          have HSH := Lib.hid hsh
          clear hsh h6
          go_wp2_with fail
          go_roundg (l.length + 1 - (k + 1))
          case measure => have := HG.out; omega
          case rel =>
            refine ⟨k + 1, by omega, rfl, ?_, by go_num, HU.out⟩
            refine congrArg Value.string (ba_eq ?_)
            rw [HSN.out, HE.out, HSH.out]
            simp [HX.out]
        · by_cases h7 : (kn : Int) = 7
          · obtain rfl : kn = 7 := by omega
            rw [if_neg (by decide), if_pos rfl] at hsh
            have HSH := Lib.hid hsh
            clear hsh h6 h7
            go_wp2_with fail
            refine HQ.out.mono ?_
            rintro e w2 ⟨rfl, hb2⟩
            have HU2 := Lib.hid (HU.out.trans (hb2.mono HU.out.size))
            clear hb2
            go_wp2_with fail
            go_roundg (l.length + 1 - (k + 1))
            case measure => have := HG.out; omega
            case rel =>
              refine ⟨k + 1, by omega, rfl, ?_, by go_num, HU2.out⟩
              refine congrArg Value.string (ba_eq ?_)
              rw [HSN.out, HE.out, HSH.out]
              simp [HX.out, HQQ.out]
          · by_cases h9 : (kn : Int) = 9
            · obtain rfl : kn = 9 := by omega
              rw [if_neg (by decide), if_neg (by decide), if_pos rfl] at hsh
              have HSH := Lib.hid hsh
              clear hsh h6 h7 h9
              go_wp2_with fail
              go_roundg (l.length + 1 - (k + 1))
              case measure => have := HG.out; omega
              case rel =>
                refine ⟨k + 1, by omega, rfl, ?_, by go_num, HU.out⟩
                refine congrArg Value.string (ba_eq ?_)
                rw [HSN.out, HE.out, HSH.out]
                simp [HX.out]
            · rw [if_neg (by omega), if_neg (by omega), if_neg (by omega)] at hsh
              have HSH := Lib.hid hsh
              clear hsh
              go_wp2_with fail
              go_roundg (l.length + 1 - (k + 1))
              case measure => have := HG.out; omega
              case rel =>
                refine ⟨k + 1, by omega, rfl, ?_, by go_num, HU.out⟩
                refine congrArg Value.string (ba_eq ?_)
                rw [HSN.out, HE.out, HSH.out]
                simp [HX.out]
    · have hltz : ¬ (k : Int) < (l.length : Int) := by omega
      obtain rfl : k = l.length := by omega
      rw [List.take_length] at hX
      have HX := Lib.hid hX
      clear hX hXl hsl hbt
      go_wp2_with fail
      go_ret
      exact ⟨by rw [← HX.out]; rfl, HU.out⟩
end Go.Proofs.Yteppdnlchjpekaa
