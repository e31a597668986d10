/- The walk of LexShows. -/
import Derived.Test.YteppdnlchjpekaaLt
namespace Go.Proofs.Yteppdnlchjpekaa
open Go.RowKit Lx
open Go
attribute [local go_sem] Oper.semAt_some

set_option maxRecDepth 100000 in
set_option maxHeartbeats 8000000 in
theorem shows_c (l : List T) (A : Option Addr) (c : Nat) (s : ByteArray) (w : World) (hR : TRep w w.heap.size l A c) (hb : bulk l ≤ 2000000) (hs : s.size ≤ 2000000) :
    Calls Try.prog 3 #[.slice A l.length c, .string s] w fun e w' => e = .returned (.bool true) ∧ Below w.heap.size w w' := by
  have hlen := hR.1; have hcap := hR.2.1
  have hlb := len_bulk l
  have hmax : maxLen = 9223372036854775807 := rfl
  have HR := Lib.hid hR
  clear hR
  go_enter Try.func3, Try.ntmps3
  go_wp2_with fail
  go_loopg [5, 6] (l.length + 1) (fun gg s5 s6 wr => ∃ k n : Nat, k ≤ l.length ∧ gg = l.length + 1 - k ∧ s6 = .int .i64 (k : Int) ∧ s5 = .int .i64 (n : Int) ∧ n = s.size + bulk (l.take k) ∧ w = wr)
  case atStart => exact ⟨0, s.size, Nat.zero_le _, by omega, rfl, rfl, rfl, rfl⟩
  case round =>
    obtain ⟨k, n, hk, hg, rfl, rfl, hn, rfl⟩ := hrel
    have HG := Lib.hid hg
    clear hg
    have hbt := bulk_take l k
    have hnb : n ≤ 4000000 := by omega
    have HN := Lib.hid hn
    clear hn hbt
    by_cases hlt : k < l.length
    · have hltz : (k : Int) < (l.length : Int) := by omega
      by_cases h6 : (n : Int) < 6000
      · obtain ⟨b', off, rfl, hb', c0, c1, c2, c3⟩ := HR.out.2.2 k hlt
        have hsz := text_bulk hlt
        have htk : l.take (k + 1) = l.take k ++ [l[k]] := List.take_succ_eq_append_getElem hlt
        have hbs := bulk_snoc l[k] (l.take k)
        rw [← htk] at hbs
        obtain ⟨t, ht⟩ : ∃ t : ByteArray, t = l[k].text := ⟨_, rfl⟩
        rw [← ht] at c3 hsz hbs
        have HBS := Lib.hid hbs
        clear htk hbs ht
        go_wp2_with fail
        go_roundg (l.length + 1 - (k + 1))
        case measure => have := HG.out; omega
        case rel =>
          have h1 := HBS.out; have h2 := HN.out
          exact ⟨k + 1, n + 1 + t.size, by omega, rfl, by go_num, by go_num, by omega, rfl⟩
      · go_wp2_with fail
        go_ret
        exact ⟨rfl, Below.refl _ _⟩
    · have hltz : ¬ (k : Int) < (l.length : Int) := by omega
      by_cases h6 : (n : Int) < 6000
      · have HT := Lib.hid (to_c l A c w HR.out hb)
        go_wp2_with fail
        refine HT.out.mono ?_
        rintro e w1 ⟨A', c', rfl, hr1, hb1⟩
        have HB1 := Lib.hid hb1
        have HS := Lib.hid (show_c l A' c' w1 hr1 hb)
        clear hr1 hb1
        go_wp2_with fail
        refine HS.out.mono ?_
        rintro e w2 ⟨rfl, hb2⟩
        have HB2 := Lib.hid (HB1.out.trans (hb2.mono HB1.out.size))
        have HS2 := Lib.hid (refshow_c l A c w2 ((HR.out.under HB2.out).more HB2.out.size) hb)
        clear hb2
        go_wp2_with fail
        refine HS2.out.mono ?_
        rintro e w3 ⟨rfl, hb3⟩
        have HB3 := Lib.hid (HB2.out.trans (hb3.mono HB2.out.size))
        have HQ := Lib.hid (quote_c s (by omega) w3)
        clear hb3
        go_wp2_with fail
        refine HQ.out.mono ?_
        rintro e w4 ⟨rfl, hb4⟩
        have HB4 := Lib.hid (HB3.out.trans (hb4.mono HB3.out.size))
        have HQ2 := Lib.hid (refquote_c s (by omega) w4)
        clear hb4
        go_wp2_with fail
        refine HQ2.out.mono ?_
        rintro e w5 ⟨rfl, hb5⟩
        have HB5 := Lib.hid (HB4.out.trans (hb5.mono HB4.out.size))
        clear hb5
        go_wp2_with fail
        go_ret
        exact ⟨rfl, HB5.out⟩
      · go_wp2_with fail
        go_ret
        exact ⟨rfl, Below.refl _ _⟩
end Go.Proofs.Yteppdnlchjpekaa
