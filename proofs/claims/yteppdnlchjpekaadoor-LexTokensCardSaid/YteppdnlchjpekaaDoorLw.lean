/- Package lex: a token, and tokens, as a text. -/
import Derived.Test.YteppdnlchjpekaaDoorLq
namespace Go.Proofs.YteppdnlchjpekaaDoor
open Go.RowKit Lx
open Go
attribute [local go_sem] Oper.semAt_some

/-- A token as the program's value. -/
def tv (t : T) : Value := .agg #[.int .i64 t.line, .int .i64 t.col, .int .u8 (t.kind : Int), .string t.text]
theorem arr_app (a b : ByteArray) : a ++ b = ⟨(a.data.toList ++ b.data.toList).toArray⟩ := by
  apply ByteArray.ext; simp
theorem arr_self (a : ByteArray) : a = ⟨a.data.toList.toArray⟩ := by apply ByteArray.ext; simp
set_option maxRecDepth 100000 in
set_option maxHeartbeats 4000000 in
theorem shown_c (t : T) (hs : t.text.size ≤ 10000000) (w : World) :
    Calls Tryd.prog 22 #[tv t] w fun e w' => e = .returned (.string ⟨t.shown.toArray⟩) ∧ Below w.heap.size w w' := by
  obtain ⟨li, co, k, s⟩ := t
  have hq := quote_c s (by simpa using Nat.le_trans hs (by decide)) (w.alloc (.cells #[.int .i64 li, .int .i64 co, .int .u8 (k : Int), .string s] 44))
  have hb0 : Below w.heap.size w (w.alloc (.cells #[.int .i64 li, .int .i64 co, .int .u8 (k : Int), .string s] 44)) := (Below.refl _ _).alloc (Nat.le_refl _) _
  replace hs : s.size ≤ 10000000 := hs
  unfold tv T.shown
  dsimp only
  have e98 : s ++ (⟨#[98]⟩ : ByteArray) = ⟨(s.data.toList ++ [98]).toArray⟩ := arr_app _ _
  have e46 : (⟨#[46]⟩ : ByteArray) ++ s = ⟨(46 :: s.data.toList).toArray⟩ := arr_app _ _
  have hsz : (⟨#[98]⟩ : ByteArray).size = 1 := rfl
  have hsz2 : (⟨#[46]⟩ : ByteArray).size = 1 := rfl
  have h98 : ¬ 9223372036854775807 < s.size + 1 := by omega
  have HQ := Lib.hid hq; have HB := Lib.hid hb0; have H98 := Lib.hid e98; have H46 := Lib.hid e46
  clear hq hb0 e98 e46
  by_cases h6 : (k : Int) = 6
  · obtain rfl : k = 6 := by omega
    rw [if_pos rfl]
    go_enter Tryd.func22, Tryd.ntmps22
    go_wp2_with fail
    go_ret
    exact ⟨by rw [← H98.out]; rfl, HB.out⟩
  · by_cases h9 : (k : Int) = 9
    · obtain rfl : k = 9 := by omega
      rw [if_neg (by decide), if_neg (by decide), if_pos rfl]
      go_enter Tryd.func22, Tryd.ntmps22
      go_wp2_with fail
      go_ret
      exact ⟨by rw [← H46.out]; rfl, HB.out⟩
    · by_cases h7 : (k : Int) = 7
      · obtain rfl : k = 7 := by omega
        rw [if_neg (by decide), if_pos rfl]
        go_enter Tryd.func22, Tryd.ntmps22
        go_wp2_with fail
        refine HQ.out.mono ?_
        rintro e w2 ⟨rfl, hb2⟩
        have HB2 := Lib.hid (HB.out.trans (hb2.mono HB.out.size))
        clear hb2
        go_wp2_with fail
        go_ret
        exact ⟨rfl, HB2.out⟩
      · rw [if_neg (by omega), if_neg (by omega), if_neg (by omega)]
        go_enter Tryd.func22, Tryd.ntmps22
        go_wp2_with fail
        go_ret
        exact ⟨by rw [← arr_self]; rfl, HB.out⟩
end Go.Proofs.YteppdnlchjpekaaDoor
