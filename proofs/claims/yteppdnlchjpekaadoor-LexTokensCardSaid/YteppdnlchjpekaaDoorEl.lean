/- Package lex: tokens that are too long; the first finder that finds. -/
import Derived.Test.YteppdnlchjpekaaDoorEk
import Derived.Test.YteppdnlchjpekaaDoorEi
import Derived.Test.YteppdnlchjpekaaDoorEg
namespace Go.Proofs.YteppdnlchjpekaaDoor
open Go.RowKit Lx
open Go
attribute [local go_sem] Oper.semAt_some

namespace Lx
/-- The error of a token that is longer than it may be. -/
def exc (k : Nat) (l : List UInt8) : Nat :=
  if k = 2 ∨ k = 3 ∨ k = 9 then (if 32 < max (Lib.cut l [46]).1.length (Lib.cut l [46]).2.1.length then 63 else 0)
  else if k = 5 ∨ k = 6 then (if 200 < l.length then 80 else 0)
  else if k = 7 then (if 4096 < l.length then 40 else 0)
  else 0
end Lx
def MaxAt (w : World) : Prop := ∃ m, w.cell? ⟨0, 0, none⟩ = some (.int .i64 m)
theorem MaxAt.under {w w' : World} (h : MaxAt w) (hb : Below w.heap.size w w') : MaxAt w' := by
  obtain ⟨m, h⟩ := h
  refine ⟨m, ?_⟩
  have hlt : 0 < w.heap.size := by
    rcases Nat.lt_or_ge 0 w.heap.size with h' | h'
    · exact h'
    · simp [World.cell?, Array.getElem?_eq_none h'] at h
  rw [hb.cell (p := ⟨0, 0, none⟩) hlt]; exact h
theorem cut_s (S : ByteArray) (hs : S.size ≤ 1000000) (p : UInt8) (w : World) (hm : MaxAt w) : ∃ A B : ByteArray, A.data.toList = (Lib.cut S.data.toList [p]).1 ∧ B.data.toList = (Lib.cut S.data.toList [p]).2.1 ∧
    Calls Tryd.prog 44 #[.string S, .string ⟨#[p]⟩] w fun e w' => e = .returned (.tuple #[.string A, .string B, .bool (Lib.cut S.data.toList [p]).2.2]) ∧ Below w.heap.size w w' := by
  obtain ⟨m, hm⟩ := hm
  have h := Tryd.strings_Cut S ⟨#[p]⟩ m w (by omega) hm
  rw [show (⟨#[p]⟩ : ByteArray).data.toList = [p] from rfl] at h
  refine ⟨⟨(Lib.cut S.data.toList [p]).1.toArray⟩, ⟨(Lib.cut S.data.toList [p]).2.1.toArray⟩, rfl, rfl, h.mono ?_⟩
  rintro e w' ⟨he, n, rfl⟩
  exact ⟨he, below_drewN _ _⟩
theorem cut_len (l : List UInt8) (p : UInt8) : (Lib.cut l [p]).1.length ≤ l.length ∧ (Lib.cut l [p]).2.1.length ≤ l.length := by
  unfold Lib.cut
  split
  · simp only [List.length_take, List.length_drop]; omega
  · simp

set_option maxRecDepth 100000 in
set_option maxHeartbeats 1000000 in
theorem excess_c (k : Nat) (li co : Int) (S : ByteArray) (hs : S.size ≤ 1000000) (w : World) (hM : MaxAt w) :
    Calls Tryd.prog 45 #[.agg #[.int .i64 li, .int .i64 co, .int .u8 (k : Int), .string S]] w fun e w' => e = .returned (.int .i64 (exc k S.data.toList : Nat)) ∧ Below w.heap.size w w' := by
  have hb0 : Below w.heap.size w (w.alloc (.cells #[.int .i64 li, .int .i64 co, .int .u8 (k : Int), .string S] 44)) := (Below.refl _ _).alloc (Nat.le_refl _) _
  obtain ⟨A, B, hA, hB, hc⟩ := cut_s S hs 46 _ (hM.under hb0)
  obtain ⟨E, hE⟩ : ∃ E, E = exc k S.data.toList := ⟨_, rfl⟩
  rw [← hE]
  unfold exc at hE
  rw [← hA, ← hB, ← size_list, ← size_list, ← size_list] at hE
  have HC := Lib.hid hc; have HB := Lib.hid hb0; have HE := Lib.hid hE
  have hcl := cut_len S.data.toList 46
  rw [← hA, ← hB, ← size_list, ← size_list, ← size_list] at hcl
  generalize (Lib.cut S.data.toList [46]).2.2 = bb at HC
  clear hc hb0 hE hA hB
  have hk : k = 2 ∨ k = 3 ∨ k = 9 ∨ k = 5 ∨ k = 6 ∨ k = 7 ∨ (k ≠ 2 ∧ k ≠ 3 ∧ k ≠ 9 ∧ k ≠ 5 ∧ k ≠ 6 ∧ k ≠ 7) := by omega
  rcases hk with rfl | rfl | rfl | rfl | rfl | rfl | ⟨k2, k3, k9, k5, k6, k7⟩
  · by_cases hx : (32 : Int) < max (A.size : Int) (B.size : Int)
    · have hE : E = 63 := by rw [HE.out, if_pos (by simp), if_pos (by omega)]
      subst hE
      clear HE
      go_enter Tryd.func45, Tryd.ntmps45
      go_wp2_with fail
      refine HC.out.mono ?_
      rintro e w1 ⟨rfl, hb1⟩
      have HB1 := Lib.hid (HB.out.trans (hb1.mono HB.out.size))
      clear hb1
      go_wp2_with fail
      go_ret
      exact ⟨rfl, HB1.out⟩
    · have hE : E = 0 := by rw [HE.out, if_pos (by simp), if_neg (by omega)]
      subst hE
      clear HE
      go_enter Tryd.func45, Tryd.ntmps45
      go_wp2_with fail
      refine HC.out.mono ?_
      rintro e w1 ⟨rfl, hb1⟩
      have HB1 := Lib.hid (HB.out.trans (hb1.mono HB.out.size))
      clear hb1
      go_wp2_with fail
      go_ret
      exact ⟨rfl, HB1.out⟩
  · by_cases hx : (32 : Int) < max (A.size : Int) (B.size : Int)
    · have hE : E = 63 := by rw [HE.out, if_pos (by simp), if_pos (by omega)]
      subst hE
      clear HE
      go_enter Tryd.func45, Tryd.ntmps45
      go_wp2_with fail
      refine HC.out.mono ?_
      rintro e w1 ⟨rfl, hb1⟩
      have HB1 := Lib.hid (HB.out.trans (hb1.mono HB.out.size))
      clear hb1
      go_wp2_with fail
      go_ret
      exact ⟨rfl, HB1.out⟩
    · have hE : E = 0 := by rw [HE.out, if_pos (by simp), if_neg (by omega)]
      subst hE
      clear HE
      go_enter Tryd.func45, Tryd.ntmps45
      go_wp2_with fail
      refine HC.out.mono ?_
      rintro e w1 ⟨rfl, hb1⟩
      have HB1 := Lib.hid (HB.out.trans (hb1.mono HB.out.size))
      clear hb1
      go_wp2_with fail
      go_ret
      exact ⟨rfl, HB1.out⟩
  · by_cases hx : (32 : Int) < max (A.size : Int) (B.size : Int)
    · have hE : E = 63 := by rw [HE.out, if_pos (by simp), if_pos (by omega)]
      subst hE
      clear HE
      go_enter Tryd.func45, Tryd.ntmps45
      go_wp2_with fail
      refine HC.out.mono ?_
      rintro e w1 ⟨rfl, hb1⟩
      have HB1 := Lib.hid (HB.out.trans (hb1.mono HB.out.size))
      clear hb1
      go_wp2_with fail
      go_ret
      exact ⟨rfl, HB1.out⟩
    · have hE : E = 0 := by rw [HE.out, if_pos (by simp), if_neg (by omega)]
      subst hE
      clear HE
      go_enter Tryd.func45, Tryd.ntmps45
      go_wp2_with fail
      refine HC.out.mono ?_
      rintro e w1 ⟨rfl, hb1⟩
      have HB1 := Lib.hid (HB.out.trans (hb1.mono HB.out.size))
      clear hb1
      go_wp2_with fail
      go_ret
      exact ⟨rfl, HB1.out⟩
  · by_cases hx : (200 : Int) < (S.size : Int)
    · have hE : E = 80 := by rw [HE.out, if_neg (by simp), if_pos (by simp), if_pos (by omega)]
      subst hE
      clear HE HC
      go_enter Tryd.func45, Tryd.ntmps45
      go_wp2_with fail
      go_ret
      exact ⟨rfl, HB.out⟩
    · have hE : E = 0 := by rw [HE.out, if_neg (by simp), if_pos (by simp), if_neg (by omega)]
      subst hE
      clear HE HC
      go_enter Tryd.func45, Tryd.ntmps45
      go_wp2_with fail
      go_ret
      exact ⟨rfl, HB.out⟩
  · by_cases hx : (200 : Int) < (S.size : Int)
    · have hE : E = 80 := by rw [HE.out, if_neg (by simp), if_pos (by simp), if_pos (by omega)]
      subst hE
      clear HE HC
      go_enter Tryd.func45, Tryd.ntmps45
      go_wp2_with fail
      go_ret
      exact ⟨rfl, HB.out⟩
    · have hE : E = 0 := by rw [HE.out, if_neg (by simp), if_pos (by simp), if_neg (by omega)]
      subst hE
      clear HE HC
      go_enter Tryd.func45, Tryd.ntmps45
      go_wp2_with fail
      go_ret
      exact ⟨rfl, HB.out⟩
  · by_cases hx : (4096 : Int) < (S.size : Int)
    · have hE : E = 40 := by rw [HE.out, if_neg (by simp), if_neg (by simp), if_pos rfl, if_pos (by omega)]
      subst hE
      clear HE HC
      go_enter Tryd.func45, Tryd.ntmps45
      go_wp2_with fail
      go_ret
      exact ⟨rfl, HB.out⟩
    · have hE : E = 0 := by rw [HE.out, if_neg (by simp), if_neg (by simp), if_pos rfl, if_neg (by omega)]
      subst hE
      clear HE HC
      go_enter Tryd.func45, Tryd.ntmps45
      go_wp2_with fail
      go_ret
      exact ⟨rfl, HB.out⟩
  · have hE : E = 0 := by rw [HE.out, if_neg (by omega), if_neg (by omega), if_neg k7]
    subst hE
    have n2 : ¬ (k : Int) = 2 := by omega
    have n3 : ¬ (k : Int) = 3 := by omega
    have n9 : ¬ (k : Int) = 9 := by omega
    have n5 : ¬ (k : Int) = 5 := by omega
    have n6 : ¬ (k : Int) = 6 := by omega
    have n7 : ¬ (k : Int) = 7 := by omega
    clear HE HC k2 k3 k9 k5 k6 k7
    go_enter Tryd.func45, Tryd.ntmps45
    go_wp2_with fail
    go_ret
    exact ⟨rfl, HB.out⟩
end Go.Proofs.YteppdnlchjpekaaDoor
