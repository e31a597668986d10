/- Package value: what is not as its kind requires, and what is too long. -/
import Derived.Test.YtibpebhepoeikaaDoorVb
namespace Go.Proofs.YtibpebhepoeikaaDoor
open Go.RowKit Vp
open Go

/-- What is asked of the texts of numbers and of names. -/
def TextsOk (ck : List UInt8 → Int) (N : Nat) : Prop :=
  (∀ (s : ByteArray) (w : World), s.size ≤ maxLen → Calls Tryd.prog 40 #[.string s] w fun e w' => e = .returned (.int .i64 (ck s.data.toList)) ∧ Below w.heap.size w w') ∧
  (∀ (s : ByteArray) (w : World), s.size ≤ N → Calls Tryd.prog 41 #[.string s] w fun e w' => e = .returned (.bool (cons s.data.toList)) ∧ Below w.heap.size w w')

set_option maxHeartbeats 1000000 in
theorem long_c (ck : List UInt8 → Int) (N : Nat) (hT : TextsOk ck N) (t : V) (u : Value) (w : World) (h : VRep w w.heap.size t u) :
    Calls Tryd.prog 34 #[u] w fun e w' => e = .returned (.bool (long ck t)) ∧ Below w.heap.size w w' := by
  obtain ⟨k, n, s, l, A, c, rfl, rfl, hk, hn, hs, hR⟩ := h.open_
  have hB : Below w.heap.size w (w.alloc (.cells #[.int .u8 (k : Int), .int .i64 n, .string s, .slice A l.length c] 42)) := (Below.refl _ _).alloc (Nat.le_refl _) _
  have hck := hT.1 s (w.alloc (.cells #[.int .u8 (k : Int), .int .i64 n, .string s, .slice A l.length c] 42)) hs
  have HB := Lib.hid hB; have HC := Lib.hid hck
  have hcases : k = 3 ∨ k = 4 ∨ k = 5 ∨ k = 6 ∨ (k ≠ 3 ∧ k ≠ 4 ∧ k ≠ 5 ∧ k ≠ 6) := by omega
  clear hB hck hT h hR
  rcases hcases with rfl | rfl | rfl | rfl | ⟨h3, h4, h5, h6⟩
  · have hres : long ck (.mk 3 n s l) = decide (ck s.data.toList = 80) := rfl
    rw [hres]; clear hres
    generalize ck s.data.toList = q at HC ⊢
    go_enter Tryd.func34, Tryd.ntmps34
    go_wp2_with (go_at_call 40; refine HC.out.mono ?_; rintro e w' ⟨rfl, hb'⟩; have HB' := Lib.hid hb'; clear hb')
    go_ret
    exact ⟨by first | rfl | (simp; done) | (simp; omega), HB.out.trans (HB'.out.mono HB.out.size)⟩
  · have hres : long ck (.mk 4 n s l) = decide (4096 < s.size) := rfl
    rw [hres]; clear hres
    go_enter Tryd.func34, Tryd.ntmps34
    go_wp2_with fail
    go_ret
    exact ⟨by first | rfl | (simp; done) | (simp; omega), HB.out⟩
  · have hres : long ck (.mk 5 n s l) = decide (16 < l.length) := rfl
    rw [hres]; clear hres
    go_enter Tryd.func34, Tryd.ntmps34
    go_wp2_with fail
    go_ret
    exact ⟨by first | rfl | (simp; done) | (simp; omega), HB.out⟩
  · have hres : long ck (.mk 6 n s l) = decide (8 < l.length) := rfl
    rw [hres]; clear hres
    go_enter Tryd.func34, Tryd.ntmps34
    go_wp2_with fail
    go_ret
    exact ⟨by first | rfl | (simp; done) | (simp; omega), HB.out⟩
  · have hres : long ck (.mk k n s l) = false := by
      unfold long; split <;> simp_all
    rw [hres]; clear hres
    have e3 : ((k : Int) == 3) = false := by simp; omega
    have e4 : ((k : Int) == 4) = false := by simp; omega
    have e5 : ((k : Int) == 5) = false := by simp; omega
    have e6 : ((k : Int) == 6) = false := by simp; omega
    go_enter Tryd.func34, Tryd.ntmps34
    go_wp2_with fail
    go_ret
    exact ⟨by first | rfl | (simp; done) | (simp; omega), HB.out⟩
end Go.Proofs.YtibpebhepoeikaaDoor
