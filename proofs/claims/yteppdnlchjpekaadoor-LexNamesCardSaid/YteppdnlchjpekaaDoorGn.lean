/- The law's 'many': so many of a byte. -/
import Derived.Test.YteppdnlchjpekaaDoorEv
import Derived.Laws.MakeOwn
namespace Go.Proofs.YteppdnlchjpekaaDoor
open Go.RowKit Lx
open Go
attribute [local go_sem] Oper.semAt_some

def Bts (W : World) (g n : Nat) (c : UInt8) (k : Nat) : Prop := ∃ cs : Array Value, Blk W g 5 cs ∧ cs.size = n ∧ ∀ j, j < n → j < k → cs[j]? = some (.int .u8 (c.toNat : Int))
theorem Bts.put {W : World} {g n k : Nat} {c : UInt8} (h : Bts W g n c k) (hk : k < n) : Bts (W.setCell ⟨g, k, none⟩ (.int .u8 (c.toNat : Int))) g n c (k + 1) := by
  obtain ⟨cs, h1, h2, h3⟩ := h
  refine ⟨_, h1.set_ k _, by simpa using h2, fun j hj hjk => ?_⟩
  rw [Array.getElem?_setIfInBounds]
  by_cases hkj : k = j
  · subst hkj
    rw [if_pos rfl, if_pos (by omega)]
  · rw [if_neg hkj]
    exact h3 j hj (by omega)
theorem info_byte : (Tryd.prog.info? 5).map (fun i => (i.zero, i.size, i.bytes)) = some (some (.int .u8 0), 1, 1) := by kernel_rfl
set_option maxRecDepth 100000 in
set_option maxHeartbeats 4000000 in
theorem many_c (n : Nat) (hn : n ≤ 1000000) (c : UInt8) (w : World) :
    Calls Tryd.prog 9 #[.int .i64 (n : Int), .int .u8 (c.toNat : Int)] w fun e w' => e = .returned (.string ⟨(List.replicate n c).toArray⟩) ∧ Below w.heap.size w w' := by
  obtain ⟨i0, hi, hz0, hz1, hz2⟩ := info_parts info_byte
  have hmk : ∀ u : World, (Instr.makeSlice 46 (.int .i64 (n : Int)) (.int .i64 (n : Int))).run Tryd.prog u =
      .ok (.slice (some ⟨u.heap.size, 0, none⟩) n n) (u.alloc (.cells (madeCells #[.int .u8 0] n) 5)) := fun u => by
    have h := run_make (P := Tryd.prog) u 46 5 i0 (.int .u8 0) Tryd.underlying46 hi hz0 .i64 .i64 (n : Int) (n : Int) (by omega) (Int.le_refl _) (by rw [hz2]; omega) (by omega)
    simpa [hz1, Value.cells] using h
  have ht0 : Bts (w.alloc (.cells (madeCells #[.int .u8 0] n) 5)) w.heap.size n c 0 := ⟨_, Blk.new w _ _, size_madeCells _ _, fun _ _ h => absurd h (Nat.not_lt_zero _)⟩
  have hu0 : Below w.heap.size w (w.alloc (.cells (madeCells #[.int .u8 0] n) 5)) := (Below.refl _ _).alloc (Nat.le_refl _) _
  have hmax : maxLen = 9223372036854775807 := rfl
  have HMK := Lib.hid (hmk w); have HT0 := Lib.hid ht0; have HU0 := Lib.hid hu0
  clear hmk ht0 hu0 hi hz0 hz1 hz2
  go_enter Tryd.func9, Tryd.ntmps9
  go_wp2_with fail
  rw [HMK.out]
  simp only [Result.andThen]
  rw [Oper.upon_value]
  go_wp2_with fail
  go_loopg [6] (n + 1) (fun gg s6 wr => ∃ k : Nat, k ≤ n ∧ gg = n + 1 - k ∧ s6 = .int .i64 (k : Int) ∧ Bts wr w.heap.size n c k ∧ Below w.heap.size w wr)
  case atStart => exact ⟨0, Nat.zero_le _, by omega, rfl, HT0.out, HU0.out⟩
  case round =>
    clear HT0 HU0 HMK
    obtain ⟨k, hk, hg, rfl, ht, hu⟩ := hrel
    have HG := Lib.hid hg; have HT := Lib.hid ht; have HU := Lib.hid hu
    clear hg ht hu
    by_cases hlt : k < n
    · have hltz : (k : Int) < (n : Int) := by omega
      have HP := Lib.hid (HT.out.put hlt)
      obtain ⟨cs, hcb, hcs, _⟩ := HT.out
      have d0 := hcb.cell k
      rw [Array.getElem?_eq_getElem (by omega)] at d0
      have z0 := hcb.frozen k
      have HCB := Lib.hid hcb
      clear hcb
      go_wp2_with fail
      go_roundg (n + 1 - (k + 1))
      case measure => have := HG.out; omega
      case rel => exact ⟨k + 1, by omega, rfl, by go_num, HP.out, HU.out.setCell (Nat.le_refl _) _⟩
    · have hltz : ¬ (k : Int) < (n : Int) := by omega
      obtain rfl : k = n := by omega
      have hcv : (convert 46 9 (.slice (some ⟨w.heap.size, 0, none⟩) k k)).run Tryd.prog wr = .ok (.string ⟨(List.replicate k c).toArray⟩) wr := by
        have h := run_convert_bytes_back wr 46 9 5 ⟨w.heap.size, 0, none⟩ k (List.replicate k c) Tryd.underlying46 Tryd.underlying5 Tryd.underlying9 (fun i hi => by
          rw [List.length_replicate] at hi
          obtain ⟨cs, hcb, hcs, hall⟩ := HT.out
          have := hcb.cell i
          rw [hall i hi hi] at this
          rw [add0]
          exact this.trans (by simp))
        rwa [List.length_replicate] at h
      have HCV := Lib.hid hcv
      clear hcv
      go_wp2_with fail
      rw [HCV.out]
      simp only [Result.andThen]
      rw [Oper.upon_value]
      go_wp2_with fail
      go_ret
      exact ⟨rfl, HU.out⟩
end Go.Proofs.YteppdnlchjpekaaDoor
