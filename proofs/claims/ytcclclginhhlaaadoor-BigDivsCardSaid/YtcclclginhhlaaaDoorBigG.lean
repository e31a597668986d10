/- The walks over package big: the other sign. -/
import Derived.Test.YtcclclginhhlaaaDoorBigE
import Derived.Test.YtcclclginhhlaaaDoorBigF
namespace Go.Proofs.YtcclclginhhlaaaDoor
open Go.RowKit
open Pl Dig

theorem sgn_opp (z : Int) : sgn (!decide (z < 0)) z.natAbs = -z := by
  unfold sgn
  by_cases h : z < 0
  · rw [decide_eq_true h]; simp; omega
  · rw [decide_eq_false h]; simp; omega

set_option maxRecDepth 100000 in
theorem opp_big (z : Int) (v : Value) (w : World) (h : BigIs w z v) :
    Calls Tryd.prog 50 #[v] w fun e w' => ∃ v', e = .returned v' ∧ BigIs w' (-z) v' ∧ Below w.heap.size w w' := by
  obtain ⟨A, c, rfl, hP⟩ := h
  have ho := sgn_opp z
  obtain ⟨nz, hnz⟩ : ∃ nz, nz = -z := ⟨_, rfl⟩
  rw [← hnz] at ho ⊢
  obtain ⟨ng, hng⟩ : ∃ ng, ng = decide (z < 0) := ⟨_, rfl⟩
  rw [← hng] at ho ⊢
  have bX := (Blk.new w 54 #[.bool ng, .slice A (dg b9 z.natAbs).length c]).alloc (.cells #[.bool false, .slice none 0 0] 54)
  have bG := Blk.new (w.alloc (.cells #[.bool ng, .slice A (dg b9 z.natAbs).length c] 54)) 54 #[.bool false, .slice none 0 0]
  simp only [World.size_alloc] at bG
  have hS := signed_big (!ng) z A c _ ((hP.alloc (.cells #[.bool ng, .slice A (dg b9 z.natAbs).length c] 54)).alloc (.cells #[.bool false, .slice none 0 0] 54))
  rw [ho] at hS
  have HS := Lib.hid hS; have BG := Lib.hid bG
  have x0 := bX.cell0; have x1 := bX.cell1
  clear hS bG bX ho hnz hng hP
  go_enter Tryd.func50, Tryd.ntmps50
  go_wp2_with (go_at_call 56; refine HS.out.mono ?_; rintro e w2 ⟨v2, rfl, ⟨A2, c2, rfl, hP2⟩, hB2⟩; have bG := BG.out.below hB2 (by simp); have k0 := bG.frozen 0; have k1 := bG.frozen 1; have y0 := bG.cell0; have y1 := bG.cell1; have HP2 := Lib.hid hP2; have HB2 := Lib.hid hB2; have BG2 := Lib.hid bG; clear hP2 hB2 bG)
  refine bodyPost_ret (ret54 (g := w.heap.size + 1) Tryd.results50 rfl BG2.out.store2) rfl ⟨_, rfl, ⟨A2, c2, rfl, HP2.out.store54 BG2.out⟩, ?_⟩
  exact (((((Below.refl _ w).alloc (Nat.le_refl _) _).alloc (by simp) _).trans (HB2.out.mono (by simp; omega))).setCell (by simp) _).setCell (by simp) _

theorem b9_len {m k : Nat} (h : (dg 10 m).length ≤ k) : (dg b9 m).length ≤ k :=
  (dg_len b9_two m k).2 (Nat.lt_of_lt_of_le ((dg_len (by decide) m k).1 h) (Nat.pow_le_pow_left (by decide) k))

set_option maxRecDepth 100000 in
theorem neg_bad (s : ByteArray) (w : World) (hs : s.size ≤ maxLen) (h : chk s.data.toList ≠ 0) :
    Calls Tryd.prog 27 #[.string s] w fun e w' => e = .returned (.tuple #[.string ⟨#[]⟩, .int .i64 (chk s.data.toList)]) ∧ Below w.heap.size w w' := by
  have hr := read_bad s w hs h
  unfold zero54 at hr
  generalize chk s.data.toList = k at h hr ⊢
  have hne : (k != 0) = true := by simpa using h
  have HR := Lib.hid hr
  clear h hr
  go_enter Tryd.func27, Tryd.ntmps27
  go_wp2_with (go_at_call 49; refine HR.out.mono ?_; rintro e w1 ⟨rfl, hB1⟩; have HB1 := Lib.hid hB1; clear hB1)
  go_ret2
  exact ⟨rfl, (HB1.out.alloc HB1.out.size _)⟩

set_option maxRecDepth 100000 in
theorem neg_good (s : ByteArray) (w : World) (h : chk s.data.toList = 0)
    (htab : ∀ W', Below w.heap.size w W' → Lib.TabIs Tryd.prog W' "internal/strconv.uint64pow10" .u64 Lib.pow10Tab) :
    Calls Tryd.prog 27 #[.string s] w fun e w' => e = .returned (.tuple #[.string ⟨(txt (-valL s.data.toList)).toArray⟩, .int .i64 0]) ∧ Below w.heap.size w w' := by
  have hr := read_good s w h
  have hl := b9_len (val_len h)
  generalize valL s.data.toList = z at hr hl ⊢
  obtain ⟨nz, hnz⟩ : ∃ nz, nz = -z := ⟨_, rfl⟩
  have hl2 : (dg b9 nz.natAbs).length ≤ 1000 := by rw [hnz, Int.natAbs_neg]; omega
  rw [← hnz]
  have HR := Lib.hid hr; have HT := Lib.hid htab; have HNZ := Lib.hid hnz; have HL := Lib.hid hl2
  clear hr h htab hnz hl hl2
  go_enter Tryd.func27, Tryd.ntmps27
  go_wp2_with (go_at_call 49; refine HR.out.mono ?_; rintro e w1 ⟨v, rfl, ⟨A, c, rfl, hP⟩, hB1⟩; have bX := Blk.new w1 54 #[.bool (decide (z < 0)), .slice A (dg b9 z.natAbs).length c]; have x0 := bX.cell0; have x1 := bX.cell1; have HB1 := Lib.hid hB1; have HP := Lib.hid hP; clear hB1 bX hP)
  go_wp2_with (first
    | (go_at_call 50; refine (opp_big z _ _ (HP.out.alloc _).is).mono ?_; rw [← HNZ.out]; rintro e w2 ⟨v2, rfl, hI2, hB2⟩; have HI2 := Lib.hid hI2; have HB2 := Lib.hid (((HB1.out.alloc HB1.out.size _)).trans (hB2.mono (by have := HB1.out.size; simp; omega))); clear hI2 hB2)
    | (go_at_call 51; refine (text_big nz _ _ HI2.out HL.out (fun W' hW' => HT.out W' (HB2.out.trans (hW'.mono HB2.out.size)))).mono ?_; rintro e w3 ⟨rfl, hB3⟩; have HB3 := Lib.hid (HB2.out.trans (hB3.mono HB2.out.size)); clear hB3))
  go_ret2
  exact ⟨rfl, HB3.out⟩
end Go.Proofs.YtcclclginhhlaaaDoor
