/- The law of names: its walk. -/
import Derived.Test.YteppdnlchjpekaaDoorNr
import Derived.BigQuiet
import Derived.Deep.RegionHeld3
namespace Go.Proofs.YteppdnlchjpekaaDoor
open Go.RowKit Lx
open Go
attribute [local go_sem] Oper.semAt_some

set_option maxRecDepth 100000 in
set_option maxHeartbeats 16000000 in
theorem names_c (w : World) (hM : MaxAt w) : Calls Tryd.prog 3 #[] w fun e w' => e = .returned (.bool true) ∧ Below w.heap.size w w' := by
  have hmax : maxLen = 9223372036854775807 := rfl
  have HM := Lib.hid hM
  clear hM
  obtain ⟨B1, hB1⟩ : ∃ B : ByteArray, B = ⟨(List.replicate 33 97).toArray⟩ := ⟨_, rfl⟩
  obtain ⟨B2, hB2⟩ : ∃ B : ByteArray, B = ⟨(List.replicate 33 65).toArray⟩ := ⟨_, rfl⟩
  obtain ⟨B3, hB3⟩ : ∃ B : ByteArray, B = ⟨(List.replicate 201 57).toArray⟩ := ⟨_, rfl⟩
  obtain ⟨B4, hB4⟩ : ∃ B : ByteArray, B = ⟨(List.replicate 4097 97).toArray⟩ := ⟨_, rfl⟩
  obtain ⟨B5, hB5⟩ : ∃ B : ByteArray, B = ⟨(List.replicate 65537 32).toArray⟩ := ⟨_, rfl⟩
  obtain ⟨C1, hC1⟩ : ∃ B : ByteArray, B = ⟨(List.replicate 32 97).toArray⟩ := ⟨_, rfl⟩
  obtain ⟨C2, hC2⟩ : ∃ B : ByteArray, B = ⟨(List.replicate 32 98).toArray⟩ := ⟨_, rfl⟩
  obtain ⟨C3, hC3⟩ : ∃ B : ByteArray, B = ⟨(List.replicate 200 57).toArray⟩ := ⟨_, rfl⟩
  obtain ⟨C4, hC4⟩ : ∃ B : ByteArray, B = ⟨(List.replicate 65536 32).toArray⟩ := ⟨_, rfl⟩
  have KB1 := Lib.hid (show ∀ W, Calls Tryd.prog 9 #[.int .i64 33, .int .u8 97] W fun e w' => e = .returned (.string B1) ∧ Below W.heap.size W w' by rw [hB1]; exact fun W => many_c 33 (by decide) 97 W)
  have hlB1 : B1.data.toList = List.replicate 33 97 := by rw [hB1]
  have hzB1 : B1.size ≤ 100000 := by rw [size_list, hlB1, List.length_replicate]; decide
  have KB2 := Lib.hid (show ∀ W, Calls Tryd.prog 9 #[.int .i64 33, .int .u8 65] W fun e w' => e = .returned (.string B2) ∧ Below W.heap.size W w' by rw [hB2]; exact fun W => many_c 33 (by decide) 65 W)
  have hlB2 : B2.data.toList = List.replicate 33 65 := by rw [hB2]
  have hzB2 : B2.size ≤ 100000 := by rw [size_list, hlB2, List.length_replicate]; decide
  have KB3 := Lib.hid (show ∀ W, Calls Tryd.prog 9 #[.int .i64 201, .int .u8 57] W fun e w' => e = .returned (.string B3) ∧ Below W.heap.size W w' by rw [hB3]; exact fun W => many_c 201 (by decide) 57 W)
  have hlB3 : B3.data.toList = List.replicate 201 57 := by rw [hB3]
  have hzB3 : B3.size ≤ 100000 := by rw [size_list, hlB3, List.length_replicate]; decide
  have KB4 := Lib.hid (show ∀ W, Calls Tryd.prog 9 #[.int .i64 4097, .int .u8 97] W fun e w' => e = .returned (.string B4) ∧ Below W.heap.size W w' by rw [hB4]; exact fun W => many_c 4097 (by decide) 97 W)
  have hlB4 : B4.data.toList = List.replicate 4097 97 := by rw [hB4]
  have hzB4 : B4.size ≤ 100000 := by rw [size_list, hlB4, List.length_replicate]; decide
  have KB5 := Lib.hid (show ∀ W, Calls Tryd.prog 9 #[.int .i64 65537, .int .u8 32] W fun e w' => e = .returned (.string B5) ∧ Below W.heap.size W w' by rw [hB5]; exact fun W => many_c 65537 (by decide) 32 W)
  have hlB5 : B5.data.toList = List.replicate 65537 32 := by rw [hB5]
  have hzB5 : B5.size ≤ 100000 := by rw [size_list, hlB5, List.length_replicate]; decide
  have KC1 := Lib.hid (show ∀ W, Calls Tryd.prog 9 #[.int .i64 32, .int .u8 97] W fun e w' => e = .returned (.string C1) ∧ Below W.heap.size W w' by rw [hC1]; exact fun W => many_c 32 (by decide) 97 W)
  have hlC1 : C1.data.toList = List.replicate 32 97 := by rw [hC1]
  have hzC1 : C1.size ≤ 100000 := by rw [size_list, hlC1, List.length_replicate]; decide
  have KC2 := Lib.hid (show ∀ W, Calls Tryd.prog 9 #[.int .i64 32, .int .u8 98] W fun e w' => e = .returned (.string C2) ∧ Below W.heap.size W w' by rw [hC2]; exact fun W => many_c 32 (by decide) 98 W)
  have hlC2 : C2.data.toList = List.replicate 32 98 := by rw [hC2]
  have hzC2 : C2.size ≤ 100000 := by rw [size_list, hlC2, List.length_replicate]; decide
  have KC3 := Lib.hid (show ∀ W, Calls Tryd.prog 9 #[.int .i64 200, .int .u8 57] W fun e w' => e = .returned (.string C3) ∧ Below W.heap.size W w' by rw [hC3]; exact fun W => many_c 200 (by decide) 57 W)
  have hlC3 : C3.data.toList = List.replicate 200 57 := by rw [hC3]
  have hzC3 : C3.size ≤ 100000 := by rw [size_list, hlC3, List.length_replicate]; decide
  have KC4 := Lib.hid (show ∀ W, Calls Tryd.prog 9 #[.int .i64 65536, .int .u8 32] W fun e w' => e = .returned (.string C4) ∧ Below W.heap.size W w' by rw [hC4]; exact fun W => many_c 65536 (by decide) 32 W)
  have hlC4 : C4.data.toList = List.replicate 65536 32 := by rw [hC4]
  have hzC4 : C4.size ≤ 100000 := by rw [size_list, hlC4, List.length_replicate]; decide
  have HR1 := Lib.hid (fun W => rows1_new W B1 B2 B3 B4 B5 (fail11 hlB1) (fail12 hlB1) (fail13 hlB2) (fail14 hlB1) (fail15 hlB3) (fail16 hlB4) (fail17 hlB5))
  have HR2 := Lib.hid (fun W => rows2_new W C1 C2 C3 C4 (shows13 hlC1 hlC2 hlC1 hlC2) (shows14 hlC3 hlC3) (shows17 hlC4))
  clear hB1 hB2 hB3 hB4 hB5 hC1 hC2 hC3 hC4 hlB1 hlB2 hlB3 hlB4 hlB5 hlC1 hlC2 hlC3 hlC4
  go_enter Tryd.func3, Tryd.ntmps3
  go_wp2_with fail
  refine (works_c w HM.out).mono ?_
  rintro e w0 ⟨rfl, hb1⟩
  have HB := Lib.hid hb1; have HMM := Lib.hid (HM.out.under hb1)
  clear hb1 HM
  go_wp2_with fail
  refine (KB1.out w0).mono ?_
  rintro e w1 ⟨rfl, hb⟩
  have HB' := Lib.hid (HB.out.trans (hb.mono HB.out.size)); have HM' := Lib.hid (HMM.out.under hb)
  clear hb HB HMM
  have HB := HB'; have HMM := HM'
  clear HB' HM'
  go_wp2_with fail
  refine (KB1.out w1).mono ?_
  rintro e w2 ⟨rfl, hb⟩
  have HB' := Lib.hid (HB.out.trans (hb.mono HB.out.size)); have HM' := Lib.hid (HMM.out.under hb)
  clear hb HB HMM
  have HB := HB'; have HMM := HM'
  clear HB' HM'
  go_wp2_with fail
  refine (KB2.out w2).mono ?_
  rintro e w3 ⟨rfl, hb⟩
  have HB' := Lib.hid (HB.out.trans (hb.mono HB.out.size)); have HM' := Lib.hid (HMM.out.under hb)
  clear hb HB HMM
  have HB := HB'; have HMM := HM'
  clear HB' HM'
  go_wp2_with fail
  refine (KB1.out w3).mono ?_
  rintro e w4 ⟨rfl, hb⟩
  have HB' := Lib.hid (HB.out.trans (hb.mono HB.out.size)); have HM' := Lib.hid (HMM.out.under hb)
  clear hb HB HMM
  have HB := HB'; have HMM := HM'
  clear HB' HM'
  go_wp2_with fail
  refine (KB3.out w4).mono ?_
  rintro e w5 ⟨rfl, hb⟩
  have HB' := Lib.hid (HB.out.trans (hb.mono HB.out.size)); have HM' := Lib.hid (HMM.out.under hb)
  clear hb HB HMM
  have HB := HB'; have HMM := HM'
  clear HB' HM'
  go_wp2_with fail
  refine (KB4.out w5).mono ?_
  rintro e w6 ⟨rfl, hb⟩
  have HB' := Lib.hid (HB.out.trans (hb.mono HB.out.size)); have HM' := Lib.hid (HMM.out.under hb)
  clear hb HB HMM
  have HB := HB'; have HMM := HM'
  clear HB' HM'
  go_wp2_with fail
  refine (KB5.out w6).mono ?_
  rintro e w7 ⟨rfl, hb⟩
  have HB' := Lib.hid (HB.out.trans (hb.mono HB.out.size)); have HM' := Lib.hid (HMM.out.under hb)
  clear hb HB HMM
  have HB := HB'; have HMM := HM'
  clear HB' HM'
  go_wp2_with fail
  have hr1 := HR1.out w7
  have hb9 := HB.out.alloc HB.out.size (.cells #[.string ⟨#[97, 10, 32, 36]⟩, .int .i64 2, .int .i64 2, .int .i64 4, .string ⟨#[34, 97]⟩, .int .i64 1, .int .i64 1, .int .i64 4, .string ⟨#[34, 97, 10, 34]⟩, .int .i64 1, .int .i64 1, .int .i64 4, .string ⟨#[120, 32, 48, 49, 50]⟩, .int .i64 1, .int .i64 3, .int .i64 4, .string ⟨#[49, 97]⟩, .int .i64 1, .int .i64 1, .int .i64 4, .string ⟨#[49, 50, 98, 98]⟩, .int .i64 1, .int .i64 1, .int .i64 4, .string ⟨#[49, 95]⟩, .int .i64 1, .int .i64 1, .int .i64 4, .string ⟨#[95, 120]⟩, .int .i64 1, .int .i64 1, .int .i64 4, .string ⟨#[34, 92, 113, 34]⟩, .int .i64 1, .int .i64 1, .int .i64 4, .string ⟨#[34, 92, 120, 52, 71, 34]⟩, .int .i64 1, .int .i64 1, .int .i64 4, .string ⟨#[97, 33]⟩, .int .i64 1, .int .i64 2, .int .i64 4, .string B1, .int .i64 1, .int .i64 1, .int .i64 63, .string (⟨#[97, 46]⟩ ++ B1), .int .i64 1, .int .i64 1, .int .i64 63, .string B2, .int .i64 1, .int .i64 1, .int .i64 63, .string (⟨#[88, 46]⟩ ++ B1), .int .i64 1, .int .i64 2, .int .i64 63, .string B3, .int .i64 1, .int .i64 1, .int .i64 80, .string (⟨#[34]⟩ ++ B4 ++ ⟨#[34]⟩), .int .i64 1, .int .i64 1, .int .i64 40, .string B5, .int .i64 1, .int .i64 1, .int .i64 40] 26)
  have hm9 := HMM.out.under ((Below.refl w7.heap.size w7).alloc (Nat.le_refl _) (.cells #[.string ⟨#[97, 10, 32, 36]⟩, .int .i64 2, .int .i64 2, .int .i64 4, .string ⟨#[34, 97]⟩, .int .i64 1, .int .i64 1, .int .i64 4, .string ⟨#[34, 97, 10, 34]⟩, .int .i64 1, .int .i64 1, .int .i64 4, .string ⟨#[120, 32, 48, 49, 50]⟩, .int .i64 1, .int .i64 3, .int .i64 4, .string ⟨#[49, 97]⟩, .int .i64 1, .int .i64 1, .int .i64 4, .string ⟨#[49, 50, 98, 98]⟩, .int .i64 1, .int .i64 1, .int .i64 4, .string ⟨#[49, 95]⟩, .int .i64 1, .int .i64 1, .int .i64 4, .string ⟨#[95, 120]⟩, .int .i64 1, .int .i64 1, .int .i64 4, .string ⟨#[34, 92, 113, 34]⟩, .int .i64 1, .int .i64 1, .int .i64 4, .string ⟨#[34, 92, 120, 52, 71, 34]⟩, .int .i64 1, .int .i64 1, .int .i64 4, .string ⟨#[97, 33]⟩, .int .i64 1, .int .i64 2, .int .i64 4, .string B1, .int .i64 1, .int .i64 1, .int .i64 63, .string (⟨#[97, 46]⟩ ++ B1), .int .i64 1, .int .i64 1, .int .i64 63, .string B2, .int .i64 1, .int .i64 1, .int .i64 63, .string (⟨#[88, 46]⟩ ++ B1), .int .i64 1, .int .i64 2, .int .i64 63, .string B3, .int .i64 1, .int .i64 1, .int .i64 80, .string (⟨#[34]⟩ ++ B4 ++ ⟨#[34]⟩), .int .i64 1, .int .i64 1, .int .i64 40, .string B5, .int .i64 1, .int .i64 1, .int .i64 40] 26))
  generalize w7.alloc (.cells #[.string ⟨#[97, 10, 32, 36]⟩, .int .i64 2, .int .i64 2, .int .i64 4, .string ⟨#[34, 97]⟩, .int .i64 1, .int .i64 1, .int .i64 4, .string ⟨#[34, 97, 10, 34]⟩, .int .i64 1, .int .i64 1, .int .i64 4, .string ⟨#[120, 32, 48, 49, 50]⟩, .int .i64 1, .int .i64 3, .int .i64 4, .string ⟨#[49, 97]⟩, .int .i64 1, .int .i64 1, .int .i64 4, .string ⟨#[49, 50, 98, 98]⟩, .int .i64 1, .int .i64 1, .int .i64 4, .string ⟨#[49, 95]⟩, .int .i64 1, .int .i64 1, .int .i64 4, .string ⟨#[95, 120]⟩, .int .i64 1, .int .i64 1, .int .i64 4, .string ⟨#[34, 92, 113, 34]⟩, .int .i64 1, .int .i64 1, .int .i64 4, .string ⟨#[34, 92, 120, 52, 71, 34]⟩, .int .i64 1, .int .i64 1, .int .i64 4, .string ⟨#[97, 33]⟩, .int .i64 1, .int .i64 2, .int .i64 4, .string B1, .int .i64 1, .int .i64 1, .int .i64 63, .string (⟨#[97, 46]⟩ ++ B1), .int .i64 1, .int .i64 1, .int .i64 63, .string B2, .int .i64 1, .int .i64 1, .int .i64 63, .string (⟨#[88, 46]⟩ ++ B1), .int .i64 1, .int .i64 2, .int .i64 63, .string B3, .int .i64 1, .int .i64 1, .int .i64 80, .string (⟨#[34]⟩ ++ B4 ++ ⟨#[34]⟩), .int .i64 1, .int .i64 1, .int .i64 40, .string B5, .int .i64 1, .int .i64 1, .int .i64 40] 26) = W9 at hr1 hb9 hm9 ⊢
  generalize w7.heap.size = g at hr1 ⊢
  have HRW := Lib.hid hr1; have HB9 := Lib.hid hb9; have HM9 := Lib.hid hm9
  clear hr1 hb9 hm9 HB HMM HR1 KB1 KB2 KB3 KB4 KB5 hzB1 hzB2 hzB3 hzB4 hzB5
  go_loopg [84] 19 (fun gg s84 wr => ∃ k : Nat, k ≤ 18 ∧ gg = 19 - k ∧ s84 = .int .i64 (k : Int) ∧ Below W9.heap.size W9 wr)
  case atStart => exact ⟨0, Nat.zero_le _, by omega, rfl, Below.refl _ _⟩
  case round =>
    obtain ⟨k, hk, hg, rfl, hu⟩ := hrel
    have HG := Lib.hid hg; have HU := Lib.hid hu
    clear hg hu
    by_cases hlt : k < 18
    · have hltz : (k : Int) < 18 := by omega
      obtain ⟨S, p1, p2, e0, c0, c1, c2, c3, hf⟩ := HRW.out.2 k hlt
      have hgl : g < W9.heap.size := HRW.out.1
      have y0 := (HU.out.cell (p := ⟨g, k * 4, none⟩) hgl).trans c0
      have y1 := (HU.out.cell (p := ⟨g, k * 4 + 1, none⟩) hgl).trans c1
      have y2 := (HU.out.cell (p := ⟨g, k * 4 + 2, none⟩) hgl).trans c2
      have y3 := (HU.out.cell (p := ⟨g, k * 4 + 3, none⟩) hgl).trans c3
      clear c0 c1 c2 c3 hgl
      have hbx := Blk.new wr 26 #[.string S, .int .i64 (p1 : Int), .int .i64 (p2 : Int), .int .i64 (e0 : Int)]
      have hua := HU.out.alloc HU.out.size (.cells #[.string S, .int .i64 (p1 : Int), .int .i64 (p2 : Int), .int .i64 (e0 : Int)] 26)
      have ht := tokens_c S (by have := hf.2; omega) (wr.alloc (.cells #[.string S, .int .i64 (p1 : Int), .int .i64 (p2 : Int), .int .i64 (e0 : Int)] 26)) (HM9.out.under hua)
      rw [hf.1] at ht
      have HT := Lib.hid ht; have HUA := Lib.hid hua; have HBX := Lib.hid hbx
      clear ht hua hbx hf
      go_wp2_with fail
      refine HT.out.mono ?_
      rintro e w2 ⟨v, rfl, ho, hb2⟩
      obtain ⟨A, c, rfl, htr⟩ := trep_own ho
      have x0 : w2.cell? ⟨wr.heap.size, 0, none⟩ = some (.string S) := (hb2.cell (p := ⟨wr.heap.size, 0, none⟩) (by simp)).trans (HBX.out.cell 0)
      have x1 : w2.cell? ⟨wr.heap.size, 1, none⟩ = some (.int .i64 (p1 : Int)) := (hb2.cell (p := ⟨wr.heap.size, 1, none⟩) (by simp)).trans (HBX.out.cell 1)
      have x2 : w2.cell? ⟨wr.heap.size, 2, none⟩ = some (.int .i64 (p2 : Int)) := (hb2.cell (p := ⟨wr.heap.size, 2, none⟩) (by simp)).trans (HBX.out.cell 2)
      have x3 : w2.cell? ⟨wr.heap.size, 3, none⟩ = some (.int .i64 (e0 : Int)) := (hb2.cell (p := ⟨wr.heap.size, 3, none⟩) (by simp)).trans (HBX.out.cell 3)
      have hlt2 : wr.heap.size < w2.heap.size := by have := hb2.size; simp at this; omega
      have HU2 := Lib.hid (HUA.out.trans (hb2.mono HUA.out.size))
      clear ho hb2 htr
      simp only [List.length_nil]
      go_wp2_with fail
      go_roundg (19 - (k + 1))
      case measure => have := HG.out; omega
      case rel => exact ⟨k + 1, by omega, rfl, by go_num, HU2.out.alloc HU2.out.size _⟩
    · obtain rfl : k = 18 := by omega
      have hltz : ¬ (18 : Int) < 18 := by omega
      have HB := Lib.hid (HB9.out.trans (HU.out.mono HB9.out.size)); have HMM := Lib.hid (HM9.out.under HU.out)
      clear HB9 HM9 HU HRW HG
      obtain ⟨w0, hw0⟩ : ∃ w0, w0 = wr := ⟨_, rfl⟩
      rw [← hw0] at HB HMM ⊢
      clear hw0
      go_wp2_with fail
      refine (KC1.out w0).mono ?_
      rintro e w1 ⟨rfl, hb⟩
      have HB' := Lib.hid (HB.out.trans (hb.mono HB.out.size)); have HM' := Lib.hid (HMM.out.under hb)
      clear hb HB HMM
      have HB := HB'; have HMM := HM'
      clear HB' HM'
      go_wp2_with fail
      refine (KC2.out w1).mono ?_
      rintro e w2 ⟨rfl, hb⟩
      have HB' := Lib.hid (HB.out.trans (hb.mono HB.out.size)); have HM' := Lib.hid (HMM.out.under hb)
      clear hb HB HMM
      have HB := HB'; have HMM := HM'
      clear HB' HM'
      go_wp2_with fail
      refine (KC1.out w2).mono ?_
      rintro e w3 ⟨rfl, hb⟩
      have HB' := Lib.hid (HB.out.trans (hb.mono HB.out.size)); have HM' := Lib.hid (HMM.out.under hb)
      clear hb HB HMM
      have HB := HB'; have HMM := HM'
      clear HB' HM'
      go_wp2_with fail
      refine (KC2.out w3).mono ?_
      rintro e w4 ⟨rfl, hb⟩
      have HB' := Lib.hid (HB.out.trans (hb.mono HB.out.size)); have HM' := Lib.hid (HMM.out.under hb)
      clear hb HB HMM
      have HB := HB'; have HMM := HM'
      clear HB' HM'
      go_wp2_with fail
      refine (KC3.out w4).mono ?_
      rintro e w5 ⟨rfl, hb⟩
      have HB' := Lib.hid (HB.out.trans (hb.mono HB.out.size)); have HM' := Lib.hid (HMM.out.under hb)
      clear hb HB HMM
      have HB := HB'; have HMM := HM'
      clear HB' HM'
      go_wp2_with fail
      refine (KC3.out w5).mono ?_
      rintro e w6 ⟨rfl, hb⟩
      have HB' := Lib.hid (HB.out.trans (hb.mono HB.out.size)); have HM' := Lib.hid (HMM.out.under hb)
      clear hb HB HMM
      have HB := HB'; have HMM := HM'
      clear HB' HM'
      go_wp2_with fail
      refine (KC4.out w6).mono ?_
      rintro e w7 ⟨rfl, hb⟩
      have HB' := Lib.hid (HB.out.trans (hb.mono HB.out.size)); have HM' := Lib.hid (HMM.out.under hb)
      clear hb HB HMM
      have HB := HB'; have HMM := HM'
      clear HB' HM'
      go_wp2_with fail
      have hr1 := HR2.out w7
      have hb9 := HB.out.alloc HB.out.size (.cells #[.string ⟨#[97, 46, 46, 98]⟩, .string ⟨#[97, 32, 46, 32, 46, 98]⟩, .string ⟨#[97, 46, 110, 111, 116]⟩, .string ⟨#[97, 32, 46, 32, 110, 111, 116]⟩, .string ⟨#[110, 111, 116, 46, 97]⟩, .string ⟨#[110, 111, 116, 32, 46, 97]⟩, .string ⟨#[97, 46, 98, 46, 99, 46, 100]⟩, .string ⟨#[97, 46, 98, 32, 46, 99, 32, 46, 100]⟩, .string ⟨#[88, 46, 97, 46, 98]⟩, .string ⟨#[88, 32, 46, 97, 32, 46, 98]⟩, .string ⟨#[39, 97, 32, 99, 111, 117, 110, 116]⟩, .string ⟨#[39, 32, 97, 32, 99, 111, 117, 110, 116]⟩, .string ⟨#[97, 46, 32, 98]⟩, .string ⟨#[97, 32, 46, 32, 98]⟩, .string ⟨#[97, 46, 66]⟩, .string ⟨#[97, 32, 46, 32, 66]⟩, .string ⟨#[58, 58, 45, 61, 58]⟩, .string ⟨#[58, 32, 58, 45, 32, 61, 32, 58]⟩, .string ⟨#[60, 61, 61, 62, 61, 61, 61]⟩, .string ⟨#[60, 61, 32, 61, 32, 62, 61, 32, 61, 61]⟩, .string ⟨#[43, 43, 43]⟩, .string ⟨#[43, 43, 32, 43]⟩, .string ⟨#[35, 97, 10, 98, 35, 99]⟩, .string ⟨#[98]⟩, .string ⟨#[]⟩, .string ⟨#[]⟩, .string (C1 ++ ⟨#[46]⟩ ++ C2), .string (C1 ++ ⟨#[46]⟩ ++ C2), .string (C3 ++ ⟨#[98]⟩), .string (C3 ++ ⟨#[98]⟩), .string ⟨#[34, 92, 120, 52, 49, 92, 110, 92, 116, 92, 92, 92, 34, 255, 34]⟩, .string ⟨#[34, 65, 92, 110, 92, 116, 92, 92, 92, 34, 255, 34]⟩, .string ⟨#[116, 114, 117, 101, 120, 32, 116, 114, 117, 101]⟩, .string ⟨#[116, 114, 117, 101, 120, 32, 116, 114, 117, 101]⟩, .string C4, .string ⟨#[]⟩] 32)
      have hm9 := HMM.out.under ((Below.refl w7.heap.size w7).alloc (Nat.le_refl _) (.cells #[.string ⟨#[97, 46, 46, 98]⟩, .string ⟨#[97, 32, 46, 32, 46, 98]⟩, .string ⟨#[97, 46, 110, 111, 116]⟩, .string ⟨#[97, 32, 46, 32, 110, 111, 116]⟩, .string ⟨#[110, 111, 116, 46, 97]⟩, .string ⟨#[110, 111, 116, 32, 46, 97]⟩, .string ⟨#[97, 46, 98, 46, 99, 46, 100]⟩, .string ⟨#[97, 46, 98, 32, 46, 99, 32, 46, 100]⟩, .string ⟨#[88, 46, 97, 46, 98]⟩, .string ⟨#[88, 32, 46, 97, 32, 46, 98]⟩, .string ⟨#[39, 97, 32, 99, 111, 117, 110, 116]⟩, .string ⟨#[39, 32, 97, 32, 99, 111, 117, 110, 116]⟩, .string ⟨#[97, 46, 32, 98]⟩, .string ⟨#[97, 32, 46, 32, 98]⟩, .string ⟨#[97, 46, 66]⟩, .string ⟨#[97, 32, 46, 32, 66]⟩, .string ⟨#[58, 58, 45, 61, 58]⟩, .string ⟨#[58, 32, 58, 45, 32, 61, 32, 58]⟩, .string ⟨#[60, 61, 61, 62, 61, 61, 61]⟩, .string ⟨#[60, 61, 32, 61, 32, 62, 61, 32, 61, 61]⟩, .string ⟨#[43, 43, 43]⟩, .string ⟨#[43, 43, 32, 43]⟩, .string ⟨#[35, 97, 10, 98, 35, 99]⟩, .string ⟨#[98]⟩, .string ⟨#[]⟩, .string ⟨#[]⟩, .string (C1 ++ ⟨#[46]⟩ ++ C2), .string (C1 ++ ⟨#[46]⟩ ++ C2), .string (C3 ++ ⟨#[98]⟩), .string (C3 ++ ⟨#[98]⟩), .string ⟨#[34, 92, 120, 52, 49, 92, 110, 92, 116, 92, 92, 92, 34, 255, 34]⟩, .string ⟨#[34, 65, 92, 110, 92, 116, 92, 92, 92, 34, 255, 34]⟩, .string ⟨#[116, 114, 117, 101, 120, 32, 116, 114, 117, 101]⟩, .string ⟨#[116, 114, 117, 101, 120, 32, 116, 114, 117, 101]⟩, .string C4, .string ⟨#[]⟩] 32))
      generalize w7.alloc (.cells #[.string ⟨#[97, 46, 46, 98]⟩, .string ⟨#[97, 32, 46, 32, 46, 98]⟩, .string ⟨#[97, 46, 110, 111, 116]⟩, .string ⟨#[97, 32, 46, 32, 110, 111, 116]⟩, .string ⟨#[110, 111, 116, 46, 97]⟩, .string ⟨#[110, 111, 116, 32, 46, 97]⟩, .string ⟨#[97, 46, 98, 46, 99, 46, 100]⟩, .string ⟨#[97, 46, 98, 32, 46, 99, 32, 46, 100]⟩, .string ⟨#[88, 46, 97, 46, 98]⟩, .string ⟨#[88, 32, 46, 97, 32, 46, 98]⟩, .string ⟨#[39, 97, 32, 99, 111, 117, 110, 116]⟩, .string ⟨#[39, 32, 97, 32, 99, 111, 117, 110, 116]⟩, .string ⟨#[97, 46, 32, 98]⟩, .string ⟨#[97, 32, 46, 32, 98]⟩, .string ⟨#[97, 46, 66]⟩, .string ⟨#[97, 32, 46, 32, 66]⟩, .string ⟨#[58, 58, 45, 61, 58]⟩, .string ⟨#[58, 32, 58, 45, 32, 61, 32, 58]⟩, .string ⟨#[60, 61, 61, 62, 61, 61, 61]⟩, .string ⟨#[60, 61, 32, 61, 32, 62, 61, 32, 61, 61]⟩, .string ⟨#[43, 43, 43]⟩, .string ⟨#[43, 43, 32, 43]⟩, .string ⟨#[35, 97, 10, 98, 35, 99]⟩, .string ⟨#[98]⟩, .string ⟨#[]⟩, .string ⟨#[]⟩, .string (C1 ++ ⟨#[46]⟩ ++ C2), .string (C1 ++ ⟨#[46]⟩ ++ C2), .string (C3 ++ ⟨#[98]⟩), .string (C3 ++ ⟨#[98]⟩), .string ⟨#[34, 92, 120, 52, 49, 92, 110, 92, 116, 92, 92, 92, 34, 255, 34]⟩, .string ⟨#[34, 65, 92, 110, 92, 116, 92, 92, 92, 34, 255, 34]⟩, .string ⟨#[116, 114, 117, 101, 120, 32, 116, 114, 117, 101]⟩, .string ⟨#[116, 114, 117, 101, 120, 32, 116, 114, 117, 101]⟩, .string C4, .string ⟨#[]⟩] 32) = W8 at hr1 hb9 hm9 ⊢
      generalize w7.heap.size = g2 at hr1 ⊢
      have HRW := Lib.hid hr1; have HB9 := Lib.hid hb9; have HM9 := Lib.hid hm9
      clear hr1 hb9 hm9 HB HMM HR2 KC1 KC2 KC3 KC4 hzC1 hzC2 hzC3 hzC4
      go_loopg [144] 19 (fun gg s144 wr => ∃ k : Nat, k ≤ 18 ∧ gg = 19 - k ∧ s144 = .int .i64 (k : Int) ∧ Below W8.heap.size W8 wr)
      case atStart => exact ⟨0, Nat.zero_le _, by omega, rfl, Below.refl _ _⟩
      case round =>
        obtain ⟨k, hk, hg, rfl, hu⟩ := hrel
        have HG := Lib.hid hg; have HU := Lib.hid hu
        clear hg hu
        by_cases hlt : k < 18
        · have hltz : (k : Int) < 18 := by omega
          obtain ⟨S, V, c0, c1, hf⟩ := HRW.out.2 k hlt
          have hgl : g2 < W8.heap.size := HRW.out.1
          have y0 := (HU.out.cell (p := ⟨g2, k * 2, none⟩) hgl).trans c0
          have y1 := (HU.out.cell (p := ⟨g2, k * 2 + 1, none⟩) hgl).trans c1
          clear c0 c1 hgl
          have hbx := Blk.new wr 32 #[.string S, .string V]
          have hua := HU.out.alloc HU.out.size (.cells #[.string S, .string V] 32)
          have ht := tokens_c S (by have := hf.2.2; omega) (wr.alloc (.cells #[.string S, .string V] 32)) (HM9.out.under hua)
          have hbu := toks_bulk S.data.toList
          rw [← size_list] at hbu
          obtain ⟨hf1, hf2, hf3⟩ := hf
          generalize toks S.data.toList = X at ht hbu hf1 hf2
          have hez : (X.2.2 : Int) = 0 := by omega
          have HT := Lib.hid ht; have HUA := Lib.hid hua; have HBX := Lib.hid hbx; have HF2 := Lib.hid hf2; have HBU := Lib.hid (show bulk X.1 ≤ 2000000 by omega)
          clear ht hua hbx hbu hf1 hf2 hf3
          go_wp2_with fail
          refine HT.out.mono ?_
          rintro e w2 ⟨v, rfl, ho, hb2⟩
          obtain ⟨A, c, rfl, htr⟩ := trep_own ho
          have x0 : w2.cell? ⟨wr.heap.size, 0, none⟩ = some (.string S) := (hb2.cell (p := ⟨wr.heap.size, 0, none⟩) (by simp)).trans (HBX.out.cell 0)
          have x1 : w2.cell? ⟨wr.heap.size, 1, none⟩ = some (.string V) := (hb2.cell (p := ⟨wr.heap.size, 1, none⟩) (by simp)).trans (HBX.out.cell 1)
          have hlt2 : wr.heap.size < w2.heap.size := by have := hb2.size; simp at this; omega
          have HU2 := Lib.hid (HUA.out.trans (hb2.mono HUA.out.size))
          have HTR := Lib.hid htr
          clear ho hb2 htr
          have hb6 : Below w2.heap.size w2 (w2.alloc (.cells #[.int .i64 (X.2.1.1 : Int), .int .i64 (X.2.1.2 : Int)] 24)) := (Below.refl _ _).alloc (Nat.le_refl _) _
          have hsh := show_c X.1 A c (w2.alloc (.cells #[.int .i64 (X.2.1.1 : Int), .int .i64 (X.2.1.2 : Int)] 24)).drew ((HTR.out.under hb6.drew).more hb6.drew.size) HBU.out
          rw [HF2.out] at hsh
          have z1 : ∀ W, Below (w2.alloc (.cells #[.int .i64 (X.2.1.1 : Int), .int .i64 (X.2.1.2 : Int)] 24)).heap.size (w2.alloc (.cells #[.int .i64 (X.2.1.1 : Int), .int .i64 (X.2.1.2 : Int)] 24)).drew W → W.cell? ⟨wr.heap.size, 1, none⟩ = some (.string V) := fun W hW => (hW.cell (p := ⟨wr.heap.size, 1, none⟩) (by simp; omega)).trans ((hb6.drew.cell (p := ⟨wr.heap.size, 1, none⟩) hlt2).trans x1)
          have HSH := Lib.hid hsh; have HZ1 := Lib.hid z1; have HU6 := Lib.hid (HU2.out.trans (hb6.drew.mono HU2.out.size))
          clear hsh z1 hb6
          go_upto_region 14 with fail
          go_region_held3 (fun w' => w'.cell? ⟨wr.heap.size, 1, none⟩ = some (.string V)) (go_keep)
            (first
              | (go_at_call 11; refine HSH.out.mono ?_; rintro e w5 ⟨rfl, hb5⟩; have HB5 := Lib.hid hb5; have o1 := HZ1.out _ hb5; clear hb5))
          all_goals
            go_wp2_with fail
            go_roundg (19 - (k + 1))
            case measure => have := HG.out; omega
            case rel => exact ⟨k + 1, by omega, rfl, by go_num, HU6.out.trans (HB5.out.mono HU6.out.size)⟩
        · obtain rfl : k = 18 := by omega
          have hltz : ¬ (18 : Int) < 18 := by omega
          have HB := Lib.hid (HB9.out.trans (HU.out.mono HB9.out.size))
          have hqu := quote_c ⟨#[0, 127, 32, 97]⟩ (by decide) wr
          rw [show (⟨#[0, 127, 32, 97]⟩ : ByteArray).data.toList = [0, 127, 32, 97] from rfl, quo_ex] at hqu
          have HQU := Lib.hid hqu
          clear hqu
          go_wp2_with fail
          refine HQU.out.mono ?_
          rintro e w5 ⟨rfl, hb5⟩
          have HU5 := Lib.hid (HB.out.trans (hb5.mono HB.out.size))
          clear hb5
          go_wp2_with fail
          go_ret
          exact ⟨rfl, HU5.out⟩
end Go.Proofs.YteppdnlchjpekaaDoor
