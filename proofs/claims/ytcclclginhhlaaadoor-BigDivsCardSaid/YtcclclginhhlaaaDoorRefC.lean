/- The walks over the document own answer for layer 1: a digit; how two magnitudes stand. -/
import Derived.Test.YtcclclginhhlaaaDoorRefB
import Derived.Deep.RegionHeld3
namespace Go.Proofs.YtcclclginhhlaaaDoor
open Go.RowKit
open Pl Dig

set_option maxHeartbeats 400000 in
theorem digit_any (b : Bool) (A : Option Addr) (c : Nat) (ds : List Nat) (i : Nat) (w : World) (hr : Rd w w.heap.size 3 A (ints ds)) (_hi : i ≤ 100000) (_hl : ds.length ≤ 100000) :
    Calls Tryd.prog 66 #[.agg #[.bool b, .slice A ds.length c], .int .i64 (i : Int)] w fun e w' => e = .returned (.int .i64 ((ds.getD i 0 : Nat) : Int)) ∧ w.alloc (.cells #[.bool b, .slice A ds.length c] 39) = w' := by
  by_cases h : i < ds.length
  · obtain ⟨bb, off, rfl, hb, hc⟩ := hr.int h
    have e : ds.getD i 0 = ds[i] := by simp [h]
    rw [e]
    clear e
    have hc' : (w.alloc (.cells #[.bool b, .slice (some ⟨bb, off, none⟩) ds.length c] 39)).cell? ⟨bb, off + i, none⟩ = some (.int .i64 ((ds[i] : Nat) : Int)) := (World.cell?_alloc_lt w _ ⟨bb, off + i, none⟩ hb).trans hc
    obtain ⟨y, hy⟩ : ∃ y : Nat, y = ds[i] := ⟨_, rfl⟩
    rw [← hy] at hc' hc ⊢
    have HY := Lib.hid hy; clear hy
    go_enter Tryd.func66, Tryd.ntmps66
    go_wp2
    go_ret
    exact ⟨rfl, rfl⟩
  · have e : ds.getD i 0 = 0 := by simp [List.getD_eq_getElem?_getD, List.getElem?_eq_none (by omega : ds.length ≤ i)]
    rw [e]
    clear e
    go_enter Tryd.func66, Tryd.ntmps66
    go_wp2
    go_ret
    exact ⟨rfl, rfl⟩

/-- How two magnitudes stand. -/
def cmpN (m n : Nat) : Int := if m < n then -1 else if n < m then 1 else 0
theorem vl_same (b : Nat) : ∀ (xs ys : List Nat), (∀ k, xs.getD k 0 = ys.getD k 0) → vl b xs = vl b ys
  | [], [], _ => rfl
  | [], y :: ys, h => by
    have h0 : y = 0 := by simpa using (h 0).symm
    have h1 := vl_same b [] ys (fun k => by simpa using h (k + 1))
    simp [vl, h0, ← h1]
  | x :: xs, [], h => by
    have h0 : x = 0 := by simpa using h 0
    have h1 := vl_same b xs [] (fun k => by simpa using h (k + 1))
    simp [vl, h0, h1]
  | x :: xs, y :: ys, h => by
    have h0 : x = y := by simpa using h 0
    have h1 := vl_same b xs ys (fun k => by simpa using h (k + 1))
    simp [vl, h0, h1]
theorem vl_less {b : Nat} (hb : 2 ≤ b) : ∀ (xs ys : List Nat) (k : Nat), (∀ d ∈ xs, d < b) → (∀ d ∈ ys, d < b) → (∀ m, k < m → xs.getD m 0 = ys.getD m 0) → xs.getD k 0 < ys.getD k 0 → vl b xs < vl b ys
  | xs, [], k, _, _, _, h => by simp at h
  | [], y :: ys, 0, _, _, _, h => by simp [vl] at h ⊢; omega
  | [], y :: ys, k + 1, hx, hy, he, h => by
    have := vl_less hb [] ys k (by simp) (fun d hd => hy d (by simp [hd])) (fun m hm => by simpa using he (m + 1) (by omega)) (by simpa using h)
    simp only [vl] at this ⊢
    have : b * 1 ≤ b * vl b ys := Nat.mul_le_mul_left b this
    omega
  | x :: xs, y :: ys, 0, hx, hy, he, h => by
    have e : vl b xs = vl b ys := vl_same b xs ys (fun m => by simpa using he (m + 1) (by omega))
    simp at h
    simp only [vl, e]; omega
  | x :: xs, y :: ys, k + 1, hx, hy, he, h => by
    have := vl_less hb xs ys k (fun d hd => hx d (by simp [hd])) (fun d hd => hy d (by simp [hd])) (fun m hm => by simpa using he (m + 1) (by omega)) (by simpa using h)
    have hx0 := hx x (by simp)
    have h2 : b * (vl b xs + 1) ≤ b * vl b ys := Nat.mul_le_mul_left b this
    simp only [vl]
    rw [Nat.mul_add] at h2; omega
theorem cmp_same {ds ds' : List Nat} (h : ∀ k, ds.getD k 0 = ds'.getD k 0) : cmpN (vl 10 ds) (vl 10 ds') = 0 := by
  rw [vl_same 10 ds ds' h]; simp [cmpN]
theorem cmp_less {ds ds' : List Nat} {k : Nat} (hd : ∀ d ∈ ds, d < 10) (hd' : ∀ d ∈ ds', d < 10) (he : ∀ m, k < m → ds.getD m 0 = ds'.getD m 0) (h : ds.getD k 0 < ds'.getD k 0) : cmpN (vl 10 ds) (vl 10 ds') = -1 := by
  unfold cmpN; rw [if_pos (vl_less (by decide) ds ds' k hd hd' he h)]
theorem cmp_more {ds ds' : List Nat} {k : Nat} (hd : ∀ d ∈ ds, d < 10) (hd' : ∀ d ∈ ds', d < 10) (he : ∀ m, k < m → ds.getD m 0 = ds'.getD m 0) (h : ds'.getD k 0 < ds.getD k 0) : cmpN (vl 10 ds) (vl 10 ds') = 1 := by
  have := vl_less (b := 10) (by decide) ds' ds k hd' hd (fun m hm => (he m hm).symm) h
  unfold cmpN; rw [if_neg (by omega), if_pos this]

set_option maxHeartbeats 800000 in
theorem size_any (b b' : Bool) (A A' : Option Addr) (c c' : Nat) (ds ds' : List Nat) (w : World) (hr : Rd w w.heap.size 3 A (ints ds)) (hr' : Rd w w.heap.size 3 A' (ints ds')) (hl : ds.length ≤ 40000) (hl' : ds'.length ≤ 40000)
    (hd : ∀ d ∈ ds, d < 10) (hd' : ∀ d ∈ ds', d < 10) :
    Calls Tryd.prog 44 #[.agg #[.bool b, .slice A ds.length c], .agg #[.bool b', .slice A' ds'.length c']] w fun e w' => e = .returned (.int .i64 (cmpN (vl 10 ds) (vl 10 ds'))) ∧ Below w.heap.size w w' := by
  have HD := Lib.hid hd; have HD' := Lib.hid hd'; clear hd hd'
  have HRW := Lib.hid (fun (W : World) (h : Below w.heap.size w W) => (hr.below h).more h.size)
  have HRW' := Lib.hid (fun (W : World) (h : Below w.heap.size w W) => (hr'.below h).more h.size)
  clear hr hr'
  go_enter Tryd.func44, Tryd.ntmps44
  go_wp2_with fail
  go_loopg [5] (ds.length + ds'.length + 2) (fun g s5 wr => ∃ j : Nat, g = j + 1 ∧ j ≤ ds.length + ds'.length + 1 ∧ s5 = .int .i64 ((j : Int) - 1) ∧ Blk wr w.heap.size 39 #[.bool b, .slice A ds.length c] ∧ Blk wr (w.heap.size + 1) 39 #[.bool b', .slice A' ds'.length c'] ∧ Below w.heap.size w wr ∧
    (∀ k, j ≤ k → ds.getD k 0 = ds'.getD k 0))
  case atStart =>
    refine ⟨ds.length + ds'.length + 1, rfl, Nat.le_refl _, by go_num, (Blk.new _ _ _).alloc _, ?_, ((Below.refl _ _).alloc (Nat.le_refl _) _).alloc (by simp) _, fun k hk => ?_⟩
    · have := Blk.new (w.alloc (.cells #[.bool b, .slice A ds.length c] 39)) 39 #[.bool b', .slice A' ds'.length c']
      simpa using this
    · simp [List.getD_eq_getElem?_getD, List.getElem?_eq_none (by omega : ds.length ≤ k), List.getElem?_eq_none (by omega : ds'.length ≤ k)]
  case round =>
    obtain ⟨j, hg, hj, rfl, b1, b2, hB, he⟩ := hrel
    have HE := Lib.hid he; clear he
    have HG := Lib.hid hg; clear hg
    have B1 := Lib.hid b1; have B2 := Lib.hid b2; have HB := Lib.hid hB; clear b1 b2 hB
    have hz := B2.out.lt
    by_cases h0 : j = 0
    · subst h0
      go_wp2_with fail
      go_ret
      exact ⟨ret_int (by rw [cmp_same (fun k => HE.out k (by omega))]), HB.out⟩
    · obtain ⟨k, rfl⟩ : ∃ k, j = k + 1 := ⟨j - 1, by omega⟩
      have c0 := B1.out.cell0
      have c1 := B1.out.cell1
      have d0 := B2.out.cell0
      have d1 := B2.out.cell1
      go_wp2_with fail
      go_upto_region 4 with fail
      go_cut [5, 23] (fun s5 s23 wx => s5 = .int .i64 (k : Int) ∧ s23 = .bool (decide (ds.getD k 0 < ds'.getD k 0)) ∧ Blk wx w.heap.size 39 #[.bool b, .slice A ds.length c] ∧ Blk wx (w.heap.size + 1) 39 #[.bool b', .slice A' ds'.length c'] ∧ Below w.heap.size w wx)
      case first =>
        go_region_held3 (fun w' => w'.cell? ⟨w.heap.size, 0, none⟩ = some (.bool b) ∧ w'.cell? ⟨w.heap.size, 1, none⟩ = some (.slice A ds.length c) ∧ w'.cell? ⟨w.heap.size + 1, 0, none⟩ = some (.bool b') ∧ w'.cell? ⟨w.heap.size + 1, 1, none⟩ = some (.slice A' ds'.length c')) (go_keep)
          (first
            | (go_at_call_of 66 (Value.agg #[.bool b, .slice A ds.length c]); refine (digit_any b A c ds k _ (HRW.out _ (by first | exact HB.out.drew | exact (HB.out.drew).alloc (by show _ ≤ wr.heap.size; omega) _)) (by omega) (by omega)).mono ?_; rintro e w' ⟨rfl, rfl⟩)
            | (go_at_call_of 66 (Value.agg #[.bool b', .slice A' ds'.length c']); refine (digit_any b' A' c' ds' k _ (HRW'.out _ (by first | exact HB.out.drew | exact (HB.out.drew).alloc (by show _ ≤ wr.heap.size; omega) _)) (by omega) (by omega)).mono ?_; rintro e w' ⟨rfl, rfl⟩))
        all_goals
          go_wp2_with fail
          go_meet
          refine ⟨by go_num, by simp, ((B1.out.drew).alloc _).alloc _, ((B2.out.drew).alloc _).alloc _, ((HB.out.drew).alloc (by show _ ≤ wr.heap.size; omega) _).alloc (by simp; omega) _⟩
      case rest =>
        obtain ⟨rfl, rfl, b1, b2, hB⟩ := hcut
        have B1 := Lib.hid b1; have B2 := Lib.hid b2; have HB := Lib.hid hB; clear b1 b2 hB
        have hz := B2.out.lt
        have c0 := B1.out.cell0
        have c1 := B1.out.cell1
        have d0 := B2.out.cell0
        have d1 := B2.out.cell1
        by_cases hlt : ds.getD k 0 < ds'.getD k 0
        · have hlt' : decide (ds.getD k 0 < ds'.getD k 0) = true := by simpa using hlt
          have HL := Lib.hid hlt; clear hlt
          rw [hlt']; clear hlt'
          go_wp2_with fail
          go_ret
          exact ⟨ret_int (by rw [cmp_less HD.out HD'.out (fun m hm => HE.out m (by omega)) HL.out]), HB.out⟩
        · have hlt' : decide (ds.getD k 0 < ds'.getD k 0) = false := by simpa using hlt
          have HL := Lib.hid hlt; clear hlt
          rw [hlt']; clear hlt'
          go_upto_region 6 with fail
          go_cut [5, 30] (fun s5 s30 wx => s5 = .int .i64 (k : Int) ∧ s30 = .bool (decide (ds'.getD k 0 < ds.getD k 0)) ∧ Blk wx w.heap.size 39 #[.bool b, .slice A ds.length c] ∧ Blk wx (w.heap.size + 1) 39 #[.bool b', .slice A' ds'.length c'] ∧ Below w.heap.size w wx)
          case first =>
            obtain ⟨wr, hwr⟩ : ∃ wr, wr = wc := ⟨_, rfl⟩
            subst hwr
            go_region_held3 (fun w' => w'.cell? ⟨w.heap.size, 0, none⟩ = some (.bool b) ∧ w'.cell? ⟨w.heap.size, 1, none⟩ = some (.slice A ds.length c) ∧ w'.cell? ⟨w.heap.size + 1, 0, none⟩ = some (.bool b') ∧ w'.cell? ⟨w.heap.size + 1, 1, none⟩ = some (.slice A' ds'.length c')) (go_keep)
              (first
                | (go_at_call_of 66 (Value.agg #[.bool b, .slice A ds.length c]); refine (digit_any b A c ds k _ (HRW.out _ (by first | exact HB.out.drew | exact (HB.out.drew).alloc (by show _ ≤ wr.heap.size; omega) _)) (by omega) (by omega)).mono ?_; rintro e w' ⟨rfl, rfl⟩)
                | (go_at_call_of 66 (Value.agg #[.bool b', .slice A' ds'.length c']); refine (digit_any b' A' c' ds' k _ (HRW'.out _ (by first | exact HB.out.drew | exact (HB.out.drew).alloc (by show _ ≤ wr.heap.size; omega) _)) (by omega) (by omega)).mono ?_; rintro e w' ⟨rfl, rfl⟩))
            all_goals
              go_wp2_with fail
              go_meet
              refine ⟨by go_num, by simp, ((B1.out.drew).alloc _).alloc _, ((B2.out.drew).alloc _).alloc _, ((HB.out.drew).alloc (by show _ ≤ wr.heap.size; omega) _).alloc (by simp; omega) _⟩
          case rest =>
            obtain ⟨rfl, rfl, b1, b2, hB⟩ := hcut
            have B1 := Lib.hid b1; have B2 := Lib.hid b2; have HB := Lib.hid hB; clear b1 b2 hB
            by_cases hgt : ds'.getD k 0 < ds.getD k 0
            · have hgt' : decide (ds'.getD k 0 < ds.getD k 0) = true := by simpa using hgt
              have HGT := Lib.hid hgt; clear hgt
              rw [hgt']; clear hgt'
              go_wp2_with fail
              go_ret
              exact ⟨ret_int (by rw [cmp_more HD.out HD'.out (fun m hm => HE.out m (by omega)) HGT.out]), HB.out⟩
            · have hgt' : decide (ds'.getD k 0 < ds.getD k 0) = false := by simpa using hgt
              have HGT := Lib.hid hgt; clear hgt
              rw [hgt']; clear hgt'
              go_wp2_with fail
              go_roundg (k + 1)
              case measure => have := HG.out; omega
              case rel =>
                refine ⟨k, rfl, by omega, rfl, B1.out, B2.out, HB.out, fun m hm => ?_⟩
                rcases Nat.eq_or_lt_of_le hm with rfl | hm
                · have := HL.out; have := HGT.out; omega
                · exact HE.out m (by omega)
end Go.Proofs.YtcclclginhhlaaaDoor
