/- The walk over the document's own answer for layer 1: a product. -/
import Derived.Test.YtcclclginhhlaaaDoorRefL
import Derived.Test.YtcclclginhhlaaaDoorAppX
import Derived.Test.YtcclclginhhlaaaDoorDigB
namespace Go.Proofs.YtcclclginhhlaaaDoor
open Go.RowKit
open Pl Dig

theorem plus_list (b : Bool) (A : Option Addr) (c : Nat) (ds : List Nat) (A' : Option Addr) (c' : Nat) (m : Nat) (w : World) (hr : Rd w w.heap.size 3 A (ints ds)) (hr' : Rd w w.heap.size 3 A' (ints (dg 10 m))) (hl : ds.length ≤ 40000) (hl' : (dg 10 m).length ≤ 40000) (hd : ∀ d ∈ ds, d < 10) :
    Calls Tryd.prog 67 #[.agg #[.bool b, .slice A ds.length c], .agg #[.bool false, .slice A' (dg 10 m).length c']] w fun e w' => ∃ v, e = .returned v ∧ NumIs w' ((vl 10 ds + m : Nat) : Int) v ∧ Below w.heap.size w w' := by
  have := plus_any b false A A' c c' ds (dg 10 m) w hr hr' hl hl' hd (dg_lt (by decide) _)
  rwa [dg_vl (by decide)] at this
theorem dg10_len {m t : Nat} (h : m < 10 ^ t) : (dg 10 m).length ≤ t := (dg_len (by decide) m t).2 h
/-- How large a product of a number with the first digits of another one can be. -/
theorem prod_lt {a q k t : Nat} (ha : a < 10 ^ 200) (hq : q < 10 ^ t) (hk : k ≤ 9) : a * (10 * q + k) < 10 ^ (200 + (t + 1)) := by
  rw [Nat.pow_add]
  have h1 : 10 * q + k < 10 ^ (t + 1) := by rw [Nat.pow_succ]; omega
  rcases Nat.eq_zero_or_pos (10 * q + k) with h0 | h0
  · rw [h0, Nat.mul_zero]; exact Nat.mul_pos (Nat.pow_pos (by decide)) (Nat.pow_pos (by decide))
  · exact Nat.lt_of_lt_of_le (Nat.mul_lt_mul_of_pos_right ha h0) (Nat.mul_le_mul_left _ (Nat.le_of_lt h1))

set_option maxRecDepth 100000 in
set_option maxHeartbeats 2000000 in
theorem product_num (z z' : Int) (v v' : Value) (w : World) (h : NumIs w z v) (h' : NumIs w z' v') (hl : (dg 10 z.natAbs).length ≤ 200) (hl' : (dg 10 z'.natAbs).length ≤ 200) :
    Calls Tryd.prog 53 #[v, v'] w fun e w' => ∃ u, e = .returned u ∧ NumIs w' (z * z') u ∧ Below w.heap.size w w' := by
  obtain ⟨A, c, rfl, hN⟩ := h
  obtain ⟨A', c', rfl, hN'⟩ := h'
  obtain ⟨r, hr⟩ : ∃ r, r = z * z' := ⟨_, rfl⟩
  rw [← hr]
  obtain ⟨sa, hsa⟩ : ∃ s, s = decide (z < 0) := ⟨_, rfl⟩
  obtain ⟨sb, hsb⟩ : ∃ s, s = decide (z' < 0) := ⟨_, rfl⟩
  have ha10 : z.natAbs < 10 ^ 200 := (dg_len (by decide) _ _).1 hl
  have hres : sgn (sa != sb) (z.natAbs * z'.natAbs) = r := by
    rw [hr, hsa, hsb]; unfold sgn
    by_cases h1 : z < 0 <;> by_cases h2 : z' < 0
    · obtain ⟨p, rfl⟩ : ∃ p : Nat, z = -(p : Int) := ⟨z.natAbs, by omega⟩
      obtain ⟨q, rfl⟩ : ∃ q : Nat, z' = -(q : Int) := ⟨z'.natAbs, by omega⟩
      rw [decide_eq_true h1, decide_eq_true h2]; simp [Int.neg_mul_neg]
    · obtain ⟨p, rfl⟩ : ∃ p : Nat, z = -(p : Int) := ⟨z.natAbs, by omega⟩
      obtain ⟨q, rfl⟩ : ∃ q : Nat, z' = (q : Int) := ⟨z'.natAbs, by omega⟩
      rw [decide_eq_true h1, decide_eq_false (by omega)]; simp [Int.neg_mul]
    · obtain ⟨p, rfl⟩ : ∃ p : Nat, z = (p : Int) := ⟨z.natAbs, by omega⟩
      obtain ⟨q, rfl⟩ : ∃ q : Nat, z' = -(q : Int) := ⟨z'.natAbs, by omega⟩
      rw [decide_eq_false (by omega), decide_eq_true h2]; simp [Int.mul_neg]
    · obtain ⟨p, rfl⟩ : ∃ p : Nat, z = (p : Int) := ⟨z.natAbs, by omega⟩
      obtain ⟨q, rfl⟩ : ∃ q : Nat, z' = (q : Int) := ⟨z'.natAbs, by omega⟩
      rw [decide_eq_false (by omega), decide_eq_false (by omega)]; simp
  have n1 : NumP w z A c := hN
  have n1' : NumP w z' A' c' := hN'
  unfold NumP at n1 n1'
  clear hN hN'
  have hr9 := dg_lt (b := 10) (by decide) z'.natAbs
  have hvs := dg_vl (b := 10) (by decide) z'.natAbs
  generalize z.natAbs = M at *
  generalize z'.natAbs = V at *
  generalize hbs : dg 10 V = bs at *
  have HR := Lib.hid hr; have HSA := Lib.hid hsa; have HSB := Lib.hid hsb; have HRES := Lib.hid hres; have HA10 := Lib.hid ha10; have H9 := Lib.hid hr9; have HVS := Lib.hid hvs; have N1 := Lib.hid n1; have N2 := Lib.hid n1'
  rw [← hsa, ← hsb]
  clear hr hsa hsb hres ha10 hr9 hvs n1 n1' hbs
  go_enter Tryd.func53, Tryd.ntmps53
  go_wp2_with fail
  go_loopg [6] (bs.length + 1) (fun g s6 wr => ∃ (k : Nat) (ds : List Nat) (A1 : Option Addr) (c1 : Nat), g = k + 1 ∧ k ≤ bs.length ∧ s6 = .int .i64 ((k : Int) - 1) ∧ ds.length ≤ 200 + (bs.length - k) ∧ (∀ d ∈ ds, d < 10) ∧ vl 10 ds = M * vl 10 (bs.drop k) ∧
    ds.length ≤ c1 ∧ c1 ≤ maxLen ∧ Rd wr wr.heap.size 3 A1 (ints ds) ∧ Blk wr w.heap.size 39 #[.bool sa, .slice A (dg 10 M).length c] ∧ Blk wr (w.heap.size + 1) 39 #[.bool sb, .slice A' bs.length c'] ∧ Blk wr (w.heap.size + 1 + 1) 39 #[.bool false, .slice none 0 0] ∧ Blk wr (w.heap.size + 1 + 1 + 1) 39 #[.bool false, .slice A1 ds.length c1] ∧ Below w.heap.size w wr)
  case atStart =>
    refine ⟨bs.length, [], none, 0, rfl, by omega, rfl, by simp, by simp, by simp [vl], by simp, by unfold maxLen; omega, Rd.nil_, (((Blk.new _ _ _).alloc _).alloc _).alloc _, ?_, ?_, ?_, ((((Below.refl _ _).alloc (Nat.le_refl _) _).alloc (by simp) _).alloc (by simp; omega) _).alloc (by simp; omega) _⟩
    · have := Blk.new (w.alloc (.cells #[.bool sa, .slice A (dg 10 M).length c] 39)) 39 #[.bool sb, .slice A' bs.length c']
      exact (by simpa using (this.alloc (.cells #[.bool false, .slice none 0 0] 39)).alloc (.cells #[.bool false, .slice none 0 0] 39))
    · have := Blk.new ((w.alloc (.cells #[.bool sa, .slice A (dg 10 M).length c] 39)).alloc (.cells #[.bool sb, .slice A' bs.length c'] 39)) 39 #[.bool false, .slice none 0 0]
      exact (by simpa using this.alloc (.cells #[.bool false, .slice none 0 0] 39))
    · have := Blk.new (((w.alloc (.cells #[.bool sa, .slice A (dg 10 M).length c] 39)).alloc (.cells #[.bool sb, .slice A' bs.length c'] 39)).alloc (.cells #[.bool false, .slice none 0 0] 39)) 39 #[.bool false, .slice none 0 0]
      simpa using this
  case round =>
    obtain ⟨k, ds, A1, c1, hg, hk, rfl, hdl, hd10, hval, hc1, hcm, hrd, b0, b1, b2, b3, hB⟩ := hrel
    obtain ⟨wo, hwo⟩ : ∃ wo, wo = wr := ⟨_, rfl⟩
    subst hwo
    have hz := b3.lt
    have HG := Lib.hid hg; have HDL := Lib.hid hdl; have H10 := Lib.hid hd10; have HVAL := Lib.hid hval; have HC := Lib.hid (And.intro hc1 (And.intro hcm hrd))
    have B0 := Lib.hid b0; have B1 := Lib.hid b1; have B2 := Lib.hid b2; have B3 := Lib.hid b3; have HB := Lib.hid hB
    clear hg hdl hd10 hval hc1 hcm hrd
    by_cases hk0 : 0 < k
    · obtain ⟨j, rfl⟩ : ∃ j, k = j + 1 := ⟨k - 1, by omega⟩
      have e3 : (((j + 1 : Nat) : Int) - 1) = (j : Int) := by omega
      rw [e3]
      clear e3
      have hj : j < bs.length := by omega
      have x1 := (b3.alloc (.cells #[.int .i64 0] 3)).cell1
      clear b0 b1 b2 b3 hB
      have hdl2 : ds.length ≤ 400 := by have := HDL.out; omega
      go_upto_region 6 with (at_builtin; refine wpList_appX _ rfl (.tmp 17) (.tmp 19) 37 rfl wo.heap.size 3 (.int .i64 0) 8 Tryd.underlying37 info3 rfl _ 1 [.int .i64 0] rfl (World.ownsRow_lit wo #[.int .i64 0] 1 (Nat.le_refl _) (by unfold maxLen; omega) rfl) _ A1 _ c1 (ints ds) rfl (ints_len ds) ((HC.out.2.2.below ((Below.refl _ _).alloc (Nat.le_refl _) _))) ints_one (by omega) (by omega) (by simp) ?_; intro A5 c5 w5 hG; have HGR := Lib.hid hG; have g3 := hG.blk (B3.out.alloc _) (by decide); have k5 := g3.frozen 1; have y5 := g3.cell1; have G3 := Lib.hid g3; clear hG g3)
      clear x1 y5 k5
      have hown := HGR.out.1
      obtain ⟨A6, c6, he6, hc6, hm6, hr6⟩ := own_slice hown
      injection he6 with e1 _ e2
      subst e1; subst e2
      have hlen6 : (0 :: ds).length = 1 + ds.length := by simp; omega
      have hr6' : Rd w5 w5.heap.size 3 A5 (ints (0 :: ds)) := hr6
      have hB5 : Below w.heap.size w w5 := (HB.out.alloc (by omega) _).trans (HGR.out.2.2.mono (by omega))
      have hB6 := hB5.setCell (p := ⟨w.heap.size + 1 + 1 + 1, 1, none⟩) (by show w.heap.size ≤ w.heap.size + 1 + 1 + 1; omega) (.slice A5 (1 + ds.length) c5)
      have b0 := ((HGR.out.blk (B0.out.alloc _) (by decide)).far (p := ⟨w.heap.size + 1 + 1 + 1, 1, none⟩) (by show w.heap.size ≠ w.heap.size + 1 + 1 + 1; omega) (.slice A5 (1 + ds.length) c5))
      have b1 := ((HGR.out.blk (B1.out.alloc _) (by decide)).far (p := ⟨w.heap.size + 1 + 1 + 1, 1, none⟩) (by show w.heap.size + 1 ≠ w.heap.size + 1 + 1 + 1; omega) (.slice A5 (1 + ds.length) c5))
      have b2 := ((HGR.out.blk (B2.out.alloc _) (by decide)).far (p := ⟨w.heap.size + 1 + 1 + 1, 1, none⟩) (by show w.heap.size + 1 + 1 ≠ w.heap.size + 1 + 1 + 1; omega) (.slice A5 (1 + ds.length) c5))
      have b3 : Blk (w5.setCell ⟨w.heap.size + 1 + 1 + 1, 1, none⟩ (.slice A5 (1 + ds.length) c5)) (w.heap.size + 1 + 1 + 1) 39 #[.bool false, .slice A5 (1 + ds.length) c5] := G3.out.set_ 1 _
      have r6 := (hr6'.far (p := ⟨w.heap.size + 1 + 1 + 1, 1, none⟩) G3.out (by decide) (.slice A5 (1 + ds.length) c5)).more (B' := (w5.setCell ⟨w.heap.size + 1 + 1 + 1, 1, none⟩ (.slice A5 (1 + ds.length) c5)).heap.size) (by simp)
      generalize w5.setCell ⟨w.heap.size + 1 + 1 + 1, 1, none⟩ (.slice A5 (1 + ds.length) c5) = w6 at hB6 b0 b1 b2 b3 r6 ⊢
      rw [← hlen6] at b3 hc6 ⊢
      obtain ⟨d, hd⟩ : ∃ d, d = bs.getD j 0 := ⟨_, rfl⟩
      have hd9 : d ≤ 9 := by have := getD_ltB (by decide) H9.out j; omega
      have hT := vl_lt 10 (bs.drop (j + 1)) (fun x hx => H9.out x (List.mem_of_mem_drop hx))
      rw [List.length_drop] at hT
      have hdrop := vl_dropD 10 bs j
      rw [← hd] at hdrop
      have hv6 : vl 10 (0 :: ds) = M * (10 * vl 10 (bs.drop (j + 1)) + 0) := by
        simp only [vl, Nat.zero_add, Nat.add_zero]; rw [HVAL.out, Nat.mul_left_comm]
      have h106 : ∀ x ∈ (0 :: ds), x < 10 := by
        intro x hx
        rcases List.mem_cons.1 hx with h | h
        · omega
        · exact H10.out x h
      have hl6 : (0 :: ds).length ≤ 200 + (bs.length - j) := by rw [hlen6]; have := HDL.out; omega
      generalize vl 10 (bs.drop (j + 1)) = T at hT hdrop hv6 HVAL
      generalize 0 :: ds = ds6 at *
      have HD := Lib.hid hd; have HT := Lib.hid hT; have HDROP := Lib.hid hdrop; have HV6 := Lib.hid hv6; have H106 := Lib.hid h106; have HL6 := Lib.hid hl6; have HC6 := Lib.hid (And.intro hc6 (And.intro hm6 r6))
      have B0 := Lib.hid b0; have B1 := Lib.hid b1; have B2 := Lib.hid b2; have B3 := Lib.hid b3; have HB := Lib.hid hB6
      clear hown hc6 hm6 hr6 hlen6 hr6' hB5 hB6 b0 b1 b2 b3 r6 hd hT hdrop hv6 h106 hl6 HGR G3 HC hz HDL H10 HVAL
      go_wp2_with fail
      go_loopg [7] (d + 1) (fun g s7 wr => ∃ (q : Nat) (ds : List Nat) (A1 : Option Addr) (c1 : Nat), g = d + 1 - q ∧ q ≤ d ∧ s7 = .int .i64 (q : Int) ∧ ds.length ≤ 200 + (bs.length - j) ∧ (∀ x ∈ ds, x < 10) ∧ vl 10 ds = M * (10 * T + q) ∧
        ds.length ≤ c1 ∧ c1 ≤ maxLen ∧ Rd wr wr.heap.size 3 A1 (ints ds) ∧ Blk wr w.heap.size 39 #[.bool sa, .slice A (dg 10 M).length c] ∧ Blk wr (w.heap.size + 1) 39 #[.bool sb, .slice A' bs.length c'] ∧ Blk wr (w.heap.size + 1 + 1) 39 #[.bool false, .slice none 0 0] ∧ Blk wr (w.heap.size + 1 + 1 + 1) 39 #[.bool false, .slice A1 ds.length c1] ∧ Below w.heap.size w wr)
      case atStart => exact ⟨0, ds6, A5, c5, rfl, by omega, rfl, HL6.out, H106.out, HV6.out, HC6.out.1, HC6.out.2.1, HC6.out.2.2, B0.out, B1.out, B2.out, B3.out, HB.out⟩
      case round =>
        clear HV6 H106 HL6 HC6 B0 B1 B2 B3 HB
        obtain ⟨q, ds, A1, c1, hg, hq, rfl, hdl, hd10, hval, hc1, hcm, hrd, b0, b1, b2, b3, hB⟩ := hrel
        obtain ⟨wo, hwo⟩ : ∃ wo, wo = wr := ⟨_, rfl⟩
        subst hwo
        have hz := b3.lt
        obtain ⟨b, off, he, hbl, hcx⟩ := (N2.out.2.2.below hB).int hj
        have hcx' : wo.cell? ⟨b, off + j, none⟩ = some (.int .i64 (d : Int)) := by
          rw [hcx, HD.out]; simp [List.getD_eq_getElem?_getD, hj]
        have HG2 := Lib.hid hg; have HDL := Lib.hid hdl; have H10 := Lib.hid hd10; have HVAL := Lib.hid hval; have HC := Lib.hid (And.intro hc1 (And.intro hcm hrd))
        have B0 := Lib.hid b0; have B1 := Lib.hid b1; have B2 := Lib.hid b2; have B3 := Lib.hid b3; have HB := Lib.hid hB
        have y0 := b0.cell1; have y1 := b1.cell1; have y2 := b3.cell0; have y3 := b3.cell1
        rw [he] at y1
        clear hg hdl hd10 hval hc1 hcm hrd b0 b1 b2 b3 hB hcx he
        by_cases hqd : q < d
        · have hqd' : (q : Int) < (d : Int) := by omega
          have hcall := Lib.hid (plus_list false A1 c1 ds A c M wo HC.out.2.2 (N1.out.2.2.below HB.out |>.more HB.out.size) (by have := HDL.out; omega) (by omega) H10.out)
          have hnew : vl 10 ds + M = M * (10 * T + (q + 1)) := by rw [HVAL.out, ← Nat.add_assoc, Nat.mul_add M (10 * T + q) 1, Nat.mul_one]
          rw [hnew] at hcall
          have hlt := prod_lt (k := q + 1) HA10.out HT.out (by omega)
          rw [show bs.length - (j + 1) + 1 = bs.length - j from by omega] at hlt
          have hlen := dg10_len hlt
          generalize hpp : M * (10 * T + (q + 1)) = p at hcall hlen hnew hlt
          have HLEN := Lib.hid hlen; have HPP := Lib.hid hpp
          clear hlen hnew hlt hpp
          go_wp2_with (go_at_call 67; refine hcall.out.mono ?_; rintro e w3 ⟨v3, rfl, hN3, hB3⟩; obtain ⟨A3, c3, rfl, hN3⟩ := hN3; have g3 := B3.out.below hB3 B3.out.lt; have k0 := g3.frozen 0; have k1 := g3.frozen 1; have z0 := g3.cell0; have z1 := g3.cell1; have HN3 := Lib.hid hN3; have HB3 := Lib.hid hB3; have G3 := Lib.hid g3; clear hN3 hB3 g3)
          go_roundg (d + 1 - (q + 1))
          case measure => have := HG2.out; omega
          case rel =>
            have hdp : decide ((p : Int) < 0) = false := decide_eq_false (by omega)
            have hN3 := HN3.out
            rw [Int.natAbs_natCast] at hN3
            have r3 := ((hN3.2.2.far (p := ⟨w.heap.size + 1 + 1 + 1, 0, none⟩) G3.out (by decide) (.bool false)).far (p := ⟨w.heap.size + 1 + 1 + 1, 1, none⟩) (G3.out.set_ 0 _) (by decide) (.slice A3 (dg 10 p).length c3))
            refine ⟨q + 1, dg 10 p, A3, c3, rfl, by omega, by go_num, HLEN.out, dg_lt (b := 10) (by decide) p, (by rw [dg_vl (b := 10) (by decide)]; exact HPP.out.symm), hN3.1, hN3.2.1, ?_, ?_, ?_, ?_, ?_, ?_⟩
            · rw [hdp]; exact r3.more (by simp)
            · exact (((B0.out.below HB3.out B0.out.lt).far (by simp; omega) _).far (by simp; omega) _)
            · exact (((B1.out.below HB3.out B1.out.lt).far (by simp) _).far (by simp) _)
            · exact (((B2.out.below HB3.out B2.out.lt).far (by simp) _).far (by simp) _)
            · rw [hdp]; exact G3.out.store2
            · exact ((HB.out.trans (HB3.out.mono HB.out.size)).setCell (by simp; omega) _).setCell (by simp; omega) _
        · obtain rfl : q = d := by omega
          go_wp2_with fail
          go_roundg (j + 1)
          case measure => have := HG.out; omega
          case rel =>
            refine ⟨j, ds, A1, c1, rfl, by omega, rfl, HDL.out, H10.out, ?_, HC.out.1, HC.out.2.1, HC.out.2.2, B0.out, B1.out, B2.out, B3.out, HB.out⟩
            rw [HVAL.out, HDROP.out, Nat.add_comm]
    · obtain rfl : k = 0 := by omega
      have hvd : vl 10 ds = M * V := by rw [HVAL.out, List.drop_zero, HVS.out]
      have y0 := b0.cell0; have y1 := b1.cell0; have y2 := b3.cell0; have y3 := b3.cell1; have k0 := b3.frozen 0
      have hdl2 : ds.length ≤ 400 := by have := HDL.out; omega
      have h3 : Blk (wo.setCell ⟨w.heap.size + 1 + 1 + 1, 0, none⟩ (.bool (!(sa == sb)))) (w.heap.size + 1 + 1 + 1) 39 #[.bool (!(sa == sb)), .slice A1 ds.length c1] := b3.set_ 0 _
      have h2 := b2.far (p := ⟨w.heap.size + 1 + 1 + 1, 0, none⟩) (by simp) (.bool (!(sa == sb)))
      have hrd := (HC.out.2.2.far (p := ⟨w.heap.size + 1 + 1 + 1, 0, none⟩) b3 (by decide) (.bool (!(sa == sb)))).more (B' := (wo.setCell ⟨w.heap.size + 1 + 1 + 1, 0, none⟩ (.bool (!(sa == sb)))).heap.size) (by simp)
      have hB7 := hB.setCell (p := ⟨w.heap.size + 1 + 1 + 1, 0, none⟩) (by simp; omega) (.bool (!(sa == sb)))
      have hT := tidy_num (!(sa == sb)) A1 c1 ds _ hrd HC.out.1 HC.out.2.1 H10.out
      have hres : sgn (!(sa == sb)) (M * V) = r := HRES.out
      rw [hvd, hres] at hT
      have z0 := h3.cell0; have z1 := h3.cell1
      have H2 := Lib.hid h2; have HB7 := Lib.hid hB7; have HT := Lib.hid hT
      clear hT h3 h2 hrd hB7 hvd b0 b1 b2 b3 hB
      go_wp2_with (go_at_call 52; refine HT.out.mono ?_; rintro e w8 ⟨v8, rfl, hN8, hB8⟩; obtain ⟨A8, c8, rfl, hN8⟩ := hN8; have g8 := H2.out.below hB8 H2.out.lt; have m0 := g8.frozen 0; have m1 := g8.frozen 1; have q0 := g8.cell0; have q1 := g8.cell1; have HN8 := Lib.hid hN8; have HB8 := Lib.hid hB8; have G8 := Lib.hid g8; clear hN8 hB8 g8)
      refine bodyPost_ret (ret39 (g := w.heap.size + 1 + 1) Tryd.results53 rfl G8.out.store2) rfl ⟨_, rfl, NumIs.store39 ⟨A8, c8, rfl, HN8.out⟩ G8.out, ?_⟩
      exact ((HB7.out.trans (HB8.out.mono HB7.out.size)).setCell (by simp; omega) _).setCell (by simp; omega) _
end Go.Proofs.YtcclclginhhlaaaDoor
