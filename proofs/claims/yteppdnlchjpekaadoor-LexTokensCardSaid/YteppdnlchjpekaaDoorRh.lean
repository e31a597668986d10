/- The document's own answer at any place; a byte's place. -/
import Derived.Test.YteppdnlchjpekaaDoorRg2
import Derived.Test.YteppdnlchjpekaaDoorRe
namespace Go.Proofs.YteppdnlchjpekaaDoor
open Go.RowKit Lx
open Go
attribute [local go_sem] Oper.semAt_some

set_option maxRecDepth 100000 in
set_option maxHeartbeats 4000000 in
theorem rat_quote (s : ByteArray) (hs : s.size ≤ 100000) (i : Nat) (hi : i < s.size) (hc : s[i] = 34) (w : World) :
    Calls Tryd.prog 28 #[.string s, .int .i64 (i : Int)] w fun e w' => e = .returned (atV i (fFirst (s.data.toList.drop i))) ∧ Below w.heap.size w w' := by
  have hmax : maxLen = 9223372036854775807 := rfl
  have hbk := Blk.new w 69 #[.int .u8 0, .int .i64 0, .string ⟨#[]⟩]
  have hb0 : Below w.heap.size w (w.alloc (.cells #[.int .u8 0, .int .i64 0, .string ⟨#[]⟩] 69)) := (Below.refl _ _).alloc (Nat.le_refl _) _
  have HBK0 := Lib.hid hbk; have HB0 := Lib.hid hb0
  have hiz : (i : Int) < (s.size : Int) := by omega
  clear hbk hb0
  obtain ⟨a, b, S, er, hv⟩ := at_shape i (fFirst (s.data.toList.drop i))
  have HL := Lib.hid (fun W => rlow_c s[i] W)
  rw [hc] at HL
  have HD := Lib.hid (fun W => rdigit_c s[i] W)
  rw [hc] at HD
  rw [show lowB 34 = false from rfl, show ((34 : UInt8).toNat : Int) = 34 from rfl] at HL
  rw [show digB 34 = false from rfl, show ((34 : UInt8).toNat : Int) = 34 from rfl] at HD
  have hcz : (s[i].toNat : Int) = 34 := by rw [hc]; rfl
  have HN := Lib.hid (fun W => rquoted_c s hs i hi hc W)
  rw [hv] at HN ⊢
  clear hv hc
  go_enter Tryd.func28, Tryd.ntmps28
  go_wp2_with fail
  refine (HL.out _).mono ?_
  rintro e0 w0 ⟨rfl, rfl⟩
  go_wp2_with fail
  refine (HD.out _).mono ?_
  rintro e0 w0 ⟨rfl, rfl⟩
  go_wp2_with fail
  refine (HN.out _).mono ?_
  rintro e0 w1 ⟨rfl, hb1⟩
  have HBK := Lib.hid (HBK0.out.below hb1 HBK0.out.lt); have HB := Lib.hid (HB0.out.trans (hb1.mono (by simp)))
  clear hb1
  have d0 := HBK.out.cell 0; have d1 := HBK.out.cell 1; have d2 := HBK.out.cell 2; have z0 := HBK.out.frozen 0; have z1 := HBK.out.frozen 1; have z2 := HBK.out.frozen 2
  simp at d0 d1 d2
  go_wp2_with fail
  refine bodyPost_ret (retG Tryd.results28 rfl rfl HBK.out.store3) rfl ⟨rfl, below3 HB.out (Nat.le_refl _) _ _ _⟩
theorem rat_c (s : ByteArray) (hs : s.size ≤ 100000) (i : Nat) (hi : i < s.size) (w : World) :
    Calls Tryd.prog 28 #[.string s, .int .i64 (i : Int)] w fun e w' => e = .returned (atV i (fFirst (s.data.toList.drop i))) ∧ Below w.heap.size w w' := by
  by_cases h1 : lowB s[i] = true
  · exact rat_low s hs i hi h1 w
  by_cases h2 : digB s[i] = true
  · exact rat_digit s hs i hi h2 w
  by_cases h3 : uppB s[i] = true
  · exact rat_upper s hs i hi h3 w
  by_cases h4 : s[i] = 34
  · exact rat_quote s hs i hi h4 w
  by_cases h5 : s[i] = 95
  · exact rat_any s hs i hi h5 w
  · refine rat_sign s hs i hi ?_ h4 w
    rw [part_or]
    have h95 : ((s[i].toNat : Int) == 95) = false := by rw [beq_eq_false_iff_ne]; exact fun h => h5 (UInt8.toNat_inj.1 (by show s[i].toNat = 95; omega))
    rw [h95]
    simp [h1, h2, h3]
theorem retP {fn : Func} {p : Tmp} (h : fn.results = #[.cell p 24]) {tmps : Array Value} {W : World} {g : Nat} {x y : Value} (hp : tmps.getD p undef = .pointer (some ⟨g, 0, none⟩))
    (hb : Blk W g 24 #[x, y]) : (results fn tmps).run Tryd.prog W = .ok (.agg #[x, y]) W := by
  have c0 := hb.cell 0
  have c1 := hb.cell 1
  simp at c0 c1
  rw [Array.getD_eq_getD_getElem?] at hp
  simp [results, h, hp, go_sem, c0, c1]
set_option maxRecDepth 100000 in
set_option maxHeartbeats 4000000 in
/-- The place of a byte. -/
theorem rplace_c (s : ByteArray) (hs : s.size ≤ 100000) (i : Nat) (hi : i ≤ s.size) (w : World) :
    Calls Tryd.prog 29 #[.string s, .int .i64 (i : Int)] w fun e w' => e = .returned (.agg #[.int .i64 ((adv (1, 1) (s.data.toList.take i)).1 : Int), .int .i64 ((adv (1, 1) (s.data.toList.take i)).2 : Int)]) ∧ Below w.heap.size w w' := by
  have hmax : maxLen = 9223372036854775807 := rfl
  have hb4 := (Blk.new w 24 #[.int .i64 0, .int .i64 0]).alloc (.cells #[.int .i64 1, .int .i64 1] 24)
  have hb5 := Blk.new (w.alloc (.cells #[.int .i64 0, .int .i64 0] 24)) 24 #[.int .i64 1, .int .i64 1]
  rw [show (w.alloc (.cells #[.int .i64 0, .int .i64 0] 24)).heap.size = w.heap.size + 1 by simp] at hb5
  have hu0 : Below w.heap.size w ((w.alloc (.cells #[.int .i64 0, .int .i64 0] 24)).alloc (.cells #[.int .i64 1, .int .i64 1] 24)) := ((Below.refl _ _).alloc (Nat.le_refl _) _).alloc (by simp) _
  have H4 := Lib.hid hb4; have H5 := Lib.hid hb5; have HU0 := Lib.hid hu0
  clear hb4 hb5 hu0
  go_enter Tryd.func29, Tryd.ntmps29
  go_wp2_with fail
  obtain ⟨p, hp⟩ : ∃ p, p = w.heap.size + 1 := ⟨_, rfl⟩
  rw [← hp]
  rw [← hp] at H5
  have hpw : w.heap.size < p := by omega
  clear hp
  go_loopg [6] (s.size + 1) (fun gg s6 wr => ∃ k : Nat, k ≤ i ∧ gg = s.size + 1 - k ∧ s6 = .int .i64 (k : Int) ∧ Blk wr w.heap.size 24 #[.int .i64 0, .int .i64 0] ∧ Blk wr p 24 #[.int .i64 ((adv (1, 1) (s.data.toList.take k)).1 : Int), .int .i64 ((adv (1, 1) (s.data.toList.take k)).2 : Int)] ∧ Below w.heap.size w wr)
  case atStart => exact ⟨0, Nat.zero_le _, by omega, rfl, H4.out, H5.out, HU0.out⟩
  case round =>
    clear H4 H5 HU0
    obtain ⟨k, hk, hg, rfl, hb4, hb5, hu⟩ := hrel
    have HG := Lib.hid hg; have H4 := Lib.hid hb4; have H5 := Lib.hid hb5; have HU := Lib.hid hu
    clear hg hb4 hb5 hu
    have d0 := H5.out.cell 0; have d1 := H5.out.cell 1; have z0 := H5.out.frozen 0; have z1 := H5.out.frozen 1
    have e0 := H4.out.cell 0; have e1 := H4.out.cell 1; have y0 := H4.out.frozen 0; have y1 := H4.out.frozen 1
    simp at d0 d1 e0 e1
    by_cases hlt : k < i
    · have hltz : (k : Int) < (i : Int) := by omega
      have hksz : (k : Int) < (s.size : Int) := by omega
      have hks : k < s.size := by omega
      have hkl : k < s.data.toList.length := by rw [← size_list]; exact hks
      have hst := adv_take _ _ _ (List.getElem?_eq_getElem hkl)
      have hal := adv_le (s.data.toList.take k) (1, 1) (Nat.le_refl _)
      rw [List.length_take, Nat.min_eq_left (by omega)] at hal
      generalize adv (1, 1) (s.data.toList.take k) = q at *
      have hch : s.data.toList[k] = s[k] := rfl
      rw [hch] at hst
      clear hch
      obtain ⟨c, hcc⟩ : ∃ c, c = s[k] := ⟨_, rfl⟩
      have hcz : (s[k].toNat : Int) = (c.toNat : Int) := by rw [hcc]
      rw [← hcc] at hst
      have HST := Lib.hid hst
      clear hst hcc
      by_cases h10 : c = 10
      · have hz : (s[k].toNat : Int) = 10 := by rw [hcz, h10]; rfl
        clear hcz
        go_wp2_with fail
        go_roundg (s.size + 1 - (k + 1))
        case measure => have := HG.out; omega
        case rel =>
          refine ⟨k + 1, by omega, rfl, by go_num, ?_, ?_, ?_⟩
          · exact ((H4.out.far (by simp only; omega) _).far (by simp only; omega) _).far (by simp only; omega) _
          · rw [HST.out, if_pos h10]
            dsimp only
            rw [show ((q.1 + 1 : Nat) : Int) = (q.1 : Int) + 1 by omega]
            exact ((H5.out.set_ 1 _).set_ 0 _).set_ 1 _
          · exact (((HU.out.setCell (by simp only; omega) _).setCell (by simp only; omega) _).setCell (by simp only; omega) _)
      · have hz : ¬ (s[k].toNat : Int) = 10 := by rw [hcz]; exact fun e => h10 (UInt8.toNat_inj.1 (by show c.toNat = 10; omega))
        have hz' : ((s[k].toNat : Int) == 10) = false := by rw [beq_eq_false_iff_ne]; exact hz
        clear hcz
        go_wp2_with fail
        go_roundg (s.size + 1 - (k + 1))
        case measure => have := HG.out; omega
        case rel =>
          refine ⟨k + 1, by omega, rfl, by go_num, ?_, ?_, ?_⟩
          · exact H4.out.far (by simp only; omega) _
          · rw [HST.out, if_neg h10]
            dsimp only
            rw [show ((q.2 + 1 : Nat) : Int) = (q.2 : Int) + 1 by omega]
            exact H5.out.set_ 1 _
          · exact HU.out.setCell (by simp only; omega) _
    · obtain rfl : k = i := by omega
      have hltz : ¬ (k : Int) < (k : Int) := by omega
      go_wp2_with fail
      refine bodyPost_ret (retP Tryd.results29 rfl (H4.out.store2)) rfl ⟨rfl, (HU.out.setCell (Nat.le_refl _) _).setCell (Nat.le_refl _) _⟩
end Go.Proofs.YteppdnlchjpekaaDoor
