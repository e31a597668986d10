/- Package code: a reader's whole number of any size. -/
import Derived.Test.YtlcfokejoikaaaaGreatDoorUg
namespace Go.Proofs.YtlcfokejoikaaaaGreatDoor
open Go.RowKit Go.Shelf Vp Cp Rm
open Go
attribute [local go_sem] Oper.semAt_some

theorem digG_done (m : UInt8) (s l : List UInt8) : digG m 0 s l = some (s, l) := rfl
theorem digG_end (m : UInt8) (k : Nat) (s : List UInt8) : digG m (k + 1) s [] = none := rfl
theorem digG_more (m : UInt8) (k : Nat) (s : List UInt8) (x : UInt8) (r : List UInt8) : digG m (k + 1) s (x :: r) = if digB (x ^^^ m) then digG m k (s ++ [x ^^^ m]) r else none := by
  show bindG headG _ (x :: r) = _
  rw [bindG_of (a := x) (s := r) rfl]
  by_cases h : digB (x ^^^ m)
  · rw [if_pos h, bindG_of (when_of (show 48 ≤ (x ^^^ m).toNat ∧ (x ^^^ m).toNat ≤ 57 from h) () r)]
  · rw [if_neg h]
    unfold bindG whenG
    rw [if_neg (show ¬ (48 ≤ (x ^^^ m).toNat ∧ (x ^^^ m).toNat ≤ 57) from h)]
/-- Where the reading of digits stands. -/
def DigS (m : UInt8) (O : Option (List UInt8 × List UInt8)) (f : Bool) (k : Nat) (s l : List UInt8) (g : Bool) : Prop := digG m k s l = O ∧ g = f ∨ O = none ∧ l = [] ∧ g = true
theorem DigS.end_ {m : UInt8} {O : Option (List UInt8 × List UInt8)} {f : Bool} {k : Nat} {s : List UInt8} {g : Bool} (h : DigS m O f (k + 1) s [] g) (s' : List UInt8) : DigS m O f k s' [] true := by
  rcases h with ⟨h, _⟩ | ⟨h, _⟩
  · exact .inr ⟨h.symm.trans (digG_end m k s), rfl, rfl⟩
  · exact .inr ⟨h, rfl, rfl⟩
theorem DigS.more {m : UInt8} {O : Option (List UInt8 × List UInt8)} {f : Bool} {k : Nat} {s : List UInt8} {g : Bool} {x : UInt8} {r : List UInt8} (h : DigS m O f (k + 1) s (x :: r) g) : DigS m O f k (s ++ [x ^^^ m]) (if digB (x ^^^ m) then r else []) (if digB (x ^^^ m) then g else true) := by
  rcases h with ⟨h, hg⟩ | ⟨_, h, _⟩
  · rw [digG_more] at h
    by_cases hd : digB (x ^^^ m)
    · rw [if_pos hd] at h ⊢
      rw [if_pos hd]
      exact .inl ⟨h, hg⟩
    · rw [if_neg hd] at h ⊢
      rw [if_neg hd]
      exact .inr ⟨h.symm, rfl, rfl⟩
  · cases h
theorem DigS.fin {m : UInt8} {O : Option (List UInt8 × List UInt8)} {f : Bool} {s l : List UInt8} {g : Bool} (h : DigS m O f 0 s l g) : l = restO O ∧ g = failO f O ∧ ∀ x, O = some x → s = x.1 := by
  rcases h with ⟨h, hg⟩ | ⟨h, h2, h3⟩
  · rw [digG_done] at h
    subst h
    exact ⟨rfl, hg, fun x hx => by injection hx with hx; rw [← hx]⟩
  · subst h
    exact ⟨h2, h3, fun x hx => by cases hx⟩
theorem bigG_cons (x : UInt8) (r : List UInt8) : bigG (x :: r) = if x ^^^ maskX x = 128 then bindG (countG 200 (maskX x)) (fun n => digG (maskX x) n (if maskX x = 255 then [45] else [])) r else none := by
  unfold bigG
  rw [bindG_of (a := x) (s := r) rfl]
  by_cases h : x ^^^ maskX x = 128
  · rw [if_pos h, bindG_of (when_of h () r)]
  · rw [if_neg h]
    unfold bindG whenG
    rw [if_neg h]
theorem bigG_nil : bigG [] = none := rfl
theorem dig_start {m : UInt8} {s r : List UInt8} {f : Bool} : DigS m (bindG (countG 200 m) (fun n => digG m n s) r) f (natO (countG 200 m r)) s (restO (countG 200 m r)) (failO f (countG 200 m r)) := by
  unfold bindG
  cases countG 200 m r with
  | none => exact .inr ⟨rfl, rfl, rfl⟩
  | some y => exact .inl ⟨rfl, rfl⟩
theorem nat_le {most : Int} {m : UInt8} {r : List UInt8} (h : 0 ≤ most) : (natO (countG most m r) : Int) ≤ most := by
  cases hq : countG most m r with
  | none => exact h
  | some y => exact (count_canon hq).2.1

set_option maxRecDepth 100000 in
set_option maxHeartbeats 16000000 in
theorem big_end (p B : Nat) (lv : Int)  (f : Bool) (w : World) (O : Option (List UInt8 × List UInt8)) (ho : O = none) (h : Rdr p B ([] : List UInt8) f w) :
    Calls Tryz.prog 116 #[.pointer (some ⟨p, 0, none⟩), .int .i64 lv] w fun e w' => TellsX p B w (O.map fun x => (((0 : Int), x.1, ([] : List V)), x.2)) f e w' := by
  have hBw : B ≤ w.heap.size := by obtain ⟨A, c, _, _, _, _, h5⟩ := h; exact h5
  have hpw := h.lt
  have HX := Lib.hid (Blk.new w 34 #[.int .u8 0, .int .i64 0, .string ⟨#[]⟩, .slice none 0 0])
  have HR0 := Lib.hid (h.alloc (.cells #[.int .u8 0, .int .i64 0, .string ⟨#[]⟩, .slice none 0 0] 34))
  have hmk := mask_c p B ([] : List UInt8) f _ HR0.out
  simp only at hmk
  have HM := Lib.hid hmk
  have HW := Lib.hid hpw
  have HNX := Lib.hid (next_nil p B 0 f _ HR0.out)
  have HO := Lib.hid ho
  have HG0 := Lib.hid (grown_alloc (grown_refl w p) (.cells #[.int .u8 0, .int .i64 0, .string ⟨#[]⟩, .slice none 0 0] 34))
  clear h hmk hpw ho
  go_enter Tryz.func116, Tryz.ntmps116
  go_wp2_with fail
  refine HM.out.mono ?_
  rintro e w0 ⟨rfl, rfl⟩
  go_wp2_with fail
  refine HNX.out.mono ?_
  rintro e w1 ⟨rfl, hr1, hg1⟩
  have HR1 := Lib.hid hr1; have HG1 := Lib.hid (grown_trans HG0.out hg1)
  have HX1 := Lib.hid (HX.out.grown hg1 (by have := HW.out; intro e; injection e with e; omega))
  clear hr1 hg1
  have HF := Lib.hid (fail_c p B _ _ w1 HR1.out)
  go_wp2_with fail
  refine HF.out.mono ?_
  rintro e w2 ⟨rfl, hr2, hg2⟩
  have HR2 := Lib.hid hr2; have HG2 := Lib.hid (grown_trans HG1.out hg2)
  have HX2 := Lib.hid (HX1.out.grown hg2 (by have := HW.out; intro e; injection e with e; omega))
  clear hr2 hg2
  have HC := Lib.hid (count_end p B 0 (.inl rfl) 200 true w2 HR2.out)
  go_wp2_with fail
  refine HC.out.mono ?_
  rintro e wc ⟨rfl, hr, hg⟩
  have HRC := Lib.hid hr; have HGC := Lib.hid (grown_trans HG2.out hg)
  have HXC := Lib.hid (HX2.out.grown hg (by have := HW.out; intro e; injection e with e; omega))
  have HYC : Hid (Bys w.heap.size [] wc (.slice none 0 0)) := Lib.hid ⟨rfl, .inl ⟨rfl, rfl⟩⟩
  clear hr hg
  have HNB : Hid ((0 : Nat) ≤ 200) := Lib.hid (by decide)
  have HDC : Hid (DigS 0 O f 0 [] [] true) := Lib.hid (.inr ⟨HO.out, rfl, rfl⟩)
  go_wp2_with fail
  go_loopg [23, 6] (0 + 1) (fun gg s23 s6 wr => ∃ (j : Nat) (s l' : List UInt8) (g : Bool) (A : Option Addr) (c : Nat), j ≤ 0 ∧ gg = 0 + 1 - j ∧ s23 = .int .i64 (j : Int) ∧ s6 = .slice A s.length c ∧ s.length = ([] : List UInt8).length + j ∧ Bys w.heap.size s wr (.slice A s.length c) ∧ Rdr p B l' g wr ∧ w.grownBy wr (some p) ∧ DigS 0 O f (0 - j) s l' g ∧ Blk wr w.heap.size 34 #[.int .u8 0, .int .i64 0, .string ⟨#[]⟩, .slice none 0 0])
  case atStart => exact ⟨0, ([] : List UInt8), _, _, _, _, Nat.zero_le _, rfl, rfl, rfl, rfl, HYC.out, HRC.out, HGC.out, HDC.out, HXC.out⟩
  case round =>
    clear HYC HRC HGC HDC HXC
    obtain ⟨j, s, l', g, A, c, hj, hg, rfl, rfl, hsl, hy, hr, hgr, hd, hx⟩ := hrel
    have HG := Lib.hid hg; have HY := Lib.hid hy; have HR := Lib.hid hr; have HGR := Lib.hid hgr; have HD := Lib.hid hd; have HXR := Lib.hid hx; have HSL := Lib.hid hsl
    obtain ⟨z, hz⟩ : ∃ z, s.length = z := ⟨_, rfl⟩
    have HZ := Lib.hid hz
    rw [hz] at HY ⊢
    clear hg hy hr hgr hd hx hsl hz
    by_cases hjn : j < 0
    · have hjz : (j : Int) < (0 : Int) := by omega
      have hn200 := HNB.out
      exfalso; omega
    · have hjz : ¬ (j : Int) < (0 : Int) := by omega
      obtain rfl : j = 0 := by omega
      rw [Nat.sub_self] at HD
      obtain ⟨hl', hg', hs'⟩ := HD.out.fin
      rw [hl', hg'] at HR
      have HQ := Lib.hid hs'
      have hcv := conv_c HY.out.sees
      clear hl' hg' hs' HD
      have c0 := HXR.out.cell 0; have c1 := HXR.out.cell 1; have c2 := HXR.out.cell 2; have c3 := HXR.out.cell 3
      have z0 := HXR.out.frozen 0; have z1 := HXR.out.frozen 1; have z2 := HXR.out.frozen 2; have z3 := HXR.out.frozen 3
      simp at c0 c1 c2 c3
      go_wp2_with fail
      refine bodyPost_ret (v := .agg #[.int .u8 0, .int .i64 0, .string ⟨s.toArray⟩, .slice none ([] : List V).length 0]) (by simp [results, Tryz.results116, go_sem, c0, c1, c2, c3]) rfl ?_
      exact tells_fin (s := s) (l := ([] : List V)) rfl HXR.out (rdr_map (fun x => ((0 : Int), x, ([] : List V))) HR.out) HGR.out ⟨by decide, by decide⟩ (by
        have := HSL.out; have := HNB.out; have := HZ.out
        have hs0 : (([] : List UInt8)).length ≤ 1 := by decide
        omega) (RLies.nil (by decide)) (fun x hx => by
        rcases O with _ | y
        · cases hx
        · injection hx with hx
          have e := HQ.out y rfl
          subst e
          rw [← hx]) rfl
set_option maxRecDepth 100000 in
set_option maxHeartbeats 16000000 in
theorem big_not0 (p B : Nat) (lv : Int) (x : UInt8) (r : List UInt8) (f : Bool) (w : World) (O : Option (List UInt8 × List UInt8)) (ho : O = none) (hx : ¬ x.toNat < 128) (hy : x ^^^ 0 ≠ 128) (h : Rdr p B (x :: r) f w) :
    Calls Tryz.prog 116 #[.pointer (some ⟨p, 0, none⟩), .int .i64 lv] w fun e w' => TellsX p B w (O.map fun x => (((0 : Int), x.1, ([] : List V)), x.2)) f e w' := by
  have hBw : B ≤ w.heap.size := by obtain ⟨A, c, _, _, _, _, h5⟩ := h; exact h5
  have hpw := h.lt
  have HX := Lib.hid (Blk.new w 34 #[.int .u8 0, .int .i64 0, .string ⟨#[]⟩, .slice none 0 0])
  have HR0 := Lib.hid (h.alloc (.cells #[.int .u8 0, .int .i64 0, .string ⟨#[]⟩, .slice none 0 0] 34))
  have hmk := mask_c p B (x :: r) f _ HR0.out
  simp only [if_neg hx] at hmk
  have HM := Lib.hid hmk
  have HW := Lib.hid hpw
  have HNX := Lib.hid (next_cons p B 0 (.inl rfl) x r f _ HR0.out)
  have HO := Lib.hid ho
  generalize x ^^^ 0 = y at HNX hy
  have hxz : ((y.toNat : Int) == 128) = false := by rw [beq_eq_false_iff_ne]; intro e; exact hy (UInt8.toNat_inj.1 (by simp; omega))
  have hxm : ¬ (y.toNat : Int) = 128 := by intro e; exact hy (UInt8.toNat_inj.1 (by simp; omega))
  have HG0 := Lib.hid (grown_alloc (grown_refl w p) (.cells #[.int .u8 0, .int .i64 0, .string ⟨#[]⟩, .slice none 0 0] 34))
  clear h hmk hpw ho hx hy
  go_enter Tryz.func116, Tryz.ntmps116
  go_wp2_with fail
  refine HM.out.mono ?_
  rintro e w0 ⟨rfl, rfl⟩
  go_wp2_with fail
  refine HNX.out.mono ?_
  rintro e w1 ⟨rfl, hr1, hg1⟩
  have HR1 := Lib.hid hr1; have HG1 := Lib.hid (grown_trans HG0.out hg1)
  have HX1 := Lib.hid (HX.out.grown hg1 (by have := HW.out; intro e; injection e with e; omega))
  clear hr1 hg1
  have HF := Lib.hid (fail_c p B _ _ w1 HR1.out)
  go_wp2_with fail
  refine HF.out.mono ?_
  rintro e w2 ⟨rfl, hr2, hg2⟩
  have HR2 := Lib.hid hr2; have HG2 := Lib.hid (grown_trans HG1.out hg2)
  have HX2 := Lib.hid (HX1.out.grown hg2 (by have := HW.out; intro e; injection e with e; omega))
  clear hr2 hg2
  have HC := Lib.hid (count_end p B 0 (.inl rfl) 200 true w2 HR2.out)
  go_wp2_with fail
  refine HC.out.mono ?_
  rintro e wc ⟨rfl, hr, hg⟩
  have HRC := Lib.hid hr; have HGC := Lib.hid (grown_trans HG2.out hg)
  have HXC := Lib.hid (HX2.out.grown hg (by have := HW.out; intro e; injection e with e; omega))
  have HYC : Hid (Bys w.heap.size [] wc (.slice none 0 0)) := Lib.hid ⟨rfl, .inl ⟨rfl, rfl⟩⟩
  clear hr hg
  have HNB : Hid ((0 : Nat) ≤ 200) := Lib.hid (by decide)
  have HDC : Hid (DigS 0 O f 0 [] [] true) := Lib.hid (.inr ⟨HO.out, rfl, rfl⟩)
  go_wp2_with fail
  go_loopg [23, 6] (0 + 1) (fun gg s23 s6 wr => ∃ (j : Nat) (s l' : List UInt8) (g : Bool) (A : Option Addr) (c : Nat), j ≤ 0 ∧ gg = 0 + 1 - j ∧ s23 = .int .i64 (j : Int) ∧ s6 = .slice A s.length c ∧ s.length = ([] : List UInt8).length + j ∧ Bys w.heap.size s wr (.slice A s.length c) ∧ Rdr p B l' g wr ∧ w.grownBy wr (some p) ∧ DigS 0 O f (0 - j) s l' g ∧ Blk wr w.heap.size 34 #[.int .u8 0, .int .i64 0, .string ⟨#[]⟩, .slice none 0 0])
  case atStart => exact ⟨0, ([] : List UInt8), _, _, _, _, Nat.zero_le _, rfl, rfl, rfl, rfl, HYC.out, HRC.out, HGC.out, HDC.out, HXC.out⟩
  case round =>
    clear HYC HRC HGC HDC HXC
    obtain ⟨j, s, l', g, A, c, hj, hg, rfl, rfl, hsl, hy, hr, hgr, hd, hx⟩ := hrel
    have HG := Lib.hid hg; have HY := Lib.hid hy; have HR := Lib.hid hr; have HGR := Lib.hid hgr; have HD := Lib.hid hd; have HXR := Lib.hid hx; have HSL := Lib.hid hsl
    obtain ⟨z, hz⟩ : ∃ z, s.length = z := ⟨_, rfl⟩
    have HZ := Lib.hid hz
    rw [hz] at HY ⊢
    clear hg hy hr hgr hd hx hsl hz
    by_cases hjn : j < 0
    · have hjz : (j : Int) < (0 : Int) := by omega
      have hn200 := HNB.out
      exfalso; omega
    · have hjz : ¬ (j : Int) < (0 : Int) := by omega
      obtain rfl : j = 0 := by omega
      rw [Nat.sub_self] at HD
      obtain ⟨hl', hg', hs'⟩ := HD.out.fin
      rw [hl', hg'] at HR
      have HQ := Lib.hid hs'
      have hcv := conv_c HY.out.sees
      clear hl' hg' hs' HD
      have c0 := HXR.out.cell 0; have c1 := HXR.out.cell 1; have c2 := HXR.out.cell 2; have c3 := HXR.out.cell 3
      have z0 := HXR.out.frozen 0; have z1 := HXR.out.frozen 1; have z2 := HXR.out.frozen 2; have z3 := HXR.out.frozen 3
      simp at c0 c1 c2 c3
      go_wp2_with fail
      refine bodyPost_ret (v := .agg #[.int .u8 0, .int .i64 0, .string ⟨s.toArray⟩, .slice none ([] : List V).length 0]) (by simp [results, Tryz.results116, go_sem, c0, c1, c2, c3]) rfl ?_
      exact tells_fin (s := s) (l := ([] : List V)) rfl HXR.out (rdr_map (fun x => ((0 : Int), x, ([] : List V))) HR.out) HGR.out ⟨by decide, by decide⟩ (by
        have := HSL.out; have := HNB.out; have := HZ.out
        have hs0 : (([] : List UInt8)).length ≤ 1 := by decide
        omega) (RLies.nil (by decide)) (fun x hx => by
        rcases O with _ | y
        · cases hx
        · injection hx with hx
          have e := HQ.out y rfl
          subst e
          rw [← hx]) rfl
set_option maxRecDepth 100000 in
set_option maxHeartbeats 16000000 in
theorem big_not1 (p B : Nat) (lv : Int) (x : UInt8) (r : List UInt8) (f : Bool) (w : World) (O : Option (List UInt8 × List UInt8)) (ho : O = none) (hx : x.toNat < 128) (hy : x ^^^ 255 ≠ 128) (h : Rdr p B (x :: r) f w) :
    Calls Tryz.prog 116 #[.pointer (some ⟨p, 0, none⟩), .int .i64 lv] w fun e w' => TellsX p B w (O.map fun x => (((0 : Int), x.1, ([] : List V)), x.2)) f e w' := by
  have hBw : B ≤ w.heap.size := by obtain ⟨A, c, _, _, _, _, h5⟩ := h; exact h5
  have hpw := h.lt
  have HX := Lib.hid (Blk.new w 34 #[.int .u8 0, .int .i64 0, .string ⟨#[]⟩, .slice none 0 0])
  have HR0 := Lib.hid (h.alloc (.cells #[.int .u8 0, .int .i64 0, .string ⟨#[]⟩, .slice none 0 0] 34))
  have hmk := mask_c p B (x :: r) f _ HR0.out
  simp only [if_pos hx] at hmk
  have HM := Lib.hid hmk
  have HW := Lib.hid hpw
  have HNX := Lib.hid (next_cons p B 255 (.inr rfl) x r f _ HR0.out)
  have HO := Lib.hid ho
  generalize x ^^^ 255 = y at HNX hy
  have hxz : ((y.toNat : Int) == 128) = false := by rw [beq_eq_false_iff_ne]; intro e; exact hy (UInt8.toNat_inj.1 (by simp; omega))
  have hxm : ¬ (y.toNat : Int) = 128 := by intro e; exact hy (UInt8.toNat_inj.1 (by simp; omega))
  have HG0 := Lib.hid (grown_alloc (grown_refl w p) (.cells #[.int .u8 0, .int .i64 0, .string ⟨#[]⟩, .slice none 0 0] 34))
  clear h hmk hpw ho hx hy
  go_enter Tryz.func116, Tryz.ntmps116
  go_wp2_with fail
  refine HM.out.mono ?_
  rintro e w0 ⟨rfl, rfl⟩
  go_wp2_with fail
  refine HNX.out.mono ?_
  rintro e w1 ⟨rfl, hr1, hg1⟩
  have HR1 := Lib.hid hr1; have HG1 := Lib.hid (grown_trans HG0.out hg1)
  have HX1 := Lib.hid (HX.out.grown hg1 (by have := HW.out; intro e; injection e with e; omega))
  clear hr1 hg1
  have HF := Lib.hid (fail_c p B _ _ w1 HR1.out)
  go_wp2_with fail
  refine HF.out.mono ?_
  rintro e w2 ⟨rfl, hr2, hg2⟩
  have HR2 := Lib.hid hr2; have HG2 := Lib.hid (grown_trans HG1.out hg2)
  have HX2 := Lib.hid (HX1.out.grown hg2 (by have := HW.out; intro e; injection e with e; omega))
  clear hr2 hg2
  go_wp2_with (at_builtin; refine wpList_appB _ rfl (.tmp 17) (.tmp 18) 23 rfl w.heap.size 5 (.int .u8 0) Tryz.underlying23 infoB rfl _ 0 [] rfl ⟨rfl, .inl ⟨rfl, rfl⟩⟩ w2.heap.size 1 (.int .u8 45) rfl (by simp [World.cell?_alloc_new]) (by simp [Value.oneCell']) (by decide) (by simp; have := HG2.out.size; omega) ?_; intro g' cap' w5 hA; have HA := Lib.hid hA; clear hA)
  have HR5 := Lib.hid ((HR2.out.alloc (.cells #[.int .u8 45] 5)).apped HA.out hBw)
  have HG5 := Lib.hid (grown_of_below (grown_alloc HG2.out _) HA.out.2.2)
  have HX5 := Lib.hid (HA.out.blk (HX2.out.alloc (.cells #[.int .u8 45] 5)) (by decide))
  have HY5 : Hid (Bys w.heap.size [45] w5 (.slice (some ⟨g', 0, none⟩) 1 cap')) := Lib.hid (by have := HA.out.1; unfold Bys; simpa [Lib.byteCells] using this)
  clear HA
  have HC := Lib.hid (count_end p B 255 (.inr rfl) 200 true w5 HR5.out)
  go_wp2_with fail
  refine HC.out.mono ?_
  rintro e wc ⟨rfl, hr, hg⟩
  have HRC := Lib.hid hr; have HGC := Lib.hid (grown_trans HG5.out hg)
  have HXC := Lib.hid (HX5.out.grown hg (by have := HW.out; intro e; injection e with e; omega))
  have HYC : Hid (Bys w.heap.size [45] wc (.slice (some ⟨g', 0, none⟩) 1 cap')) := Lib.hid (by obtain ⟨cs, hb⟩ := HR5.out.blk; exact HY5.out.grown hg hb)
  clear hr hg
  have HNB : Hid ((0 : Nat) ≤ 200) := Lib.hid (by decide)
  have HDC : Hid (DigS 255 O f 0 [45] [] true) := Lib.hid (.inr ⟨HO.out, rfl, rfl⟩)
  go_wp2_with fail
  go_loopg [23, 6] (0 + 1) (fun gg s23 s6 wr => ∃ (j : Nat) (s l' : List UInt8) (g : Bool) (A : Option Addr) (c : Nat), j ≤ 0 ∧ gg = 0 + 1 - j ∧ s23 = .int .i64 (j : Int) ∧ s6 = .slice A s.length c ∧ s.length = ([45] : List UInt8).length + j ∧ Bys w.heap.size s wr (.slice A s.length c) ∧ Rdr p B l' g wr ∧ w.grownBy wr (some p) ∧ DigS 255 O f (0 - j) s l' g ∧ Blk wr w.heap.size 34 #[.int .u8 0, .int .i64 0, .string ⟨#[]⟩, .slice none 0 0])
  case atStart => exact ⟨0, ([45] : List UInt8), _, _, _, _, Nat.zero_le _, rfl, rfl, rfl, rfl, HYC.out, HRC.out, HGC.out, HDC.out, HXC.out⟩
  case round =>
    clear HYC HRC HGC HDC HXC
    obtain ⟨j, s, l', g, A, c, hj, hg, rfl, rfl, hsl, hy, hr, hgr, hd, hx⟩ := hrel
    have HG := Lib.hid hg; have HY := Lib.hid hy; have HR := Lib.hid hr; have HGR := Lib.hid hgr; have HD := Lib.hid hd; have HXR := Lib.hid hx; have HSL := Lib.hid hsl
    obtain ⟨z, hz⟩ : ∃ z, s.length = z := ⟨_, rfl⟩
    have HZ := Lib.hid hz
    rw [hz] at HY ⊢
    clear hg hy hr hgr hd hx hsl hz
    by_cases hjn : j < 0
    · have hjz : (j : Int) < (0 : Int) := by omega
      have hn200 := HNB.out
      exfalso; omega
    · have hjz : ¬ (j : Int) < (0 : Int) := by omega
      obtain rfl : j = 0 := by omega
      rw [Nat.sub_self] at HD
      obtain ⟨hl', hg', hs'⟩ := HD.out.fin
      rw [hl', hg'] at HR
      have HQ := Lib.hid hs'
      have hcv := conv_c HY.out.sees
      clear hl' hg' hs' HD
      have c0 := HXR.out.cell 0; have c1 := HXR.out.cell 1; have c2 := HXR.out.cell 2; have c3 := HXR.out.cell 3
      have z0 := HXR.out.frozen 0; have z1 := HXR.out.frozen 1; have z2 := HXR.out.frozen 2; have z3 := HXR.out.frozen 3
      simp at c0 c1 c2 c3
      go_wp2_with fail
      refine bodyPost_ret (v := .agg #[.int .u8 0, .int .i64 0, .string ⟨s.toArray⟩, .slice none ([] : List V).length 0]) (by simp [results, Tryz.results116, go_sem, c0, c1, c2, c3]) rfl ?_
      exact tells_fin (s := s) (l := ([] : List V)) rfl HXR.out (rdr_map (fun x => ((0 : Int), x, ([] : List V))) HR.out) HGR.out ⟨by decide, by decide⟩ (by
        have := HSL.out; have := HNB.out; have := HZ.out
        have hs0 : (([45] : List UInt8)).length ≤ 1 := by decide
        omega) (RLies.nil (by decide)) (fun x hx => by
        rcases O with _ | y
        · cases hx
        · injection hx with hx
          have e := HQ.out y rfl
          subst e
          rw [← hx]) rfl
set_option maxRecDepth 100000 in
set_option maxHeartbeats 16000000 in
theorem big_yes0 (p B : Nat) (lv : Int) (x : UInt8) (r : List UInt8) (f : Bool) (w : World) (O : Option (List UInt8 × List UInt8)) (ho : bindG (countG 200 0) (fun n => digG 0 n []) r = O) (hx : ¬ x.toNat < 128) (hy : x ^^^ 0 = 128) (h : Rdr p B (x :: r) f w) :
    Calls Tryz.prog 116 #[.pointer (some ⟨p, 0, none⟩), .int .i64 lv] w fun e w' => TellsX p B w (O.map fun x => (((0 : Int), x.1, ([] : List V)), x.2)) f e w' := by
  have hBw : B ≤ w.heap.size := by obtain ⟨A, c, _, _, _, _, h5⟩ := h; exact h5
  have hpw := h.lt
  have HX := Lib.hid (Blk.new w 34 #[.int .u8 0, .int .i64 0, .string ⟨#[]⟩, .slice none 0 0])
  have HR0 := Lib.hid (h.alloc (.cells #[.int .u8 0, .int .i64 0, .string ⟨#[]⟩, .slice none 0 0] 34))
  have hmk := mask_c p B (x :: r) f _ HR0.out
  simp only [if_neg hx] at hmk
  have HM := Lib.hid hmk
  have HW := Lib.hid hpw
  have HNX := Lib.hid (next_cons p B 0 (.inl rfl) x r f _ HR0.out)
  have hdc : DigS 0 O f (natO (countG 200 0 r)) [] (restO (countG 200 0 r)) (failO f (countG 200 0 r)) := ho ▸ dig_start
  have hnb := nat_le (most := 200) (m := 0) (r := r) (by decide)
  have hca := count_all p B 200 0 (.inl rfl) r f
  generalize restO (countG 200 0 r) = l0 at hdc hca
  generalize failO f (countG 200 0 r) = g0 at hdc hca
  generalize natO (countG 200 0 r) = n at hdc hnb hca
  have HDC := Lib.hid hdc; have HNB : Hid (n ≤ 200) := Lib.hid (by omega); have HCA := Lib.hid hca
  rw [hy] at HNX
  have HG0 := Lib.hid (grown_alloc (grown_refl w p) (.cells #[.int .u8 0, .int .i64 0, .string ⟨#[]⟩, .slice none 0 0] 34))
  clear h hmk hpw ho hx hy hdc hnb hca
  go_enter Tryz.func116, Tryz.ntmps116
  go_wp2_with fail
  refine HM.out.mono ?_
  rintro e w0 ⟨rfl, rfl⟩
  go_wp2_with fail
  refine HNX.out.mono ?_
  rintro e w1 ⟨rfl, hr1, hg1⟩
  have HR1 := Lib.hid hr1; have HG1 := Lib.hid (grown_trans HG0.out hg1)
  have HX1 := Lib.hid (HX.out.grown hg1 (by have := HW.out; intro e; injection e with e; omega))
  clear hr1 hg1
  have HC := Lib.hid (HCA.out w1 HR1.out)
  go_wp2_with fail
  refine HC.out.mono ?_
  rintro e wc ⟨rfl, hr, hg⟩
  have HRC := Lib.hid hr; have HGC := Lib.hid (grown_trans HG1.out hg)
  have HXC := Lib.hid (HX1.out.grown hg (by have := HW.out; intro e; injection e with e; omega))
  have HYC : Hid (Bys w.heap.size [] wc (.slice none 0 0)) := Lib.hid ⟨rfl, .inl ⟨rfl, rfl⟩⟩
  clear hr hg
  go_wp2_with fail
  go_loopg [23, 6] (n + 1) (fun gg s23 s6 wr => ∃ (j : Nat) (s l' : List UInt8) (g : Bool) (A : Option Addr) (c : Nat), j ≤ n ∧ gg = n + 1 - j ∧ s23 = .int .i64 (j : Int) ∧ s6 = .slice A s.length c ∧ s.length = ([] : List UInt8).length + j ∧ Bys w.heap.size s wr (.slice A s.length c) ∧ Rdr p B l' g wr ∧ w.grownBy wr (some p) ∧ DigS 0 O f (n - j) s l' g ∧ Blk wr w.heap.size 34 #[.int .u8 0, .int .i64 0, .string ⟨#[]⟩, .slice none 0 0])
  case atStart => exact ⟨0, ([] : List UInt8), _, _, _, _, Nat.zero_le _, rfl, rfl, rfl, rfl, HYC.out, HRC.out, HGC.out, HDC.out, HXC.out⟩
  case round =>
    clear HYC HRC HGC HDC HXC
    obtain ⟨j, s, l', g, A, c, hj, hg, rfl, rfl, hsl, hy, hr, hgr, hd, hx⟩ := hrel
    have HG := Lib.hid hg; have HY := Lib.hid hy; have HR := Lib.hid hr; have HGR := Lib.hid hgr; have HD := Lib.hid hd; have HXR := Lib.hid hx; have HSL := Lib.hid hsl
    obtain ⟨z, hz⟩ : ∃ z, s.length = z := ⟨_, rfl⟩
    have HZ := Lib.hid hz
    rw [hz] at HY ⊢
    clear hg hy hr hgr hd hx hsl hz
    by_cases hjn : j < n
    · have hjz : (j : Int) < (n : Int) := by omega
      have hn200 := HNB.out
      obtain ⟨k, hk⟩ : ∃ k, n - j = k + 1 := ⟨n - j - 1, by omega⟩
      have hk2 : n - (j + 1) = k := by omega
      have HK2 := Lib.hid hk2
      rw [hk] at HD
      clear hk hk2
      rcases l' with _ | ⟨x', r'⟩
      · have HN := Lib.hid (digit_end p B 0 g wr HR.out)
        go_wp2_with fail
        refine HN.out.mono ?_
        rintro e w3 ⟨rfl, hr3, hg3⟩
        have HR3 := Lib.hid hr3; have HG3 := Lib.hid hg3
        have HGT := Lib.hid (grown_trans HGR.out hg3)
        have HY3 : Hid (Bys w.heap.size s w3 (.slice A z c)) := Lib.hid (by obtain ⟨cs, hb⟩ := HR.out.blk; exact HY.out.grown hg3 hb)
        have HX3 := Lib.hid (HXR.out.grown hg3 (by have := HW.out; intro e; injection e with e; omega))
        have HOW := Lib.hid (show w3.ownsRow w.heap.size 5 1 (.slice A z c) z (Lib.byteCells s) by have := HY3.out; unfold Bys at this; rwa [HZ.out] at this)
        have hsz : w.heap.size ≤ w3.heap.size := HGT.out.size
        clear hr3 hg3
        go_wp2_with (at_builtin; refine wpList_appB _ rfl (.tmp 25) (.tmp 29) 23 rfl w.heap.size 5 (.int .u8 0) Tryz.underlying23 infoB rfl _ z _ rfl (HOW.out.alloc _) w3.heap.size 1 (.int .u8 0) rfl (by simp [World.cell?_alloc_new]) (by simp [Value.oneCell']) (by have := HSL.out; have := HZ.out; have := HNB.out; have hs0 : (([] : List UInt8)).length ≤ 1 := (by decide); omega) (by simp; omega) ?_; intro g' cap' w4 hA; have HA := Lib.hid hA; clear hA)
        go_roundg (n + 1 - (j + 1))
        case measure => have := HG.out; omega
        case rel =>
          refine ⟨j + 1, s ++ [0], _, _, _, _, by omega, rfl, by go_num, by rw [List.length_append, HZ.out]; rfl, by rw [List.length_append, HSL.out]; rfl, ?_, (HR3.out.alloc _).apped HA.out hBw, grown_of_below (grown_alloc HGT.out _) HA.out.2.2, by rw [HK2.out]; exact HD.out.end_ _, HA.out.blk (HX3.out.alloc _) (by decide)⟩
          have := HA.out.1
          unfold Bys
          rw [byteCells_app, List.length_append, HZ.out]
          simpa [Lib.byteCells] using this
      · have HN := Lib.hid (digit_cons p B 0 x' (.inl rfl) r' g wr HR.out)
        have HD2 := Lib.hid HD.out.more
        generalize x' ^^^ 0 = y at HN HD2
        go_wp2_with fail
        refine HN.out.mono ?_
        rintro e w3 ⟨rfl, hr3, hg3⟩
        have HR3 := Lib.hid hr3; have HG3 := Lib.hid hg3
        have HGT := Lib.hid (grown_trans HGR.out hg3)
        have HY3 : Hid (Bys w.heap.size s w3 (.slice A z c)) := Lib.hid (by obtain ⟨cs, hb⟩ := HR.out.blk; exact HY.out.grown hg3 hb)
        have HX3 := Lib.hid (HXR.out.grown hg3 (by have := HW.out; intro e; injection e with e; omega))
        have HOW := Lib.hid (show w3.ownsRow w.heap.size 5 1 (.slice A z c) z (Lib.byteCells s) by have := HY3.out; unfold Bys at this; rwa [HZ.out] at this)
        have hsz : w.heap.size ≤ w3.heap.size := HGT.out.size
        clear hr3 hg3
        go_wp2_with (at_builtin; refine wpList_appB _ rfl (.tmp 25) (.tmp 29) 23 rfl w.heap.size 5 (.int .u8 0) Tryz.underlying23 infoB rfl _ z _ rfl (HOW.out.alloc _) w3.heap.size 1 (.int .u8 (y.toNat : Int)) rfl (by simp [World.cell?_alloc_new]) (by simp [Value.oneCell']) (by have := HSL.out; have := HZ.out; have := HNB.out; have hs0 : (([] : List UInt8)).length ≤ 1 := (by decide); omega) (by simp; omega) ?_; intro g' cap' w4 hA; have HA := Lib.hid hA; clear hA)
        go_roundg (n + 1 - (j + 1))
        case measure => have := HG.out; omega
        case rel =>
          refine ⟨j + 1, s ++ [y], _, _, _, _, by omega, rfl, by go_num, by rw [List.length_append, HZ.out]; rfl, by rw [List.length_append, HSL.out]; rfl, ?_, (HR3.out.alloc _).apped HA.out hBw, grown_of_below (grown_alloc HGT.out _) HA.out.2.2, by rw [HK2.out]; exact HD2.out, HA.out.blk (HX3.out.alloc _) (by decide)⟩
          have := HA.out.1
          unfold Bys
          rw [byteCells_app, List.length_append, HZ.out]
          simpa [Lib.byteCells] using this
    · have hjz : ¬ (j : Int) < (n : Int) := by omega
      obtain rfl : j = n := by omega
      rw [Nat.sub_self] at HD
      obtain ⟨hl', hg', hs'⟩ := HD.out.fin
      rw [hl', hg'] at HR
      have HQ := Lib.hid hs'
      have hcv := conv_c HY.out.sees
      clear hl' hg' hs' HD
      have c0 := HXR.out.cell 0; have c1 := HXR.out.cell 1; have c2 := HXR.out.cell 2; have c3 := HXR.out.cell 3
      have z0 := HXR.out.frozen 0; have z1 := HXR.out.frozen 1; have z2 := HXR.out.frozen 2; have z3 := HXR.out.frozen 3
      simp at c0 c1 c2 c3
      go_wp2_with fail
      refine bodyPost_ret (v := .agg #[.int .u8 0, .int .i64 0, .string ⟨s.toArray⟩, .slice none ([] : List V).length 0]) (by simp [results, Tryz.results116, go_sem, c0, c1, c2, c3]) rfl ?_
      exact tells_fin (s := s) (l := ([] : List V)) rfl HXR.out (rdr_map (fun x => ((0 : Int), x, ([] : List V))) HR.out) HGR.out ⟨by decide, by decide⟩ (by
        have := HSL.out; have := HNB.out; have := HZ.out
        have hs0 : (([] : List UInt8)).length ≤ 1 := by decide
        omega) (RLies.nil (by decide)) (fun x hx => by
        rcases O with _ | y
        · cases hx
        · injection hx with hx
          have e := HQ.out y rfl
          subst e
          rw [← hx]) rfl
set_option maxRecDepth 100000 in
set_option maxHeartbeats 16000000 in
theorem big_yes1 (p B : Nat) (lv : Int) (x : UInt8) (r : List UInt8) (f : Bool) (w : World) (O : Option (List UInt8 × List UInt8)) (ho : bindG (countG 200 255) (fun n => digG 255 n [45]) r = O) (hx : x.toNat < 128) (hy : x ^^^ 255 = 128) (h : Rdr p B (x :: r) f w) :
    Calls Tryz.prog 116 #[.pointer (some ⟨p, 0, none⟩), .int .i64 lv] w fun e w' => TellsX p B w (O.map fun x => (((0 : Int), x.1, ([] : List V)), x.2)) f e w' := by
  have hBw : B ≤ w.heap.size := by obtain ⟨A, c, _, _, _, _, h5⟩ := h; exact h5
  have hpw := h.lt
  have HX := Lib.hid (Blk.new w 34 #[.int .u8 0, .int .i64 0, .string ⟨#[]⟩, .slice none 0 0])
  have HR0 := Lib.hid (h.alloc (.cells #[.int .u8 0, .int .i64 0, .string ⟨#[]⟩, .slice none 0 0] 34))
  have hmk := mask_c p B (x :: r) f _ HR0.out
  simp only [if_pos hx] at hmk
  have HM := Lib.hid hmk
  have HW := Lib.hid hpw
  have HNX := Lib.hid (next_cons p B 255 (.inr rfl) x r f _ HR0.out)
  have hdc : DigS 255 O f (natO (countG 200 255 r)) [45] (restO (countG 200 255 r)) (failO f (countG 200 255 r)) := ho ▸ dig_start
  have hnb := nat_le (most := 200) (m := 255) (r := r) (by decide)
  have hca := count_all p B 200 255 (.inr rfl) r f
  generalize restO (countG 200 255 r) = l0 at hdc hca
  generalize failO f (countG 200 255 r) = g0 at hdc hca
  generalize natO (countG 200 255 r) = n at hdc hnb hca
  have HDC := Lib.hid hdc; have HNB : Hid (n ≤ 200) := Lib.hid (by omega); have HCA := Lib.hid hca
  rw [hy] at HNX
  have HG0 := Lib.hid (grown_alloc (grown_refl w p) (.cells #[.int .u8 0, .int .i64 0, .string ⟨#[]⟩, .slice none 0 0] 34))
  clear h hmk hpw ho hx hy hdc hnb hca
  go_enter Tryz.func116, Tryz.ntmps116
  go_wp2_with fail
  refine HM.out.mono ?_
  rintro e w0 ⟨rfl, rfl⟩
  go_wp2_with fail
  refine HNX.out.mono ?_
  rintro e w1 ⟨rfl, hr1, hg1⟩
  have HR1 := Lib.hid hr1; have HG1 := Lib.hid (grown_trans HG0.out hg1)
  have HX1 := Lib.hid (HX.out.grown hg1 (by have := HW.out; intro e; injection e with e; omega))
  clear hr1 hg1
  go_wp2_with (at_builtin; refine wpList_appB _ rfl (.tmp 17) (.tmp 18) 23 rfl w.heap.size 5 (.int .u8 0) Tryz.underlying23 infoB rfl _ 0 [] rfl ⟨rfl, .inl ⟨rfl, rfl⟩⟩ w1.heap.size 1 (.int .u8 45) rfl (by simp [World.cell?_alloc_new]) (by simp [Value.oneCell']) (by decide) (by simp; have := HG1.out.size; omega) ?_; intro g' cap' w5 hA; have HA := Lib.hid hA; clear hA)
  have HR5 := Lib.hid ((HR1.out.alloc (.cells #[.int .u8 45] 5)).apped HA.out hBw)
  have HG5 := Lib.hid (grown_of_below (grown_alloc HG1.out _) HA.out.2.2)
  have HX5 := Lib.hid (HA.out.blk (HX1.out.alloc (.cells #[.int .u8 45] 5)) (by decide))
  have HY5 : Hid (Bys w.heap.size [45] w5 (.slice (some ⟨g', 0, none⟩) 1 cap')) := Lib.hid (by have := HA.out.1; unfold Bys; simpa [Lib.byteCells] using this)
  clear HA
  have HC := Lib.hid (HCA.out w5 HR5.out)
  go_wp2_with fail
  refine HC.out.mono ?_
  rintro e wc ⟨rfl, hr, hg⟩
  have HRC := Lib.hid hr; have HGC := Lib.hid (grown_trans HG5.out hg)
  have HXC := Lib.hid (HX5.out.grown hg (by have := HW.out; intro e; injection e with e; omega))
  have HYC : Hid (Bys w.heap.size [45] wc (.slice (some ⟨g', 0, none⟩) 1 cap')) := Lib.hid (by obtain ⟨cs, hb⟩ := HR5.out.blk; exact HY5.out.grown hg hb)
  clear hr hg
  go_wp2_with fail
  go_loopg [23, 6] (n + 1) (fun gg s23 s6 wr => ∃ (j : Nat) (s l' : List UInt8) (g : Bool) (A : Option Addr) (c : Nat), j ≤ n ∧ gg = n + 1 - j ∧ s23 = .int .i64 (j : Int) ∧ s6 = .slice A s.length c ∧ s.length = ([45] : List UInt8).length + j ∧ Bys w.heap.size s wr (.slice A s.length c) ∧ Rdr p B l' g wr ∧ w.grownBy wr (some p) ∧ DigS 255 O f (n - j) s l' g ∧ Blk wr w.heap.size 34 #[.int .u8 0, .int .i64 0, .string ⟨#[]⟩, .slice none 0 0])
  case atStart => exact ⟨0, ([45] : List UInt8), _, _, _, _, Nat.zero_le _, rfl, rfl, rfl, rfl, HYC.out, HRC.out, HGC.out, HDC.out, HXC.out⟩
  case round =>
    clear HYC HRC HGC HDC HXC
    obtain ⟨j, s, l', g, A, c, hj, hg, rfl, rfl, hsl, hy, hr, hgr, hd, hx⟩ := hrel
    have HG := Lib.hid hg; have HY := Lib.hid hy; have HR := Lib.hid hr; have HGR := Lib.hid hgr; have HD := Lib.hid hd; have HXR := Lib.hid hx; have HSL := Lib.hid hsl
    obtain ⟨z, hz⟩ : ∃ z, s.length = z := ⟨_, rfl⟩
    have HZ := Lib.hid hz
    rw [hz] at HY ⊢
    clear hg hy hr hgr hd hx hsl hz
    by_cases hjn : j < n
    · have hjz : (j : Int) < (n : Int) := by omega
      have hn200 := HNB.out
      obtain ⟨k, hk⟩ : ∃ k, n - j = k + 1 := ⟨n - j - 1, by omega⟩
      have hk2 : n - (j + 1) = k := by omega
      have HK2 := Lib.hid hk2
      rw [hk] at HD
      clear hk hk2
      rcases l' with _ | ⟨x', r'⟩
      · have HN := Lib.hid (digit_end p B 255 g wr HR.out)
        go_wp2_with fail
        refine HN.out.mono ?_
        rintro e w3 ⟨rfl, hr3, hg3⟩
        have HR3 := Lib.hid hr3; have HG3 := Lib.hid hg3
        have HGT := Lib.hid (grown_trans HGR.out hg3)
        have HY3 : Hid (Bys w.heap.size s w3 (.slice A z c)) := Lib.hid (by obtain ⟨cs, hb⟩ := HR.out.blk; exact HY.out.grown hg3 hb)
        have HX3 := Lib.hid (HXR.out.grown hg3 (by have := HW.out; intro e; injection e with e; omega))
        have HOW := Lib.hid (show w3.ownsRow w.heap.size 5 1 (.slice A z c) z (Lib.byteCells s) by have := HY3.out; unfold Bys at this; rwa [HZ.out] at this)
        have hsz : w.heap.size ≤ w3.heap.size := HGT.out.size
        clear hr3 hg3
        go_wp2_with (at_builtin; refine wpList_appB _ rfl (.tmp 25) (.tmp 29) 23 rfl w.heap.size 5 (.int .u8 0) Tryz.underlying23 infoB rfl _ z _ rfl (HOW.out.alloc _) w3.heap.size 1 (.int .u8 0) rfl (by simp [World.cell?_alloc_new]) (by simp [Value.oneCell']) (by have := HSL.out; have := HZ.out; have := HNB.out; have hs0 : (([45] : List UInt8)).length ≤ 1 := (by decide); omega) (by simp; omega) ?_; intro g' cap' w4 hA; have HA := Lib.hid hA; clear hA)
        go_roundg (n + 1 - (j + 1))
        case measure => have := HG.out; omega
        case rel =>
          refine ⟨j + 1, s ++ [0], _, _, _, _, by omega, rfl, by go_num, by rw [List.length_append, HZ.out]; rfl, by rw [List.length_append, HSL.out]; rfl, ?_, (HR3.out.alloc _).apped HA.out hBw, grown_of_below (grown_alloc HGT.out _) HA.out.2.2, by rw [HK2.out]; exact HD.out.end_ _, HA.out.blk (HX3.out.alloc _) (by decide)⟩
          have := HA.out.1
          unfold Bys
          rw [byteCells_app, List.length_append, HZ.out]
          simpa [Lib.byteCells] using this
      · have HN := Lib.hid (digit_cons p B 255 x' (.inr rfl) r' g wr HR.out)
        have HD2 := Lib.hid HD.out.more
        generalize x' ^^^ 255 = y at HN HD2
        go_wp2_with fail
        refine HN.out.mono ?_
        rintro e w3 ⟨rfl, hr3, hg3⟩
        have HR3 := Lib.hid hr3; have HG3 := Lib.hid hg3
        have HGT := Lib.hid (grown_trans HGR.out hg3)
        have HY3 : Hid (Bys w.heap.size s w3 (.slice A z c)) := Lib.hid (by obtain ⟨cs, hb⟩ := HR.out.blk; exact HY.out.grown hg3 hb)
        have HX3 := Lib.hid (HXR.out.grown hg3 (by have := HW.out; intro e; injection e with e; omega))
        have HOW := Lib.hid (show w3.ownsRow w.heap.size 5 1 (.slice A z c) z (Lib.byteCells s) by have := HY3.out; unfold Bys at this; rwa [HZ.out] at this)
        have hsz : w.heap.size ≤ w3.heap.size := HGT.out.size
        clear hr3 hg3
        go_wp2_with (at_builtin; refine wpList_appB _ rfl (.tmp 25) (.tmp 29) 23 rfl w.heap.size 5 (.int .u8 0) Tryz.underlying23 infoB rfl _ z _ rfl (HOW.out.alloc _) w3.heap.size 1 (.int .u8 (y.toNat : Int)) rfl (by simp [World.cell?_alloc_new]) (by simp [Value.oneCell']) (by have := HSL.out; have := HZ.out; have := HNB.out; have hs0 : (([45] : List UInt8)).length ≤ 1 := (by decide); omega) (by simp; omega) ?_; intro g' cap' w4 hA; have HA := Lib.hid hA; clear hA)
        go_roundg (n + 1 - (j + 1))
        case measure => have := HG.out; omega
        case rel =>
          refine ⟨j + 1, s ++ [y], _, _, _, _, by omega, rfl, by go_num, by rw [List.length_append, HZ.out]; rfl, by rw [List.length_append, HSL.out]; rfl, ?_, (HR3.out.alloc _).apped HA.out hBw, grown_of_below (grown_alloc HGT.out _) HA.out.2.2, by rw [HK2.out]; exact HD2.out, HA.out.blk (HX3.out.alloc _) (by decide)⟩
          have := HA.out.1
          unfold Bys
          rw [byteCells_app, List.length_append, HZ.out]
          simpa [Lib.byteCells] using this
    · have hjz : ¬ (j : Int) < (n : Int) := by omega
      obtain rfl : j = n := by omega
      rw [Nat.sub_self] at HD
      obtain ⟨hl', hg', hs'⟩ := HD.out.fin
      rw [hl', hg'] at HR
      have HQ := Lib.hid hs'
      have hcv := conv_c HY.out.sees
      clear hl' hg' hs' HD
      have c0 := HXR.out.cell 0; have c1 := HXR.out.cell 1; have c2 := HXR.out.cell 2; have c3 := HXR.out.cell 3
      have z0 := HXR.out.frozen 0; have z1 := HXR.out.frozen 1; have z2 := HXR.out.frozen 2; have z3 := HXR.out.frozen 3
      simp at c0 c1 c2 c3
      go_wp2_with fail
      refine bodyPost_ret (v := .agg #[.int .u8 0, .int .i64 0, .string ⟨s.toArray⟩, .slice none ([] : List V).length 0]) (by simp [results, Tryz.results116, go_sem, c0, c1, c2, c3]) rfl ?_
      exact tells_fin (s := s) (l := ([] : List V)) rfl HXR.out (rdr_map (fun x => ((0 : Int), x, ([] : List V))) HR.out) HGR.out ⟨by decide, by decide⟩ (by
        have := HSL.out; have := HNB.out; have := HZ.out
        have hs0 : (([45] : List UInt8)).length ≤ 1 := by decide
        omega) (RLies.nil (by decide)) (fun x hx => by
        rcases O with _ | y
        · cases hx
        · injection hx with hx
          have e := HQ.out y rfl
          subst e
          rw [← hx]) rfl
theorem big_c (p B : Nat) (lv : Int) (l : List UInt8) (f : Bool) (w : World) (h : Rdr p B l f w) :
    Calls Tryz.prog 116 #[.pointer (some ⟨p, 0, none⟩), .int .i64 lv] w fun e w' => TellsX p B w (kindG 0 3 l) f e w' := by
  have hk : kindG 0 3 l = (bigG l).map fun x => (((0 : Int), x.1, ([] : List V)), x.2) := bind_map bigG (fun x => ((0 : Int), x, ([] : List V))) l
  rw [hk]
  cases l with
  | nil => exact big_end p B lv f w _ bigG_nil h
  | cons x r =>
    rw [bigG_cons]
    rcases mask_two x with ⟨hm, hx⟩ | ⟨hm, hx⟩
    · rw [hm]
      by_cases hy : x ^^^ 0 = 128
      · rw [if_pos hy, if_neg (by decide)]
        exact big_yes0 p B lv x r f w _ rfl hx hy h
      · rw [if_neg hy]
        exact big_not0 p B lv x r f w _ rfl hx hy h
    · rw [hm]
      by_cases hy : x ^^^ 255 = 128
      · rw [if_pos hy, if_pos rfl]
        exact big_yes1 p B lv x r f w _ rfl hx hy h
      · rw [if_neg hy]
        exact big_not1 p B lv x r f w _ rfl hx hy h
end Go.Proofs.YtlcfokejoikaaaaGreatDoor
