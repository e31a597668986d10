/- Package code: a reader's calls, whatever the bytes. -/
import Derived.Test.YtlcfokejoikaaaaGreatDoorUj
import Derived.Test.YtlcfokejoikaaaaGreatDoorUc
namespace Go.Proofs.YtlcfokejoikaaaaGreatDoor
open Go.RowKit Go.Shelf Vp Cp Rm
open Go
attribute [local go_sem] Oper.semAt_some

/-- The value that none is. -/
def noV : V := .mk 0 0 (Rm.bytes []) []
/-- What Value tells: none, if it failed. -/
def TellsP (p B : Nat) (w : World) (o : Option (V × List UInt8)) (e : Ending) (w' : World) : Prop :=
  ∃ u, e = .returned u ∧ Rdr p B (restO o) (failO false o) w' ∧ w.grownBy w' (some p) ∧ Lies (fun b => w.heap.size ≤ b) w' ((o.map fun x => x.1).getD noV) u

theorem Lies.set {S : Nat → Prop} {w : World} {t : V} {u : Value} (h : Lies S w t u) (p : Addr) (hp : ¬ S p.block) (x : Value) : Lies S (w.setCell p x) t u :=
  h.keep (fun b hb _ => Below.heap_setCell w p x b fun e => hp (e ▸ hb)) (by simp [World.setCell])
theorem grown_set4 {w W : World} {p q : Nat} (hq : w.heap.size ≤ q) (a b c d : Value) (h : w.grownBy W (some p)) : w.grownBy (set4 W q a b c d) (some p) := by
  have blk : ∀ (W : World) (i : Nat) (u : Value), w.grownBy W (some p) → w.grownBy (W.setCell ⟨q, i, none⟩ u) (some p) := fun W i u h =>
    ⟨h.os, h.tape, h.output, by simpa [World.setCell] using h.size, fun j hj hk => (Below.heap_setCell W ⟨q, i, none⟩ u j (fun e => by simp at e; omega)).trans (h.block j hj hk)⟩
  exact blk _ _ _ (blk _ _ _ (blk _ _ _ (blk _ _ _ h)))
theorem Lies.set4 {S : Nat → Prop} {w : World} {t : V} {u : Value} {q : Nat} (h : Lies S w t u) (hq : ¬ S q) (a b c d : Value) : Lies S (set4 w q a b c d) t u :=
  (((h.set ⟨q, 0, none⟩ hq a).set ⟨q, 1, none⟩ hq b).set ⟨q, 2, none⟩ hq c).set ⟨q, 3, none⟩ hq d
theorem Rdr.set4 {p B q : Nat} {rest : List UInt8} {f : Bool} {w : World} {cs : Array Value} (h : Rdr p B rest f w) (hX : Blk w q 34 cs) (a b c d : Value) : Rdr p B rest f (set4 w q a b c d) := by
  have h0 := hX.set_ 0 a
  have h1 := h0.set_ 1 b
  have h2 := h1.set_ 2 c
  exact (((h.set hX a).set h0 b).set h1 c).set h2 d

set_option maxRecDepth 100000 in
set_option maxHeartbeats 4000000 in
theorem checked_c (p B : Nat) (l : List UInt8) (hs : l.length ≤ 140000000000000) (f : Bool) (w : World) (h : Rdr p B l f w) :
    Calls Tryz.prog 56 #[.pointer (some ⟨p, 0, none⟩)] w fun e w' => TellsV p B w (checkedG l) f e w' := by
  have HV := Lib.hid (value_all p B 64 (by decide) l f (w.alloc (.cells #[.int .u8 0, .int .i64 0, .string ⟨#[]⟩, .slice none 0 0] 34)) hs (h.alloc _))
  have hpw := h.lt
  have HX := Lib.hid (Blk.new w 34 #[.int .u8 0, .int .i64 0, .string ⟨#[]⟩, .slice none 0 0])
  have hck : checkedG l = match valueG 64 l with
    | none => none
    | some (t, r) => if chkV t = 0 then some (t, r) else none := rfl
  obtain ⟨O, hO⟩ : ∃ O, checkedG l = O := ⟨_, rfl⟩
  rw [hO] at hck ⊢
  generalize valueG 64 l = o at HV hck
  have HCK := Lib.hid hck; have HW := Lib.hid hpw
  clear h hpw hck hO
  go_enter Tryz.func56, Tryz.ntmps56
  go_wp2_with fail
  refine HV.out.mono ?_
  rintro e w1 ⟨t, u, rfl, hr, hg, hlie, hx⟩
  obtain ⟨k, n, s, lt, At, ct, ht, rfl, hk, hn, hsz, _⟩ := hlie.rep.open_
  have hr1 := hr.alloc (.cells #[.int .u8 (k : Int), .int .i64 n, .string s, .slice At lt.length ct] 34)
  have hg1 := grown_alloc (grown_trans (grown_alloc (grown_refl w p) (.cells #[.int .u8 0, .int .i64 0, .string ⟨#[]⟩, .slice none 0 0] 34)) hg) (.cells #[.int .u8 (k : Int), .int .i64 n, .string s, .slice At lt.length ct] 34)
  have hlie1 := hlie.alloc (.cells #[.int .u8 (k : Int), .int .i64 n, .string s, .slice At lt.length ct] 34)
  have HX1 := Lib.hid ((HX.out.grown hg (by have := HW.out; intro e; injection e with e; omega)).alloc (.cells #[.int .u8 (k : Int), .int .i64 n, .string s, .slice At lt.length ct] 34))
  have HC := Lib.hid (check_c t _ _ hlie1.rep)
  have hq : w.heap.size < w1.heap.size := by have := hg.size; simp at this; omega
  obtain ⟨W, hW⟩ : ∃ W, W = w1.alloc (.cells #[.int .u8 (k : Int), .int .i64 n, .string s, .slice At lt.length ct] 34) := ⟨_, rfl⟩
  have HB := Lib.hid (Blk.new w1 34 #[.int .u8 (k : Int), .int .i64 n, .string s, .slice At lt.length ct])
  rw [← hW] at hr1 hg1 hlie1 HX1 HC HB
  have HR1 := Lib.hid hr1; have HG1 := Lib.hid hg1; have HL1 := Lib.hid hlie1; have HQ := Lib.hid hx; have HT := Lib.hid ht; have HSS := Lib.hid (And.intro hk hn)
  have hne : ¬ w1.heap.size = w.heap.size := by omega
  have HNE := Lib.hid hq
  clear hr hg hlie hx hr1 hg1 hlie1 HX HV ht hk hn hsz
  go_wp2_with fail
  rw [← hW]
  refine HC.out.mono ?_
  rintro e w2 ⟨rfl, hb⟩
  have HR2 := Lib.hid (HR1.out.under hb); have HG2 := Lib.hid (grown_of_below HG1.out (hb.mono HG1.out.size)); have HX2 := Lib.hid (HX1.out.below hb HX1.out.lt); have HB2 := Lib.hid (HB.out.below hb HB.out.lt)
  have HL2 := Lib.hid (HL1.out.keep (fun b _ hl => hb.block b hl) hb.size)
  clear hb HR1 HG1 HX1 HB HL1 HC hW
  by_cases hc : chkV t = 0
  · have hcz : (chkV t == 0) = true := by simp [hc]
    have HCC := Lib.hid hc
    rw [hc]
    clear hc hcz
    have ac0 := HX2.out.cell 0; have ac1 := HX2.out.cell 1; have ac2 := HX2.out.cell 2; have ac3 := HX2.out.cell 3
    have az0 := HX2.out.frozen 0; have az1 := HX2.out.frozen 1; have az2 := HX2.out.frozen 2; have az3 := HX2.out.frozen 3
    simp at ac0 ac1 ac2 ac3
    have bc0 := HB2.out.cell 0; have bc1 := HB2.out.cell 1; have bc2 := HB2.out.cell 2; have bc3 := HB2.out.cell 3
    have bz0 := HB2.out.frozen 0; have bz1 := HB2.out.frozen 1; have bz2 := HB2.out.frozen 2; have bz3 := HB2.out.frozen 3
    simp at bc0 bc1 bc2 bc3
    go_wp2_with fail
    refine bodyPost_ret (retV rfl rfl (blk4 HX2.out)) rfl ?_
    have ho := HCK.out
    have hq2 := HQ.out
    have hc := HCC.out
    have hO : O = o := by
      rw [ho]
      cases o with
      | none => rfl
      | some y =>
        have := hq2 y rfl
        rw [this] at hc
        show (if chkV y.1 = 0 then some (y.1, y.2) else none) = _
        rw [if_pos hc]
    rw [hO]
    exact ⟨t, _, rfl, HR2.out.set4 HX2.out _ _ _ _, grown_set4 (Nat.le_refl _) _ _ _ _ HG2.out, (Lies.set4 (S := fun b => w.heap.size + 1 ≤ b) (HL2.out.mono fun b _ hb => by simpa using hb) (by omega) _ _ _ _).mono (fun b _ hb => by omega), hq2⟩
  · have hcz : (chkV t == 0) = false := by rw [beq_eq_false_iff_ne]; exact hc
    have HCC := Lib.hid hc
    obtain ⟨z, hz⟩ : ∃ z, chkV t = z := ⟨_, rfl⟩
    rw [hz] at hcz ⊢
    clear hc hz
    have HF := Lib.hid (fail_c p B _ _ w2 HR2.out)
    go_wp2_with fail
    refine HF.out.mono ?_
    rintro e w3 ⟨rfl, hr3, hg3⟩
    have HR3 := Lib.hid hr3; have HG3 := Lib.hid (grown_trans HG2.out hg3)
    have HX3 := Lib.hid (HX2.out.grown hg3 (by have := HW.out; intro e; injection e with e; omega)); have HB3 := Lib.hid (HB2.out.grown hg3 (by have := HW.out; have := HNE.out; intro e; injection e with e; omega))
    have HL3 := Lib.hid (HL2.out.grown hg3 (by have := HW.out; simp; omega))
    clear hr3 hg3 HF
    have ac0 := HX3.out.cell 0; have ac1 := HX3.out.cell 1; have ac2 := HX3.out.cell 2; have ac3 := HX3.out.cell 3
    have az0 := HX3.out.frozen 0; have az1 := HX3.out.frozen 1; have az2 := HX3.out.frozen 2; have az3 := HX3.out.frozen 3
    simp at ac0 ac1 ac2 ac3
    have bc0 := HB3.out.cell 0; have bc1 := HB3.out.cell 1; have bc2 := HB3.out.cell 2; have bc3 := HB3.out.cell 3
    have bz0 := HB3.out.frozen 0; have bz1 := HB3.out.frozen 1; have bz2 := HB3.out.frozen 2; have bz3 := HB3.out.frozen 3
    simp at bc0 bc1 bc2 bc3
    go_wp2_with fail
    refine bodyPost_ret (retV rfl rfl (blk4 HX3.out)) rfl ?_
    have ho := HCK.out
    have hc := HCC.out
    have hq2 := HQ.out
    have hO : O = none := by
      rw [ho]
      cases o with
      | none => rfl
      | some y =>
        have := hq2 y rfl
        rw [this] at hc
        show (if chkV y.1 = 0 then some (y.1, y.2) else none) = _
        rw [if_neg hc]
    rw [hO]
    exact ⟨t, _, rfl, HR3.out.set4 HX3.out _ _ _ _, grown_set4 (Nat.le_refl _) _ _ _ _ HG3.out, (Lies.set4 (S := fun b => w.heap.size + 1 ≤ b) (HL3.out.mono fun b _ hb => by simpa using hb) (by omega) _ _ _ _).mono (fun b _ hb => by omega), fun x hx => by cases hx⟩

set_option maxRecDepth 100000 in
set_option maxHeartbeats 4000000 in
theorem unless_value (p B : Nat) (l : List UInt8) (o : Option (V × List UInt8)) (w : World) (h : Rdr p B l false w)
    (hc : ∀ W, Rdr p B l false W → Calls Tryz.prog 56 #[.pointer (some ⟨p, 0, none⟩)] W fun e w' => TellsV p B W o false e w') :
    Calls Tryz.prog 55 #[.pointer (some ⟨p, 0, none⟩), .func (.func 56) #[] #[]] w fun e w' => TellsP p B w o e w' := by
  have hpw := h.lt
  obtain ⟨W0, hW0⟩ : ∃ W, W = (w.alloc (.cells #[.int .u8 0, .int .i64 0, .string ⟨#[]⟩, .slice none 0 0] 34)).alloc (.cells #[.int .u8 0, .int .i64 0, .string ⟨#[]⟩, .slice none 0 0] 34) := ⟨_, rfl⟩
  have hr0 : Rdr p B l false W0 := hW0 ▸ (h.alloc _).alloc _
  have hx0 : Blk W0 w.heap.size 34 #[.int .u8 0, .int .i64 0, .string ⟨#[]⟩, .slice none 0 0] := hW0 ▸ (Blk.new w _ _).alloc _
  have hy0 : Blk W0 (w.heap.size + 1) 34 #[.int .u8 0, .int .i64 0, .string ⟨#[]⟩, .slice none 0 0] := hW0 ▸ (by have := Blk.new (w.alloc (.cells #[.int .u8 0, .int .i64 0, .string ⟨#[]⟩, .slice none 0 0] 34)) 34 #[.int .u8 0, .int .i64 0, .string ⟨#[]⟩, .slice none 0 0]; simpa using this)
  have hg0 : w.grownBy W0 (some p) := hW0 ▸ grown_alloc (grown_alloc (grown_refl w p) _) _
  have hs0 : W0.heap.size = w.heap.size + 2 := by rw [hW0]; simp
  have HO := Lib.hid (ok_c p B l false W0 hr0)
  have HC := Lib.hid (hc W0 hr0)
  have HX0 := Lib.hid hx0; have HY0 := Lib.hid hy0; have HG0 := Lib.hid hg0; have HS0 := Lib.hid hs0; have HW := Lib.hid hpw
  have HWE := Lib.hid hW0
  rw [hW0] at HO HC
  clear h hc hpw hr0 hx0 hy0 hg0 hs0 hW0
  go_enter Tryz.func55, Tryz.ntmps55
  go_wp2_with fail
  refine HO.out.mono ?_
  rintro e w0 ⟨rfl, rfl⟩
  go_wp2_with fail
  refine HC.out.mono ?_
  rintro e w1 ⟨t, u, rfl, hr, hg, hlie, hx⟩
  rw [← HWE.out] at hg hlie
  obtain ⟨k, n, s, lt, At, ct, ht, rfl, hk, hn, hsz, _⟩ := hlie.rep.open_
  have hr1 := hr.alloc (.cells #[.int .u8 (k : Int), .int .i64 n, .string s, .slice At lt.length ct] 34)
  have hg1 := grown_alloc (grown_trans HG0.out hg) (.cells #[.int .u8 (k : Int), .int .i64 n, .string s, .slice At lt.length ct] 34)
  have hlie1 := hlie.alloc (.cells #[.int .u8 (k : Int), .int .i64 n, .string s, .slice At lt.length ct] 34)
  have hpne : ∀ j, w.heap.size ≤ j → (some j : Option Nat) ≠ some p := fun j hj e => by have := HW.out; injection e with e; omega
  have HX1 := Lib.hid ((HX0.out.grown hg (hpne _ (Nat.le_refl _))).alloc (.cells #[.int .u8 (k : Int), .int .i64 n, .string s, .slice At lt.length ct] 34))
  have HY1 := Lib.hid ((HY0.out.grown hg (hpne _ (by omega))).alloc (.cells #[.int .u8 (k : Int), .int .i64 n, .string s, .slice At lt.length ct] 34))
  have HB := Lib.hid (Blk.new w1 34 #[.int .u8 (k : Int), .int .i64 n, .string s, .slice At lt.length ct])
  have HO2 := Lib.hid (ok_c p B _ _ _ hr1)
  have hq : w.heap.size + 2 ≤ w1.heap.size := by have := hg.size; have := HS0.out; omega
  obtain ⟨W, hW⟩ : ∃ W, W = w1.alloc (.cells #[.int .u8 (k : Int), .int .i64 n, .string s, .slice At lt.length ct] 34) := ⟨_, rfl⟩
  rw [← hW] at hr1 hg1 hlie1 HX1 HY1 HB HO2
  have HR1 := Lib.hid hr1; have HG1 := Lib.hid hg1; have HL1 := Lib.hid hlie1; have HQ := Lib.hid hx
  clear hr hg hlie hx hr1 hg1 hlie1 ht hk hn hsz hpne HC HO HX0 HY0 HG0
  go_wp2_with fail
  rw [← hW]
  refine HO2.out.mono ?_
  rintro e w2 ⟨rfl, rfl⟩
  clear hW HO2
  rcases o with _ | ⟨t0, r0⟩
  · simp only [failO, restO] at HR1 ⊢
    have ac0 := HX1.out.cell 0; have ac1 := HX1.out.cell 1; have ac2 := HX1.out.cell 2; have ac3 := HX1.out.cell 3
    have az0 := HX1.out.frozen 0; have az1 := HX1.out.frozen 1; have az2 := HX1.out.frozen 2; have az3 := HX1.out.frozen 3
    simp at ac0 ac1 ac2 ac3
    have bc0 := HY1.out.cell 0; have bc1 := HY1.out.cell 1; have bc2 := HY1.out.cell 2; have bc3 := HY1.out.cell 3
    have bz0 := HY1.out.frozen 0; have bz1 := HY1.out.frozen 1; have bz2 := HY1.out.frozen 2; have bz3 := HY1.out.frozen 3
    simp at bc0 bc1 bc2 bc3
    go_wp2_with fail
    refine bodyPost_ret (retV rfl rfl (blk4 HX1.out)) rfl ?_
    exact ⟨_, rfl, HR1.out.set4 HX1.out _ _ _ _, grown_set4 (Nat.le_refl _) _ _ _ _ HG1.out, fun w' _ => VRep.of_row (k := 0) (l := []) (by decide) ⟨by decide, by decide⟩ (by decide) (RRep.nil (by decide))⟩
  · have e1 : t = t0 := HQ.out _ rfl
    subst e1
    simp only [failO, restO] at HR1 ⊢
    have ac0 := HX1.out.cell 0; have ac1 := HX1.out.cell 1; have ac2 := HX1.out.cell 2; have ac3 := HX1.out.cell 3
    have az0 := HX1.out.frozen 0; have az1 := HX1.out.frozen 1; have az2 := HX1.out.frozen 2; have az3 := HX1.out.frozen 3
    simp at ac0 ac1 ac2 ac3
    have bc0 := HB.out.cell 0; have bc1 := HB.out.cell 1; have bc2 := HB.out.cell 2; have bc3 := HB.out.cell 3
    have bz0 := HB.out.frozen 0; have bz1 := HB.out.frozen 1; have bz2 := HB.out.frozen 2; have bz3 := HB.out.frozen 3
    simp at bc0 bc1 bc2 bc3
    go_wp2_with fail
    refine bodyPost_ret (retV rfl rfl (blk4 HX1.out)) rfl ?_
    exact ⟨_, rfl, HR1.out.set4 HX1.out _ _ _ _, grown_set4 (Nat.le_refl _) _ _ _ _ HG1.out, (Lies.set4 (S := fun b => w.heap.size + 2 ≤ b) (HL1.out.mono fun b _ hb => by have := HS0.out; omega) (by omega) _ _ _ _).mono (fun b _ hb => by omega)⟩

set_option maxRecDepth 100000 in
set_option maxHeartbeats 4000000 in
theorem valueP_c (p B : Nat) (l : List UInt8) (hs : l.length ≤ 140000000000000) (w : World) (h : Rdr p B l false w) :
    Calls Tryz.prog 23 #[.pointer (some ⟨p, 0, none⟩)] w fun e w' => TellsP p B w (checkedG l) e w' := by
  have HV := Lib.hid (unless_value p B l _ (w.alloc (.cells #[.int .u8 0, .int .i64 0, .string ⟨#[]⟩, .slice none 0 0] 34)) (h.alloc _) fun W hW => checked_c p B l hs false W hW)
  have hpw := h.lt
  have HX := Lib.hid (Blk.new w 34 #[.int .u8 0, .int .i64 0, .string ⟨#[]⟩, .slice none 0 0])
  have HW := Lib.hid hpw
  generalize checkedG l = o at HV ⊢
  clear h hpw
  go_enter Tryz.func23, Tryz.ntmps23
  go_wp2_with fail
  refine HV.out.mono ?_
  rintro e w1 ⟨u, rfl, hr, hg, hlie⟩
  obtain ⟨k, n, s, lt, At, ct, ht, rfl, hk, hn, hsz, _⟩ := hlie.rep.open_
  have HR := Lib.hid hr; have HG := Lib.hid (grown_trans (grown_alloc (grown_refl w p) _) hg); have HL := Lib.hid hlie
  have HX1 := Lib.hid (HX.out.grown hg (by have := HW.out; intro e; injection e with e; omega))
  clear hr hg hlie ht hk hn hsz HX HV
  have ac0 := HX1.out.cell 0; have ac1 := HX1.out.cell 1; have ac2 := HX1.out.cell 2; have ac3 := HX1.out.cell 3
  have az0 := HX1.out.frozen 0; have az1 := HX1.out.frozen 1; have az2 := HX1.out.frozen 2; have az3 := HX1.out.frozen 3
  simp at ac0 ac1 ac2 ac3
  go_wp2_with fail
  refine bodyPost_ret (retV rfl rfl (blk4 HX1.out)) rfl ?_
  exact ⟨_, rfl, HR.out.set4 HX1.out _ _ _ _, grown_set4 (Nat.le_refl _) _ _ _ _ HG.out, (Lies.set4 (S := fun b => w.heap.size + 1 ≤ b) (HL.out.mono fun b _ hb => by simpa using hb) (by omega) _ _ _ _).mono (fun b _ hb => by omega)⟩

end Go.Proofs.YtlcfokejoikaaaaGreatDoor
