/- The statements of layer 3: what a question tells. -/
import Derived.Test.YtlcfokejoikaaaaGreatDoorUn
namespace Go.Proofs.YtlcfokejoikaaaaGreatDoor
open Go.RowKit Go.Shelf Vp Cp Rm
open Go
attribute [local go_sem] Oper.semAt_some

/-- A number, a text, a value. -/
abbrev Told := Int × List UInt8 × V
def askG (k : Nat) (most : Int) : Rd_ Told :=
  if k = 0 then bindG numG fun z => fun l => some ((z, [], noV), l)
  else if k = 1 then bindG (countG most 0) fun n => fun l => some (((n : Int), [], noV), l)
  else if k = 2 then bindG (strG most []) fun s => fun l => some ((0, s, noV), l)
  else if k = 3 then bindG flagG fun b => fun l => some ((if b then 1 else 0, [], noV), l)
  else bindG checkedG fun t => fun l => some ((0, [], t), l)
theorem Loc.ask (k : Nat) (most : Int) : Rm.Loc (askG k most) := by
  unfold askG
  split
  · exact Rm.Loc.bind Rm.Loc.num fun _ => Rm.Loc.ret _
  split
  · exact Rm.Loc.bind (Rm.Loc.count _ _) fun _ => Rm.Loc.ret _
  split
  · exact Rm.Loc.bind (Rm.Loc.str _ _) fun _ => Rm.Loc.ret _
  split
  · exact Rm.Loc.bind Rm.Loc.flag fun _ => Rm.Loc.ret _
  · exact Rm.Loc.bind Rm.Loc.checked fun _ => Rm.Loc.ret _
/-- What was told: nothing, if it failed. -/
def toldO : Option (Told × List UInt8) → Told
  | some x => x.1
  | none => (0, [], noV)
def isO {α : Type} : Option α → Bool
  | some _ => true
  | none => false
/-- What a question tells. -/
def TellsA (p B : Nat) (w : World) (o : Option (Told × List UInt8)) (e : Ending) (w' : World) : Prop :=
  ∃ a b c d, e = .returned (.agg #[.int .i64 (toldO o).1, .string ⟨(toldO o).2.1.toArray⟩, a, b, c, d, .bool (isO o)]) ∧ Lies (fun b => w.heap.size ≤ b) w' (toldO o).2.2 (.agg #[a, b, c, d]) ∧ Rdr p B (restO o) (failO false o) w' ∧ w.grownBy w' (some p)
theorem Rdr.setT {p B q i : Nat} {t : TypeId} {rest : List UInt8} {f : Bool} {w : World} {cs : Array Value} (h : Rdr p B rest f w) (hq : Blk w q t cs) (h1 : 74 ≠ t) (h2 : 5 ≠ t) (x : Value) : Rdr p B rest f (w.setCell ⟨q, i, none⟩ x) := by
  obtain ⟨A, c, k1, k2, k3, k4, k5⟩ := h
  exact ⟨A, c, k1.far (p := ⟨q, i, none⟩) (Blk.ne_ k1 hq h1) x, k2, k3, k4.far (p := ⟨q, i, none⟩) hq h2 x, by simpa [World.setCell] using k5⟩
theorem grown_setN {a b : World} {p q : Nat} (h : a.grownBy b (some p)) (hq : a.heap.size ≤ q) (i : Nat) (u : Value) : a.grownBy (b.setCell ⟨q, i, none⟩ u) (some p) :=
  ⟨h.os, h.tape, h.output, by simpa [World.setCell] using h.size, fun j hj hk => (Below.heap_setCell b ⟨q, i, none⟩ u j (fun e => by simp at e; omega)).trans (h.block j hj hk)⟩
theorem retA {fn : Func} {q : Tmp} (h : fn.results = #[.cell q 36]) {tmps : Array Value} {W : World} {g : Nat} {x0 x1 x2 x3 x4 x5 x6 : Value} (hq : tmps.getD q undef = .pointer (some ⟨g, 0, none⟩)) (hb : Blk W g 36 #[x0, x1, x2, x3, x4, x5, x6]) : (results fn tmps).run Tryz.prog W = .ok (.agg #[x0, x1, x2, x3, x4, x5, x6]) W := by
  have c0 := hb.cell 0
  have c1 := hb.cell 1
  have c2 := hb.cell 2
  have c3 := hb.cell 3
  have c4 := hb.cell 4
  have c5 := hb.cell 5
  have c6 := hb.cell 6
  simp at c0 c1 c2 c3 c4 c5 c6
  rw [Array.getD_eq_getD_getElem?] at hq
  simp [results, h, hq, go_sem, c0, c1, c2, c3, c4, c5, c6]
def set7 (w : World) (q : Nat) (x0 x1 x2 x3 x4 x5 x6 : Value) : World := ((((((w.setCell ⟨q, 0, none⟩ x0).setCell ⟨q, 1, none⟩ x1).setCell ⟨q, 2, none⟩ x2).setCell ⟨q, 3, none⟩ x3).setCell ⟨q, 4, none⟩ x4).setCell ⟨q, 5, none⟩ x5).setCell ⟨q, 6, none⟩ x6
theorem blk7 {w : World} {q : Nat} {t : TypeId} {y0 y1 y2 y3 y4 y5 y6 x0 x1 x2 x3 x4 x5 x6 : Value} (h : Blk w q t #[y0, y1, y2, y3, y4, y5, y6]) : Blk (set7 w q x0 x1 x2 x3 x4 x5 x6) q t #[x0, x1, x2, x3, x4, x5, x6] := by
  have := ((((((h.set_ 0 x0).set_ 1 x1).set_ 2 x2).set_ 3 x3).set_ 4 x4).set_ 5 x5).set_ 6 x6
  simpa [set7] using this
theorem tellsA_fin {p B q : Nat} {w W : World} {o : Option (Told × List UInt8)} {a b c d : Value} {cs : Array Value} (hq : q = w.heap.size + 1) (hX : Blk W q 36 cs) (hr : Rdr p B (restO o) (failO false o) W) (hg : w.grownBy W (some p))
    (hl : Lies (fun b => q + 1 ≤ b) W (toldO o).2.2 (.agg #[a, b, c, d])) {x0 x1 x2 x3 x4 x5 x6 : Value} {v : Value} (hv : v = .agg #[.int .i64 (toldO o).1, .string ⟨(toldO o).2.1.toArray⟩, a, b, c, d, .bool (isO o)]) :
    TellsA p B w o (.returned v) (set7 W q x0 x1 x2 x3 x4 x5 x6) := by
  subst hv
  have n1 : 74 ≠ 36 := by decide
  have n2 : 5 ≠ 36 := by decide
  have ne : ¬ q + 1 ≤ q := by omega
  have hle : w.heap.size ≤ q := by omega
  have h0 := hX.set_ 0 x0
  have h1 := h0.set_ 1 x1
  have h2 := h1.set_ 2 x2
  have h3 := h2.set_ 3 x3
  have h4 := h3.set_ 4 x4
  have h5 := h4.set_ 5 x5
  refine ⟨a, b, c, d, rfl, Lies.mono (S := fun b => q + 1 ≤ b) ?_ (fun b _ hb => by omega), ?_, ?_⟩
  · exact ((((((hl.set ⟨q, 0, none⟩ ne x0).set ⟨q, 1, none⟩ ne x1).set ⟨q, 2, none⟩ ne x2).set ⟨q, 3, none⟩ ne x3).set ⟨q, 4, none⟩ ne x4).set ⟨q, 5, none⟩ ne x5).set ⟨q, 6, none⟩ ne x6
  · exact ((((((hr.setT hX n1 n2 x0).setT h0 n1 n2 x1).setT h1 n1 n2 x2).setT h2 n1 n2 x3).setT h3 n1 n2 x4).setT h4 n1 n2 x5).setT h5 n1 n2 x6
  · exact grown_setN (grown_setN (grown_setN (grown_setN (grown_setN (grown_setN (grown_setN hg hle 0 x0) hle 1 x1) hle 2 x2) hle 3 x3) hle 4 x4) hle 5 x5) hle 6 x6
theorem lies_none {S : Nat → Prop} {w : World} : Lies S w noV (.agg #[.int .u8 0, .int .i64 0, .string ⟨#[]⟩, .slice none 0 0]) := fun _ _ => VRep.of_row (k := 0) (s := Rm.bytes []) (l := []) (by decide) ⟨by decide, by decide⟩ (by decide) (RRep.nil (by decide))

set_option maxRecDepth 100000 in
set_option maxHeartbeats 4000000 in
theorem of_num (p B : Nat) (most : Int) (l : List UInt8) (_hs : l.length ≤ 140000000000000) (w : World) (h : Rdr p B l false w) :
    Calls Tryz.prog 13 #[.agg #[.int .u8 0, .int .i64 most], .pointer (some ⟨p, 0, none⟩)] w fun e w' => TellsA p B w (askG 0 most l) e w' := by
  obtain ⟨W0, hW0⟩ : ∃ W, W = (((w.alloc (.cells #[.int .u8 0, .int .i64 most] 38)).alloc (.cells #[.int .i64 0, .string ⟨#[]⟩, .int .u8 0, .int .i64 0, .string ⟨#[]⟩, .slice none 0 0, .bool false] 36)).alloc (.cells #[.int .i64 0, .string ⟨#[]⟩, .int .u8 0, .int .i64 0, .string ⟨#[]⟩, .slice none 0 0, .bool false] 36)) := ⟨_, rfl⟩
  have hr0 : Rdr p B l false W0 := hW0 ▸ ((h.alloc _).alloc _).alloc _
  have hg0 : w.grownBy W0 (some p) := hW0 ▸ grown_alloc (grown_alloc (grown_alloc (grown_refl w p) _) _) _
  have hs0 : W0.heap.size = w.heap.size + 3 := by rw [hW0]; simp
  have hR : Blk W0 (w.heap.size + 1) 36 #[.int .i64 0, .string ⟨#[]⟩, .int .u8 0, .int .i64 0, .string ⟨#[]⟩, .slice none 0 0, .bool false] := hW0 ▸ (by have := (Blk.new (w.alloc (.cells #[.int .u8 0, .int .i64 most] 38)) 36 #[.int .i64 0, .string ⟨#[]⟩, .int .u8 0, .int .i64 0, .string ⟨#[]⟩, .slice none 0 0, .bool false]).alloc (.cells #[.int .i64 0, .string ⟨#[]⟩, .int .u8 0, .int .i64 0, .string ⟨#[]⟩, .slice none 0 0, .bool false] 36); simpa using this)
  have hT : Blk W0 (w.heap.size + 1 + 1) 36 #[.int .i64 0, .string ⟨#[]⟩, .int .u8 0, .int .i64 0, .string ⟨#[]⟩, .slice none 0 0, .bool false] := hW0 ▸ (by have := Blk.new ((w.alloc (.cells #[.int .u8 0, .int .i64 most] 38)).alloc (.cells #[.int .i64 0, .string ⟨#[]⟩, .int .u8 0, .int .i64 0, .string ⟨#[]⟩, .slice none 0 0, .bool false] 36)) 36 #[.int .i64 0, .string ⟨#[]⟩, .int .u8 0, .int .i64 0, .string ⟨#[]⟩, .slice none 0 0, .bool false]; simpa using this)
  have hpw := h.lt
  have HC := Lib.hid (numP_all p B l W0 hr0)
  have hm : askG 0 most l = (numG l).map fun x => ((x.1, ([] : List UInt8), noV), x.2) := bind_map numG (fun z => (z, ([] : List UInt8), noV)) l
  generalize numG l = o at HC hm
  rw [hm]
  have HW := Lib.hid hpw; have HG0 := Lib.hid hg0; have HS0 := Lib.hid hs0; have HR0 := Lib.hid hR; have HT0 := Lib.hid hT
  have HWE := Lib.hid hW0
  rw [hW0] at HC
  clear h hpw hr0 hg0 hs0 hR hT hW0 hm _hs
  go_enter Tryz.func13, Tryz.ntmps13
  go_wp2_with fail
  refine HC.out.mono ?_
  rintro e w1 ⟨rfl, hr, hg⟩
  rw [← HWE.out] at hg
  have HG1 := Lib.hid (grown_trans HG0.out hg)
  have hpne : ∀ j, w.heap.size ≤ j → (some j : Option Nat) ≠ some p := fun j hj e => by have := HW.out; injection e with e; omega
  have HR1 := Lib.hid (HR0.out.grown hg (hpne _ (by omega))); have HT1 := Lib.hid (HT0.out.grown hg (hpne _ (by omega)))
  have HRD := Lib.hid hr

  clear hr hg hpne HC HR0 HT0 HG0
  have HRD2 := Lib.hid (HRD.out.setT (i := 0) HT1.out (by decide) (by decide) (.int .i64 (intO o)))
  have HG2 := Lib.hid (grown_setN HG1.out (q := w.heap.size + 1 + 1) (by omega) 0 (.int .i64 (intO o)))
  have HR2 := Lib.hid (HR1.out.far (p := ⟨w.heap.size + 1 + 1, 0, none⟩) (by simp) (.int .i64 (intO o)))
  have HT2 := Lib.hid (HT1.out.set_ 0 (.int .i64 (intO o)))
  have HO := Lib.hid (ok_c p B _ _ _ HRD2.out)
  have ac0 := HR1.out.cell 0; have az0 := HR1.out.frozen 0
  have ac1 := HR1.out.cell 1; have az1 := HR1.out.frozen 1
  have ac2 := HR1.out.cell 2; have az2 := HR1.out.frozen 2
  have ac3 := HR1.out.cell 3; have az3 := HR1.out.frozen 3
  have ac4 := HR1.out.cell 4; have az4 := HR1.out.frozen 4
  have ac5 := HR1.out.cell 5; have az5 := HR1.out.frozen 5
  have ac6 := HR1.out.cell 6; have az6 := HR1.out.frozen 6
  simp at ac0 ac1 ac2 ac3 ac4 ac5 ac6
  have bc0 := HT1.out.cell 0; have bz0 := HT1.out.frozen 0
  have bc1 := HT1.out.cell 1; have bz1 := HT1.out.frozen 1
  have bc2 := HT1.out.cell 2; have bz2 := HT1.out.frozen 2
  have bc3 := HT1.out.cell 3; have bz3 := HT1.out.frozen 3
  have bc4 := HT1.out.cell 4; have bz4 := HT1.out.frozen 4
  have bc5 := HT1.out.cell 5; have bz5 := HT1.out.frozen 5
  have bc6 := HT1.out.cell 6; have bz6 := HT1.out.frozen 6
  simp at bc0 bc1 bc2 bc3 bc4 bc5 bc6

  go_wp2_with fail
  refine HO.out.mono ?_
  rintro e w2 ⟨rfl, rfl⟩
  go_wp2_with fail
  refine bodyPost_ret (retA rfl rfl (blk7 (HR2.out.far (p := ⟨w.heap.size + 1 + 1, 6, none⟩) (by simp) _))) rfl ?_
  cases o with
  | none => exact tellsA_fin rfl (HR2.out.far (p := ⟨w.heap.size + 1 + 1, 6, none⟩) (by simp) _) (HRD2.out.setT HT2.out (by decide) (by decide) _) (grown_setN HG2.out (by omega) 6 _) lies_none rfl
  | some y => exact tellsA_fin rfl (HR2.out.far (p := ⟨w.heap.size + 1 + 1, 6, none⟩) (by simp) _) (HRD2.out.setT HT2.out (by decide) (by decide) _) (grown_setN HG2.out (by omega) 6 _) lies_none rfl

set_option maxRecDepth 100000 in
set_option maxHeartbeats 4000000 in
theorem of_count (p B : Nat) (most : Int) (l : List UInt8) (_hs : l.length ≤ 140000000000000) (w : World) (h : Rdr p B l false w) :
    Calls Tryz.prog 13 #[.agg #[.int .u8 1, .int .i64 most], .pointer (some ⟨p, 0, none⟩)] w fun e w' => TellsA p B w (askG 1 most l) e w' := by
  obtain ⟨W0, hW0⟩ : ∃ W, W = (((w.alloc (.cells #[.int .u8 1, .int .i64 most] 38)).alloc (.cells #[.int .i64 0, .string ⟨#[]⟩, .int .u8 0, .int .i64 0, .string ⟨#[]⟩, .slice none 0 0, .bool false] 36)).alloc (.cells #[.int .i64 0, .string ⟨#[]⟩, .int .u8 0, .int .i64 0, .string ⟨#[]⟩, .slice none 0 0, .bool false] 36)) := ⟨_, rfl⟩
  have hr0 : Rdr p B l false W0 := hW0 ▸ ((h.alloc _).alloc _).alloc _
  have hg0 : w.grownBy W0 (some p) := hW0 ▸ grown_alloc (grown_alloc (grown_alloc (grown_refl w p) _) _) _
  have hs0 : W0.heap.size = w.heap.size + 3 := by rw [hW0]; simp
  have hR : Blk W0 (w.heap.size + 1) 36 #[.int .i64 0, .string ⟨#[]⟩, .int .u8 0, .int .i64 0, .string ⟨#[]⟩, .slice none 0 0, .bool false] := hW0 ▸ (by have := (Blk.new (w.alloc (.cells #[.int .u8 1, .int .i64 most] 38)) 36 #[.int .i64 0, .string ⟨#[]⟩, .int .u8 0, .int .i64 0, .string ⟨#[]⟩, .slice none 0 0, .bool false]).alloc (.cells #[.int .i64 0, .string ⟨#[]⟩, .int .u8 0, .int .i64 0, .string ⟨#[]⟩, .slice none 0 0, .bool false] 36); simpa using this)
  have hT : Blk W0 (w.heap.size + 1 + 1) 36 #[.int .i64 0, .string ⟨#[]⟩, .int .u8 0, .int .i64 0, .string ⟨#[]⟩, .slice none 0 0, .bool false] := hW0 ▸ (by have := Blk.new ((w.alloc (.cells #[.int .u8 1, .int .i64 most] 38)).alloc (.cells #[.int .i64 0, .string ⟨#[]⟩, .int .u8 0, .int .i64 0, .string ⟨#[]⟩, .slice none 0 0, .bool false] 36)) 36 #[.int .i64 0, .string ⟨#[]⟩, .int .u8 0, .int .i64 0, .string ⟨#[]⟩, .slice none 0 0, .bool false]; simpa using this)
  have hpw := h.lt
  have HC := Lib.hid (countP_all p B most l W0 hr0)
  have hm : askG 1 most l = (countG most 0 l).map fun x => (((x.1 : Int), ([] : List UInt8), noV), x.2) := bind_map (countG most 0) (fun z => ((z : Int), ([] : List UInt8), noV)) l
  generalize countG most 0 l = o at HC hm
  rw [hm]
  have HW := Lib.hid hpw; have HG0 := Lib.hid hg0; have HS0 := Lib.hid hs0; have HR0 := Lib.hid hR; have HT0 := Lib.hid hT
  have HWE := Lib.hid hW0
  rw [hW0] at HC
  clear h hpw hr0 hg0 hs0 hR hT hW0 hm _hs
  go_enter Tryz.func13, Tryz.ntmps13
  go_wp2_with fail
  refine HC.out.mono ?_
  rintro e w1 ⟨rfl, hr, hg⟩
  rw [← HWE.out] at hg
  have HG1 := Lib.hid (grown_trans HG0.out hg)
  have hpne : ∀ j, w.heap.size ≤ j → (some j : Option Nat) ≠ some p := fun j hj e => by have := HW.out; injection e with e; omega
  have HR1 := Lib.hid (HR0.out.grown hg (hpne _ (by omega))); have HT1 := Lib.hid (HT0.out.grown hg (hpne _ (by omega)))
  have HRD := Lib.hid hr

  clear hr hg hpne HC HR0 HT0 HG0
  have HRD2 := Lib.hid (HRD.out.setT (i := 0) HT1.out (by decide) (by decide) (.int .i64 (natO o : Int)))
  have HG2 := Lib.hid (grown_setN HG1.out (q := w.heap.size + 1 + 1) (by omega) 0 (.int .i64 (natO o : Int)))
  have HR2 := Lib.hid (HR1.out.far (p := ⟨w.heap.size + 1 + 1, 0, none⟩) (by simp) (.int .i64 (natO o : Int)))
  have HT2 := Lib.hid (HT1.out.set_ 0 (.int .i64 (natO o : Int)))
  have HO := Lib.hid (ok_c p B _ _ _ HRD2.out)
  have ac0 := HR1.out.cell 0; have az0 := HR1.out.frozen 0
  have ac1 := HR1.out.cell 1; have az1 := HR1.out.frozen 1
  have ac2 := HR1.out.cell 2; have az2 := HR1.out.frozen 2
  have ac3 := HR1.out.cell 3; have az3 := HR1.out.frozen 3
  have ac4 := HR1.out.cell 4; have az4 := HR1.out.frozen 4
  have ac5 := HR1.out.cell 5; have az5 := HR1.out.frozen 5
  have ac6 := HR1.out.cell 6; have az6 := HR1.out.frozen 6
  simp at ac0 ac1 ac2 ac3 ac4 ac5 ac6
  have bc0 := HT1.out.cell 0; have bz0 := HT1.out.frozen 0
  have bc1 := HT1.out.cell 1; have bz1 := HT1.out.frozen 1
  have bc2 := HT1.out.cell 2; have bz2 := HT1.out.frozen 2
  have bc3 := HT1.out.cell 3; have bz3 := HT1.out.frozen 3
  have bc4 := HT1.out.cell 4; have bz4 := HT1.out.frozen 4
  have bc5 := HT1.out.cell 5; have bz5 := HT1.out.frozen 5
  have bc6 := HT1.out.cell 6; have bz6 := HT1.out.frozen 6
  simp at bc0 bc1 bc2 bc3 bc4 bc5 bc6

  go_wp2_with fail
  refine HO.out.mono ?_
  rintro e w2 ⟨rfl, rfl⟩
  go_wp2_with fail
  refine bodyPost_ret (retA rfl rfl (blk7 (HR2.out.far (p := ⟨w.heap.size + 1 + 1, 6, none⟩) (by simp) _))) rfl ?_
  cases o with
  | none => exact tellsA_fin rfl (HR2.out.far (p := ⟨w.heap.size + 1 + 1, 6, none⟩) (by simp) _) (HRD2.out.setT HT2.out (by decide) (by decide) _) (grown_setN HG2.out (by omega) 6 _) lies_none rfl
  | some y => exact tellsA_fin rfl (HR2.out.far (p := ⟨w.heap.size + 1 + 1, 6, none⟩) (by simp) _) (HRD2.out.setT HT2.out (by decide) (by decide) _) (grown_setN HG2.out (by omega) 6 _) lies_none rfl

set_option maxRecDepth 100000 in
set_option maxHeartbeats 4000000 in
theorem of_text (p B : Nat) (most : Int) (l : List UInt8) (hs : l.length ≤ 140000000000000) (w : World) (h : Rdr p B l false w) :
    Calls Tryz.prog 13 #[.agg #[.int .u8 2, .int .i64 most], .pointer (some ⟨p, 0, none⟩)] w fun e w' => TellsA p B w (askG 2 most l) e w' := by
  obtain ⟨W0, hW0⟩ : ∃ W, W = (((w.alloc (.cells #[.int .u8 2, .int .i64 most] 38)).alloc (.cells #[.int .i64 0, .string ⟨#[]⟩, .int .u8 0, .int .i64 0, .string ⟨#[]⟩, .slice none 0 0, .bool false] 36)).alloc (.cells #[.int .i64 0, .string ⟨#[]⟩, .int .u8 0, .int .i64 0, .string ⟨#[]⟩, .slice none 0 0, .bool false] 36)) := ⟨_, rfl⟩
  have hr0 : Rdr p B l false W0 := hW0 ▸ ((h.alloc _).alloc _).alloc _
  have hg0 : w.grownBy W0 (some p) := hW0 ▸ grown_alloc (grown_alloc (grown_alloc (grown_refl w p) _) _) _
  have hs0 : W0.heap.size = w.heap.size + 3 := by rw [hW0]; simp
  have hR : Blk W0 (w.heap.size + 1) 36 #[.int .i64 0, .string ⟨#[]⟩, .int .u8 0, .int .i64 0, .string ⟨#[]⟩, .slice none 0 0, .bool false] := hW0 ▸ (by have := (Blk.new (w.alloc (.cells #[.int .u8 2, .int .i64 most] 38)) 36 #[.int .i64 0, .string ⟨#[]⟩, .int .u8 0, .int .i64 0, .string ⟨#[]⟩, .slice none 0 0, .bool false]).alloc (.cells #[.int .i64 0, .string ⟨#[]⟩, .int .u8 0, .int .i64 0, .string ⟨#[]⟩, .slice none 0 0, .bool false] 36); simpa using this)
  have hT : Blk W0 (w.heap.size + 1 + 1) 36 #[.int .i64 0, .string ⟨#[]⟩, .int .u8 0, .int .i64 0, .string ⟨#[]⟩, .slice none 0 0, .bool false] := hW0 ▸ (by have := Blk.new ((w.alloc (.cells #[.int .u8 2, .int .i64 most] 38)).alloc (.cells #[.int .i64 0, .string ⟨#[]⟩, .int .u8 0, .int .i64 0, .string ⟨#[]⟩, .slice none 0 0, .bool false] 36)) 36 #[.int .i64 0, .string ⟨#[]⟩, .int .u8 0, .int .i64 0, .string ⟨#[]⟩, .slice none 0 0, .bool false]; simpa using this)
  have hpw := h.lt
  have HC := Lib.hid (strP_all p B most l hs W0 hr0)
  have hm : askG 2 most l = (strG most [] l).map fun x => (((0 : Int), x.1, noV), x.2) := bind_map (strG most []) (fun s => ((0 : Int), s, noV)) l
  generalize strG most [] l = o at HC hm
  rw [hm]
  have HW := Lib.hid hpw; have HG0 := Lib.hid hg0; have HS0 := Lib.hid hs0; have HR0 := Lib.hid hR; have HT0 := Lib.hid hT
  have HWE := Lib.hid hW0
  rw [hW0] at HC
  clear h hpw hr0 hg0 hs0 hR hT hW0 hm hs
  go_enter Tryz.func13, Tryz.ntmps13
  go_wp2_with fail
  refine HC.out.mono ?_
  rintro e w1 ⟨rfl, hr, hg⟩
  rw [← HWE.out] at hg
  have HG1 := Lib.hid (grown_trans HG0.out hg)
  have hpne : ∀ j, w.heap.size ≤ j → (some j : Option Nat) ≠ some p := fun j hj e => by have := HW.out; injection e with e; omega
  have HR1 := Lib.hid (HR0.out.grown hg (hpne _ (by omega))); have HT1 := Lib.hid (HT0.out.grown hg (hpne _ (by omega)))
  have HRD := Lib.hid hr

  clear hr hg hpne HC HR0 HT0 HG0
  have HRD2 := Lib.hid (HRD.out.setT (i := 1) HT1.out (by decide) (by decide) (.string ⟨(txtO o).toArray⟩))
  have HG2 := Lib.hid (grown_setN HG1.out (q := w.heap.size + 1 + 1) (by omega) 1 (.string ⟨(txtO o).toArray⟩))
  have HR2 := Lib.hid (HR1.out.far (p := ⟨w.heap.size + 1 + 1, 1, none⟩) (by simp) (.string ⟨(txtO o).toArray⟩))
  have HT2 := Lib.hid (HT1.out.set_ 1 (.string ⟨(txtO o).toArray⟩))
  have HO := Lib.hid (ok_c p B _ _ _ HRD2.out)
  have ac0 := HR1.out.cell 0; have az0 := HR1.out.frozen 0
  have ac1 := HR1.out.cell 1; have az1 := HR1.out.frozen 1
  have ac2 := HR1.out.cell 2; have az2 := HR1.out.frozen 2
  have ac3 := HR1.out.cell 3; have az3 := HR1.out.frozen 3
  have ac4 := HR1.out.cell 4; have az4 := HR1.out.frozen 4
  have ac5 := HR1.out.cell 5; have az5 := HR1.out.frozen 5
  have ac6 := HR1.out.cell 6; have az6 := HR1.out.frozen 6
  simp at ac0 ac1 ac2 ac3 ac4 ac5 ac6
  have bc0 := HT1.out.cell 0; have bz0 := HT1.out.frozen 0
  have bc1 := HT1.out.cell 1; have bz1 := HT1.out.frozen 1
  have bc2 := HT1.out.cell 2; have bz2 := HT1.out.frozen 2
  have bc3 := HT1.out.cell 3; have bz3 := HT1.out.frozen 3
  have bc4 := HT1.out.cell 4; have bz4 := HT1.out.frozen 4
  have bc5 := HT1.out.cell 5; have bz5 := HT1.out.frozen 5
  have bc6 := HT1.out.cell 6; have bz6 := HT1.out.frozen 6
  simp at bc0 bc1 bc2 bc3 bc4 bc5 bc6

  go_wp2_with fail
  refine HO.out.mono ?_
  rintro e w2 ⟨rfl, rfl⟩
  go_wp2_with fail
  refine bodyPost_ret (retA rfl rfl (blk7 (HR2.out.far (p := ⟨w.heap.size + 1 + 1, 6, none⟩) (by simp) _))) rfl ?_
  cases o with
  | none => exact tellsA_fin rfl (HR2.out.far (p := ⟨w.heap.size + 1 + 1, 6, none⟩) (by simp) _) (HRD2.out.setT HT2.out (by decide) (by decide) _) (grown_setN HG2.out (by omega) 6 _) lies_none rfl
  | some y => exact tellsA_fin rfl (HR2.out.far (p := ⟨w.heap.size + 1 + 1, 6, none⟩) (by simp) _) (HRD2.out.setT HT2.out (by decide) (by decide) _) (grown_setN HG2.out (by omega) 6 _) lies_none rfl

set_option maxRecDepth 100000 in
set_option maxHeartbeats 4000000 in
theorem of_flag (p B : Nat) (most : Int) (l : List UInt8) (_hs : l.length ≤ 140000000000000) (w : World) (h : Rdr p B l false w) :
    Calls Tryz.prog 13 #[.agg #[.int .u8 3, .int .i64 most], .pointer (some ⟨p, 0, none⟩)] w fun e w' => TellsA p B w (askG 3 most l) e w' := by
  obtain ⟨W0, hW0⟩ : ∃ W, W = (((w.alloc (.cells #[.int .u8 3, .int .i64 most] 38)).alloc (.cells #[.int .i64 0, .string ⟨#[]⟩, .int .u8 0, .int .i64 0, .string ⟨#[]⟩, .slice none 0 0, .bool false] 36)).alloc (.cells #[.int .i64 0, .string ⟨#[]⟩, .int .u8 0, .int .i64 0, .string ⟨#[]⟩, .slice none 0 0, .bool false] 36)) := ⟨_, rfl⟩
  have hr0 : Rdr p B l false W0 := hW0 ▸ ((h.alloc _).alloc _).alloc _
  have hg0 : w.grownBy W0 (some p) := hW0 ▸ grown_alloc (grown_alloc (grown_alloc (grown_refl w p) _) _) _
  have hs0 : W0.heap.size = w.heap.size + 3 := by rw [hW0]; simp
  have hR : Blk W0 (w.heap.size + 1) 36 #[.int .i64 0, .string ⟨#[]⟩, .int .u8 0, .int .i64 0, .string ⟨#[]⟩, .slice none 0 0, .bool false] := hW0 ▸ (by have := (Blk.new (w.alloc (.cells #[.int .u8 3, .int .i64 most] 38)) 36 #[.int .i64 0, .string ⟨#[]⟩, .int .u8 0, .int .i64 0, .string ⟨#[]⟩, .slice none 0 0, .bool false]).alloc (.cells #[.int .i64 0, .string ⟨#[]⟩, .int .u8 0, .int .i64 0, .string ⟨#[]⟩, .slice none 0 0, .bool false] 36); simpa using this)
  have hT : Blk W0 (w.heap.size + 1 + 1) 36 #[.int .i64 0, .string ⟨#[]⟩, .int .u8 0, .int .i64 0, .string ⟨#[]⟩, .slice none 0 0, .bool false] := hW0 ▸ (by have := Blk.new ((w.alloc (.cells #[.int .u8 3, .int .i64 most] 38)).alloc (.cells #[.int .i64 0, .string ⟨#[]⟩, .int .u8 0, .int .i64 0, .string ⟨#[]⟩, .slice none 0 0, .bool false] 36)) 36 #[.int .i64 0, .string ⟨#[]⟩, .int .u8 0, .int .i64 0, .string ⟨#[]⟩, .slice none 0 0, .bool false]; simpa using this)
  have hpw := h.lt
  have HC := Lib.hid (flagP_all p B l W0 hr0)
  have hm : askG 3 most l = (flagG l).map fun x => (((if x.1 then 1 else 0 : Int), ([] : List UInt8), noV), x.2) := bind_map flagG (fun b => ((if b then 1 else 0 : Int), ([] : List UInt8), noV)) l
  generalize flagG l = o at HC hm
  rw [hm]
  have HW := Lib.hid hpw; have HG0 := Lib.hid hg0; have HS0 := Lib.hid hs0; have HR0 := Lib.hid hR; have HT0 := Lib.hid hT
  have HWE := Lib.hid hW0
  rw [hW0] at HC
  clear h hpw hr0 hg0 hs0 hR hT hW0 hm _hs
  go_enter Tryz.func13, Tryz.ntmps13
  go_wp2_with fail
  refine HC.out.mono ?_
  rintro e w1 ⟨rfl, hr, hg⟩
  rw [← HWE.out] at hg
  have HG1 := Lib.hid (grown_trans HG0.out hg)
  have hpne : ∀ j, w.heap.size ≤ j → (some j : Option Nat) ≠ some p := fun j hj e => by have := HW.out; injection e with e; omega
  have HR1 := Lib.hid (HR0.out.grown hg (hpne _ (by omega))); have HT1 := Lib.hid (HT0.out.grown hg (hpne _ (by omega)))
  have HRD := Lib.hid hr

  clear hr hg hpne HC HR0 HT0 HG0
  rcases o with _ | ⟨_ | _, r⟩
  · simp only [boolO, restO, failO] at HRD ⊢
    have HRD2 := Lib.hid (HRD.out)
    have HG2 := Lib.hid (HG1.out)
    have HR2 := Lib.hid (HR1.out)
    have HT2 := Lib.hid (HT1.out)
    have HO := Lib.hid (ok_c p B _ _ _ HRD2.out)
    have ac0 := HR1.out.cell 0; have az0 := HR1.out.frozen 0
    have ac1 := HR1.out.cell 1; have az1 := HR1.out.frozen 1
    have ac2 := HR1.out.cell 2; have az2 := HR1.out.frozen 2
    have ac3 := HR1.out.cell 3; have az3 := HR1.out.frozen 3
    have ac4 := HR1.out.cell 4; have az4 := HR1.out.frozen 4
    have ac5 := HR1.out.cell 5; have az5 := HR1.out.frozen 5
    have ac6 := HR1.out.cell 6; have az6 := HR1.out.frozen 6
    simp at ac0 ac1 ac2 ac3 ac4 ac5 ac6
    have bc0 := HT1.out.cell 0; have bz0 := HT1.out.frozen 0
    have bc1 := HT1.out.cell 1; have bz1 := HT1.out.frozen 1
    have bc2 := HT1.out.cell 2; have bz2 := HT1.out.frozen 2
    have bc3 := HT1.out.cell 3; have bz3 := HT1.out.frozen 3
    have bc4 := HT1.out.cell 4; have bz4 := HT1.out.frozen 4
    have bc5 := HT1.out.cell 5; have bz5 := HT1.out.frozen 5
    have bc6 := HT1.out.cell 6; have bz6 := HT1.out.frozen 6
    simp at bc0 bc1 bc2 bc3 bc4 bc5 bc6

    go_wp2_with fail
    refine HO.out.mono ?_
    rintro e w2 ⟨rfl, rfl⟩
    go_wp2_with fail
    refine bodyPost_ret (retA rfl rfl (blk7 (HR2.out.far (p := ⟨w.heap.size + 1 + 1, 6, none⟩) (by simp) _))) rfl ?_
    exact tellsA_fin rfl (HR2.out.far (p := ⟨w.heap.size + 1 + 1, 6, none⟩) (by simp) _) (HRD2.out.setT HT2.out (by decide) (by decide) _) (grown_setN HG2.out (by omega) 6 _) lies_none rfl
  · simp only [boolO, restO, failO] at HRD ⊢
    have HRD2 := Lib.hid (HRD.out)
    have HG2 := Lib.hid (HG1.out)
    have HR2 := Lib.hid (HR1.out)
    have HT2 := Lib.hid (HT1.out)
    have HO := Lib.hid (ok_c p B _ _ _ HRD2.out)
    have ac0 := HR1.out.cell 0; have az0 := HR1.out.frozen 0
    have ac1 := HR1.out.cell 1; have az1 := HR1.out.frozen 1
    have ac2 := HR1.out.cell 2; have az2 := HR1.out.frozen 2
    have ac3 := HR1.out.cell 3; have az3 := HR1.out.frozen 3
    have ac4 := HR1.out.cell 4; have az4 := HR1.out.frozen 4
    have ac5 := HR1.out.cell 5; have az5 := HR1.out.frozen 5
    have ac6 := HR1.out.cell 6; have az6 := HR1.out.frozen 6
    simp at ac0 ac1 ac2 ac3 ac4 ac5 ac6
    have bc0 := HT1.out.cell 0; have bz0 := HT1.out.frozen 0
    have bc1 := HT1.out.cell 1; have bz1 := HT1.out.frozen 1
    have bc2 := HT1.out.cell 2; have bz2 := HT1.out.frozen 2
    have bc3 := HT1.out.cell 3; have bz3 := HT1.out.frozen 3
    have bc4 := HT1.out.cell 4; have bz4 := HT1.out.frozen 4
    have bc5 := HT1.out.cell 5; have bz5 := HT1.out.frozen 5
    have bc6 := HT1.out.cell 6; have bz6 := HT1.out.frozen 6
    simp at bc0 bc1 bc2 bc3 bc4 bc5 bc6

    go_wp2_with fail
    refine HO.out.mono ?_
    rintro e w2 ⟨rfl, rfl⟩
    go_wp2_with fail
    refine bodyPost_ret (retA rfl rfl (blk7 (HR2.out.far (p := ⟨w.heap.size + 1 + 1, 6, none⟩) (by simp) _))) rfl ?_
    exact tellsA_fin rfl (HR2.out.far (p := ⟨w.heap.size + 1 + 1, 6, none⟩) (by simp) _) (HRD2.out.setT HT2.out (by decide) (by decide) _) (grown_setN HG2.out (by omega) 6 _) lies_none rfl
  · simp only [boolO, restO, failO] at HRD ⊢
    have HRD2 := Lib.hid (HRD.out.setT (i := 0) HT1.out (by decide) (by decide) (.int .i64 1))
    have HG2 := Lib.hid (grown_setN HG1.out (q := w.heap.size + 1 + 1) (by omega) 0 (.int .i64 1))
    have HR2 := Lib.hid (HR1.out.far (p := ⟨w.heap.size + 1 + 1, 0, none⟩) (by simp) (.int .i64 1))
    have HT2 := Lib.hid (HT1.out.set_ 0 (.int .i64 1))
    have HO := Lib.hid (ok_c p B _ _ _ HRD2.out)
    have ac0 := HR1.out.cell 0; have az0 := HR1.out.frozen 0
    have ac1 := HR1.out.cell 1; have az1 := HR1.out.frozen 1
    have ac2 := HR1.out.cell 2; have az2 := HR1.out.frozen 2
    have ac3 := HR1.out.cell 3; have az3 := HR1.out.frozen 3
    have ac4 := HR1.out.cell 4; have az4 := HR1.out.frozen 4
    have ac5 := HR1.out.cell 5; have az5 := HR1.out.frozen 5
    have ac6 := HR1.out.cell 6; have az6 := HR1.out.frozen 6
    simp at ac0 ac1 ac2 ac3 ac4 ac5 ac6
    have bc0 := HT1.out.cell 0; have bz0 := HT1.out.frozen 0
    have bc1 := HT1.out.cell 1; have bz1 := HT1.out.frozen 1
    have bc2 := HT1.out.cell 2; have bz2 := HT1.out.frozen 2
    have bc3 := HT1.out.cell 3; have bz3 := HT1.out.frozen 3
    have bc4 := HT1.out.cell 4; have bz4 := HT1.out.frozen 4
    have bc5 := HT1.out.cell 5; have bz5 := HT1.out.frozen 5
    have bc6 := HT1.out.cell 6; have bz6 := HT1.out.frozen 6
    simp at bc0 bc1 bc2 bc3 bc4 bc5 bc6

    go_wp2_with fail
    refine HO.out.mono ?_
    rintro e w2 ⟨rfl, rfl⟩
    go_wp2_with fail
    refine bodyPost_ret (retA rfl rfl (blk7 (HR2.out.far (p := ⟨w.heap.size + 1 + 1, 6, none⟩) (by simp) _))) rfl ?_
    exact tellsA_fin rfl (HR2.out.far (p := ⟨w.heap.size + 1 + 1, 6, none⟩) (by simp) _) (HRD2.out.setT HT2.out (by decide) (by decide) _) (grown_setN HG2.out (by omega) 6 _) lies_none rfl

set_option maxRecDepth 100000 in
set_option maxHeartbeats 4000000 in
theorem of_value (p B : Nat) (most : Int) (k : Nat) (hk : 4 ≤ k) (l : List UInt8) (hs : l.length ≤ 140000000000000) (w : World) (h : Rdr p B l false w) :
    Calls Tryz.prog 13 #[.agg #[.int .u8 (k : Int), .int .i64 most], .pointer (some ⟨p, 0, none⟩)] w fun e w' => TellsA p B w (askG k most l) e w' := by
  obtain ⟨W0, hW0⟩ : ∃ W, W = (((w.alloc (.cells #[.int .u8 (k : Int), .int .i64 most] 38)).alloc (.cells #[.int .i64 0, .string ⟨#[]⟩, .int .u8 0, .int .i64 0, .string ⟨#[]⟩, .slice none 0 0, .bool false] 36)).alloc (.cells #[.int .i64 0, .string ⟨#[]⟩, .int .u8 0, .int .i64 0, .string ⟨#[]⟩, .slice none 0 0, .bool false] 36)) := ⟨_, rfl⟩
  have hr0 : Rdr p B l false W0 := hW0 ▸ ((h.alloc _).alloc _).alloc _
  have hg0 : w.grownBy W0 (some p) := hW0 ▸ grown_alloc (grown_alloc (grown_alloc (grown_refl w p) _) _) _
  have hs0 : W0.heap.size = w.heap.size + 3 := by rw [hW0]; simp
  have hR : Blk W0 (w.heap.size + 1) 36 #[.int .i64 0, .string ⟨#[]⟩, .int .u8 0, .int .i64 0, .string ⟨#[]⟩, .slice none 0 0, .bool false] := hW0 ▸ (by have := (Blk.new (w.alloc (.cells #[.int .u8 (k : Int), .int .i64 most] 38)) 36 #[.int .i64 0, .string ⟨#[]⟩, .int .u8 0, .int .i64 0, .string ⟨#[]⟩, .slice none 0 0, .bool false]).alloc (.cells #[.int .i64 0, .string ⟨#[]⟩, .int .u8 0, .int .i64 0, .string ⟨#[]⟩, .slice none 0 0, .bool false] 36); simpa using this)
  have hT : Blk W0 (w.heap.size + 1 + 1) 36 #[.int .i64 0, .string ⟨#[]⟩, .int .u8 0, .int .i64 0, .string ⟨#[]⟩, .slice none 0 0, .bool false] := hW0 ▸ (by have := Blk.new ((w.alloc (.cells #[.int .u8 (k : Int), .int .i64 most] 38)).alloc (.cells #[.int .i64 0, .string ⟨#[]⟩, .int .u8 0, .int .i64 0, .string ⟨#[]⟩, .slice none 0 0, .bool false] 36)) 36 #[.int .i64 0, .string ⟨#[]⟩, .int .u8 0, .int .i64 0, .string ⟨#[]⟩, .slice none 0 0, .bool false]; simpa using this)
  have hpw := h.lt
  have HC := Lib.hid (valueP_c p B l hs W0 hr0)
  have hm : askG k most l = (checkedG l).map fun x => (((0 : Int), ([] : List UInt8), x.1), x.2) := by
    unfold askG
    rw [if_neg (by omega), if_neg (by omega), if_neg (by omega), if_neg (by omega)]
    exact bind_map checkedG (fun t => ((0 : Int), ([] : List UInt8), t)) l
  generalize checkedG l = o at HC hm
  have k0 : ((k : Int) == 0) = false := by rw [beq_eq_false_iff_ne]; omega
  have k1 : ((k : Int) == 1) = false := by rw [beq_eq_false_iff_ne]; omega
  have k2 : ((k : Int) == 2) = false := by rw [beq_eq_false_iff_ne]; omega
  have k3 : ((k : Int) == 3) = false := by rw [beq_eq_false_iff_ne]; omega
  rw [hm]
  have HW := Lib.hid hpw; have HG0 := Lib.hid hg0; have HS0 := Lib.hid hs0; have HR0 := Lib.hid hR; have HT0 := Lib.hid hT
  have HWE := Lib.hid hW0
  rw [hW0] at HC
  clear h hpw hr0 hg0 hs0 hR hT hW0 hm hs hk
  go_enter Tryz.func13, Tryz.ntmps13
  go_wp2_with fail
  refine HC.out.mono ?_
  rintro e w1 ⟨u1, rfl, hr, hg, hlie⟩
  rw [← HWE.out] at hg hlie
  have HG1 := Lib.hid (grown_trans HG0.out hg)
  have hpne : ∀ j, w.heap.size ≤ j → (some j : Option Nat) ≠ some p := fun j hj e => by have := HW.out; injection e with e; omega
  have HR1 := Lib.hid (HR0.out.grown hg (hpne _ (by omega))); have HT1 := Lib.hid (HT0.out.grown hg (hpne _ (by omega)))
  have HRD := Lib.hid hr
  obtain ⟨k1, n1, s1, lt1, At1, ct1, _, rfl, _, _, _, _⟩ := hlie.rep.open_
  have HL1 := Lib.hid hlie
  clear hlie
  clear hr hg hpne HC HR0 HT0 HG0
  have q4 : ∀ i : Nat, (⟨w.heap.size + 1 + 1, i, none⟩ : Addr).block = w.heap.size + 1 + 1 := fun _ => rfl
  have HRD2 := Lib.hid ((((HRD.out.setT (i := 2) HT1.out (by decide) (by decide) (.int .u8 (k1 : Int))).setT (i := 3) (HT1.out.set_ 2 (.int .u8 (k1 : Int))) (by decide) (by decide) (.int .i64 n1)).setT (i := 4) ((HT1.out.set_ 2 (.int .u8 (k1 : Int))).set_ 3 (.int .i64 n1)) (by decide) (by decide) (.string s1)).setT (i := 5) (((HT1.out.set_ 2 (.int .u8 (k1 : Int))).set_ 3 (.int .i64 n1)).set_ 4 (.string s1)) (by decide) (by decide) (.slice At1 lt1.length ct1))
  have HG2 := Lib.hid (grown_setN (grown_setN (grown_setN (grown_setN HG1.out (q := w.heap.size + 1 + 1) (by omega) 2 (.int .u8 (k1 : Int))) (q := w.heap.size + 1 + 1) (by omega) 3 (.int .i64 n1)) (q := w.heap.size + 1 + 1) (by omega) 4 (.string s1)) (q := w.heap.size + 1 + 1) (by omega) 5 (.slice At1 lt1.length ct1))
  have HR2 := Lib.hid ((((HR1.out.far (p := ⟨w.heap.size + 1 + 1, 2, none⟩) (by simp) (.int .u8 (k1 : Int))).far (p := ⟨w.heap.size + 1 + 1, 3, none⟩) (by simp) (.int .i64 n1)).far (p := ⟨w.heap.size + 1 + 1, 4, none⟩) (by simp) (.string s1)).far (p := ⟨w.heap.size + 1 + 1, 5, none⟩) (by simp) (.slice At1 lt1.length ct1))
  have HT2 := Lib.hid ((((HT1.out.set_ 2 (.int .u8 (k1 : Int))).set_ 3 (.int .i64 n1)).set_ 4 (.string s1)).set_ 5 (.slice At1 lt1.length ct1))
  have HL2 := Lib.hid (((((HL1.out.set ⟨w.heap.size + 1 + 1, 2, none⟩ (by have := HS0.out; simp; omega) (.int .u8 (k1 : Int))).set ⟨w.heap.size + 1 + 1, 3, none⟩ (by have := HS0.out; simp; omega) (.int .i64 n1)).set ⟨w.heap.size + 1 + 1, 4, none⟩ (by have := HS0.out; simp; omega) (.string s1)).set ⟨w.heap.size + 1 + 1, 5, none⟩ (by have := HS0.out; simp; omega) (.slice At1 lt1.length ct1)).set ⟨w.heap.size + 1 + 1, 6, none⟩ (by have := HS0.out; simp; omega) (.bool (!failO false o)))
  have HO := Lib.hid (ok_c p B _ _ _ HRD2.out)
  have ac0 := HR1.out.cell 0; have az0 := HR1.out.frozen 0
  have ac1 := HR1.out.cell 1; have az1 := HR1.out.frozen 1
  have ac2 := HR1.out.cell 2; have az2 := HR1.out.frozen 2
  have ac3 := HR1.out.cell 3; have az3 := HR1.out.frozen 3
  have ac4 := HR1.out.cell 4; have az4 := HR1.out.frozen 4
  have ac5 := HR1.out.cell 5; have az5 := HR1.out.frozen 5
  have ac6 := HR1.out.cell 6; have az6 := HR1.out.frozen 6
  simp at ac0 ac1 ac2 ac3 ac4 ac5 ac6
  have bc0 := HT1.out.cell 0; have bz0 := HT1.out.frozen 0
  have bc1 := HT1.out.cell 1; have bz1 := HT1.out.frozen 1
  have bc2 := HT1.out.cell 2; have bz2 := HT1.out.frozen 2
  have bc3 := HT1.out.cell 3; have bz3 := HT1.out.frozen 3
  have bc4 := HT1.out.cell 4; have bz4 := HT1.out.frozen 4
  have bc5 := HT1.out.cell 5; have bz5 := HT1.out.frozen 5
  have bc6 := HT1.out.cell 6; have bz6 := HT1.out.frozen 6
  simp at bc0 bc1 bc2 bc3 bc4 bc5 bc6
  clear q4
  go_wp2_with fail
  refine HO.out.mono ?_
  rintro e w2 ⟨rfl, rfl⟩
  go_wp2_with fail
  refine bodyPost_ret (retA rfl rfl (blk7 (HR2.out.far (p := ⟨w.heap.size + 1 + 1, 6, none⟩) (by simp) _))) rfl ?_
  cases o with
  | none => exact tellsA_fin rfl (HR2.out.far (p := ⟨w.heap.size + 1 + 1, 6, none⟩) (by simp) _) (HRD2.out.setT HT2.out (by decide) (by decide) _) (grown_setN HG2.out (by omega) 6 _) (HL2.out.mono fun b _ hb => by have := HS0.out; omega) rfl
  | some y => exact tellsA_fin rfl (HR2.out.far (p := ⟨w.heap.size + 1 + 1, 6, none⟩) (by simp) _) (HRD2.out.setT HT2.out (by decide) (by decide) _) (grown_setN HG2.out (by omega) 6 _) (HL2.out.mono fun b _ hb => by have := HS0.out; omega) rfl

end Go.Proofs.YtlcfokejoikaaaaGreatDoor
