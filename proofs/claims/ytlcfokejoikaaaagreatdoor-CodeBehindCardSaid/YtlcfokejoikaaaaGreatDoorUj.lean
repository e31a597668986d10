/- Package code: a reader's values. -/
import Derived.Test.YtlcfokejoikaaaaGreatDoorUi
import Derived.Test.YtlcfokejoikaaaaGreatDoorYd
namespace Go.Proofs.YtlcfokejoikaaaaGreatDoor
open Go.RowKit Go.Shelf Vp Cp Rm
open Go
attribute [local go_sem] Oper.semAt_some

theorem fld1 (fn : FuncId) (wr : Value) (W : World) : (Instr.field 105 (.agg #[wr, .func (.func fn) #[] #[]]) 1).run Tryz.prog W = .ok (.func (.func fn) #[] #[]) W := by kernel_rfl
theorem fld1n (wr : Value) (W : World) : (Instr.field 105 (.agg #[wr, .nilFunc]) 1).run Tryz.prog W = .ok .nilFunc W := by kernel_rfl
theorem eqn_nil (W : World) : (binOp .eql 103 .nilFunc .nilFunc).run Tryz.prog W = .ok (.bool true) W := by kernel_rfl
theorem eqn_fn (fn : FuncId) (W : World) : (binOp .eql 103 (.func (.func fn) #[] #[]) .nilFunc).run Tryz.prog W = .ok (.bool false) W := by kernel_rfl
theorem kind5 (n : Nat) (l : List UInt8) : kindG n 5 l = (listG (valueG n) 16 [] l).map fun x => (((0 : Int), ([] : List UInt8), x.1), x.2) := bind_map (listG (valueG n) 16 []) (fun t => ((0 : Int), ([] : List UInt8), t)) l
theorem kind6 (n : Nat) (l : List UInt8) : kindG n 6 l = match strG 65 [] l with
    | none => none
    | some (s, r) => (listG (valueG n) 8 [] r).map fun x => (((0 : Int), s, x.1), x.2) := by
  show bindG (strG 65 []) (fun s => bindG (listG (valueG n) 8 []) fun t => fun l => some ((0, s, t), l)) l = _
  cases hs : strG 65 [] l with
  | none =>
    unfold bindG
    simp only [hs]
  | some y =>
    obtain ⟨s, r⟩ := y
    rw [bindG_of hs]
    exact bind_map (listG (valueG n) 8 []) (fun t => ((0 : Int), s, t)) r
theorem kind_lower (n : Nat) {k : UInt8} (hk : k = 1 ∨ k = 2 ∨ k = 3 ∨ k = 4) : kindG n k = kindG 0 k := by
  rcases hk with rfl | rfl | rfl | rfl <;> rfl
theorem value_kind (n : Nat) (k : UInt8) (r : List UInt8) (hk : 1 ≤ k.toNat ∧ k.toNat ≤ 6) : valueG (n + 1) (k :: r) = (kindG n k r).map fun x => (V.mk k.toNat x.1.1 (Rm.bytes x.1.2.1) x.1.2.2, x.2) := by
  have hc : k = 1 ∨ k = 2 ∨ k = 3 ∨ k = 4 ∨ k = 5 ∨ k = 6 := by
    rcases (by omega : k.toNat = 1 ∨ k.toNat = 2 ∨ k.toNat = 3 ∨ k.toNat = 4 ∨ k.toNat = 5 ∨ k.toNat = 6) with h | h | h | h | h | h
    · exact .inl (UInt8.toNat_inj.1 h)
    · exact .inr (.inl (UInt8.toNat_inj.1 h))
    · exact .inr (.inr (.inl (UInt8.toNat_inj.1 h)))
    · exact .inr (.inr (.inr (.inl (UInt8.toNat_inj.1 h))))
    · exact .inr (.inr (.inr (.inr (.inl (UInt8.toNat_inj.1 h)))))
    · exact .inr (.inr (.inr (.inr (.inr (UInt8.toNat_inj.1 h)))))
  unfold valueG
  rw [bindG_of (a := k) (s := r) rfl]
  rcases hc with rfl | rfl | rfl | rfl | rfl | rfl
  · show bindG flagG _ r = _
    unfold kindG bindG
    rw [if_pos rfl]
    cases flagG r <;> rfl
  · show bindG numG _ r = _
    unfold kindG bindG
    rw [if_neg (by decide), if_pos rfl]
    cases numG r <;> rfl
  · show bindG bigG _ r = _
    unfold kindG bindG
    rw [if_neg (by decide), if_neg (by decide), if_pos rfl]
    cases bigG r <;> rfl
  · show bindG (strG 4096 []) _ r = _
    unfold kindG bindG
    rw [if_neg (by decide), if_neg (by decide), if_neg (by decide), if_pos rfl]
    cases strG 4096 [] r <;> rfl
  · rw [kind5]
    show bindG (listG (valueG n) 16 []) _ r = _
    unfold bindG
    cases listG (valueG n) 16 [] r <;> rfl
  · rw [kind6]
    show bindG (strG 65 []) (fun s => bindG (listG (valueG n) 8 []) fun t => fun l => some (V.mk 6 0 (Rm.bytes s) t, l)) r = _
    cases hs : strG 65 [] r with
    | none =>
      unfold bindG
      simp only [hs]
      rfl
    | some y =>
      obtain ⟨s, r2⟩ := y
      rw [bindG_of hs]
      refine (bind_map (listG (valueG n) 8 []) (fun t => V.mk 6 0 (Rm.bytes s) t) r2).trans ?_
      show _ = Option.map _ (Option.map _ (listG (valueG n) 8 [] r2))
      cases listG (valueG n) 8 [] r2 <;> rfl
theorem value_bad (n : Nat) (k : UInt8) (r : List UInt8) (hk : ¬ (1 ≤ k.toNat ∧ k.toNat ≤ 6)) : valueG n (k :: r) = none := by
  cases n with
  | zero => rfl
  | succ n =>
    unfold valueG
    rw [bindG_of (a := k) (s := r) rfl]
    have h : ∀ c : UInt8, (1 ≤ c.toNat ∧ c.toNat ≤ 6) → k ≠ c := fun c hc e => hk (e ▸ hc)
    rw [if_neg (h 1 (by decide)), if_neg (h 2 (by decide)), if_neg (h 3 (by decide)), if_neg (h 4 (by decide)), if_neg (h 5 (by decide)), if_neg (h 6 (by decide))]
theorem value_zero (l : List UInt8) : valueG 0 l = none := rfl
theorem value_nil (n : Nat) : valueG n [] = none := by cases n <;> rfl

set_option maxRecDepth 100000 in
set_option maxHeartbeats 4000000 in
theorem form0_c (w : World) :
    Calls Tryz.prog 90 #[.int .u8 0] w fun e w' => e = .returned (.agg #[.nilFunc, .nilFunc]) ∧ Below w.heap.size w w' := by
  go_enter Tryz.func90, Tryz.ntmps90
  go_wp2_with fail
  refine bodyPost_ret (v := .agg #[.nilFunc, .nilFunc]) (by simp [results, Tryz.results90, go_sem]) rfl ⟨rfl, ?_⟩
  repeat (first | exact Below.refl _ _ | refine Below.setCell ?_ (by simp) _ | refine Below.alloc ?_ (by simp) _)

set_option maxRecDepth 100000 in
set_option maxHeartbeats 4000000 in
theorem form7_c (k : Nat) (hk : 7 ≤ k ∧ k < 256) (w : World) :
    Calls Tryz.prog 90 #[.int .u8 (k : Int)] w fun e w' => e = .returned (.agg #[.nilFunc, .nilFunc]) ∧ Below w.heap.size w w' := by
  obtain ⟨h1, h2⟩ := hk
  have hz : (7 : Int) ≤ (k : Int) := by omega
  go_enter Tryz.func90, Tryz.ntmps90
  go_wp2_with fail
  refine bodyPost_ret (v := .agg #[.nilFunc, .nilFunc]) (by simp [results, Tryz.results90, go_sem]) rfl ⟨rfl, ?_⟩
  repeat (first | exact Below.refl _ _ | refine Below.setCell ?_ (by simp) _ | refine Below.alloc ?_ (by simp) _)

set_option maxRecDepth 100000 in
set_option maxHeartbeats 2000000 in
theorem tuple_r (p B n : Nat) (hn : n ≤ 1000) (hv : ∀ (l : List UInt8) (f : Bool) (W : World), l.length ≤ 140000000000000 → Rdr p B l f W → Calls Tryz.prog 91 #[.pointer (some ⟨p, 0, none⟩), .int .i64 (n : Int)] W fun e w' => TellsV p B W (valueG n l) f e w')
    (l : List UInt8) (hs : l.length ≤ 140000000000000) (f : Bool) (w : World) (h : Rdr p B l f w) :
    Calls Tryz.prog 120 #[.pointer (some ⟨p, 0, none⟩), .int .i64 ((n : Int) + 1)] w fun e w' => TellsX p B w (kindG n 5 l) f e w' := by
  have HF := Lib.hid (list_c p B n 16 (by decide) hv l hs f (w.alloc (.cells #[.int .u8 0, .int .i64 0, .string ⟨#[]⟩, .slice none 0 0] 34)) (h.alloc _))
  have hpw := h.lt
  have HX := Lib.hid (Blk.new w 34 #[.int .u8 0, .int .i64 0, .string ⟨#[]⟩, .slice none 0 0])
  rw [kind5]
  generalize listG (valueG n) 16 [] l = o at HF ⊢
  have HW := Lib.hid hpw
  clear h hpw hv
  go_enter Tryz.func120, Tryz.ntmps120
  go_wp2_with fail
  refine HF.out.mono ?_
  rintro e w1 ⟨lt, At, ct, rfl, hr, hg, hrl, hzx⟩
  have HR := Lib.hid hr; have HG := Lib.hid (grown_trans (grown_alloc (grown_refl w p) _) hg)
  have HX1 := Lib.hid (HX.out.grown hg (by have := HW.out; intro e; injection e with e; omega))
  have HQ := Lib.hid hzx; have HRL := Lib.hid (hrl.mono (S' := fun b => w.heap.size + 1 ≤ b) fun b _ hb => by simpa using hb)
  clear hr hg HX HF hzx hrl
  have c0 := HX1.out.cell 0; have c1 := HX1.out.cell 1; have c2 := HX1.out.cell 2; have c3 := HX1.out.cell 3
  have z0 := HX1.out.frozen 0; have z1 := HX1.out.frozen 1; have z2 := HX1.out.frozen 2; have z3 := HX1.out.frozen 3
  simp at c0 c1 c2 c3
  go_wp2_with fail
  refine bodyPost_ret (v := .agg #[.int .u8 0, .int .i64 0, .string ⟨#[]⟩, .slice At lt.length ct]) (by simp [results, Tryz.results120, go_sem, c0, c1, c2, c3]) rfl ?_
  exact tells_fin (s := []) (l := lt) rfl HX1.out (rdr_map (fun x => ((0 : Int), ([] : List UInt8), x)) HR.out) HG.out ⟨by decide, by decide⟩ (by simp) HRL.out (fun x hx => by
    rcases o with _ | y
    · cases hx
    · injection hx with hx
      have e := HQ.out y rfl
      subst e
      rw [← hx]) rfl

set_option maxRecDepth 100000 in
set_option maxHeartbeats 2000000 in
theorem cons_r (p B n : Nat) (hn : n ≤ 1000) (hv : ∀ (l : List UInt8) (f : Bool) (W : World), l.length ≤ 140000000000000 → Rdr p B l f W → Calls Tryz.prog 91 #[.pointer (some ⟨p, 0, none⟩), .int .i64 (n : Int)] W fun e w' => TellsV p B W (valueG n l) f e w')
    (l : List UInt8) (hs : l.length ≤ 140000000000000) (f : Bool) (w : World) (h : Rdr p B l f w) :
    Calls Tryz.prog 122 #[.pointer (some ⟨p, 0, none⟩), .int .i64 ((n : Int) + 1)] w fun e w' => TellsX p B w (kindG n 6 l) f e w' := by
  have HS := Lib.hid (str_all p B l 65 f (w.alloc (.cells #[.int .u8 0, .int .i64 0, .string ⟨#[]⟩, .slice none 0 0] 34)) hs (h.alloc _))
  have hpw := h.lt
  have HX := Lib.hid (Blk.new w 34 #[.int .u8 0, .int .i64 0, .string ⟨#[]⟩, .slice none 0 0])
  have hle := restO_len (Rm.Loc.str 65 []) l
  have HLC : Hid (∀ (r : List UInt8) (g : Bool) (W : World), r.length ≤ 140000000000000 → Rdr p B r g W → Calls Tryz.prog 132 #[.pointer (some ⟨p, 0, none⟩), .int .i64 8, .int .i64 (n : Int)] W fun e w' => TellsL p B W (listG (valueG n) 8 [] r) g e w') := Lib.hid fun r g W hr hR => list_c p B n 8 (by decide) hv r hr g W hR
  have hk6 := kind6 n l
  obtain ⟨OO, hOO⟩ : ∃ OO, kindG n 6 l = OO := ⟨_, rfl⟩
  rw [hOO] at hk6 ⊢
  obtain ⟨o1, ho1⟩ : ∃ o1, strG 65 [] l = o1 := ⟨_, rfl⟩
  rw [ho1] at HS hle hk6
  have HK6 := Lib.hid hk6
  clear hOO ho1 hk6
  have HW := Lib.hid hpw; have HLE := Lib.hid (Nat.le_trans hle hs)
  have HSL := Lib.hid hs
  clear h hpw hv hle hs
  go_enter Tryz.func122, Tryz.ntmps122
  go_wp2_with fail
  refine HS.out.mono ?_
  rintro e w0 ⟨s, ⟨rfl, hr, hg⟩, htl, hsx⟩
  have HR0 := Lib.hid hr; have HG0 := Lib.hid (grown_trans (grown_alloc (grown_refl w p) _) hg)
  have HX0 := Lib.hid (HX.out.grown hg (by have := HW.out; intro e; injection e with e; omega))
  have HF := Lib.hid (HLC.out _ _ w0 HLE.out HR0.out)
  have HTL := Lib.hid htl; have HSX := Lib.hid hsx
  have hz0 : w.heap.size + 1 ≤ w0.heap.size := by have := hg.size; simpa using this
  have HZ0 := Lib.hid hz0
  clear hr hg HX HS htl hsx hz0
  go_wp2_with fail
  refine HF.out.mono ?_
  rintro e w1 ⟨lt, At, ct, rfl, hr, hg, hrl, hzx⟩
  have HR := Lib.hid hr; have HG := Lib.hid (grown_trans HG0.out hg)
  have HX1 := Lib.hid (HX0.out.grown hg (by have := HW.out; intro e; injection e with e; omega))
  have HQ := Lib.hid hzx; have HRL := Lib.hid (hrl.mono (S' := fun b => w.heap.size + 1 ≤ b) fun b _ hb => Nat.le_trans HZ0.out hb)
  clear hr hg HF hzx hrl
  have c0 := HX1.out.cell 0; have c1 := HX1.out.cell 1; have c2 := HX1.out.cell 2; have c3 := HX1.out.cell 3
  have z0 := HX1.out.frozen 0; have z1 := HX1.out.frozen 1; have z2 := HX1.out.frozen 2; have z3 := HX1.out.frozen 3
  simp at c0 c1 c2 c3
  go_wp2_with fail
  refine bodyPost_ret (v := .agg #[.int .u8 0, .int .i64 0, .string ⟨s.toArray⟩, .slice At lt.length ct]) (by simp [results, Tryz.results122, go_sem, c0, c1, c2, c3]) rfl ?_
  have hsl : s.length ≤ 140000000000001 := by have := HTL.out; have := HSL.out; omega
  have hk6 := HK6.out
  clear HK6
  rcases o1 with _ | ⟨s1, r1⟩
  · subst hk6
    have hR : Rdr p B [] true w1 := by
      have hq := HR.out
      cases hq2 : listG (valueG n) 8 [] ([] : List UInt8) with
      | none => simp only [restO, failO, hq2] at hq; exact hq
      | some y => rw [listG_flag] at hq2; cases hq2
    exact tells_fin (n := 0) (s := s) (l := lt) (o := none) rfl HX1.out hR HG.out ⟨by decide, by decide⟩ hsl HRL.out (fun x hx => by cases hx) rfl
  · have e1 : s = s1 := HSX.out _ rfl
    subst e1
    subst hk6
    have hR := HR.out
    have hQ := HQ.out
    simp only [restO, failO] at hR hQ
    show TellsX p B w (Option.map (fun x => (((0 : Int), s, x.1), x.2)) (listG (valueG n) 8 [] r1)) f _ _
    generalize listG (valueG n) 8 [] r1 = o at hR hQ ⊢
    exact tells_fin (n := 0) (s := s) (l := lt) rfl HX1.out (rdr_map (fun x => ((0 : Int), s, x)) hR) HG.out ⟨by decide, by decide⟩ hsl HRL.out (fun x hx => by
      rcases o with _ | y
      · cases hx
      · injection hx with hx
        have e := hQ y rfl
        subst e
        rw [← hx]) rfl

/-- The result of a reader of a value. -/
theorem tellsV_fin {p B q k : Nat} {w w1 : World} {o : Option (V × List UInt8)} {f : Bool} {n : Int} {s : List UInt8} {l : List V} {A : Option Addr} {c : Nat} {cs : Array Value} (hq : q = w.heap.size) (hX : Blk w1 q 34 cs) (hr : Rdr p B (restO o) (failO f o) w1) (hg : w.grownBy w1 (some p))
    (hk : k < 256) (hn : -9223372036854775808 ≤ n ∧ n ≤ 9223372036854775807) (hsz : s.length ≤ 140000000000001) (hl : RLies (fun b => q + 1 ≤ b) w1 l A c) (hx : ∀ x, o = some x → V.mk k n (Rm.bytes s) l = x.1) {a b c' d : Value} {v : Value} (hv : v = .agg #[.int .u8 (k : Int), .int .i64 n, .string ⟨s.toArray⟩, .slice A l.length c]) :
    TellsV p B w o f (.returned v) (set4 w1 q a b c' d) := by
  subst hv
  have h0 := hX.set_ 0 a
  have h1 := h0.set_ 1 b
  have h2 := h1.set_ 2 c'
  refine ⟨.mk k n (Rm.bytes s) l, _, rfl, (((hr.set hX a).set h0 b).set h1 c').set h2 d, ?_, ?_, hx⟩
  · have hle : w.heap.size ≤ q := by omega
    have blk : ∀ (W : World) (i : Nat) (u : Value), w.grownBy W (some p) → w.grownBy (W.setCell ⟨q, i, none⟩ u) (some p) := fun W i u h =>
      ⟨h.os, h.tape, h.output, by simpa [World.setCell] using h.size, fun j hj hk => (Below.heap_setCell W ⟨q, i, none⟩ u j (fun e => by simp at e; omega)).trans (h.block j hj hk)⟩
    exact blk _ _ _ (blk _ _ _ (blk _ _ _ (blk _ _ _ hg)))
  · refine Lies.mono (S := fun b => q + 1 ≤ b) ?_ (fun b _ hb => by omega)
    have ne : ¬ q + 1 ≤ q := by omega
    exact Lies.of_row hk hn (by show s.toArray.size ≤ _; rw [List.size_toArray]; unfold maxLen; omega) ((((hl.set ⟨q, 0, none⟩ ne a).set ⟨q, 1, none⟩ ne b).set ⟨q, 2, none⟩ ne c').set ⟨q, 3, none⟩ ne d)

theorem blk4 {w : World} {q : Nat} {t : TypeId} {x0 x1 x2 x3 a b c d : Value} (h : Blk w q t #[x0, x1, x2, x3]) : Blk (set4 w q a b c d) q t #[a, b, c, d] := by
  have := (((h.set_ 0 a).set_ 1 b).set_ 2 c).set_ 3 d
  simpa [set4] using this
theorem retV {fn : Func} {q : Tmp} (h : fn.results = #[.cell q 34]) {tmps : Array Value} {W : World} {g : Nat} {a b c d : Value} (hq : tmps.getD q undef = .pointer (some ⟨g, 0, none⟩)) (hb : Blk W g 34 #[a, b, c, d]) : (results fn tmps).run Tryz.prog W = .ok (.agg #[a, b, c, d]) W := by
  have c0 := hb.cell 0
  have c1 := hb.cell 1
  have c2 := hb.cell 2
  have c3 := hb.cell 3
  simp at c0 c1 c2 c3
  rw [Array.getD_eq_getD_getElem?] at hq
  simp [results, h, hq, go_sem, c0, c1, c2, c3]
theorem TellsV.alloc {p B : Nat} {w w' : World} {o : Option (V × List UInt8)} {f : Bool} {e : Ending} (h : TellsV p B w o f e w') (ob : Obj) : TellsV p B w o f e (w'.alloc ob) := by
  obtain ⟨t, u, h1, h2, h3, h4, h5⟩ := h
  exact ⟨t, u, h1, h2.alloc ob, grown_alloc h3 ob, h4.alloc ob, h5⟩

set_option maxRecDepth 100000 in
set_option maxHeartbeats 4000000 in
theorem value_no0 (p B : Nat) (lv : Int) (l r : List UInt8) (f f' : Bool)  (w : World) (o : Option (V × List UInt8)) (ho : o = none) (h : Rdr p B l f w)
    (hn : ∀ W, Rdr p B l f W → Calls Tryz.prog 84 #[.pointer (some ⟨p, 0, none⟩), .int .u8 0] W fun e w' => Reads p B W (.int .u8 0) r f' e w') :
    Calls Tryz.prog 91 #[.pointer (some ⟨p, 0, none⟩), .int .i64 lv] w fun e w' => TellsV p B w o f e w' := by
  have HN := Lib.hid (hn (w.alloc (.cells #[.int .u8 0, .int .i64 0, .string ⟨#[]⟩, .slice none 0 0] 34)) (h.alloc _))
  have hpw := h.lt
  have HX := Lib.hid (Blk.new w 34 #[.int .u8 0, .int .i64 0, .string ⟨#[]⟩, .slice none 0 0])
  have HW := Lib.hid hpw; have HO := Lib.hid ho
  clear h hpw hn ho
  go_enter Tryz.func91, Tryz.ntmps91
  go_wp2_with fail
  refine HN.out.mono ?_
  rintro e w0 ⟨rfl, hr, hg⟩
  have HR0 := Lib.hid hr; have HG0 := Lib.hid (grown_trans (grown_alloc (grown_refl w p) _) hg)
  have HX0 := Lib.hid (HX.out.grown hg (by have := HW.out; intro e; injection e with e; omega))
  have HFM := Lib.hid (form0_c w0)
  clear hr hg HX HN
  go_wp2_with fail
  refine HFM.out.mono ?_
  rintro e w1 ⟨rfl, hb⟩
  have HR1 := Lib.hid (HR0.out.under hb); have HG1 := Lib.hid (grown_of_below HG0.out (hb.mono HG0.out.size)); have HX2 := Lib.hid (HX0.out.below hb HX0.out.lt)
  have HZ1 : Hid (w.heap.size + 1 ≤ w1.heap.size) := Lib.hid (by have := HX2.out.lt; omega)
  clear hb HR0 HG0 HX0 HFM
  have hfl := fld1n .nilFunc w1
  have hen := eqn_nil w1
  have HF := Lib.hid (fail_c p B r f' w1 HR1.out)
  go_wp2_with fail
  refine HF.out.mono ?_
  rintro e w2 ⟨rfl, hr, hg⟩
  have HR2 := Lib.hid hr; have HG2 := Lib.hid (grown_trans HG1.out hg)
  have HX1 := Lib.hid (HX2.out.grown hg (by have := HW.out; intro e; injection e with e; omega))
  clear hr hg HF HX2 HR1 HG1
  have c0 := HX1.out.cell 0; have c1 := HX1.out.cell 1; have c2 := HX1.out.cell 2; have c3 := HX1.out.cell 3
  have z0 := HX1.out.frozen 0; have z1 := HX1.out.frozen 1; have z2 := HX1.out.frozen 2; have z3 := HX1.out.frozen 3
  simp at c0 c1 c2 c3
  go_wp2_with fail
  refine bodyPost_ret (v := .agg #[.int .u8 0, .int .i64 0, .string ⟨#[]⟩, .slice none ([] : List V).length 0]) (by simp [results, Tryz.results91, go_sem, c0, c1, c2, c3]) rfl ?_
  have ho := HO.out
  subst ho
  exact tellsV_fin (k := 0) (s := []) (l := ([] : List V)) (o := none) rfl HX1.out HR2.out HG2.out (by decide) ⟨by decide, by decide⟩ (by simp) (RLies.nil (by decide)) (fun x hx => by cases hx) rfl

set_option maxRecDepth 100000 in
set_option maxHeartbeats 4000000 in
theorem value_no7 (p B : Nat) (lv : Int) (l r : List UInt8) (f f' : Bool) (k : Nat) (hk : 7 ≤ k ∧ k < 256) (w : World) (o : Option (V × List UInt8)) (ho : o = none) (h : Rdr p B l f w)
    (hn : ∀ W, Rdr p B l f W → Calls Tryz.prog 84 #[.pointer (some ⟨p, 0, none⟩), .int .u8 0] W fun e w' => Reads p B W (.int .u8 (k : Int)) r f' e w') :
    Calls Tryz.prog 91 #[.pointer (some ⟨p, 0, none⟩), .int .i64 lv] w fun e w' => TellsV p B w o f e w' := by
  have HN := Lib.hid (hn (w.alloc (.cells #[.int .u8 0, .int .i64 0, .string ⟨#[]⟩, .slice none 0 0] 34)) (h.alloc _))
  have hpw := h.lt
  have HX := Lib.hid (Blk.new w 34 #[.int .u8 0, .int .i64 0, .string ⟨#[]⟩, .slice none 0 0])
  have HW := Lib.hid hpw; have HO := Lib.hid ho; have HKK := Lib.hid hk
  clear h hpw hn ho hk
  go_enter Tryz.func91, Tryz.ntmps91
  go_wp2_with fail
  refine HN.out.mono ?_
  rintro e w0 ⟨rfl, hr, hg⟩
  have HR0 := Lib.hid hr; have HG0 := Lib.hid (grown_trans (grown_alloc (grown_refl w p) _) hg)
  have HX0 := Lib.hid (HX.out.grown hg (by have := HW.out; intro e; injection e with e; omega))
  have HFM := Lib.hid (form7_c k HKK.out w0)
  clear hr hg HX HN
  go_wp2_with fail
  refine HFM.out.mono ?_
  rintro e w1 ⟨rfl, hb⟩
  have HR1 := Lib.hid (HR0.out.under hb); have HG1 := Lib.hid (grown_of_below HG0.out (hb.mono HG0.out.size)); have HX2 := Lib.hid (HX0.out.below hb HX0.out.lt)
  have HZ1 : Hid (w.heap.size + 1 ≤ w1.heap.size) := Lib.hid (by have := HX2.out.lt; omega)
  clear hb HR0 HG0 HX0 HFM
  have hfl := fld1n .nilFunc w1
  have hen := eqn_nil w1
  have HF := Lib.hid (fail_c p B r f' w1 HR1.out)
  go_wp2_with fail
  refine HF.out.mono ?_
  rintro e w2 ⟨rfl, hr, hg⟩
  have HR2 := Lib.hid hr; have HG2 := Lib.hid (grown_trans HG1.out hg)
  have HX1 := Lib.hid (HX2.out.grown hg (by have := HW.out; intro e; injection e with e; omega))
  clear hr hg HF HX2 HR1 HG1
  have c0 := HX1.out.cell 0; have c1 := HX1.out.cell 1; have c2 := HX1.out.cell 2; have c3 := HX1.out.cell 3
  have z0 := HX1.out.frozen 0; have z1 := HX1.out.frozen 1; have z2 := HX1.out.frozen 2; have z3 := HX1.out.frozen 3
  simp at c0 c1 c2 c3
  go_wp2_with fail
  refine bodyPost_ret (v := .agg #[.int .u8 0, .int .i64 0, .string ⟨#[]⟩, .slice none ([] : List V).length 0]) (by simp [results, Tryz.results91, go_sem, c0, c1, c2, c3]) rfl ?_
  have ho := HO.out
  subst ho
  exact tellsV_fin (k := 0) (s := []) (l := ([] : List V)) (o := none) rfl HX1.out HR2.out HG2.out (by decide) ⟨by decide, by decide⟩ (by simp) (RLies.nil (by decide)) (fun x hx => by cases hx) rfl

set_option maxRecDepth 100000 in
set_option maxHeartbeats 4000000 in
theorem value_deep1 (p B : Nat) (lv : Int) (l r : List UInt8) (f f' : Bool)  (w : World) (o : Option (V × List UInt8)) (ho : o = none) (hlv : lv = 0) (h : Rdr p B l f w)
    (hn : ∀ W, Rdr p B l f W → Calls Tryz.prog 84 #[.pointer (some ⟨p, 0, none⟩), .int .u8 0] W fun e w' => Reads p B W (.int .u8 1) r f' e w') :
    Calls Tryz.prog 91 #[.pointer (some ⟨p, 0, none⟩), .int .i64 lv] w fun e w' => TellsV p B w o f e w' := by
  subst hlv
  have HN := Lib.hid (hn (w.alloc (.cells #[.int .u8 0, .int .i64 0, .string ⟨#[]⟩, .slice none 0 0] 34)) (h.alloc _))
  have hpw := h.lt
  have HX := Lib.hid (Blk.new w 34 #[.int .u8 0, .int .i64 0, .string ⟨#[]⟩, .slice none 0 0])
  have HW := Lib.hid hpw; have HO := Lib.hid ho
  clear h hpw hn ho
  go_enter Tryz.func91, Tryz.ntmps91
  go_wp2_with fail
  refine HN.out.mono ?_
  rintro e w0 ⟨rfl, hr, hg⟩
  have HR0 := Lib.hid hr; have HG0 := Lib.hid (grown_trans (grown_alloc (grown_refl w p) _) hg)
  have HX0 := Lib.hid (HX.out.grown hg (by have := HW.out; intro e; injection e with e; omega))
  have HFM := Lib.hid (form1_c w0)
  clear hr hg HX HN
  go_wp2_with fail
  refine HFM.out.mono ?_
  rintro e w1 ⟨rfl, hb⟩
  have HR1 := Lib.hid (HR0.out.under hb); have HG1 := Lib.hid (grown_of_below HG0.out (hb.mono HG0.out.size)); have HX2 := Lib.hid (HX0.out.below hb HX0.out.lt)
  have HZ1 : Hid (w.heap.size + 1 ≤ w1.heap.size) := Lib.hid (by have := HX2.out.lt; omega)
  clear hb HR0 HG0 HX0 HFM
  have hfl := fld1 112 (.func (.func 111) #[] #[]) w1
  have hen := eqn_fn 112 w1
  have HF := Lib.hid (fail_c p B r f' w1 HR1.out)
  go_wp2_with fail
  refine HF.out.mono ?_
  rintro e w2 ⟨rfl, hr, hg⟩
  have HR2 := Lib.hid hr; have HG2 := Lib.hid (grown_trans HG1.out hg)
  have HX1 := Lib.hid (HX2.out.grown hg (by have := HW.out; intro e; injection e with e; omega))
  clear hr hg HF HX2 HR1 HG1
  have c0 := HX1.out.cell 0; have c1 := HX1.out.cell 1; have c2 := HX1.out.cell 2; have c3 := HX1.out.cell 3
  have z0 := HX1.out.frozen 0; have z1 := HX1.out.frozen 1; have z2 := HX1.out.frozen 2; have z3 := HX1.out.frozen 3
  simp at c0 c1 c2 c3
  go_wp2_with fail
  refine bodyPost_ret (v := .agg #[.int .u8 0, .int .i64 0, .string ⟨#[]⟩, .slice none ([] : List V).length 0]) (by simp [results, Tryz.results91, go_sem, c0, c1, c2, c3]) rfl ?_
  have ho := HO.out
  subst ho
  exact tellsV_fin (k := 0) (s := []) (l := ([] : List V)) (o := none) rfl HX1.out HR2.out HG2.out (by decide) ⟨by decide, by decide⟩ (by simp) (RLies.nil (by decide)) (fun x hx => by cases hx) rfl

set_option maxRecDepth 100000 in
set_option maxHeartbeats 4000000 in
theorem value_deep2 (p B : Nat) (lv : Int) (l r : List UInt8) (f f' : Bool)  (w : World) (o : Option (V × List UInt8)) (ho : o = none) (hlv : lv = 0) (h : Rdr p B l f w)
    (hn : ∀ W, Rdr p B l f W → Calls Tryz.prog 84 #[.pointer (some ⟨p, 0, none⟩), .int .u8 0] W fun e w' => Reads p B W (.int .u8 2) r f' e w') :
    Calls Tryz.prog 91 #[.pointer (some ⟨p, 0, none⟩), .int .i64 lv] w fun e w' => TellsV p B w o f e w' := by
  subst hlv
  have HN := Lib.hid (hn (w.alloc (.cells #[.int .u8 0, .int .i64 0, .string ⟨#[]⟩, .slice none 0 0] 34)) (h.alloc _))
  have hpw := h.lt
  have HX := Lib.hid (Blk.new w 34 #[.int .u8 0, .int .i64 0, .string ⟨#[]⟩, .slice none 0 0])
  have HW := Lib.hid hpw; have HO := Lib.hid ho
  clear h hpw hn ho
  go_enter Tryz.func91, Tryz.ntmps91
  go_wp2_with fail
  refine HN.out.mono ?_
  rintro e w0 ⟨rfl, hr, hg⟩
  have HR0 := Lib.hid hr; have HG0 := Lib.hid (grown_trans (grown_alloc (grown_refl w p) _) hg)
  have HX0 := Lib.hid (HX.out.grown hg (by have := HW.out; intro e; injection e with e; omega))
  have HFM := Lib.hid (form2_c w0)
  clear hr hg HX HN
  go_wp2_with fail
  refine HFM.out.mono ?_
  rintro e w1 ⟨rfl, hb⟩
  have HR1 := Lib.hid (HR0.out.under hb); have HG1 := Lib.hid (grown_of_below HG0.out (hb.mono HG0.out.size)); have HX2 := Lib.hid (HX0.out.below hb HX0.out.lt)
  have HZ1 : Hid (w.heap.size + 1 ≤ w1.heap.size) := Lib.hid (by have := HX2.out.lt; omega)
  clear hb HR0 HG0 HX0 HFM
  have hfl := fld1 114 (.func (.func 113) #[] #[]) w1
  have hen := eqn_fn 114 w1
  have HF := Lib.hid (fail_c p B r f' w1 HR1.out)
  go_wp2_with fail
  refine HF.out.mono ?_
  rintro e w2 ⟨rfl, hr, hg⟩
  have HR2 := Lib.hid hr; have HG2 := Lib.hid (grown_trans HG1.out hg)
  have HX1 := Lib.hid (HX2.out.grown hg (by have := HW.out; intro e; injection e with e; omega))
  clear hr hg HF HX2 HR1 HG1
  have c0 := HX1.out.cell 0; have c1 := HX1.out.cell 1; have c2 := HX1.out.cell 2; have c3 := HX1.out.cell 3
  have z0 := HX1.out.frozen 0; have z1 := HX1.out.frozen 1; have z2 := HX1.out.frozen 2; have z3 := HX1.out.frozen 3
  simp at c0 c1 c2 c3
  go_wp2_with fail
  refine bodyPost_ret (v := .agg #[.int .u8 0, .int .i64 0, .string ⟨#[]⟩, .slice none ([] : List V).length 0]) (by simp [results, Tryz.results91, go_sem, c0, c1, c2, c3]) rfl ?_
  have ho := HO.out
  subst ho
  exact tellsV_fin (k := 0) (s := []) (l := ([] : List V)) (o := none) rfl HX1.out HR2.out HG2.out (by decide) ⟨by decide, by decide⟩ (by simp) (RLies.nil (by decide)) (fun x hx => by cases hx) rfl

set_option maxRecDepth 100000 in
set_option maxHeartbeats 4000000 in
theorem value_deep3 (p B : Nat) (lv : Int) (l r : List UInt8) (f f' : Bool)  (w : World) (o : Option (V × List UInt8)) (ho : o = none) (hlv : lv = 0) (h : Rdr p B l f w)
    (hn : ∀ W, Rdr p B l f W → Calls Tryz.prog 84 #[.pointer (some ⟨p, 0, none⟩), .int .u8 0] W fun e w' => Reads p B W (.int .u8 3) r f' e w') :
    Calls Tryz.prog 91 #[.pointer (some ⟨p, 0, none⟩), .int .i64 lv] w fun e w' => TellsV p B w o f e w' := by
  subst hlv
  have HN := Lib.hid (hn (w.alloc (.cells #[.int .u8 0, .int .i64 0, .string ⟨#[]⟩, .slice none 0 0] 34)) (h.alloc _))
  have hpw := h.lt
  have HX := Lib.hid (Blk.new w 34 #[.int .u8 0, .int .i64 0, .string ⟨#[]⟩, .slice none 0 0])
  have HW := Lib.hid hpw; have HO := Lib.hid ho
  clear h hpw hn ho
  go_enter Tryz.func91, Tryz.ntmps91
  go_wp2_with fail
  refine HN.out.mono ?_
  rintro e w0 ⟨rfl, hr, hg⟩
  have HR0 := Lib.hid hr; have HG0 := Lib.hid (grown_trans (grown_alloc (grown_refl w p) _) hg)
  have HX0 := Lib.hid (HX.out.grown hg (by have := HW.out; intro e; injection e with e; omega))
  have HFM := Lib.hid (form3_c w0)
  clear hr hg HX HN
  go_wp2_with fail
  refine HFM.out.mono ?_
  rintro e w1 ⟨rfl, hb⟩
  have HR1 := Lib.hid (HR0.out.under hb); have HG1 := Lib.hid (grown_of_below HG0.out (hb.mono HG0.out.size)); have HX2 := Lib.hid (HX0.out.below hb HX0.out.lt)
  have HZ1 : Hid (w.heap.size + 1 ≤ w1.heap.size) := Lib.hid (by have := HX2.out.lt; omega)
  clear hb HR0 HG0 HX0 HFM
  have hfl := fld1 116 (.func (.func 115) #[] #[]) w1
  have hen := eqn_fn 116 w1
  have HF := Lib.hid (fail_c p B r f' w1 HR1.out)
  go_wp2_with fail
  refine HF.out.mono ?_
  rintro e w2 ⟨rfl, hr, hg⟩
  have HR2 := Lib.hid hr; have HG2 := Lib.hid (grown_trans HG1.out hg)
  have HX1 := Lib.hid (HX2.out.grown hg (by have := HW.out; intro e; injection e with e; omega))
  clear hr hg HF HX2 HR1 HG1
  have c0 := HX1.out.cell 0; have c1 := HX1.out.cell 1; have c2 := HX1.out.cell 2; have c3 := HX1.out.cell 3
  have z0 := HX1.out.frozen 0; have z1 := HX1.out.frozen 1; have z2 := HX1.out.frozen 2; have z3 := HX1.out.frozen 3
  simp at c0 c1 c2 c3
  go_wp2_with fail
  refine bodyPost_ret (v := .agg #[.int .u8 0, .int .i64 0, .string ⟨#[]⟩, .slice none ([] : List V).length 0]) (by simp [results, Tryz.results91, go_sem, c0, c1, c2, c3]) rfl ?_
  have ho := HO.out
  subst ho
  exact tellsV_fin (k := 0) (s := []) (l := ([] : List V)) (o := none) rfl HX1.out HR2.out HG2.out (by decide) ⟨by decide, by decide⟩ (by simp) (RLies.nil (by decide)) (fun x hx => by cases hx) rfl

set_option maxRecDepth 100000 in
set_option maxHeartbeats 4000000 in
theorem value_deep4 (p B : Nat) (lv : Int) (l r : List UInt8) (f f' : Bool)  (w : World) (o : Option (V × List UInt8)) (ho : o = none) (hlv : lv = 0) (h : Rdr p B l f w)
    (hn : ∀ W, Rdr p B l f W → Calls Tryz.prog 84 #[.pointer (some ⟨p, 0, none⟩), .int .u8 0] W fun e w' => Reads p B W (.int .u8 4) r f' e w') :
    Calls Tryz.prog 91 #[.pointer (some ⟨p, 0, none⟩), .int .i64 lv] w fun e w' => TellsV p B w o f e w' := by
  subst hlv
  have HN := Lib.hid (hn (w.alloc (.cells #[.int .u8 0, .int .i64 0, .string ⟨#[]⟩, .slice none 0 0] 34)) (h.alloc _))
  have hpw := h.lt
  have HX := Lib.hid (Blk.new w 34 #[.int .u8 0, .int .i64 0, .string ⟨#[]⟩, .slice none 0 0])
  have HW := Lib.hid hpw; have HO := Lib.hid ho
  clear h hpw hn ho
  go_enter Tryz.func91, Tryz.ntmps91
  go_wp2_with fail
  refine HN.out.mono ?_
  rintro e w0 ⟨rfl, hr, hg⟩
  have HR0 := Lib.hid hr; have HG0 := Lib.hid (grown_trans (grown_alloc (grown_refl w p) _) hg)
  have HX0 := Lib.hid (HX.out.grown hg (by have := HW.out; intro e; injection e with e; omega))
  have HFM := Lib.hid (form4_c w0)
  clear hr hg HX HN
  go_wp2_with fail
  refine HFM.out.mono ?_
  rintro e w1 ⟨rfl, hb⟩
  have HR1 := Lib.hid (HR0.out.under hb); have HG1 := Lib.hid (grown_of_below HG0.out (hb.mono HG0.out.size)); have HX2 := Lib.hid (HX0.out.below hb HX0.out.lt)
  have HZ1 : Hid (w.heap.size + 1 ≤ w1.heap.size) := Lib.hid (by have := HX2.out.lt; omega)
  clear hb HR0 HG0 HX0 HFM
  have hfl := fld1 118 (.func (.func 117) #[] #[]) w1
  have hen := eqn_fn 118 w1
  have HF := Lib.hid (fail_c p B r f' w1 HR1.out)
  go_wp2_with fail
  refine HF.out.mono ?_
  rintro e w2 ⟨rfl, hr, hg⟩
  have HR2 := Lib.hid hr; have HG2 := Lib.hid (grown_trans HG1.out hg)
  have HX1 := Lib.hid (HX2.out.grown hg (by have := HW.out; intro e; injection e with e; omega))
  clear hr hg HF HX2 HR1 HG1
  have c0 := HX1.out.cell 0; have c1 := HX1.out.cell 1; have c2 := HX1.out.cell 2; have c3 := HX1.out.cell 3
  have z0 := HX1.out.frozen 0; have z1 := HX1.out.frozen 1; have z2 := HX1.out.frozen 2; have z3 := HX1.out.frozen 3
  simp at c0 c1 c2 c3
  go_wp2_with fail
  refine bodyPost_ret (v := .agg #[.int .u8 0, .int .i64 0, .string ⟨#[]⟩, .slice none ([] : List V).length 0]) (by simp [results, Tryz.results91, go_sem, c0, c1, c2, c3]) rfl ?_
  have ho := HO.out
  subst ho
  exact tellsV_fin (k := 0) (s := []) (l := ([] : List V)) (o := none) rfl HX1.out HR2.out HG2.out (by decide) ⟨by decide, by decide⟩ (by simp) (RLies.nil (by decide)) (fun x hx => by cases hx) rfl

set_option maxRecDepth 100000 in
set_option maxHeartbeats 4000000 in
theorem value_deep5 (p B : Nat) (lv : Int) (l r : List UInt8) (f f' : Bool)  (w : World) (o : Option (V × List UInt8)) (ho : o = none) (hlv : lv = 0) (h : Rdr p B l f w)
    (hn : ∀ W, Rdr p B l f W → Calls Tryz.prog 84 #[.pointer (some ⟨p, 0, none⟩), .int .u8 0] W fun e w' => Reads p B W (.int .u8 5) r f' e w') :
    Calls Tryz.prog 91 #[.pointer (some ⟨p, 0, none⟩), .int .i64 lv] w fun e w' => TellsV p B w o f e w' := by
  subst hlv
  have HN := Lib.hid (hn (w.alloc (.cells #[.int .u8 0, .int .i64 0, .string ⟨#[]⟩, .slice none 0 0] 34)) (h.alloc _))
  have hpw := h.lt
  have HX := Lib.hid (Blk.new w 34 #[.int .u8 0, .int .i64 0, .string ⟨#[]⟩, .slice none 0 0])
  have HW := Lib.hid hpw; have HO := Lib.hid ho
  clear h hpw hn ho
  go_enter Tryz.func91, Tryz.ntmps91
  go_wp2_with fail
  refine HN.out.mono ?_
  rintro e w0 ⟨rfl, hr, hg⟩
  have HR0 := Lib.hid hr; have HG0 := Lib.hid (grown_trans (grown_alloc (grown_refl w p) _) hg)
  have HX0 := Lib.hid (HX.out.grown hg (by have := HW.out; intro e; injection e with e; omega))
  have HFM := Lib.hid (form5_c w0)
  clear hr hg HX HN
  go_wp2_with fail
  refine HFM.out.mono ?_
  rintro e w1 ⟨rfl, hb⟩
  have HR1 := Lib.hid (HR0.out.under hb); have HG1 := Lib.hid (grown_of_below HG0.out (hb.mono HG0.out.size)); have HX2 := Lib.hid (HX0.out.below hb HX0.out.lt)
  have HZ1 : Hid (w.heap.size + 1 ≤ w1.heap.size) := Lib.hid (by have := HX2.out.lt; omega)
  clear hb HR0 HG0 HX0 HFM
  have hfl := fld1 120 (.func (.func 119) #[] #[]) w1
  have hen := eqn_fn 120 w1
  have HF := Lib.hid (fail_c p B r f' w1 HR1.out)
  go_wp2_with fail
  refine HF.out.mono ?_
  rintro e w2 ⟨rfl, hr, hg⟩
  have HR2 := Lib.hid hr; have HG2 := Lib.hid (grown_trans HG1.out hg)
  have HX1 := Lib.hid (HX2.out.grown hg (by have := HW.out; intro e; injection e with e; omega))
  clear hr hg HF HX2 HR1 HG1
  have c0 := HX1.out.cell 0; have c1 := HX1.out.cell 1; have c2 := HX1.out.cell 2; have c3 := HX1.out.cell 3
  have z0 := HX1.out.frozen 0; have z1 := HX1.out.frozen 1; have z2 := HX1.out.frozen 2; have z3 := HX1.out.frozen 3
  simp at c0 c1 c2 c3
  go_wp2_with fail
  refine bodyPost_ret (v := .agg #[.int .u8 0, .int .i64 0, .string ⟨#[]⟩, .slice none ([] : List V).length 0]) (by simp [results, Tryz.results91, go_sem, c0, c1, c2, c3]) rfl ?_
  have ho := HO.out
  subst ho
  exact tellsV_fin (k := 0) (s := []) (l := ([] : List V)) (o := none) rfl HX1.out HR2.out HG2.out (by decide) ⟨by decide, by decide⟩ (by simp) (RLies.nil (by decide)) (fun x hx => by cases hx) rfl

set_option maxRecDepth 100000 in
set_option maxHeartbeats 4000000 in
theorem value_deep6 (p B : Nat) (lv : Int) (l r : List UInt8) (f f' : Bool)  (w : World) (o : Option (V × List UInt8)) (ho : o = none) (hlv : lv = 0) (h : Rdr p B l f w)
    (hn : ∀ W, Rdr p B l f W → Calls Tryz.prog 84 #[.pointer (some ⟨p, 0, none⟩), .int .u8 0] W fun e w' => Reads p B W (.int .u8 6) r f' e w') :
    Calls Tryz.prog 91 #[.pointer (some ⟨p, 0, none⟩), .int .i64 lv] w fun e w' => TellsV p B w o f e w' := by
  subst hlv
  have HN := Lib.hid (hn (w.alloc (.cells #[.int .u8 0, .int .i64 0, .string ⟨#[]⟩, .slice none 0 0] 34)) (h.alloc _))
  have hpw := h.lt
  have HX := Lib.hid (Blk.new w 34 #[.int .u8 0, .int .i64 0, .string ⟨#[]⟩, .slice none 0 0])
  have HW := Lib.hid hpw; have HO := Lib.hid ho
  clear h hpw hn ho
  go_enter Tryz.func91, Tryz.ntmps91
  go_wp2_with fail
  refine HN.out.mono ?_
  rintro e w0 ⟨rfl, hr, hg⟩
  have HR0 := Lib.hid hr; have HG0 := Lib.hid (grown_trans (grown_alloc (grown_refl w p) _) hg)
  have HX0 := Lib.hid (HX.out.grown hg (by have := HW.out; intro e; injection e with e; omega))
  have HFM := Lib.hid (form6_c w0)
  clear hr hg HX HN
  go_wp2_with fail
  refine HFM.out.mono ?_
  rintro e w1 ⟨rfl, hb⟩
  have HR1 := Lib.hid (HR0.out.under hb); have HG1 := Lib.hid (grown_of_below HG0.out (hb.mono HG0.out.size)); have HX2 := Lib.hid (HX0.out.below hb HX0.out.lt)
  have HZ1 : Hid (w.heap.size + 1 ≤ w1.heap.size) := Lib.hid (by have := HX2.out.lt; omega)
  clear hb HR0 HG0 HX0 HFM
  have hfl := fld1 122 (.func (.func 121) #[] #[]) w1
  have hen := eqn_fn 122 w1
  have HF := Lib.hid (fail_c p B r f' w1 HR1.out)
  go_wp2_with fail
  refine HF.out.mono ?_
  rintro e w2 ⟨rfl, hr, hg⟩
  have HR2 := Lib.hid hr; have HG2 := Lib.hid (grown_trans HG1.out hg)
  have HX1 := Lib.hid (HX2.out.grown hg (by have := HW.out; intro e; injection e with e; omega))
  clear hr hg HF HX2 HR1 HG1
  have c0 := HX1.out.cell 0; have c1 := HX1.out.cell 1; have c2 := HX1.out.cell 2; have c3 := HX1.out.cell 3
  have z0 := HX1.out.frozen 0; have z1 := HX1.out.frozen 1; have z2 := HX1.out.frozen 2; have z3 := HX1.out.frozen 3
  simp at c0 c1 c2 c3
  go_wp2_with fail
  refine bodyPost_ret (v := .agg #[.int .u8 0, .int .i64 0, .string ⟨#[]⟩, .slice none ([] : List V).length 0]) (by simp [results, Tryz.results91, go_sem, c0, c1, c2, c3]) rfl ?_
  have ho := HO.out
  subst ho
  exact tellsV_fin (k := 0) (s := []) (l := ([] : List V)) (o := none) rfl HX1.out HR2.out HG2.out (by decide) ⟨by decide, by decide⟩ (by simp) (RLies.nil (by decide)) (fun x hx => by cases hx) rfl

set_option maxRecDepth 100000 in
set_option maxHeartbeats 4000000 in
theorem value_go1 (p B : Nat) (lv : Int) (l r : List UInt8) (f : Bool) (n : Nat) (hn1 : n ≤ 1000) (hl : r.length ≤ 140000000000000) (w : World) (o : Option (V × List UInt8)) (ho : o = (kindG n 1 r).map fun x => (V.mk 1 x.1.1 (Rm.bytes x.1.2.1) x.1.2.2, x.2)) (hlv : lv = (n : Int) + 1) (hk : ∀ (l : List UInt8) (f : Bool) (W : World), l.length ≤ 140000000000000 → Rdr p B l f W → Calls Tryz.prog 112 #[.pointer (some ⟨p, 0, none⟩), .int .i64 ((n : Int) + 1)] W fun e w' => TellsX p B W (kindG n 1 l) f e w') (h : Rdr p B l f w)
    (hn : ∀ W, Rdr p B l f W → Calls Tryz.prog 84 #[.pointer (some ⟨p, 0, none⟩), .int .u8 0] W fun e w' => Reads p B W (.int .u8 1) r f e w') :
    Calls Tryz.prog 91 #[.pointer (some ⟨p, 0, none⟩), .int .i64 lv] w fun e w' => TellsV p B w o f e w' := by
  subst hlv
  have hlz : ((n : Int) + 1 == 0) = false := by rw [beq_eq_false_iff_ne]; omega
  have hlz2 : ¬ (n : Int) + 1 = 0 := by omega
  have HN := Lib.hid (hn (w.alloc (.cells #[.int .u8 0, .int .i64 0, .string ⟨#[]⟩, .slice none 0 0] 34)) (h.alloc _))
  have hpw := h.lt
  have HX := Lib.hid (Blk.new w 34 #[.int .u8 0, .int .i64 0, .string ⟨#[]⟩, .slice none 0 0])
  have HW := Lib.hid hpw; have HO := Lib.hid ho; have HK := Lib.hid hk; have HL := Lib.hid hl
  clear h hpw hn ho hk hl
  go_enter Tryz.func91, Tryz.ntmps91
  go_wp2_with fail
  refine HN.out.mono ?_
  rintro e w0 ⟨rfl, hr, hg⟩
  have HR0 := Lib.hid hr; have HG0 := Lib.hid (grown_trans (grown_alloc (grown_refl w p) _) hg)
  have HX0 := Lib.hid (HX.out.grown hg (by have := HW.out; intro e; injection e with e; omega))
  have HFM := Lib.hid (form1_c w0)
  clear hr hg HX HN
  go_wp2_with fail
  refine HFM.out.mono ?_
  rintro e w1 ⟨rfl, hb⟩
  have HR1 := Lib.hid (HR0.out.under hb); have HG1 := Lib.hid (grown_of_below HG0.out (hb.mono HG0.out.size)); have HX2 := Lib.hid (HX0.out.below hb HX0.out.lt)
  have HZ1 : Hid (w.heap.size + 1 ≤ w1.heap.size) := Lib.hid (by have := HX2.out.lt; omega)
  clear hb HR0 HG0 HX0 HFM
  have hfl := fld1 112 (.func (.func 111) #[] #[]) w1
  have hen := eqn_fn 112 w1
  have HC := Lib.hid (HK.out r f w1 HL.out HR1.out)
  go_wp2_with fail
  refine HC.out.mono ?_
  rintro e w2 ⟨n', s', lt, At, ct, rfl, hnr, hsl, hr, hg, hrl, hzx⟩
  have HR2 := Lib.hid hr; have HG2 := Lib.hid (grown_trans HG1.out hg)
  have HX1 := Lib.hid (HX2.out.grown hg (by have := HW.out; intro e; injection e with e; omega))
  have HRL := Lib.hid (hrl.mono (S' := fun b => w.heap.size + 1 ≤ b) fun b _ hb => Nat.le_trans HZ1.out hb); have HQ := Lib.hid hzx; have HNR := Lib.hid hnr; have HSL := Lib.hid hsl
  have hlt2 : w.heap.size < w2.heap.size := by have := HG2.out.size; have := HZ1.out; have := hg.size; omega
  have HLT := Lib.hid hlt2
  clear hr hg HC HX2 HR1 HG1 hrl hzx hnr hsl
  have c0 := HX1.out.cell 0; have c1 := HX1.out.cell 1; have c2 := HX1.out.cell 2; have c3 := HX1.out.cell 3
  have z0 := HX1.out.frozen 0; have z1 := HX1.out.frozen 1; have z2 := HX1.out.frozen 2; have z3 := HX1.out.frozen 3
  simp at c0 c1 c2 c3
  go_wp2_with fail
  refine bodyPost_ret (retV rfl rfl ((blk4 HX1.out).alloc _)) rfl ?_
  have hR := HR2.out
  have hO := HO.out
  have hQ := HQ.out
  generalize kindG n 1 r = ok at hR hO hQ
  refine TellsV.alloc (tellsV_fin (k := 1) (s := s') (l := lt) (o := o) rfl HX1.out ?_ HG2.out (by decide) HNR.out HSL.out HRL.out (fun x hx => ?_) rfl) _
  · subst hO
    cases ok with
    | none => exact hR
    | some y => exact hR
  · subst hO
    cases ok with
    | none => cases hx
    | some y =>
      injection hx with hx
      have e := hQ y rfl
      rw [← hx]
      show V.mk 1 n' (Rm.bytes s') lt = V.mk 1 y.1.1 (Rm.bytes y.1.2.1) y.1.2.2
      rw [← e]

set_option maxRecDepth 100000 in
set_option maxHeartbeats 4000000 in
theorem value_go2 (p B : Nat) (lv : Int) (l r : List UInt8) (f : Bool) (n : Nat) (hn1 : n ≤ 1000) (hl : r.length ≤ 140000000000000) (w : World) (o : Option (V × List UInt8)) (ho : o = (kindG n 2 r).map fun x => (V.mk 2 x.1.1 (Rm.bytes x.1.2.1) x.1.2.2, x.2)) (hlv : lv = (n : Int) + 1) (hk : ∀ (l : List UInt8) (f : Bool) (W : World), l.length ≤ 140000000000000 → Rdr p B l f W → Calls Tryz.prog 114 #[.pointer (some ⟨p, 0, none⟩), .int .i64 ((n : Int) + 1)] W fun e w' => TellsX p B W (kindG n 2 l) f e w') (h : Rdr p B l f w)
    (hn : ∀ W, Rdr p B l f W → Calls Tryz.prog 84 #[.pointer (some ⟨p, 0, none⟩), .int .u8 0] W fun e w' => Reads p B W (.int .u8 2) r f e w') :
    Calls Tryz.prog 91 #[.pointer (some ⟨p, 0, none⟩), .int .i64 lv] w fun e w' => TellsV p B w o f e w' := by
  subst hlv
  have hlz : ((n : Int) + 1 == 0) = false := by rw [beq_eq_false_iff_ne]; omega
  have hlz2 : ¬ (n : Int) + 1 = 0 := by omega
  have HN := Lib.hid (hn (w.alloc (.cells #[.int .u8 0, .int .i64 0, .string ⟨#[]⟩, .slice none 0 0] 34)) (h.alloc _))
  have hpw := h.lt
  have HX := Lib.hid (Blk.new w 34 #[.int .u8 0, .int .i64 0, .string ⟨#[]⟩, .slice none 0 0])
  have HW := Lib.hid hpw; have HO := Lib.hid ho; have HK := Lib.hid hk; have HL := Lib.hid hl
  clear h hpw hn ho hk hl
  go_enter Tryz.func91, Tryz.ntmps91
  go_wp2_with fail
  refine HN.out.mono ?_
  rintro e w0 ⟨rfl, hr, hg⟩
  have HR0 := Lib.hid hr; have HG0 := Lib.hid (grown_trans (grown_alloc (grown_refl w p) _) hg)
  have HX0 := Lib.hid (HX.out.grown hg (by have := HW.out; intro e; injection e with e; omega))
  have HFM := Lib.hid (form2_c w0)
  clear hr hg HX HN
  go_wp2_with fail
  refine HFM.out.mono ?_
  rintro e w1 ⟨rfl, hb⟩
  have HR1 := Lib.hid (HR0.out.under hb); have HG1 := Lib.hid (grown_of_below HG0.out (hb.mono HG0.out.size)); have HX2 := Lib.hid (HX0.out.below hb HX0.out.lt)
  have HZ1 : Hid (w.heap.size + 1 ≤ w1.heap.size) := Lib.hid (by have := HX2.out.lt; omega)
  clear hb HR0 HG0 HX0 HFM
  have hfl := fld1 114 (.func (.func 113) #[] #[]) w1
  have hen := eqn_fn 114 w1
  have HC := Lib.hid (HK.out r f w1 HL.out HR1.out)
  go_wp2_with fail
  refine HC.out.mono ?_
  rintro e w2 ⟨n', s', lt, At, ct, rfl, hnr, hsl, hr, hg, hrl, hzx⟩
  have HR2 := Lib.hid hr; have HG2 := Lib.hid (grown_trans HG1.out hg)
  have HX1 := Lib.hid (HX2.out.grown hg (by have := HW.out; intro e; injection e with e; omega))
  have HRL := Lib.hid (hrl.mono (S' := fun b => w.heap.size + 1 ≤ b) fun b _ hb => Nat.le_trans HZ1.out hb); have HQ := Lib.hid hzx; have HNR := Lib.hid hnr; have HSL := Lib.hid hsl
  have hlt2 : w.heap.size < w2.heap.size := by have := HG2.out.size; have := HZ1.out; have := hg.size; omega
  have HLT := Lib.hid hlt2
  clear hr hg HC HX2 HR1 HG1 hrl hzx hnr hsl
  have c0 := HX1.out.cell 0; have c1 := HX1.out.cell 1; have c2 := HX1.out.cell 2; have c3 := HX1.out.cell 3
  have z0 := HX1.out.frozen 0; have z1 := HX1.out.frozen 1; have z2 := HX1.out.frozen 2; have z3 := HX1.out.frozen 3
  simp at c0 c1 c2 c3
  go_wp2_with fail
  refine bodyPost_ret (retV rfl rfl ((blk4 HX1.out).alloc _)) rfl ?_
  have hR := HR2.out
  have hO := HO.out
  have hQ := HQ.out
  generalize kindG n 2 r = ok at hR hO hQ
  refine TellsV.alloc (tellsV_fin (k := 2) (s := s') (l := lt) (o := o) rfl HX1.out ?_ HG2.out (by decide) HNR.out HSL.out HRL.out (fun x hx => ?_) rfl) _
  · subst hO
    cases ok with
    | none => exact hR
    | some y => exact hR
  · subst hO
    cases ok with
    | none => cases hx
    | some y =>
      injection hx with hx
      have e := hQ y rfl
      rw [← hx]
      show V.mk 2 n' (Rm.bytes s') lt = V.mk 2 y.1.1 (Rm.bytes y.1.2.1) y.1.2.2
      rw [← e]

set_option maxRecDepth 100000 in
set_option maxHeartbeats 4000000 in
theorem value_go3 (p B : Nat) (lv : Int) (l r : List UInt8) (f : Bool) (n : Nat) (hn1 : n ≤ 1000) (hl : r.length ≤ 140000000000000) (w : World) (o : Option (V × List UInt8)) (ho : o = (kindG n 3 r).map fun x => (V.mk 3 x.1.1 (Rm.bytes x.1.2.1) x.1.2.2, x.2)) (hlv : lv = (n : Int) + 1) (hk : ∀ (l : List UInt8) (f : Bool) (W : World), l.length ≤ 140000000000000 → Rdr p B l f W → Calls Tryz.prog 116 #[.pointer (some ⟨p, 0, none⟩), .int .i64 ((n : Int) + 1)] W fun e w' => TellsX p B W (kindG n 3 l) f e w') (h : Rdr p B l f w)
    (hn : ∀ W, Rdr p B l f W → Calls Tryz.prog 84 #[.pointer (some ⟨p, 0, none⟩), .int .u8 0] W fun e w' => Reads p B W (.int .u8 3) r f e w') :
    Calls Tryz.prog 91 #[.pointer (some ⟨p, 0, none⟩), .int .i64 lv] w fun e w' => TellsV p B w o f e w' := by
  subst hlv
  have hlz : ((n : Int) + 1 == 0) = false := by rw [beq_eq_false_iff_ne]; omega
  have hlz2 : ¬ (n : Int) + 1 = 0 := by omega
  have HN := Lib.hid (hn (w.alloc (.cells #[.int .u8 0, .int .i64 0, .string ⟨#[]⟩, .slice none 0 0] 34)) (h.alloc _))
  have hpw := h.lt
  have HX := Lib.hid (Blk.new w 34 #[.int .u8 0, .int .i64 0, .string ⟨#[]⟩, .slice none 0 0])
  have HW := Lib.hid hpw; have HO := Lib.hid ho; have HK := Lib.hid hk; have HL := Lib.hid hl
  clear h hpw hn ho hk hl
  go_enter Tryz.func91, Tryz.ntmps91
  go_wp2_with fail
  refine HN.out.mono ?_
  rintro e w0 ⟨rfl, hr, hg⟩
  have HR0 := Lib.hid hr; have HG0 := Lib.hid (grown_trans (grown_alloc (grown_refl w p) _) hg)
  have HX0 := Lib.hid (HX.out.grown hg (by have := HW.out; intro e; injection e with e; omega))
  have HFM := Lib.hid (form3_c w0)
  clear hr hg HX HN
  go_wp2_with fail
  refine HFM.out.mono ?_
  rintro e w1 ⟨rfl, hb⟩
  have HR1 := Lib.hid (HR0.out.under hb); have HG1 := Lib.hid (grown_of_below HG0.out (hb.mono HG0.out.size)); have HX2 := Lib.hid (HX0.out.below hb HX0.out.lt)
  have HZ1 : Hid (w.heap.size + 1 ≤ w1.heap.size) := Lib.hid (by have := HX2.out.lt; omega)
  clear hb HR0 HG0 HX0 HFM
  have hfl := fld1 116 (.func (.func 115) #[] #[]) w1
  have hen := eqn_fn 116 w1
  have HC := Lib.hid (HK.out r f w1 HL.out HR1.out)
  go_wp2_with fail
  refine HC.out.mono ?_
  rintro e w2 ⟨n', s', lt, At, ct, rfl, hnr, hsl, hr, hg, hrl, hzx⟩
  have HR2 := Lib.hid hr; have HG2 := Lib.hid (grown_trans HG1.out hg)
  have HX1 := Lib.hid (HX2.out.grown hg (by have := HW.out; intro e; injection e with e; omega))
  have HRL := Lib.hid (hrl.mono (S' := fun b => w.heap.size + 1 ≤ b) fun b _ hb => Nat.le_trans HZ1.out hb); have HQ := Lib.hid hzx; have HNR := Lib.hid hnr; have HSL := Lib.hid hsl
  have hlt2 : w.heap.size < w2.heap.size := by have := HG2.out.size; have := HZ1.out; have := hg.size; omega
  have HLT := Lib.hid hlt2
  clear hr hg HC HX2 HR1 HG1 hrl hzx hnr hsl
  have c0 := HX1.out.cell 0; have c1 := HX1.out.cell 1; have c2 := HX1.out.cell 2; have c3 := HX1.out.cell 3
  have z0 := HX1.out.frozen 0; have z1 := HX1.out.frozen 1; have z2 := HX1.out.frozen 2; have z3 := HX1.out.frozen 3
  simp at c0 c1 c2 c3
  go_wp2_with fail
  refine bodyPost_ret (retV rfl rfl ((blk4 HX1.out).alloc _)) rfl ?_
  have hR := HR2.out
  have hO := HO.out
  have hQ := HQ.out
  generalize kindG n 3 r = ok at hR hO hQ
  refine TellsV.alloc (tellsV_fin (k := 3) (s := s') (l := lt) (o := o) rfl HX1.out ?_ HG2.out (by decide) HNR.out HSL.out HRL.out (fun x hx => ?_) rfl) _
  · subst hO
    cases ok with
    | none => exact hR
    | some y => exact hR
  · subst hO
    cases ok with
    | none => cases hx
    | some y =>
      injection hx with hx
      have e := hQ y rfl
      rw [← hx]
      show V.mk 3 n' (Rm.bytes s') lt = V.mk 3 y.1.1 (Rm.bytes y.1.2.1) y.1.2.2
      rw [← e]

set_option maxRecDepth 100000 in
set_option maxHeartbeats 4000000 in
theorem value_go4 (p B : Nat) (lv : Int) (l r : List UInt8) (f : Bool) (n : Nat) (hn1 : n ≤ 1000) (hl : r.length ≤ 140000000000000) (w : World) (o : Option (V × List UInt8)) (ho : o = (kindG n 4 r).map fun x => (V.mk 4 x.1.1 (Rm.bytes x.1.2.1) x.1.2.2, x.2)) (hlv : lv = (n : Int) + 1) (hk : ∀ (l : List UInt8) (f : Bool) (W : World), l.length ≤ 140000000000000 → Rdr p B l f W → Calls Tryz.prog 118 #[.pointer (some ⟨p, 0, none⟩), .int .i64 ((n : Int) + 1)] W fun e w' => TellsX p B W (kindG n 4 l) f e w') (h : Rdr p B l f w)
    (hn : ∀ W, Rdr p B l f W → Calls Tryz.prog 84 #[.pointer (some ⟨p, 0, none⟩), .int .u8 0] W fun e w' => Reads p B W (.int .u8 4) r f e w') :
    Calls Tryz.prog 91 #[.pointer (some ⟨p, 0, none⟩), .int .i64 lv] w fun e w' => TellsV p B w o f e w' := by
  subst hlv
  have hlz : ((n : Int) + 1 == 0) = false := by rw [beq_eq_false_iff_ne]; omega
  have hlz2 : ¬ (n : Int) + 1 = 0 := by omega
  have HN := Lib.hid (hn (w.alloc (.cells #[.int .u8 0, .int .i64 0, .string ⟨#[]⟩, .slice none 0 0] 34)) (h.alloc _))
  have hpw := h.lt
  have HX := Lib.hid (Blk.new w 34 #[.int .u8 0, .int .i64 0, .string ⟨#[]⟩, .slice none 0 0])
  have HW := Lib.hid hpw; have HO := Lib.hid ho; have HK := Lib.hid hk; have HL := Lib.hid hl
  clear h hpw hn ho hk hl
  go_enter Tryz.func91, Tryz.ntmps91
  go_wp2_with fail
  refine HN.out.mono ?_
  rintro e w0 ⟨rfl, hr, hg⟩
  have HR0 := Lib.hid hr; have HG0 := Lib.hid (grown_trans (grown_alloc (grown_refl w p) _) hg)
  have HX0 := Lib.hid (HX.out.grown hg (by have := HW.out; intro e; injection e with e; omega))
  have HFM := Lib.hid (form4_c w0)
  clear hr hg HX HN
  go_wp2_with fail
  refine HFM.out.mono ?_
  rintro e w1 ⟨rfl, hb⟩
  have HR1 := Lib.hid (HR0.out.under hb); have HG1 := Lib.hid (grown_of_below HG0.out (hb.mono HG0.out.size)); have HX2 := Lib.hid (HX0.out.below hb HX0.out.lt)
  have HZ1 : Hid (w.heap.size + 1 ≤ w1.heap.size) := Lib.hid (by have := HX2.out.lt; omega)
  clear hb HR0 HG0 HX0 HFM
  have hfl := fld1 118 (.func (.func 117) #[] #[]) w1
  have hen := eqn_fn 118 w1
  have HC := Lib.hid (HK.out r f w1 HL.out HR1.out)
  go_wp2_with fail
  refine HC.out.mono ?_
  rintro e w2 ⟨n', s', lt, At, ct, rfl, hnr, hsl, hr, hg, hrl, hzx⟩
  have HR2 := Lib.hid hr; have HG2 := Lib.hid (grown_trans HG1.out hg)
  have HX1 := Lib.hid (HX2.out.grown hg (by have := HW.out; intro e; injection e with e; omega))
  have HRL := Lib.hid (hrl.mono (S' := fun b => w.heap.size + 1 ≤ b) fun b _ hb => Nat.le_trans HZ1.out hb); have HQ := Lib.hid hzx; have HNR := Lib.hid hnr; have HSL := Lib.hid hsl
  have hlt2 : w.heap.size < w2.heap.size := by have := HG2.out.size; have := HZ1.out; have := hg.size; omega
  have HLT := Lib.hid hlt2
  clear hr hg HC HX2 HR1 HG1 hrl hzx hnr hsl
  have c0 := HX1.out.cell 0; have c1 := HX1.out.cell 1; have c2 := HX1.out.cell 2; have c3 := HX1.out.cell 3
  have z0 := HX1.out.frozen 0; have z1 := HX1.out.frozen 1; have z2 := HX1.out.frozen 2; have z3 := HX1.out.frozen 3
  simp at c0 c1 c2 c3
  go_wp2_with fail
  refine bodyPost_ret (retV rfl rfl ((blk4 HX1.out).alloc _)) rfl ?_
  have hR := HR2.out
  have hO := HO.out
  have hQ := HQ.out
  generalize kindG n 4 r = ok at hR hO hQ
  refine TellsV.alloc (tellsV_fin (k := 4) (s := s') (l := lt) (o := o) rfl HX1.out ?_ HG2.out (by decide) HNR.out HSL.out HRL.out (fun x hx => ?_) rfl) _
  · subst hO
    cases ok with
    | none => exact hR
    | some y => exact hR
  · subst hO
    cases ok with
    | none => cases hx
    | some y =>
      injection hx with hx
      have e := hQ y rfl
      rw [← hx]
      show V.mk 4 n' (Rm.bytes s') lt = V.mk 4 y.1.1 (Rm.bytes y.1.2.1) y.1.2.2
      rw [← e]

set_option maxRecDepth 100000 in
set_option maxHeartbeats 4000000 in
theorem value_go5 (p B : Nat) (lv : Int) (l r : List UInt8) (f : Bool) (n : Nat) (hn1 : n ≤ 1000) (hl : r.length ≤ 140000000000000) (w : World) (o : Option (V × List UInt8)) (ho : o = (kindG n 5 r).map fun x => (V.mk 5 x.1.1 (Rm.bytes x.1.2.1) x.1.2.2, x.2)) (hlv : lv = (n : Int) + 1) (hk : ∀ (l : List UInt8) (f : Bool) (W : World), l.length ≤ 140000000000000 → Rdr p B l f W → Calls Tryz.prog 120 #[.pointer (some ⟨p, 0, none⟩), .int .i64 ((n : Int) + 1)] W fun e w' => TellsX p B W (kindG n 5 l) f e w') (h : Rdr p B l f w)
    (hn : ∀ W, Rdr p B l f W → Calls Tryz.prog 84 #[.pointer (some ⟨p, 0, none⟩), .int .u8 0] W fun e w' => Reads p B W (.int .u8 5) r f e w') :
    Calls Tryz.prog 91 #[.pointer (some ⟨p, 0, none⟩), .int .i64 lv] w fun e w' => TellsV p B w o f e w' := by
  subst hlv
  have hlz : ((n : Int) + 1 == 0) = false := by rw [beq_eq_false_iff_ne]; omega
  have hlz2 : ¬ (n : Int) + 1 = 0 := by omega
  have HN := Lib.hid (hn (w.alloc (.cells #[.int .u8 0, .int .i64 0, .string ⟨#[]⟩, .slice none 0 0] 34)) (h.alloc _))
  have hpw := h.lt
  have HX := Lib.hid (Blk.new w 34 #[.int .u8 0, .int .i64 0, .string ⟨#[]⟩, .slice none 0 0])
  have HW := Lib.hid hpw; have HO := Lib.hid ho; have HK := Lib.hid hk; have HL := Lib.hid hl
  clear h hpw hn ho hk hl
  go_enter Tryz.func91, Tryz.ntmps91
  go_wp2_with fail
  refine HN.out.mono ?_
  rintro e w0 ⟨rfl, hr, hg⟩
  have HR0 := Lib.hid hr; have HG0 := Lib.hid (grown_trans (grown_alloc (grown_refl w p) _) hg)
  have HX0 := Lib.hid (HX.out.grown hg (by have := HW.out; intro e; injection e with e; omega))
  have HFM := Lib.hid (form5_c w0)
  clear hr hg HX HN
  go_wp2_with fail
  refine HFM.out.mono ?_
  rintro e w1 ⟨rfl, hb⟩
  have HR1 := Lib.hid (HR0.out.under hb); have HG1 := Lib.hid (grown_of_below HG0.out (hb.mono HG0.out.size)); have HX2 := Lib.hid (HX0.out.below hb HX0.out.lt)
  have HZ1 : Hid (w.heap.size + 1 ≤ w1.heap.size) := Lib.hid (by have := HX2.out.lt; omega)
  clear hb HR0 HG0 HX0 HFM
  have hfl := fld1 120 (.func (.func 119) #[] #[]) w1
  have hen := eqn_fn 120 w1
  have HC := Lib.hid (HK.out r f w1 HL.out HR1.out)
  go_wp2_with fail
  refine HC.out.mono ?_
  rintro e w2 ⟨n', s', lt, At, ct, rfl, hnr, hsl, hr, hg, hrl, hzx⟩
  have HR2 := Lib.hid hr; have HG2 := Lib.hid (grown_trans HG1.out hg)
  have HX1 := Lib.hid (HX2.out.grown hg (by have := HW.out; intro e; injection e with e; omega))
  have HRL := Lib.hid (hrl.mono (S' := fun b => w.heap.size + 1 ≤ b) fun b _ hb => Nat.le_trans HZ1.out hb); have HQ := Lib.hid hzx; have HNR := Lib.hid hnr; have HSL := Lib.hid hsl
  have hlt2 : w.heap.size < w2.heap.size := by have := HG2.out.size; have := HZ1.out; have := hg.size; omega
  have HLT := Lib.hid hlt2
  clear hr hg HC HX2 HR1 HG1 hrl hzx hnr hsl
  have c0 := HX1.out.cell 0; have c1 := HX1.out.cell 1; have c2 := HX1.out.cell 2; have c3 := HX1.out.cell 3
  have z0 := HX1.out.frozen 0; have z1 := HX1.out.frozen 1; have z2 := HX1.out.frozen 2; have z3 := HX1.out.frozen 3
  simp at c0 c1 c2 c3
  go_wp2_with fail
  refine bodyPost_ret (retV rfl rfl ((blk4 HX1.out).alloc _)) rfl ?_
  have hR := HR2.out
  have hO := HO.out
  have hQ := HQ.out
  generalize kindG n 5 r = ok at hR hO hQ
  refine TellsV.alloc (tellsV_fin (k := 5) (s := s') (l := lt) (o := o) rfl HX1.out ?_ HG2.out (by decide) HNR.out HSL.out HRL.out (fun x hx => ?_) rfl) _
  · subst hO
    cases ok with
    | none => exact hR
    | some y => exact hR
  · subst hO
    cases ok with
    | none => cases hx
    | some y =>
      injection hx with hx
      have e := hQ y rfl
      rw [← hx]
      show V.mk 5 n' (Rm.bytes s') lt = V.mk 5 y.1.1 (Rm.bytes y.1.2.1) y.1.2.2
      rw [← e]

set_option maxRecDepth 100000 in
set_option maxHeartbeats 4000000 in
theorem value_go6 (p B : Nat) (lv : Int) (l r : List UInt8) (f : Bool) (n : Nat) (hn1 : n ≤ 1000) (hl : r.length ≤ 140000000000000) (w : World) (o : Option (V × List UInt8)) (ho : o = (kindG n 6 r).map fun x => (V.mk 6 x.1.1 (Rm.bytes x.1.2.1) x.1.2.2, x.2)) (hlv : lv = (n : Int) + 1) (hk : ∀ (l : List UInt8) (f : Bool) (W : World), l.length ≤ 140000000000000 → Rdr p B l f W → Calls Tryz.prog 122 #[.pointer (some ⟨p, 0, none⟩), .int .i64 ((n : Int) + 1)] W fun e w' => TellsX p B W (kindG n 6 l) f e w') (h : Rdr p B l f w)
    (hn : ∀ W, Rdr p B l f W → Calls Tryz.prog 84 #[.pointer (some ⟨p, 0, none⟩), .int .u8 0] W fun e w' => Reads p B W (.int .u8 6) r f e w') :
    Calls Tryz.prog 91 #[.pointer (some ⟨p, 0, none⟩), .int .i64 lv] w fun e w' => TellsV p B w o f e w' := by
  subst hlv
  have hlz : ((n : Int) + 1 == 0) = false := by rw [beq_eq_false_iff_ne]; omega
  have hlz2 : ¬ (n : Int) + 1 = 0 := by omega
  have HN := Lib.hid (hn (w.alloc (.cells #[.int .u8 0, .int .i64 0, .string ⟨#[]⟩, .slice none 0 0] 34)) (h.alloc _))
  have hpw := h.lt
  have HX := Lib.hid (Blk.new w 34 #[.int .u8 0, .int .i64 0, .string ⟨#[]⟩, .slice none 0 0])
  have HW := Lib.hid hpw; have HO := Lib.hid ho; have HK := Lib.hid hk; have HL := Lib.hid hl
  clear h hpw hn ho hk hl
  go_enter Tryz.func91, Tryz.ntmps91
  go_wp2_with fail
  refine HN.out.mono ?_
  rintro e w0 ⟨rfl, hr, hg⟩
  have HR0 := Lib.hid hr; have HG0 := Lib.hid (grown_trans (grown_alloc (grown_refl w p) _) hg)
  have HX0 := Lib.hid (HX.out.grown hg (by have := HW.out; intro e; injection e with e; omega))
  have HFM := Lib.hid (form6_c w0)
  clear hr hg HX HN
  go_wp2_with fail
  refine HFM.out.mono ?_
  rintro e w1 ⟨rfl, hb⟩
  have HR1 := Lib.hid (HR0.out.under hb); have HG1 := Lib.hid (grown_of_below HG0.out (hb.mono HG0.out.size)); have HX2 := Lib.hid (HX0.out.below hb HX0.out.lt)
  have HZ1 : Hid (w.heap.size + 1 ≤ w1.heap.size) := Lib.hid (by have := HX2.out.lt; omega)
  clear hb HR0 HG0 HX0 HFM
  have hfl := fld1 122 (.func (.func 121) #[] #[]) w1
  have hen := eqn_fn 122 w1
  have HC := Lib.hid (HK.out r f w1 HL.out HR1.out)
  go_wp2_with fail
  refine HC.out.mono ?_
  rintro e w2 ⟨n', s', lt, At, ct, rfl, hnr, hsl, hr, hg, hrl, hzx⟩
  have HR2 := Lib.hid hr; have HG2 := Lib.hid (grown_trans HG1.out hg)
  have HX1 := Lib.hid (HX2.out.grown hg (by have := HW.out; intro e; injection e with e; omega))
  have HRL := Lib.hid (hrl.mono (S' := fun b => w.heap.size + 1 ≤ b) fun b _ hb => Nat.le_trans HZ1.out hb); have HQ := Lib.hid hzx; have HNR := Lib.hid hnr; have HSL := Lib.hid hsl
  have hlt2 : w.heap.size < w2.heap.size := by have := HG2.out.size; have := HZ1.out; have := hg.size; omega
  have HLT := Lib.hid hlt2
  clear hr hg HC HX2 HR1 HG1 hrl hzx hnr hsl
  have c0 := HX1.out.cell 0; have c1 := HX1.out.cell 1; have c2 := HX1.out.cell 2; have c3 := HX1.out.cell 3
  have z0 := HX1.out.frozen 0; have z1 := HX1.out.frozen 1; have z2 := HX1.out.frozen 2; have z3 := HX1.out.frozen 3
  simp at c0 c1 c2 c3
  go_wp2_with fail
  refine bodyPost_ret (retV rfl rfl ((blk4 HX1.out).alloc _)) rfl ?_
  have hR := HR2.out
  have hO := HO.out
  have hQ := HQ.out
  generalize kindG n 6 r = ok at hR hO hQ
  refine TellsV.alloc (tellsV_fin (k := 6) (s := s') (l := lt) (o := o) rfl HX1.out ?_ HG2.out (by decide) HNR.out HSL.out HRL.out (fun x hx => ?_) rfl) _
  · subst hO
    cases ok with
    | none => exact hR
    | some y => exact hR
  · subst hO
    cases ok with
    | none => cases hx
    | some y =>
      injection hx with hx
      have e := hQ y rfl
      rw [← hx]
      show V.mk 6 n' (Rm.bytes s') lt = V.mk 6 y.1.1 (Rm.bytes y.1.2.1) y.1.2.2
      rw [← e]

theorem value_all (p B : Nat) : ∀ (n : Nat), n ≤ 1000 → ∀ (l : List UInt8) (f : Bool) (W : World), l.length ≤ 140000000000000 → Rdr p B l f W → Calls Tryz.prog 91 #[.pointer (some ⟨p, 0, none⟩), .int .i64 (n : Int)] W fun e w' => TellsV p B W (valueG n l) f e w' := by
  intro n
  induction n with
  | zero =>
    intro _ l f W _ h
    cases l with
    | nil => exact value_no0 p B 0 [] [] f true W _ (value_nil 0) h (fun W h => next_nil p B 0 f W h)
    | cons k r =>
      have hn : ∀ (x : Int), (k.toNat : Int) = x → ∀ W, Rdr p B (k :: r) f W → Calls Tryz.prog 84 #[.pointer (some ⟨p, 0, none⟩), .int .u8 0] W fun e w' => Reads p B W (.int .u8 x) r f e w' := fun x hx W h => by
        have := next_cons p B 0 (.inl rfl) k r f W h
        rw [UInt8.xor_zero, hx] at this
        exact this
      have hc : k.toNat = 0 ∨ k.toNat = 1 ∨ k.toNat = 2 ∨ k.toNat = 3 ∨ k.toNat = 4 ∨ k.toNat = 5 ∨ k.toNat = 6 ∨ (7 ≤ k.toNat ∧ k.toNat < 256) := by have := k.toNat_lt; omega
      rcases hc with hc | hc | hc | hc | hc | hc | hc | hc
      · exact value_no0 p B 0 _ r f f W _ (value_zero _) h (hn 0 (by omega))
      · exact value_deep1 p B 0 _ r f f W _ (value_zero _) rfl h (hn 1 (by omega))
      · exact value_deep2 p B 0 _ r f f W _ (value_zero _) rfl h (hn 2 (by omega))
      · exact value_deep3 p B 0 _ r f f W _ (value_zero _) rfl h (hn 3 (by omega))
      · exact value_deep4 p B 0 _ r f f W _ (value_zero _) rfl h (hn 4 (by omega))
      · exact value_deep5 p B 0 _ r f f W _ (value_zero _) rfl h (hn 5 (by omega))
      · exact value_deep6 p B 0 _ r f f W _ (value_zero _) rfl h (hn 6 (by omega))
      · exact value_no7 p B 0 _ r f f k.toNat hc W _ (value_zero _) h (hn _ rfl)
  | succ n ih =>
    intro hn1 l f W hl h
    have hv := ih (by omega)
    rw [show ((n + 1 : Nat) : Int) = (n : Int) + 1 by omega]
    cases l with
    | nil => exact value_no0 p B _ [] [] f true W _ (value_nil _) h (fun W h => next_nil p B 0 f W h)
    | cons k r =>
      have hlr : r.length ≤ 140000000000000 := by simp only [List.length_cons] at hl; omega
      have hn : ∀ (x : Int), (k.toNat : Int) = x → ∀ W, Rdr p B (k :: r) f W → Calls Tryz.prog 84 #[.pointer (some ⟨p, 0, none⟩), .int .u8 0] W fun e w' => Reads p B W (.int .u8 x) r f e w' := fun x hx W h => by
        have := next_cons p B 0 (.inl rfl) k r f W h
        rw [UInt8.xor_zero, hx] at this
        exact this
      have hc : k.toNat = 0 ∨ k.toNat = 1 ∨ k.toNat = 2 ∨ k.toNat = 3 ∨ k.toNat = 4 ∨ k.toNat = 5 ∨ k.toNat = 6 ∨ (7 ≤ k.toNat ∧ k.toNat < 256) := by have := k.toNat_lt; omega
      have is : ∀ c : UInt8, k.toNat = c.toNat → k = c := fun c hc => UInt8.toNat_inj.1 hc
      have hvk := value_kind n k r
      rcases hc with hc | hc | hc | hc | hc | hc | hc | hc
      · exact value_no0 p B _ _ r f f W _ (value_bad _ k r (by omega)) h (hn 0 (by omega))
      · obtain rfl := is 1 hc
        exact value_go1 p B _ _ r f n (by omega) hlr W _ (hvk (by decide)) rfl (fun l f W _ h => by rw [kind_lower n (.inl rfl)]; exact boolean_c p B _ l f W h) h (hn 1 rfl)
      · obtain rfl := is 2 hc
        exact value_go2 p B _ _ r f n (by omega) hlr W _ (hvk (by decide)) rfl (fun l f W _ h => by rw [kind_lower n (.inr (.inl rfl))]; exact integer_c p B _ l f W h) h (hn 2 rfl)
      · obtain rfl := is 3 hc
        exact value_go3 p B _ _ r f n (by omega) hlr W _ (hvk (by decide)) rfl (fun l f W _ h => by rw [kind_lower n (.inr (.inr (.inl rfl)))]; exact big_c p B _ l f W h) h (hn 3 rfl)
      · obtain rfl := is 4 hc
        exact value_go4 p B _ _ r f n (by omega) hlr W _ (hvk (by decide)) rfl (fun l f W hs h => by rw [kind_lower n (.inr (.inr (.inr rfl)))]; exact text_c p B _ l f W hs h) h (hn 4 rfl)
      · obtain rfl := is 5 hc
        exact value_go5 p B _ _ r f n (by omega) hlr W _ (hvk (by decide)) rfl (fun l f W hs h => tuple_r p B n (by omega) hv l hs f W h) h (hn 5 rfl)
      · obtain rfl := is 6 hc
        exact value_go6 p B _ _ r f n (by omega) hlr W _ (hvk (by decide)) rfl (fun l f W hs h => cons_r p B n (by omega) hv l hs f W h) h (hn 6 rfl)
      · exact value_no7 p B _ _ r f f k.toNat hc W _ (value_bad _ k r (by omega)) h (hn _ rfl)
end Go.Proofs.YtlcfokejoikaaaaGreatDoor
