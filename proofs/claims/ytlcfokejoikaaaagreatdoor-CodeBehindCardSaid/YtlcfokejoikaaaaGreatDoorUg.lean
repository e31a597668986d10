/- Package code: a reader's values of each kind. -/
import Derived.Test.YtlcfokejoikaaaaGreatDoorUe
import Derived.Test.YtlcfokejoikaaaaGreatDoorUf
import Derived.Test.YtlcfokejoikaaaaGreatDoorYm
namespace Go.Proofs.YtlcfokejoikaaaaGreatDoor
open Go.RowKit Go.Shelf Vp Cp Rm
open Go
attribute [local go_sem] Oper.semAt_some

/-- What a reader of a kind tells: the number, the text, the list. -/
def TellsX (p B : Nat) (w : World) (o : Option ((Int × List UInt8 × List V) × List UInt8)) (f : Bool) (e : Ending) (w' : World) : Prop :=
  ∃ (n : Int) (s : List UInt8) (l : List V) (A : Option Addr) (c : Nat), e = .returned (.agg #[.int .u8 0, .int .i64 n, .string ⟨s.toArray⟩, .slice A l.length c]) ∧ (-9223372036854775808 ≤ n ∧ n ≤ 9223372036854775807) ∧ s.length ≤ 140000000000001 ∧
    Rdr p B (restO o) (failO f o) w' ∧ w.grownBy w' (some p) ∧ RLies (fun b => w.heap.size ≤ b) w' l A c ∧ ∀ x, o = some x → (n, s, l) = x.1
def kindG (n : Nat) (k : UInt8) : Rd_ (Int × List UInt8 × List V) :=
  if k = 1 then bindG flagG fun b => fun l => some ((if b then 1 else 0, [], []), l)
  else if k = 2 then bindG numG fun z => fun l => some ((z, [], []), l)
  else if k = 3 then bindG bigG fun s => fun l => some ((0, s, []), l)
  else if k = 4 then bindG (strG 4096 []) fun s => fun l => some ((0, s, []), l)
  else if k = 5 then bindG (listG (valueG n) 16 []) fun t => fun l => some ((0, [], t), l)
  else if k = 6 then bindG (strG 65 []) fun s => bindG (listG (valueG n) 8 []) fun t => fun l => some ((0, s, t), l)
  else fun _ => none
theorem Rdr.set {p B q i : Nat} {rest : List UInt8} {f : Bool} {w : World} {cs : Array Value} (h : Rdr p B rest f w) (hq : Blk w q 34 cs) (x : Value) : Rdr p B rest f (w.setCell ⟨q, i, none⟩ x) := by
  obtain ⟨A, c, h1, h2, h3, h4, h5⟩ := h
  exact ⟨A, c, h1.far (p := ⟨q, i, none⟩) (Blk.ne_ h1 hq (by decide)) x, h2, h3, h4.far (p := ⟨q, i, none⟩) hq (by decide) x, by simpa [World.setCell] using h5⟩
def set4 (w : World) (q : Nat) (a b c d : Value) : World := (((w.setCell ⟨q, 0, none⟩ a).setCell ⟨q, 1, none⟩ b).setCell ⟨q, 2, none⟩ c).setCell ⟨q, 3, none⟩ d
theorem tells_fin {p B q : Nat} {w w1 : World} {o : Option ((Int × List UInt8 × List V) × List UInt8)} {f : Bool} {n : Int} {s : List UInt8} {l : List V} {A : Option Addr} {c : Nat} {cs : Array Value} (hq : q = w.heap.size) (hX : Blk w1 q 34 cs) (hr : Rdr p B (restO o) (failO f o) w1) (hg : w.grownBy w1 (some p))
    (hn : -9223372036854775808 ≤ n ∧ n ≤ 9223372036854775807) (hsz : s.length ≤ 140000000000001) (hl : RLies (fun b => q + 1 ≤ b) w1 l A c) (hx : ∀ x, o = some x → (n, s, l) = x.1) {a b c' d : Value} {v : Value} (hv : v = .agg #[.int .u8 0, .int .i64 n, .string ⟨s.toArray⟩, .slice A l.length c]) :
    TellsX p B w o f (.returned v) (set4 w1 q a b c' d) := by
  subst hv
  have h0 := hX.set_ 0 a
  have h1 := h0.set_ 1 b
  have h2 := h1.set_ 2 c'
  refine ⟨n, s, l, A, c, rfl, hn, hsz, (((hr.set hX a).set h0 b).set h1 c').set h2 d, ?_, ?_, hx⟩
  · have hle : w.heap.size ≤ q := by omega
    have blk : ∀ (W : World) (i : Nat) (u : Value), w.grownBy W (some p) → w.grownBy (W.setCell ⟨q, i, none⟩ u) (some p) := fun W i u h =>
      ⟨h.os, h.tape, h.output, by simpa [World.setCell] using h.size, fun j hj hk => (Below.heap_setCell W ⟨q, i, none⟩ u j (fun e => by simp at e; omega)).trans (h.block j hj hk)⟩
    exact blk _ _ _ (blk _ _ _ (blk _ _ _ (blk _ _ _ hg)))
  · refine RLies.mono (S := fun b => q + 1 ≤ b) ?_ (fun b _ hb => by omega)
    have ne : ¬ q + 1 ≤ q := by omega
    exact (((hl.set ⟨q, 0, none⟩ ne a).set ⟨q, 1, none⟩ ne b).set ⟨q, 2, none⟩ ne c').set ⟨q, 3, none⟩ ne d

set_option maxRecDepth 100000 in
set_option maxHeartbeats 2000000 in
theorem boolean_c (p B : Nat) (lv : Int) (l : List UInt8) (f : Bool) (w : World) (h : Rdr p B l f w) :
    Calls Tryz.prog 112 #[.pointer (some ⟨p, 0, none⟩), .int .i64 lv] w fun e w' => TellsX p B w (kindG 0 1 l) f e w' := by
  have HF := Lib.hid (flag_all p B l f (w.alloc (.cells #[.int .u8 0, .int .i64 0, .string ⟨#[]⟩, .slice none 0 0] 34)) (h.alloc _))
  have hpw := h.lt
  have HX := Lib.hid (Blk.new w 34 #[.int .u8 0, .int .i64 0, .string ⟨#[]⟩, .slice none 0 0])
  obtain ⟨o, ho⟩ : ∃ o, flagG l = o := ⟨_, rfl⟩
  rw [ho] at HF
  have hk : kindG 0 1 l = o.map fun x => ((if x.1 then 1 else 0, [], []), x.2) := by
    unfold kindG bindG
    rw [if_pos rfl, ho]
    cases o <;> rfl
  rw [hk]
  have HW := Lib.hid hpw
  clear h ho hk hpw
  rcases o with _ | ⟨_ | _, r⟩
  · simp only [boolO, restO, failO] at HF
    go_enter Tryz.func112, Tryz.ntmps112
    go_wp2_with fail
    refine HF.out.mono ?_
    rintro e w1 ⟨rfl, hr, hg⟩
    have HR := Lib.hid hr; have HG := Lib.hid (grown_trans (grown_alloc (grown_refl w p) _) hg)
    have HX1 := Lib.hid (HX.out.grown hg (by have := HW.out; intro e; injection e with e; omega))
    clear hr hg HX HF
    have c0 := HX1.out.cell 0; have c1 := HX1.out.cell 1; have c2 := HX1.out.cell 2; have c3 := HX1.out.cell 3
    have z0 := HX1.out.frozen 0; have z1 := HX1.out.frozen 1; have z2 := HX1.out.frozen 2; have z3 := HX1.out.frozen 3
    simp at c0 c1 c2 c3
    go_wp2_with fail
    refine bodyPost_ret (v := .agg #[.int .u8 0, .int .i64 0, .string ⟨#[]⟩, .slice none ([] : List V).length 0]) (by simp [results, Tryz.results112, go_sem, c0, c1, c2, c3]) rfl ?_
    exact tells_fin (s := []) (l := ([] : List V)) rfl HX1.out HR.out HG.out ⟨by decide, by decide⟩ (by simp) (RLies.nil (by decide)) (fun x hx => by cases hx) rfl
  · simp only [boolO, restO, failO] at HF
    go_enter Tryz.func112, Tryz.ntmps112
    go_wp2_with fail
    refine HF.out.mono ?_
    rintro e w1 ⟨rfl, hr, hg⟩
    have HR := Lib.hid hr; have HG := Lib.hid (grown_trans (grown_alloc (grown_refl w p) _) hg)
    have HX1 := Lib.hid (HX.out.grown hg (by have := HW.out; intro e; injection e with e; omega))
    clear hr hg HX HF
    have c0 := HX1.out.cell 0; have c1 := HX1.out.cell 1; have c2 := HX1.out.cell 2; have c3 := HX1.out.cell 3
    have z0 := HX1.out.frozen 0; have z1 := HX1.out.frozen 1; have z2 := HX1.out.frozen 2; have z3 := HX1.out.frozen 3
    simp at c0 c1 c2 c3
    go_wp2_with fail
    refine bodyPost_ret (v := .agg #[.int .u8 0, .int .i64 0, .string ⟨#[]⟩, .slice none ([] : List V).length 0]) (by simp [results, Tryz.results112, go_sem, c0, c1, c2, c3]) rfl ?_
    exact tells_fin (s := []) (l := ([] : List V)) rfl HX1.out HR.out HG.out ⟨by decide, by decide⟩ (by simp) (RLies.nil (by decide)) (fun x hx => by injection hx with hx; rw [← hx]; rfl) rfl
  · simp only [boolO, restO, failO] at HF
    go_enter Tryz.func112, Tryz.ntmps112
    go_wp2_with fail
    refine HF.out.mono ?_
    rintro e w1 ⟨rfl, hr, hg⟩
    have HR := Lib.hid hr; have HG := Lib.hid (grown_trans (grown_alloc (grown_refl w p) _) hg)
    have HX1 := Lib.hid (HX.out.grown hg (by have := HW.out; intro e; injection e with e; omega))
    clear hr hg HX HF
    have c0 := HX1.out.cell 0; have c1 := HX1.out.cell 1; have c2 := HX1.out.cell 2; have c3 := HX1.out.cell 3
    have z0 := HX1.out.frozen 0; have z1 := HX1.out.frozen 1; have z2 := HX1.out.frozen 2; have z3 := HX1.out.frozen 3
    simp at c0 c1 c2 c3
    go_wp2_with fail
    refine bodyPost_ret (v := .agg #[.int .u8 0, .int .i64 1, .string ⟨#[]⟩, .slice none ([] : List V).length 0]) (by simp [results, Tryz.results112, go_sem, c0, c1, c2, c3]) rfl ?_
    exact tells_fin (s := []) (l := ([] : List V)) rfl HX1.out HR.out HG.out ⟨by decide, by decide⟩ (by simp) (RLies.nil (by decide)) (fun x hx => by injection hx with hx; rw [← hx]; rfl) rfl

theorem restO_map {α β : Type} (o : Option (α × List UInt8)) (g : α → β) : restO (o.map fun x => (g x.1, x.2)) = restO o := by cases o <;> rfl
theorem failO_map {α β : Type} (f : Bool) (o : Option (α × List UInt8)) (g : α → β) : failO f (o.map fun x => (g x.1, x.2)) = failO f o := by cases o <;> rfl
theorem rdr_map {p B : Nat} {f : Bool} {w : World} {α β : Type} {o : Option (α × List UInt8)} (g : α → β) (h : Rdr p B (restO o) (failO f o) w) : Rdr p B (restO (o.map fun x => (g x.1, x.2))) (failO f (o.map fun x => (g x.1, x.2))) w := by
  rw [restO_map, failO_map]; exact h
theorem bind_map {α β : Type} (g : Rd_ α) (h : α → β) (l : List UInt8) : bindG g (fun a l => some (h a, l)) l = (g l).map fun x => (h x.1, x.2) := by
  unfold bindG
  cases g l <;> rfl
set_option maxRecDepth 100000 in
set_option maxHeartbeats 2000000 in
theorem integer_c (p B : Nat) (lv : Int) (l : List UInt8) (f : Bool) (w : World) (h : Rdr p B l f w) :
    Calls Tryz.prog 114 #[.pointer (some ⟨p, 0, none⟩), .int .i64 lv] w fun e w' => TellsX p B w (kindG 0 2 l) f e w' := by
  have HF := Lib.hid (num_all p B l f (w.alloc (.cells #[.int .u8 0, .int .i64 0, .string ⟨#[]⟩, .slice none 0 0] 34)) (h.alloc _))
  have hpw := h.lt
  have HX := Lib.hid (Blk.new w 34 #[.int .u8 0, .int .i64 0, .string ⟨#[]⟩, .slice none 0 0])
  have hk : kindG 0 2 l = (numG l).map fun x => ((x.1, ([] : List UInt8), ([] : List V)), x.2) := bind_map numG (fun x => (x, ([] : List UInt8), ([] : List V))) l
  rw [hk]
  obtain ⟨o, ho⟩ : ∃ o, numG l = o := ⟨_, rfl⟩
  rw [ho] at HF ⊢
  have HW := Lib.hid hpw
  clear h ho hk hpw
  go_enter Tryz.func114, Tryz.ntmps114
  go_wp2_with fail
  refine HF.out.mono ?_
  rintro e w1 ⟨z, ⟨rfl, hr, hg⟩, hzr, hzx⟩
  have HR := Lib.hid hr; have HG := Lib.hid (grown_trans (grown_alloc (grown_refl w p) _) hg)
  have HX1 := Lib.hid (HX.out.grown hg (by have := HW.out; intro e; injection e with e; omega))
  have HQ := Lib.hid hzx; have HZR := Lib.hid hzr
  clear hr hg HX HF hzx hzr
  have c0 := HX1.out.cell 0; have c1 := HX1.out.cell 1; have c2 := HX1.out.cell 2; have c3 := HX1.out.cell 3
  have z0 := HX1.out.frozen 0; have z1 := HX1.out.frozen 1; have z2 := HX1.out.frozen 2; have z3 := HX1.out.frozen 3
  simp at c0 c1 c2 c3
  go_wp2_with fail
  refine bodyPost_ret (v := .agg #[.int .u8 0, .int .i64 z, .string ⟨#[]⟩, .slice none ([] : List V).length 0]) (by simp [results, Tryz.results114, go_sem, c0, c1, c2, c3]) rfl ?_
  exact tells_fin (s := []) (l := ([] : List V)) rfl HX1.out (rdr_map (fun x => (x, ([] : List UInt8), ([] : List V))) HR.out) HG.out HZR.out (by simp) (RLies.nil (by decide)) (fun x hx => by
    rcases o with _ | y
    · cases hx
    · injection hx with hx
      have e := HQ.out y rfl
      subst e
      rw [← hx]) rfl

set_option maxRecDepth 100000 in
set_option maxHeartbeats 2000000 in
theorem text_c (p B : Nat) (lv : Int) (l : List UInt8) (f : Bool) (w : World) (hs : l.length ≤ 140000000000000) (h : Rdr p B l f w) :
    Calls Tryz.prog 118 #[.pointer (some ⟨p, 0, none⟩), .int .i64 lv] w fun e w' => TellsX p B w (kindG 0 4 l) f e w' := by
  have HF := Lib.hid (str_all p B l 4096 f (w.alloc (.cells #[.int .u8 0, .int .i64 0, .string ⟨#[]⟩, .slice none 0 0] 34)) hs (h.alloc _))
  have hpw := h.lt
  have HX := Lib.hid (Blk.new w 34 #[.int .u8 0, .int .i64 0, .string ⟨#[]⟩, .slice none 0 0])
  have hk : kindG 0 4 l = ((strG 4096 []) l).map fun x => (((0 : Int), x.1, ([] : List V)), x.2) := bind_map (strG 4096 []) (fun x => ((0 : Int), x, ([] : List V))) l
  rw [hk]
  obtain ⟨o, ho⟩ : ∃ o, (strG 4096 []) l = o := ⟨_, rfl⟩
  rw [ho] at HF ⊢
  have HW := Lib.hid hpw
  clear h ho hk hpw
  go_enter Tryz.func118, Tryz.ntmps118
  go_wp2_with fail
  refine HF.out.mono ?_
  rintro e w1 ⟨t, ⟨rfl, hr, hg⟩, htl, hzx⟩
  have HR := Lib.hid hr; have HG := Lib.hid (grown_trans (grown_alloc (grown_refl w p) _) hg)
  have HX1 := Lib.hid (HX.out.grown hg (by have := HW.out; intro e; injection e with e; omega))
  have HQ := Lib.hid hzx; have HTL := Lib.hid htl
  clear hr hg HX HF hzx htl
  have c0 := HX1.out.cell 0; have c1 := HX1.out.cell 1; have c2 := HX1.out.cell 2; have c3 := HX1.out.cell 3
  have z0 := HX1.out.frozen 0; have z1 := HX1.out.frozen 1; have z2 := HX1.out.frozen 2; have z3 := HX1.out.frozen 3
  simp at c0 c1 c2 c3
  go_wp2_with fail
  refine bodyPost_ret (v := .agg #[.int .u8 0, .int .i64 0, .string ⟨t.toArray⟩, .slice none ([] : List V).length 0]) (by simp [results, Tryz.results118, go_sem, c0, c1, c2, c3]) rfl ?_
  exact tells_fin (s := t) (l := ([] : List V)) rfl HX1.out (rdr_map (fun x => ((0 : Int), x, ([] : List V))) HR.out) HG.out ⟨by decide, by decide⟩ (by have := HTL.out; omega) (RLies.nil (by decide)) (fun x hx => by
    rcases o with _ | y
    · cases hx
    · injection hx with hx
      have e := HQ.out y rfl
      subst e
      rw [← hx]) rfl

end Go.Proofs.YtlcfokejoikaaaaGreatDoor
