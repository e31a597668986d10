/- The walks over package big: how two lists of parts stand. -/
import Derived.Test.YtaapppieipfinaaGreatDoorPBigJ
import Derived.Test.YtaapppieipfinaaGreatDoorPFe
namespace Go.Proofs.YtaapppieipfinaaGreatDoor
open Go.RowKit Go.Shelf
open Pl Dig

theorem upto_snoc {pre : List Nat} {x : Nat} (h : pre ++ [x] = upto id (pre ++ [x]).length) : pre = upto id pre.length ∧ x = pre.length := by
  rw [List.length_append, List.length_singleton, upto_succ] at h
  have h2 := List.append_inj' h rfl
  exact ⟨h2.1, by simpa using h2.2⟩
attribute [local go_sem] Oper.semAt_some

theorem cmp_ne {m n : Nat} (h : ¬ (dg b9 m).length = (dg b9 n).length) : cmpI ((dg b9 m).length : Int) ((dg b9 n).length : Int) = cmpI (m : Int) (n : Int) := by
  unfold cmpI
  rcases Nat.lt_or_ge (dg b9 m).length (dg b9 n).length with h1 | h1
  · have := len_cmp h1
    rw [if_pos (by omega), if_pos (by omega)]
  · have := len_cmp (m := n) (n := m) (by omega)
    rw [if_neg (by omega), if_pos (by omega), if_neg (by omega), if_pos (by omega)]

theorem ret3 {fn : Func} {p : Tmp} (h : fn.results = #[.cell p 3]) {tmps : Array Value} {W : World} {g : Nat} {v : Value} (hp : tmps.getD p undef = .pointer (some ⟨g, 0, none⟩))
    (hb : W.cell? ⟨g, 0, none⟩ = some v) : (results fn tmps).run Tryz.prog W = .ok v W := by
  rw [Array.getD_eq_getD_getElem?] at hp
  simp [results, h, hp, go_sem, hb]

def Eqd (ps qs pre : List Nat) : Prop := pre = upto id pre.length → ps.drop (ps.length - pre.length) = qs.drop (ps.length - pre.length)
def Told (z : Int) (pre : List Nat) (v : Value) : Prop := pre = upto id pre.length → v = .int .i64 z
theorem eqd_step {ps qs pre : List Nat} {x : Nat} (hl : ps.length = qs.length) (hlt : pre.length < ps.length) (h : Eqd ps qs pre) (he : (fe ps x).2 = qs.getD (fe ps x).1 0) : Eqd ps qs (pre ++ [x]) := by
  intro e
  obtain ⟨e1, rfl⟩ := upto_snoc e
  have h1 := h e1
  obtain ⟨j, hj⟩ : ∃ j, ps.length = j + pre.length + 1 := ⟨ps.length - 1 - pre.length, by omega⟩
  have e2 : fe ps pre.length = (j, ps.getD j 0) := by unfold fe; rw [show ps.length - 1 - pre.length = j from by omega]
  rw [e2] at he
  rw [List.length_append, List.length_singleton, show ps.length - (pre.length + 1) = j from by omega]
  rw [show ps.length - pre.length = j + 1 from by omega] at h1
  rw [List.drop_eq_getElem_cons (by omega : j < ps.length), List.drop_eq_getElem_cons (by omega : j < qs.length), h1]
  congr 1
  have hj1 : j < ps.length := by omega
  have hj2 : j < qs.length := by omega
  simpa [List.getD_eq_getElem?_getD, hj1, hj2] using he
theorem eqd_ret {ps qs pre : List Nat} {x : Nat} (hl : ps.length = qs.length) (hlt : pre.length < ps.length) (hp : ∀ d ∈ ps, d < b9) (hq : ∀ d ∈ qs, d < b9) (h : Eqd ps qs pre) (he : ¬ (fe ps x).2 = qs.getD (fe ps x).1 0) :
    Told (cmpI (vl b9 ps : Int) (vl b9 qs : Int)) (pre ++ [x]) (.int .i64 (cmpI ((fe ps x).2 : Int) (qs.getD (fe ps x).1 0 : Int))) := by
  intro e
  obtain ⟨e1, rfl⟩ := upto_snoc e
  have h1 := h e1
  obtain ⟨j, hj⟩ : ∃ j, ps.length = j + pre.length + 1 := ⟨ps.length - 1 - pre.length, by omega⟩
  have e2 : fe ps pre.length = (j, ps.getD j 0) := by unfold fe; rw [show ps.length - 1 - pre.length = j from by omega]
  rw [e2] at he ⊢
  dsimp only at he ⊢
  rw [show ps.length - pre.length = j + 1 from by omega] at h1
  congr 1
  unfold cmpI
  rcases Nat.lt_or_ge (ps.getD j 0) (qs.getD j 0) with h2 | h2
  · have := vl_cmp hp (by omega) hl h1 h2
    rw [if_pos (by omega), if_pos (by omega)]
  · have := vl_cmp hq (by omega) hl.symm h1.symm (show qs.getD j 0 < ps.getD j 0 from by omega)
    rw [if_neg (by omega), if_pos (by omega), if_neg (by omega), if_pos (by omega)]
theorem eqd_done {ps qs : List Nat} (_hl : ps.length = qs.length) (h : Eqd ps qs (upto id ps.length)) : ps = qs := by
  have := h (by rw [upto_length])
  rw [upto_length, Nat.sub_self] at this
  simpa using this

set_option maxRecDepth 100000 in
set_option maxHeartbeats 2000000 in
theorem compare_in (m n : Nat) (A B : Option Addr) (ca cb : Nat) (w : World) (hA : Rd w w.heap.size 129 A (u32s (dg b9 m))) (hB : Rd w w.heap.size 129 B (u32s (dg b9 n))) (hla : (dg b9 m).length ≤ 1000) :
    CallsIn Fence.wide 5 Tryz.prog 108 #[.slice A (dg b9 m).length ca, .slice B (dg b9 n).length cb] w fun e w' => e = .returned (.int .i64 (cmpI (m : Int) (n : Int))) ∧ Below w.heap.size w w' := by
  have f71 : Fence.wide.fn 123 := trivial
  have f77 : Fence.wide.fn 122 := trivial
  have f78 : Fence.wide.fn 124 := trivial
  have hne := fun h => cmp_ne (m := m) (n := n) h
  obtain ⟨ps, hps⟩ : ∃ ps, ps = dg b9 m := ⟨_, rfl⟩
  obtain ⟨qs, hqs⟩ : ∃ qs, qs = dg b9 n := ⟨_, rfl⟩
  have hvp : vl b9 ps = m := by rw [hps]; exact dg_vl b9_two m
  have hvq : vl b9 qs = n := by rw [hqs]; exact dg_vl b9_two n
  have hp9 : ∀ d ∈ ps, d < b9 := by rw [hps]; exact dg_lt b9_two _
  have hq9 : ∀ d ∈ qs, d < b9 := by rw [hqs]; exact dg_lt b9_two _
  rw [← hps] at hA hla hne ⊢
  rw [← hqs] at hB hne ⊢
  clear hps hqs
  have bB := (Blk.new w 103 #[.slice B qs.length cb]).alloc (.cells #[.int .i64 0] 3)
  have bR := Blk.new (w.alloc (.cells #[.slice B qs.length cb] 103)) 3 #[.int .i64 0]
  have hB2 := ((Below.refl w.heap.size w).alloc (Nat.le_refl _) (.cells #[.slice B qs.length cb] 103)).alloc (by simp) (.cells #[.int .i64 0] 3)
  simp only [World.size_alloc] at bR
  have x0 := bB.cell 0
  have r0 := bR.cell 0
  have k0 := bR.frozen 0
  have BB := Lib.hid bB; have BR := Lib.hid bR; have HB2 := Lib.hid hB2; have HA := Lib.hid hA; have HB := Lib.hid hB
  clear bB bR hB2 hA hB
  refine callsIn_of_wp_marks Tryz.func108 rfl trivial ?_ rfl
  simp only [Tryz.ntmps108, List.size_toArray, List.length_cons, List.length_nil, Nat.reduceAdd, Nat.reduceSub, Array.replicate_succ, Array.replicate_zero, List.push_toArray, List.append_toArray, List.nil_append, List.cons_append]
  by_cases hl : ps.length = qs.length
  · have hl2 : ((ps.length : Int) != (qs.length : Int)) = false := by rw [bne_eq_false_iff_eq]; omega
    have HL := Lib.hid hl
    clear hl hne
    gi_wp2_with (gi_at_call 123; refine (fromEnd_in Fence.wide 4 trivial rfl _ _ _ _).mono ?_; rintro e w3 ⟨rfl, rfl⟩)
    have bN := Blk.new ((w.alloc (.cells #[.slice B qs.length cb] 103)).alloc (.cells #[.int .i64 0] 3)) 103 #[.slice A ps.length ca]
    simp only [World.size_alloc] at bN
    have BN := Lib.hid bN
    have hBL : Below w.heap.size w (((w.alloc (.cells #[.slice B qs.length cb] 103)).alloc (.cells #[.int .i64 0] 3)).alloc (.cells #[.slice A ps.length ca] 103)) := HB2.out.alloc (by simp; omega) _
    have HV := Lib.hid hvp; have HW := Lib.hid hvq; have HP := Lib.hid hp9; have HQ := Lib.hid hq9; have HBL := Lib.hid hBL
    clear hvp hvq hp9 hq9 x0 r0 k0 hl2
    refine wpIn_rangeFunc_ownG rfl (by decide) (gf := 133) (lb := #[.pointer (some ⟨w.heap.size + 1 + 1, 0, none⟩)]) rfl trivial (enters_of Tryz.func133 (by kernel_rfl) rfl)
      (fromEnd_stops2 Fence.wide 4 trivial rfl (by decide) (w.heap.size + 1 + 1) w.heap.size ca A ps (by omega) _ (by simp) (by simp; omega) (by have := bN.cell 0; simpa using this) (HA.out.below hBL)) Keeps.trans (keepsK_b (by simp; omega) (by simp)) (Below.refl _ _) (fun _ => rfl)
      (fun pre W => (Eqd ps qs pre ∧ Blk W w.heap.size 103 #[.slice B qs.length cb] ∧ Blk W (w.heap.size + 1) 3 #[.int .i64 0]) ∧ Below w.heap.size w W)
      (fun c pre W => (c = .ret ∧ ∃ v, Told (cmpI (m : Int) (n : Int)) pre v ∧ Blk W (w.heap.size + 1) 3 #[v]) ∧ Below w.heap.size w W)
      ?own ?ownx ?start
      (fun x => { tmps := #[.slice A ps.length ca, .slice B qs.length cb, undef, .pointer (some ⟨w.heap.size, 0, none⟩), .pointer (some ⟨w.heap.size + 1, 0, none⟩), .int .i64 ((fe ps x).1 : Int), .int .u32 ((fe ps x).2 : Int),
        .slice A ps.length ca, .int .i64 (ps.length : Int), .slice B qs.length cb, .int .i64 (qs.length : Int), .bool false, undef, undef, undef, undef, undef, .slice A ps.length ca, .func (.func 133) #[] #[.pointer (some ⟨w.heap.size + 1 + 1, 0, none⟩)], .int .i64 ((fe ps x).1 : Int), .int .u32 ((fe ps x).2 : Int),
        undef, undef, undef, undef, undef, undef, undef, undef, undef, undef, undef, undef], defers := [] }) ?assign ?body ?done ?stop
    case own =>
      refine OwnFrom.and (fun s W W' row hs hg hr => ?_) (ownFrom_below (Nat.le_refl _) (by simp; omega))
      obtain ⟨h1, h4, h5⟩ := hs
      exact ⟨h1, (grownBy_keeps_cells hg (fun r e => (hr r e).2) h4 rfl).trans h4, (grownBy_keeps_cells hg (fun r e => (hr r e).2) h5 rfl).trans h5⟩
    case ownx =>
      intro c
      refine OwnFrom.and (fun s W W' row hs hg hr => ?_) (ownFrom_below (Nat.le_refl _) (by simp; omega))
      obtain ⟨h1, v, h4, h5⟩ := hs
      exact ⟨h1, v, h4, (grownBy_keeps_cells hg (fun r e => (hr r e).2) h5 rfl).trans h5⟩
    case start => exact ⟨⟨fun _ => by simp [HL.out], BB.out.alloc _, BR.out.alloc _⟩, hBL⟩
    case assign =>
      intro l x W K hK
      gi_wp2
      exact hK
    case body =>
      rintro l pre x W ⟨⟨he, hb, hr⟩, hBW⟩ hlt
      have hi : (fe ps x).1 < qs.length := by have := HL.out; unfold fe; dsimp only; omega
      obtain ⟨b, off, rfl, hbl, hcx⟩ := (HB.out.below hBW).u32 hi
      have hst : (fe ps x).2 = qs.getD (fe ps x).1 0 → Eqd ps qs (pre ++ [x]) := fun h => eqd_step HL.out hlt he h
      have hrt : ¬ (fe ps x).2 = qs.getD (fe ps x).1 0 → Told (cmpI (m : Int) (n : Int)) (pre ++ [x]) (.int .i64 (cmpI ((fe ps x).2 : Int) (qs.getD (fe ps x).1 0 : Int))) := fun h => by
        have := eqd_ret HL.out hlt HP.out HQ.out he h
        rwa [HV.out, HW.out] at this
      generalize qs.getD (fe ps x).1 0 = q at hst hrt hcx
      generalize (fe ps x).2 = p at hst hrt ⊢
      generalize (fe ps x).1 = i at hi hcx ⊢
      have x0 := hb.cell 0
      have r0 := hr.cell 0
      have k0 := hr.frozen 0
      have HBB := Lib.hid hb; have HR := Lib.hid hr; have HBW := Lib.hid hBW
      clear he hb hr hBW hlt hbl
      by_cases hpq : p = q
      · have hd : ((p : Int) != (q : Int)) = false := by rw [bne_eq_false_iff_eq]; omega
        have HE := Lib.hid (hst hpq)
        clear hst hrt hpq
        gi_wp2_with fail
        exact ⟨KeepsFrom.refl _ _, Keeps.refl _ _ _, ⟨HE.out, HBB.out, HR.out⟩, HBW.out⟩
      · have hd : ((p : Int) != (q : Int)) = true := by rw [bne_iff_ne]; omega
        have HE := Lib.hid (hrt hpq)
        clear hst hrt hpq
        gi_wp2_with (gi_at_call 124; refine (callsIn_wide.2 (cmp78 _ _ _)).mono ?_; rintro e w4 ⟨rfl, rfl⟩)
        exact ⟨(KeepsOthers.setCell _ _ _).from _, ⟨rfl, _, HE.out, HR.out.set_ 0 _⟩, HBW.out.setCell (p := ⟨w.heap.size + 1, 0, none⟩) (by simp) _⟩
    case done =>
      rintro D ys W hD rfl ⟨⟨he, _, hr⟩, hBW⟩ hK
      have hz : cmpI (m : Int) (n : Int) = 0 := by
        have e1 := eqd_done HL.out he
        have e2 : m = n := by rw [← HV.out, ← HW.out, e1]
        rw [e2]; unfold cmpI; rw [if_neg (by omega), if_neg (by omega)]
      have r0 := hr.cell 0
      have k0 := hr.frozen 0
      have HR := Lib.hid hr; have HBW := Lib.hid hBW; have HZ := Lib.hid hz
      have hDD : ¬ w.heap.size + 1 = D := by simp at hD; omega
      clear he hr hBW hz
      gi_wp2_with fail
      have hK' : (W.setCell ⟨w.heap.size + 1, 0, none⟩ (.int .i64 0)).heap[D]? = some (.deferred (some [])) := (Below.heap_setCell W ⟨w.heap.size + 1, 0, none⟩ _ D (fun e => hDD e.symm)).trans hK
      refine ⟨by simp, .inl ⟨_, _, rfl, run_takeDeferred hK', ?_⟩⟩
      refine ⟨_, ret3 (g := w.heap.size + 1) Tryz.results108 rfl ((World.cell?_of_block (a := ⟨w.heap.size + 1, 0, none⟩) (World.putObj_heap_other hDD)).trans ((HR.out.set_ 0 (.int .i64 0)).cell 0)), ?_, ?_⟩
      · rw [HZ.out]; rfl
      · exact (HBW.out.setCell (p := ⟨w.heap.size + 1, 0, none⟩) (by simp) _).trans (belowK_b (w := w) (Nat.le_refl _) _ D _ _ (by simp at hD; omega) hK' rfl rfl)
    case stop =>
      rintro D c pre W hD ⟨k, hk, rfl⟩ ⟨⟨rfl, v, ht, hr⟩, hBW⟩ hK
      have hv := ht (by rw [upto_length])
      have HR := Lib.hid hr; have HBW := Lib.hid hBW; have HVV := Lib.hid hv
      have hDD : ¬ w.heap.size + 1 = D := by simp at hD; omega
      clear ht hr hBW hv
      gi_wp2_with fail
      refine ⟨by simp, .inl ⟨_, _, rfl, run_takeDeferred hK, ?_⟩⟩
      refine ⟨_, ret3 (g := w.heap.size + 1) Tryz.results108 rfl ((World.cell?_of_block (a := ⟨w.heap.size + 1, 0, none⟩) (World.putObj_heap_other hDD)).trans (HR.out.cell 0)), ?_, ?_⟩
      · rw [← HVV.out]; rfl
      · exact HBW.out.trans (belowK_b (w := w) (Nat.le_refl _) _ D _ _ (by simp at hD; omega) hK rfl rfl)
  · have hl2 : ((ps.length : Int) != (qs.length : Int)) = true := by rw [bne_iff_ne]; omega
    have hfin := hne hl
    clear hl hne
    generalize cmpI (m : Int) (n : Int) = z at hfin ⊢
    have HF := Lib.hid hfin
    clear hfin
    gi_wp2_with (gi_at_call 122; refine (callsIn_wide.2 (cmp77 _ _ _)).mono ?_; rw [HF.out]; rintro e w3 ⟨rfl, rfl⟩)
    refine ⟨_, ret3 (g := w.heap.size + 1) Tryz.results108 rfl ?_, rfl, ?_⟩
    · simp
    · exact ((Below.refl w.heap.size w).alloc (Nat.le_refl _) _).alloc (by simp) _
end Go.Proofs.YtaapppieipfinaaGreatDoor
