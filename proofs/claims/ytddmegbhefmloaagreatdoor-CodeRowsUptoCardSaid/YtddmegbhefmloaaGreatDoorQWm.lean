/- The document's own answers of layer 2: rows that may be anything, in their order. -/
import Derived.Test.YtddmegbhefmloaaGreatDoorQWl
namespace Go.Proofs.YtddmegbhefmloaaGreatDoor
open Go.RowKit Vp Pl
open Go
attribute [local go_sem] Oper.semAt_some

theorem cmpR_last {a b : List V} {pa pb : Bool} (ha : (!invL a) = pa) (hb : (!invL b) = pb) (h : pa = false ∨ pb = false) : cmpR zcmp a b = lastI pa pb := by
  subst ha; subst hb
  unfold cmpR lastI
  cases h1 : invL a <;> cases h2 : invL b <;> simp_all
theorem cmpR_both {a b : List V} (ha : (!invL a) = true) (hb : (!invL b) = true) : cmpR zcmp a b = cmpL zcmp a b := by
  unfold cmpR; cases h1 : invL a <;> cases h2 : invL b <;> simp_all

set_option maxHeartbeats 2000000 in
theorem refcmprows_c (hbig : BigsOk) (a b : List V) (A B : Option Addr) (ca cb : Nat) (w : World) (da : ∀ t ∈ a, depth t < 100000000) (db : ∀ t ∈ b, depth t < 100000000) (ha : RRep w w.heap.size a A ca) (hb : RRep w w.heap.size b B cb) :
    Calls Tryz.prog 46 #[.slice A a.length ca, .slice B b.length cb] w fun e w' => e = .returned (.int .i64 (cmpR zcmp a b)) ∧ Below w.heap.size w w' := by
  obtain ⟨q, hq⟩ : ∃ q, q = cmpR zcmp a b := ⟨_, rfl⟩
  rw [← hq]
  obtain ⟨pa, hpa⟩ : ∃ p, (!invL a) = p := ⟨_, rfl⟩
  obtain ⟨pb, hpb⟩ : ∃ p, (!invL b) = p := ⟨_, rfl⟩
  have hra : ∀ W, Below w.heap.size w W → Calls Tryz.prog 83 #[.slice A a.length ca] W fun e w' => e = .returned (.bool pa) ∧ Below W.heap.size W w' := fun W h => by
    have := refrow_c a A ca W da ((ha.under h).more h.size); rw [hpa] at this; exact this
  have hrb : ∀ W, Below w.heap.size w W → Calls Tryz.prog 83 #[.slice B b.length cb] W fun e w' => e = .returned (.bool pb) ∧ Below W.heap.size W w' := fun W h => by
    have := refrow_c b B cb W db ((hb.under h).more h.size); rw [hpb] at this; exact this
  have hrw : pa = true → pb = true → ∀ W, Below w.heap.size w W → Calls Tryz.prog 84 #[.slice A a.length ca, .slice B b.length cb] W fun e w' => e = .returned (.int .i64 q) ∧ Below W.heap.size W w' := fun h1 h2 W h => by
    rw [hq, cmpR_both (hpa.trans h1) (hpb.trans h2)]
    exact refrows_of a (fun t _ => refcmp_c hbig t) b (invL_fine (by rw [← hpa] at h1; simpa using h1)) (invL_fine (by rw [← hpb] at h2; simpa using h2)) A B ca cb W ((ha.under h).more h.size) ((hb.under h).more h.size)
  have hla : pa = false ∨ pb = false → ∀ W, Calls Tryz.prog 78 #[.bool pa, .bool pb] W fun e w' => e = .returned (.int .i64 q) ∧ Below W.heap.size W w' := fun h W => by
    rw [hq, cmpR_last hpa hpb h]; exact last_c pa pb W
  have HRA := Lib.hid hra; have HRB := Lib.hid hrb; have HRW := Lib.hid hrw; have HLA := Lib.hid hla
  have HB0 := Lib.hid (Below.refl w.heap.size w)
  clear hra hrb hrw hla hq hpa hpb ha hb da db
  go_enter Tryz.func46, Tryz.ntmps46
  go_wp2_with fail
  refine (HRA.out _ HB0.out).mono ?_
  rintro e w1 ⟨rfl, hb1⟩
  have HB1 := Lib.hid (HB0.out.trans (hb1.mono HB0.out.size)); clear hb1
  go_wp2_with fail
  refine (HRB.out _ HB1.out).mono ?_
  rintro e w2 ⟨rfl, hb2⟩
  have HB2 := Lib.hid (HB1.out.trans (hb2.mono HB1.out.size)); clear hb2
  by_cases hboth : pa = true ∧ pb = true
  · obtain ⟨rfl, rfl⟩ := hboth
    have HX := Lib.hid (HRW.out rfl rfl)
    clear HRW HLA
    go_wp2_with (go_at_call 84; refine (HX.out _ HB2.out).mono ?_; rintro e w3 ⟨rfl, hb3⟩; have HB3 := Lib.hid (HB2.out.trans (hb3.mono HB2.out.size)); clear hb3)
    go_ret
    exact ⟨rfl, HB3.out⟩
  · have hor : pa = false ∨ pb = false := by cases pa <;> cases pb <;> simp_all
    have HX := Lib.hid (HLA.out hor)
    clear HRW HLA hboth
    cases pa <;> cases pb
    all_goals first
      | (exfalso; simp at hor; done)
      | (clear hor
         go_wp2_with (go_at_call 78; refine (HX.out _).mono ?_; rintro e w3 ⟨rfl, hb3⟩; have HB3 := Lib.hid (HB2.out.trans (hb3.mono HB2.out.size)); clear hb3)
         go_ret
         exact ⟨rfl, HB3.out⟩)
end Go.Proofs.YtddmegbhefmloaaGreatDoor
