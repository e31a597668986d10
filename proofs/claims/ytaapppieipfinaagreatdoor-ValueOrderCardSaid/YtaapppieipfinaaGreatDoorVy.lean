/- ValueOrder: the walk. -/
import Derived.Test.YtaapppieipfinaaGreatDoorVx
import Derived.Test.YtaapppieipfinaaGreatDoorVi
import Derived.Test.YtaapppieipfinaaGreatDoorVa
namespace Go.Proofs.YtaapppieipfinaaGreatDoor
open Go.RowKit Vp
open Go
attribute [local go_sem] Oper.semAt_some

/-- If both may be, a number is 0 just if they are the same. -/
def Agrees (pa pb : Bool) (x : Int) (a b : List V) : Prop := pa = true → pb = true → (x = 0 ↔ a = b)
set_option maxHeartbeats 4000000 in
theorem order_c (a b c : List V) (A B C : Option Addr) (ca cb cc : Nat) (w : World) (ha : RRep w w.heap.size a A ca) (hb : RRep w w.heap.size b B cb) (hc : RRep w w.heap.size c C cc) :
    Calls Tryz.prog 6 #[.slice A a.length ca, .slice B b.length cb, .slice C c.length cc] w fun e w' => e = .returned (.bool true) ∧ Below w.heap.size w w' := by
  obtain ⟨x, hx⟩ : ∃ x, cmpR zcmp a b = x := ⟨_, rfl⟩
  obtain ⟨y, hy⟩ : ∃ y, cmpR zcmp b c = y := ⟨_, rfl⟩
  obtain ⟨z, hz⟩ : ∃ z, cmpR zcmp a c = z := ⟨_, rfl⟩
  obtain ⟨v, hv⟩ : ∃ v, cmpR zcmp b a = v := ⟨_, rfl⟩
  have hxv : x = -v := by rw [← hx, ← hv]; exact cmpR_neg a b
  have hone := cmpR_one a b
  have hone2 := cmpR_one b c
  have hone3 := cmpR_one a c
  rw [hy] at hone2
  rw [hz] at hone3
  have htri := cmpR_tri a b c
  rw [hx, hy, hz] at htri
  rw [hx] at hone
  have hw : IntKind.i64.wrap (-v) = x := by rw [IntWalk.i64_in _ (by unfold One3 at hone; omega)]; omega
  have hha : ∀ W, Below w.heap.size w W → Calls Tryz.prog 9 #[.slice A a.length ca] W fun e w' => Tells e ∧ Below W.heap.size W w' := fun W h => heavy_c a A ca W ((ha.under h).more h.size)
  have hhb : ∀ W, Below w.heap.size w W → Calls Tryz.prog 9 #[.slice B b.length cb] W fun e w' => Tells e ∧ Below W.heap.size W w' := fun W h => heavy_c b B cb W ((hb.under h).more h.size)
  have hhc : ∀ W, Below w.heap.size w W → Calls Tryz.prog 9 #[.slice C c.length cc] W fun e w' => Tells e ∧ Below W.heap.size W w' := fun W h => heavy_c c C cc W ((hc.under h).more h.size)
  have haw : ∀ W, Below w.heap.size w W → Calls Tryz.prog 10 #[] W fun e w' => e = .returned (.bool true) ∧ Below W.heap.size W w' := fun W _ => awake_c W
  have hcx : ∀ W, Below w.heap.size w W → Calls Tryz.prog 11 #[.slice A a.length ca, .slice B b.length cb] W fun e w' => e = .returned (.int .i64 x) ∧ Below W.heap.size W w' := fun W h => by
    have := cmpRows_c zcmp bigCmp_ok a b A B ca cb W ((ha.under h).more h.size) ((hb.under h).more h.size); rw [hx] at this; exact this
  have hcy : ∀ W, Below w.heap.size w W → Calls Tryz.prog 11 #[.slice B b.length cb, .slice C c.length cc] W fun e w' => e = .returned (.int .i64 y) ∧ Below W.heap.size W w' := fun W h => by
    have := cmpRows_c zcmp bigCmp_ok b c B C cb cc W ((hb.under h).more h.size) ((hc.under h).more h.size); rw [hy] at this; exact this
  have hcz : ∀ W, Below w.heap.size w W → Calls Tryz.prog 11 #[.slice A a.length ca, .slice C c.length cc] W fun e w' => e = .returned (.int .i64 z) ∧ Below W.heap.size W w' := fun W h => by
    have := cmpRows_c zcmp bigCmp_ok a c A C ca cc W ((ha.under h).more h.size) ((hc.under h).more h.size); rw [hz] at this; exact this
  have hcv : ∀ W, Below w.heap.size w W → Calls Tryz.prog 11 #[.slice B b.length cb, .slice A a.length ca] W fun e w' => e = .returned (.int .i64 v) ∧ Below W.heap.size W w' := fun W h => by
    have := cmpRows_c zcmp bigCmp_ok b a B A cb ca W ((hb.under h).more h.size) ((ha.under h).more h.size); rw [hv] at this; exact this
  have hc0 : ∀ W, Below w.heap.size w W → Calls Tryz.prog 11 #[.slice A a.length ca, .slice A a.length ca] W fun e w' => e = .returned (.int .i64 0) ∧ Below W.heap.size W w' := fun W h => by
    have := cmpRows_c zcmp bigCmp_ok a a A A ca ca W ((ha.under h).more h.size) ((ha.under h).more h.size); rw [cmpR_self] at this; exact this
  obtain ⟨pa, hpa⟩ : ∃ p, (!invL a) = p := ⟨_, rfl⟩
  obtain ⟨pb, hpb⟩ : ∃ p, (!invL b) = p := ⟨_, rfl⟩
  have hma : ∀ W, Below w.heap.size w W → Calls Tryz.prog 27 #[.slice A a.length ca] W fun e w' => e = .returned (.bool pa) ∧ Below W.heap.size W w' := fun W h => by
    have := may_c a A ca W ((ha.under h).more h.size); rw [hpa] at this; exact this
  have hmb : ∀ W, Below w.heap.size w W → Calls Tryz.prog 27 #[.slice B b.length cb] W fun e w' => e = .returned (.bool pb) ∧ Below W.heap.size W w' := fun W h => by
    have := may_c b B cb W ((hb.under h).more h.size); rw [hpb] at this; exact this
  have hsr : ∀ W, Below w.heap.size w W → Calls Tryz.prog 28 #[.slice A a.length ca, .slice B b.length cb] W fun e w' => TellsIf (a = b) e ∧ Below W.heap.size W w' := fun W h => samerow_c a b A B ca cb W ((ha.under h).more h.size) ((hb.under h).more h.size)
  have hse : Agrees pa pb x a b := fun h1 h2 => by
    rw [← hx]; rw [← hpa] at h1; rw [← hpb] at h2; exact cmpR_same (by simpa using h1) (by simpa using h2)
  have HHA := Lib.hid hha; have HHB := Lib.hid hhb; have HHC := Lib.hid hhc; have HAW := Lib.hid haw
  have HCX := Lib.hid hcx; have HCY := Lib.hid hcy; have HCZ := Lib.hid hcz; have HCV := Lib.hid hcv; have HC0 := Lib.hid hc0
  have HMA := Lib.hid hma; have HMB := Lib.hid hmb; have HSR := Lib.hid hsr; have HSE := Lib.hid hse; have HTRI := Lib.hid htri
  have HX1 := Lib.hid hone; have HY1 := Lib.hid hone2; have HZ1 := Lib.hid hone3
  have HB0 := Lib.hid (Below.refl w.heap.size w)
  have hla := ha.1; have hlb := hb.1; have hlc := hc.1
  clear hha hhb hhc haw hcx hcy hcz hcv hc0 hma hmb hsr hse htri ha hb hc hx hy hz hv hxv hone hone2 hone3 hpa hpb
  go_enter Tryz.func6, Tryz.ntmps6
  go_wp2_with fail
  refine (HHA.out _ HB0.out).mono ?_
  rintro e w1 ⟨⟨q, rfl⟩, hb⟩
  have HB1 := Lib.hid (HB0.out.trans (hb.mono HB0.out.size))
  clear hb
  cases q
  case true =>
    clear hw
    go_wp2_with (go_at_call 10; refine (HAW.out _ HB1.out).mono ?_; rintro e w' ⟨rfl, hb⟩; have HB := Lib.hid (HB1.out.trans (hb.mono HB1.out.size)); clear hb)
    go_ret
    exact ⟨rfl, HB.out⟩
  go_wp2_with fail
  refine (HHB.out _ HB1.out).mono ?_
  rintro e w2 ⟨⟨q, rfl⟩, hb⟩
  have HB2 := Lib.hid (HB1.out.trans (hb.mono HB1.out.size))
  clear hb
  cases q
  case true =>
    clear hw
    go_wp2_with (go_at_call 10; refine (HAW.out _ HB2.out).mono ?_; rintro e w' ⟨rfl, hb⟩; have HB := Lib.hid (HB2.out.trans (hb.mono HB2.out.size)); clear hb)
    go_ret
    exact ⟨rfl, HB.out⟩
  go_wp2_with fail
  refine (HHC.out _ HB2.out).mono ?_
  rintro e w3 ⟨⟨q, rfl⟩, hb⟩
  have HB3 := Lib.hid (HB2.out.trans (hb.mono HB2.out.size))
  clear hb
  cases q
  case true =>
    clear hw
    go_wp2_with (go_at_call 10; refine (HAW.out _ HB3.out).mono ?_; rintro e w' ⟨rfl, hb⟩; have HB := Lib.hid (HB3.out.trans (hb.mono HB3.out.size)); clear hb)
    go_ret
    exact ⟨rfl, HB.out⟩
  go_wp2_with fail
  refine (HAW.out _ HB3.out).mono ?_
  rintro e w4 ⟨rfl, hb⟩
  have HB4 := Lib.hid (HB3.out.trans (hb.mono HB3.out.size))
  clear hb HB3
  go_wp2_with fail
  refine (HCX.out _ HB4.out).mono ?_
  rintro e w5 ⟨rfl, hb⟩
  have HB5 := Lib.hid (HB4.out.trans (hb.mono HB4.out.size))
  clear hb HB4
  go_wp2_with fail
  refine (HCY.out _ HB5.out).mono ?_
  rintro e w6 ⟨rfl, hb⟩
  have HB6 := Lib.hid (HB5.out.trans (hb.mono HB5.out.size))
  clear hb HB5
  go_wp2_with fail
  refine (HCZ.out _ HB6.out).mono ?_
  rintro e w7 ⟨rfl, hb⟩
  have HB7 := Lib.hid (HB6.out.trans (hb.mono HB6.out.size))
  clear hb HB6
  have arm : (x = -1 ∨ x = 0 ∨ x = 1) ∧ (y = -1 ∨ y = 0 ∨ y = 1) ∧ (z = -1 ∨ z = 0 ∨ z = 1) := ⟨HX1.out, HY1.out, HZ1.out⟩
  obtain ⟨hx, hy, hz⟩ := arm
  clear HX1 HY1 HZ1
  rcases hx with rfl | rfl | rfl <;> rcases hy with rfl | rfl | rfl <;> rcases hz with rfl | rfl | rfl
  all_goals first
    | exact absurd HTRI.out (by unfold Tri; omega)
    | skip
  all_goals clear HTRI
  all_goals go_wp2_with fail
  all_goals
    refine (HCV.out _ HB7.out).mono ?_
    rintro e w8 ⟨rfl, hb⟩
    have HB8 := Lib.hid (HB7.out.trans (hb.mono HB7.out.size))
    clear hb HB7
    go_wp2_with fail
    refine (HC0.out _ HB8.out).mono ?_
    rintro e w9 ⟨rfl, hb⟩
    have HB9 := Lib.hid (HB8.out.trans (hb.mono HB8.out.size))
    clear hb HB8
    go_wp2_with fail
    refine (HMA.out _ HB9.out).mono ?_
    rintro e w10 ⟨rfl, hb⟩
    have HB10 := Lib.hid (HB9.out.trans (hb.mono HB9.out.size))
    clear hb HB9
  all_goals
    cases pa
    case false =>
      go_wp2_with fail
      go_ret
      exact ⟨rfl, HB10.out⟩
  all_goals go_wp2_with fail
  all_goals
    refine (HMB.out _ HB10.out).mono ?_
    rintro e w11 ⟨rfl, hb⟩
    have HB11 := Lib.hid (HB10.out.trans (hb.mono HB10.out.size))
    clear hb HB10
  all_goals
    cases pb
    case false =>
      go_wp2_with fail
      go_ret
      exact ⟨rfl, HB11.out⟩
  all_goals go_wp2_with fail
  all_goals
    refine (HSR.out _ HB11.out).mono ?_
    rintro e w12 ⟨ht, hb⟩
    have HB12 := Lib.hid (HB11.out.trans (hb.mono HB11.out.size))
    clear hb HB11
    first
      | obtain rfl := ht.yes ((HSE.out rfl rfl).1 rfl)
      | obtain rfl := ht.no fun e => absurd ((HSE.out rfl rfl).2 e) (by decide)
    clear ht
    go_wp2_with fail
    go_ret
    exact ⟨rfl, HB12.out⟩
end Go.Proofs.YtaapppieipfinaaGreatDoor
