/- ValueCompares: the walk. -/
import Derived.Test.YtaapppieipfinaaGreatDoorWp
import Derived.Test.YtaapppieipfinaaGreatDoorVa
namespace Go.Proofs.YtaapppieipfinaaGreatDoor
open Go.RowKit Vp
open Go
attribute [local go_sem] Oper.semAt_some

theorem TellsLight.cases_ {l : List V} {e : Ending} (h : TellsLight l e) : e = .returned (.bool true) ∨ (e = .returned (.bool false) ∧ ∀ t ∈ l, depth t < 600) := by
  obtain ⟨p, rfl, hp⟩ := h
  cases p with
  | true => exact .inl rfl
  | false => exact .inr ⟨rfl, hp rfl⟩
set_option maxHeartbeats 4000000 in
theorem compares_c (a b : List V) (A B : Option Addr) (ca cb : Nat) (w : World) (ha : RRep w w.heap.size a A ca) (hb : RRep w w.heap.size b B cb) :
    Calls Tryz.prog 3 #[.slice A a.length ca, .slice B b.length cb] w fun e w' => e = .returned (.bool true) ∧ Below w.heap.size w w' := by
  have hla := ha.1; have hlb := hb.1; have hma := ha.2.1; have hmb := hb.2.1
  have hmax : maxLen = 9223372036854775807 := rfl
  have HRA := Lib.hid ha; have HRB := Lib.hid hb
  have hha : ∀ W, Below w.heap.size w W → Calls Tryz.prog 9 #[.slice A a.length ca] W fun e w' => TellsLight a e ∧ Below W.heap.size W w' := fun W h => heavy2_c a A ca W ((ha.under h).more h.size)
  have hhb : ∀ W, Below w.heap.size w W → Calls Tryz.prog 9 #[.slice B b.length cb] W fun e w' => TellsLight b e ∧ Below W.heap.size W w' := fun W h => heavy2_c b B cb W ((hb.under h).more h.size)
  have hc1 : ∀ W, Below w.heap.size w W → Calls Tryz.prog 11 #[.slice A a.length ca, .slice B b.length cb] W fun e w' => e = .returned (.int .i64 (cmpR zcmp a b)) ∧ Below W.heap.size W w' := fun W h => cmpRows_c zcmp bigCmp_ok a b A B ca cb W ((ha.under h).more h.size) ((hb.under h).more h.size)
  have hc2 : (∀ t ∈ a, depth t < 600) → (∀ t ∈ b, depth t < 600) → ∀ W, Below w.heap.size w W → Calls Tryz.prog 12 #[.slice A a.length ca, .slice B b.length cb] W fun e w' => e = .returned (.int .i64 (cmpR zcmp a b)) ∧ Below W.heap.size W w' := fun da db W h =>
    refcmprows_c bigs_ok a b A B ca cb W (fun t ht => by have := da t ht; omega) (fun t ht => by have := db t ht; omega) ((ha.under h).more h.size) ((hb.under h).more h.size)
  obtain ⟨x, hx⟩ : ∃ x, cmpR zcmp a b = x := ⟨_, rfl⟩
  rw [hx] at hc1 hc2
  have HHA := Lib.hid hha; have HHB := Lib.hid hhb; have HC1 := Lib.hid hc1; have HC2 := Lib.hid hc2
  have HB0 := Lib.hid (Below.refl w.heap.size w)
  clear hha hhb hc1 hc2 hx ha hb
  go_enter Tryz.func3, Tryz.ntmps3
  go_wp2_with fail
  refine (HHA.out _ HB0.out).mono ?_
  rintro e w1 ⟨hq, hb⟩
  have HB1 := Lib.hid (HB0.out.trans (hb.mono HB0.out.size)); clear hb
  rcases hq.cases_ with rfl | ⟨rfl, hda⟩
  · clear hq
    go_wp2_with (go_at_call 10; refine (awake_c _).mono ?_; rintro e w2 ⟨rfl, hb⟩; have HB2 := Lib.hid (HB1.out.trans (hb.mono HB1.out.size)); clear hb)
    go_ret
    exact ⟨rfl, HB2.out⟩
  have HDA := Lib.hid hda
  clear hq hda
  go_wp2_with fail
  refine (HHB.out _ HB1.out).mono ?_
  rintro e w2 ⟨hq, hb⟩
  have HB2 := Lib.hid (HB1.out.trans (hb.mono HB1.out.size)); clear hb
  rcases hq.cases_ with rfl | ⟨rfl, hdb⟩
  · clear hq
    go_wp2_with (go_at_call 10; refine (awake_c _).mono ?_; rintro e w3 ⟨rfl, hb⟩; have HB3 := Lib.hid (HB2.out.trans (hb.mono HB2.out.size)); clear hb)
    go_ret
    exact ⟨rfl, HB3.out⟩
  have HDB := Lib.hid hdb
  clear hq hdb
  go_wp2_with fail
  refine (HC1.out _ HB2.out).mono ?_
  rintro e w3 ⟨rfl, hb⟩
  have HB3 := Lib.hid (HB2.out.trans (hb.mono HB2.out.size)); clear hb
  go_wp2_with fail
  refine (HC2.out HDA.out HDB.out _ HB3.out).mono ?_
  rintro e w4 ⟨rfl, hb⟩
  have HB4 := Lib.hid (HB3.out.trans (hb.mono HB3.out.size)); clear hb
  go_wp2_with fail
  go_loopg [5] (a.length + 1) (fun gg s6 wr => ∃ (kk : Nat), kk ≤ a.length ∧ gg = a.length + 1 - kk ∧ s6 = .int .i64 (kk : Int) ∧ Below w.heap.size w wr)
  case atStart => exact ⟨0, Nat.zero_le _, by omega, rfl, HB4.out⟩
  case round =>
    clear HB1 HB2 HB3 HB4 HB0 HHA HHB HC1 HC2
    obtain ⟨kk, hk1, hg, rfl, hB⟩ := hrel
    have HB := Lib.hid hB; have HG := Lib.hid hg
    clear hB hg
    by_cases hlt : kk < a.length
    · have hltz : (kk : Int) < (a.length : Int) := by omega
      by_cases hlt' : kk < b.length
      · have hltz' : (kk : Int) < (b.length : Int) := by omega
        obtain ⟨g, off, rfl, hb, k1, n1, s1, l1, A1, e1, ht, hv, c0, c1, c2, c3⟩ := (HRA.out.under HB.out).at_ hlt
        obtain ⟨g', off', rfl, hb', k2, n2, s2, l2, A2, e2, ht', hv', d0, d1, d2, d3⟩ := (HRB.out.under HB.out).at_ hlt'
        have hm1 := fun W (hW : Below w.heap.size wr W) => cmp_c zcmp bigCmp_ok a[kk] b[kk] _ _ W ((hv.under hW).more (Nat.le_trans HB.out.size hW.size)) ((hv'.under hW).more (Nat.le_trans HB.out.size hW.size))
        have hm2 := fun W (hW : Below w.heap.size wr W) => refcmp1_c a[kk] b[kk] _ _ W (by have := HDA.out _ (List.getElem_mem hlt); omega) (by have := HDB.out _ (List.getElem_mem hlt'); omega) ((hv.under hW).more (Nat.le_trans HB.out.size hW.size)) ((hv'.under hW).more (Nat.le_trans HB.out.size hW.size))
        obtain ⟨z, hz⟩ : ∃ z, cmpR zcmp [a[kk]] [b[kk]] = z := ⟨_, rfl⟩
        rw [hz] at hm1 hm2
        have hcl : ∀ w', Below w.heap.size wr w' → w'.cell? ⟨g, off + kk * 4, none⟩ = some (.int .u8 (k1 : Int)) ∧ w'.cell? ⟨g, off + kk * 4 + 1, none⟩ = some (.int .i64 n1) ∧ w'.cell? ⟨g, off + kk * 4 + 2, none⟩ = some (.string s1) ∧ w'.cell? ⟨g, off + kk * 4 + 3, none⟩ = some (.slice A1 l1.length e1) ∧ w'.cell? ⟨g', off' + kk * 4, none⟩ = some (.int .u8 (k2 : Int)) ∧ w'.cell? ⟨g', off' + kk * 4 + 1, none⟩ = some (.int .i64 n2) ∧ w'.cell? ⟨g', off' + kk * 4 + 2, none⟩ = some (.string s2) ∧ w'.cell? ⟨g', off' + kk * 4 + 3, none⟩ = some (.slice A2 l2.length e2) := fun w' h => ⟨(h.cell (p := ⟨g, off + kk * 4, none⟩) hb).trans c0, (h.cell (p := ⟨g, off + kk * 4 + 1, none⟩) hb).trans c1, (h.cell (p := ⟨g, off + kk * 4 + 2, none⟩) hb).trans c2, (h.cell (p := ⟨g, off + kk * 4 + 3, none⟩) hb).trans c3, (h.cell (p := ⟨g', off' + kk * 4, none⟩) hb').trans d0, (h.cell (p := ⟨g', off' + kk * 4 + 1, none⟩) hb').trans d1, (h.cell (p := ⟨g', off' + kk * 4 + 2, none⟩) hb').trans d2, (h.cell (p := ⟨g', off' + kk * 4 + 3, none⟩) hb').trans d3⟩
        have HM1 := Lib.hid hm1; have HM2 := Lib.hid hm2; have HCL := Lib.hid hcl
        obtain ⟨wo, hwo⟩ : ∃ wo, wo = wr := ⟨_, rfl⟩
        subst hwo
        have HR0 := Lib.hid (Below.refl w.heap.size wo)
        clear hv hv' ht ht' hb hb' hz hm1 hm2 hcl
        go_upto_region 8 with fail
        go_region_held3 (fun w' => w'.cell? ⟨g, off + kk * 4, none⟩ = some (.int .u8 (k1 : Int)) ∧ w'.cell? ⟨g, off + kk * 4 + 1, none⟩ = some (.int .i64 n1) ∧ w'.cell? ⟨g, off + kk * 4 + 2, none⟩ = some (.string s1) ∧ w'.cell? ⟨g, off + kk * 4 + 3, none⟩ = some (.slice A1 l1.length e1) ∧ w'.cell? ⟨g', off' + kk * 4, none⟩ = some (.int .u8 (k2 : Int)) ∧ w'.cell? ⟨g', off' + kk * 4 + 1, none⟩ = some (.int .i64 n2) ∧ w'.cell? ⟨g', off' + kk * 4 + 2, none⟩ = some (.string s2) ∧ w'.cell? ⟨g', off' + kk * 4 + 3, none⟩ = some (.slice A2 l2.length e2)) (go_keep)
          (first
            | (have hx := HB1; clear hx; go_at_call 13; refine (HM1.out _ HB1.out).mono ?_; rintro e w2 ⟨rfl, hb1⟩; have HB2 := Lib.hid (HB1.out.trans (hb1.mono (Nat.le_trans HB.out.size HB1.out.size))); clear hb1; obtain ⟨p0, p1, p2, p3, p4, p5, p6, p7⟩ := HCL.out _ HB2.out)
            | (have hx := HB1; clear hx; go_at_call 14; refine (HM2.out _ HB1.out).mono ?_; rintro e w2 ⟨rfl, hb1⟩; have HB2 := Lib.hid (HB1.out.trans (hb1.mono (Nat.le_trans HB.out.size HB1.out.size))); clear hb1; obtain ⟨p0, p1, p2, p3, p4, p5, p6, p7⟩ := HCL.out _ HB2.out)
            | (go_at_call 13; refine (HM1.out _ HR0.out.drew).mono ?_; rintro e w1 ⟨rfl, hb1⟩; have HB1 := Lib.hid (HR0.out.drew.trans (hb1.mono HB.out.size)); clear hb1; obtain ⟨o0, o1, o2, o3, o4, o5, o6, o7⟩ := HCL.out _ HB1.out)
            | (go_at_call 14; refine (HM2.out _ HR0.out.drew).mono ?_; rintro e w1 ⟨rfl, hb1⟩; have HB1 := Lib.hid (HR0.out.drew.trans (hb1.mono HB.out.size)); clear hb1; obtain ⟨o0, o1, o2, o3, o4, o5, o6, o7⟩ := HCL.out _ HB1.out))
        all_goals
          clear c0 c1 c2 c3 d0 d1 d2 d3
          go_wp2_with fail
          go_roundg (a.length + 1 - (kk + 1))
          case measure => have := HG.out; omega
          case rel => exact ⟨kk + 1, by omega, rfl, by go_num, HB.out.trans HB2.out⟩
      · have hltz' : ¬ (kk : Int) < (b.length : Int) := by omega
        go_wp2_with (go_at_call 10; refine (awake_c _).mono ?_; rintro e w5 ⟨rfl, hb⟩; have HB5 := Lib.hid (HB.out.trans (hb.mono HB.out.size)); clear hb)
        go_ret
        exact ⟨rfl, HB5.out⟩
    · have hltz : ¬ (kk : Int) < (a.length : Int) := by omega
      go_wp2_with (go_at_call 10; refine (awake_c _).mono ?_; rintro e w5 ⟨rfl, hb⟩; have HB5 := Lib.hid (HB.out.trans (hb.mono HB.out.size)); clear hb)
      go_ret
      exact ⟨rfl, HB5.out⟩
end Go.Proofs.YtaapppieipfinaaGreatDoor
