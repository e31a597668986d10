/- The document's own answers of layer 2: rows in their order, if their values are. -/
import Derived.Test.YtddmegbhefmloaaGreatDoorQWj
namespace Go.Proofs.YtddmegbhefmloaaGreatDoor
open Go.RowKit Vp
open Go
attribute [local go_sem] Oper.semAt_some

/-- What is claimed of one value. -/
def RefCmpOn (t : V) : Prop := ∀ (t' : V) (u u' : Value) (w : World), Fine t → Fine t' → VRep w w.heap.size t u → VRep w w.heap.size t' u' →
  Calls Tryz.prog 79 #[u, u'] w fun e w' => e = .returned (.int .i64 (cmpV zcmp t t')) ∧ Below w.heap.size w w'
theorem cmpL_same_take : ∀ (a b : List V) (k : Nat), k ≤ a.length → k ≤ b.length → (∀ j (hj : j < a.length) (hj' : j < b.length), j < k → cmpV zcmp a[j] b[j] = 0) → cmpL zcmp a b = cmpL zcmp (a.drop k) (b.drop k)
  | a, b, 0, _, _, _ => by simp
  | [], _, k + 1, h, _, _ => absurd h (by simp)
  | _ :: _, [], k + 1, _, h, _ => absurd h (by simp)
  | x :: xs, y :: ys, k + 1, h, h', hh => by
    rw [cmpL_cons, show cmpV zcmp x y = 0 from hh 0 (by simp) (by simp) (by omega), lx, if_neg (by simp)]
    rw [cmpL_same_take xs ys k (by simpa using h) (by simpa using h') fun j hj hj' hk => hh (j + 1) (by simpa using hj) (by simpa using hj') (by omega)]
    rfl
theorem cmpL_first (a b : List V) {k : Nat} (h : k < a.length) (h' : k < b.length) (hh : ∀ j (hj : j < a.length) (hj' : j < b.length), j < k → cmpV zcmp a[j] b[j] = 0) (hne : cmpV zcmp a[k] b[k] ≠ 0) : cmpL zcmp a b = cmpV zcmp a[k] b[k] := by
  rw [cmpL_same_take a b k (by omega) (by omega) hh, List.drop_eq_getElem_cons h, List.drop_eq_getElem_cons h', cmpL_cons, lx, if_pos hne]
theorem cmpL_ends (a b : List V) {k : Nat} (h : k ≤ a.length) (h' : k ≤ b.length) (hk : k = a.length ∨ k = b.length) (hh : ∀ j (hj : j < a.length) (hj' : j < b.length), j < k → cmpV zcmp a[j] b[j] = 0) : cmpL zcmp a b = cmpI (a.length : Int) (b.length : Int) := by
  rw [cmpL_same_take a b k h h' hh]
  rcases Nat.lt_or_ge k a.length with h1 | h1
  · have e : k = b.length := by omega
    rw [List.drop_eq_nil_of_le (show b.length ≤ k by omega), List.drop_eq_getElem_cons h1, cmpL_more]
    unfold cmpI; rw [if_neg (by omega), if_pos (by omega)]
  · rw [List.drop_eq_nil_of_le h1]
    rcases Nat.lt_or_ge k b.length with h2 | h2
    · rw [List.drop_eq_getElem_cons h2, cmpL_less]
      unfold cmpI; rw [if_pos (by omega)]
    · rw [List.drop_eq_nil_of_le h2, cmpL_nil]
      unfold cmpI; rw [if_neg (by omega), if_neg (by omega)]

set_option maxHeartbeats 2000000 in
theorem refrows_of (a : List V) (ih : ∀ t ∈ a, RefCmpOn t) (b : List V) (fa : ∀ t ∈ a, Fine t) (fb : ∀ t ∈ b, Fine t) (A A' : Option Addr) (c c' : Nat) (w : World) (hR : RRep w w.heap.size a A c) (hR' : RRep w w.heap.size b A' c') :
    Calls Tryz.prog 84 #[.slice A a.length c, .slice A' b.length c'] w fun e w' => e = .returned (.int .i64 (cmpL zcmp a b)) ∧ Below w.heap.size w w' := by
  have hl := hR.1; have hm := hR.2.1; have hl' := hR'.1; have hm' := hR'.2.1
  have hmax : maxLen = 9223372036854775807 := rfl
  have HR := Lib.hid hR; have HR' := Lib.hid hR'; have IH := Lib.hid ih; have FA := Lib.hid fa; have FB := Lib.hid fb
  clear hR hR' ih fa fb
  obtain ⟨q, hq⟩ : ∃ q, q = cmpL zcmp a b := ⟨_, rfl⟩
  rw [← hq]
  have HQ := Lib.hid hq
  clear hq
  go_enter Tryz.func84, Tryz.ntmps84
  go_wp2_with fail
  go_loopg [5] (a.length + 1) (fun gg s6 wr => ∃ (kk : Nat), kk ≤ a.length ∧ kk ≤ b.length ∧ gg = a.length + 1 - kk ∧ s6 = .int .i64 (kk : Int) ∧ Below w.heap.size w wr ∧ ∀ j (hj : j < a.length) (hj' : j < b.length), j < kk → cmpV zcmp a[j] b[j] = 0)
  case atStart => exact ⟨0, Nat.zero_le _, Nat.zero_le _, by omega, rfl, Below.refl _ w, fun j _ _ hj => absurd hj (Nat.not_lt_zero _)⟩
  case round =>
    obtain ⟨kk, hk1, hk2, hg, rfl, hB, hA⟩ := hrel
    have HB := Lib.hid hB; have HG := Lib.hid hg; have HA := Lib.hid hA
    clear hB hg hA
    by_cases hlt : kk < a.length
    · have hltz : (kk : Int) < (a.length : Int) := by omega
      by_cases hlt' : kk < b.length
      · have hltz' : (kk : Int) < (b.length : Int) := by omega
        obtain ⟨g, off, rfl, hb, k1, n1, s1, l1, A1, e1, ht, hv, c0, c1, c2, c3⟩ := (HR.out.under HB.out).at_ hlt
        obtain ⟨g', off', rfl, hb', k2, n2, s2, l2, A2, e2, ht', hv', d0, d1, d2, d3⟩ := (HR'.out.under HB.out).at_ hlt'
        have hcall := fun W (hW : Below w.heap.size wr W) => IH.out _ (List.getElem_mem hlt) b[kk] _ _ W (FA.out _ (List.getElem_mem hlt)) (FB.out _ (List.getElem_mem hlt')) ((hv.under hW).more (Nat.le_trans HB.out.size hW.size)) ((hv'.under hW).more (Nat.le_trans HB.out.size hW.size))
        have HT := Lib.hid hb; have HT' := Lib.hid hb'
        obtain ⟨z, hz⟩ : ∃ z, cmpV zcmp a[kk] b[kk] = z := ⟨_, rfl⟩
        rw [hz] at hcall
        have HC := Lib.hid hcall; have HZ := Lib.hid hz
        clear hv hv' ht ht' hb hb' hcall hz
        obtain ⟨wo, hwo⟩ : ∃ wo, wo = wr := ⟨_, rfl⟩
        subst hwo
        go_upto_region 4 with fail
        go_region_held3 (fun w' => w'.cell? ⟨g, off + kk * 4, none⟩ = some (.int .u8 (k1 : Int)) ∧ w'.cell? ⟨g, off + kk * 4 + 1, none⟩ = some (.int .i64 n1) ∧ w'.cell? ⟨g, off + kk * 4 + 2, none⟩ = some (.string s1) ∧ w'.cell? ⟨g, off + kk * 4 + 3, none⟩ = some (.slice A1 l1.length e1) ∧ w'.cell? ⟨g', off' + kk * 4, none⟩ = some (.int .u8 (k2 : Int)) ∧ w'.cell? ⟨g', off' + kk * 4 + 1, none⟩ = some (.int .i64 n2) ∧ w'.cell? ⟨g', off' + kk * 4 + 2, none⟩ = some (.string s2) ∧ w'.cell? ⟨g', off' + kk * 4 + 3, none⟩ = some (.slice A2 l2.length e2)) (go_keep)
          (first
            | (go_at_call 79; refine (HC.out _ (Below.refl _ wo).drew).mono ?_; rintro e w1 ⟨rfl, hb1⟩; have HB1 := Lib.hid ((Below.refl w.heap.size wo).drew.trans (hb1.mono HB.out.size)); have q0 := (hb1.cell (p := ⟨g, off + kk * 4, none⟩) (Nat.lt_of_lt_of_le HT.out HB.out.size)).trans c0; have q1 := (hb1.cell (p := ⟨g, off + kk * 4 + 1, none⟩) (Nat.lt_of_lt_of_le HT.out HB.out.size)).trans c1; have q2 := (hb1.cell (p := ⟨g, off + kk * 4 + 2, none⟩) (Nat.lt_of_lt_of_le HT.out HB.out.size)).trans c2; have q3 := (hb1.cell (p := ⟨g, off + kk * 4 + 3, none⟩) (Nat.lt_of_lt_of_le HT.out HB.out.size)).trans c3; have r0 := (hb1.cell (p := ⟨g', off' + kk * 4, none⟩) (Nat.lt_of_lt_of_le HT'.out HB.out.size)).trans d0; have r1 := (hb1.cell (p := ⟨g', off' + kk * 4 + 1, none⟩) (Nat.lt_of_lt_of_le HT'.out HB.out.size)).trans d1; have r2 := (hb1.cell (p := ⟨g', off' + kk * 4 + 2, none⟩) (Nat.lt_of_lt_of_le HT'.out HB.out.size)).trans d2; have r3 := (hb1.cell (p := ⟨g', off' + kk * 4 + 3, none⟩) (Nat.lt_of_lt_of_le HT'.out HB.out.size)).trans d3; clear hb1))
        all_goals
          clear c0 c1 c2 c3 d0 d1 d2 d3
          by_cases hz0 : z = 0
          · subst hz0
            go_wp2_with fail
            go_roundg (a.length + 1 - (kk + 1))
            case measure => have := HG.out; omega
            case rel =>
              refine ⟨kk + 1, by omega, by omega, rfl, by go_num, HB.out.trans HB1.out, fun j hj hj' hjk => ?_⟩
              by_cases e : j = kk
              · subst e; exact HZ.out
              · exact HA.out j hj hj' (by omega)
          · have hqz : q = z := by rw [HQ.out, ← HZ.out]; exact cmpL_first a b hlt hlt' HA.out (by rw [HZ.out]; exact hz0)
            subst hqz
            go_wp2_with fail
            go_ret
            exact ⟨rfl, HB.out.trans HB1.out⟩
      · have hltz' : ¬ (kk : Int) < (b.length : Int) := by omega
        have HC := Lib.hid (fun W => ints_c (a.length : Int) (b.length : Int) W)
        rw [← cmpL_ends a b hk1 hk2 (by omega) HA.out, ← HQ.out] at HC
        go_wp2_with (go_at_call 103; refine (HC.out _).mono ?_; rintro e w1 ⟨rfl, hb1⟩; have HB1 := Lib.hid (HB.out.trans (hb1.mono HB.out.size)); clear hb1)
        go_ret
        exact ⟨rfl, HB1.out⟩
    · have hltz : ¬ (kk : Int) < (a.length : Int) := by omega
      have HC := Lib.hid (fun W => ints_c (a.length : Int) (b.length : Int) W)
      rw [← cmpL_ends a b hk1 hk2 (by omega) HA.out, ← HQ.out] at HC
      go_wp2_with (go_at_call 103; refine (HC.out _).mono ?_; rintro e w1 ⟨rfl, hb1⟩; have HB1 := Lib.hid (HB.out.trans (hb1.mono HB.out.size)); clear hb1)
      go_ret
      exact ⟨rfl, HB1.out⟩
end Go.Proofs.YtddmegbhefmloaaGreatDoor
