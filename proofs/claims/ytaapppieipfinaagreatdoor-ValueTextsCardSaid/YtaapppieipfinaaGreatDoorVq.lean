/- Package value: the walks over how two values stand. -/
import Derived.Test.YtaapppieipfinaaGreatDoorVo
namespace Go.Proofs.YtaapppieipfinaaGreatDoor
open Go.RowKit Vp
open Go
attribute [local go_sem] Oper.semAt_some

theorem nan_u8 (x : Int) (w : World) : Calls Tryz.prog 91 #[.int .u8 x] w fun e w' => e = .returned (.bool false) ∧ w = w' := by
  go_enter Tryz.func91, Tryz.ntmps91
  go_wp2_with fail
  go_ret
  exact ⟨rfl, rfl⟩
set_option maxRecDepth 100000 in
theorem cmp_u8 (x y : Int) (w : World) : Calls Tryz.prog 75 #[.int .u8 x, .int .u8 y] w fun e w' => e = .returned (.int .i64 (cmpI x y)) ∧ w = w' := by
  unfold cmpI
  by_cases h : x < y
  · rw [if_pos h]
    go_enter Tryz.func75, Tryz.ntmps75
    go_wp2_with (go_at_call 91; refine (nan_u8 _ _).mono ?_; rintro e w1 ⟨rfl, rfl⟩)
    go_ret
    exact ⟨rfl, rfl⟩
  · rw [if_neg h]
    by_cases h2 : y < x
    · rw [if_pos h2]
      go_enter Tryz.func75, Tryz.ntmps75
      go_wp2_with (go_at_call 91; refine (nan_u8 _ _).mono ?_; rintro e w1 ⟨rfl, rfl⟩)
      go_ret
      exact ⟨rfl, rfl⟩
    · rw [if_neg h2]
      go_enter Tryz.func75, Tryz.ntmps75
      go_wp2_with (go_at_call 91; refine (nan_u8 _ _).mono ?_; rintro e w1 ⟨rfl, rfl⟩)
      go_ret
      exact ⟨rfl, rfl⟩
theorem nan_i64 (x : Int) (w : World) : Calls Tryz.prog 92 #[.int .i64 x] w fun e w' => e = .returned (.bool false) ∧ w = w' := by
  go_enter Tryz.func92, Tryz.ntmps92
  go_wp2_with fail
  go_ret
  exact ⟨rfl, rfl⟩
set_option maxRecDepth 100000 in
theorem cmp_i64 (x y : Int) (w : World) : Calls Tryz.prog 76 #[.int .i64 x, .int .i64 y] w fun e w' => e = .returned (.int .i64 (cmpI x y)) ∧ w = w' := by
  unfold cmpI
  by_cases h : x < y
  · rw [if_pos h]
    go_enter Tryz.func76, Tryz.ntmps76
    go_wp2_with (go_at_call 92; refine (nan_i64 _ _).mono ?_; rintro e w1 ⟨rfl, rfl⟩)
    go_ret
    exact ⟨rfl, rfl⟩
  · rw [if_neg h]
    by_cases h2 : y < x
    · rw [if_pos h2]
      go_enter Tryz.func76, Tryz.ntmps76
      go_wp2_with (go_at_call 92; refine (nan_i64 _ _).mono ?_; rintro e w1 ⟨rfl, rfl⟩)
      go_ret
      exact ⟨rfl, rfl⟩
    · rw [if_neg h2]
      go_enter Tryz.func76, Tryz.ntmps76
      go_wp2_with (go_at_call 92; refine (nan_i64 _ _).mono ?_; rintro e w1 ⟨rfl, rfl⟩)
      go_ret
      exact ⟨rfl, rfl⟩
/-- cmp.Or of two numbers. -/
theorem or_c (x y : Int) (w : World) (b : Nat) (hb : b < w.heap.size) (h0 : w.cell? ⟨b, 0, none⟩ = some (.int .i64 x)) (h1 : w.cell? ⟨b, 1, none⟩ = some (.int .i64 y)) :
    Calls Tryz.prog 78 #[.slice (some ⟨b, 0, none⟩) 2 2] w fun e w' => e = .returned (.int .i64 (if x ≠ 0 then x else y)) ∧ Below w.heap.size w w' := by
  obtain ⟨r, hr⟩ : ∃ r, r = if x ≠ 0 then x else y := ⟨_, rfl⟩
  rw [← hr]
  have HRES := Lib.hid hr
  clear hr
  go_enter Tryz.func78, Tryz.ntmps78
  go_wp2_with fail
  go_loopg [5, 8] 4 (fun g _ s8 wr => ∃ k : Nat, g = 4 - k ∧ k ≤ 2 ∧ s8 = .int .i64 (k : Int) ∧ wr = w ∧ (0 < k → x = 0) ∧ (1 < k → y = 0))
  case atStart => exact ⟨0, rfl, by omega, rfl, rfl, by omega, by omega⟩
  case round =>
    obtain ⟨k, hg, hk, rfl, hwr, hx, hy⟩ := hrel
    subst hwr
    have HG := Lib.hid hg; clear hg
    have hc : k = 0 ∨ k = 1 ∨ k = 2 := by omega
    rcases hc with rfl | rfl | rfl
    · by_cases hx0 : x = 0
      · subst hx0
        clear hx hy hk
        go_wp2_with fail
        go_roundg (4 - 1)
        case measure => have := HG.out; omega
        case rel => exact ⟨1, rfl, by omega, rfl, rfl, by simp, by omega⟩
      · clear hx hy hk
        go_wp2_with fail
        go_ret
        exact ⟨by rw [HRES.out, if_pos hx0]; rfl, Below.refl _ _⟩
    · have hx0 := hx (by omega)
      subst hx0
      clear hx
      by_cases hy0 : y = 0
      · subst hy0
        clear hy hk
        go_wp2_with fail
        go_roundg (4 - 2)
        case measure => have := HG.out; omega
        case rel => exact ⟨2, rfl, by omega, rfl, rfl, by simp, by simp⟩
      · clear hy hk
        go_wp2_with fail
        go_ret
        exact ⟨by rw [HRES.out]; rfl, Below.refl _ _⟩
    · have hx0 := hx (by omega)
      have hy0 := hy (by omega)
      subst hx0; subst hy0
      clear hx hy hk
      go_wp2_with fail
      go_ret
      exact ⟨by rw [HRES.out]; rfl, Below.refl _ _⟩

/-- What is asked of a function that holds two values against each other. -/
def CmpOn (w : World) (l l' : List V) (g : Nat) (lb : Array Value) (cf : V → V → Int) : Prop :=
  ∀ x ∈ l, ∀ y ∈ l', ∀ W u u', Below w.heap.size w W → VRep W W.heap.size x u → VRep W W.heap.size y u' → Calls Tryz.prog g (#[u, u'] ++ lb) W fun e w' => e = .returned (.int .i64 (cf x y)) ∧ Below W.heap.size W w'
/-- The first two that differ; a proper prefix is before. -/
def cmpBy (cf : V → V → Int) : List V → List V → Int
  | [], [] => 0
  | [], _ :: _ => -1
  | _ :: _, [] => 1
  | x :: xs, y :: ys => if cf x y ≠ 0 then cf x y else cmpBy cf xs ys
theorem cmpBy_step (cf : V → V → Int) (l l' : List V) {k : Nat} (h : k < l.length) (h' : k < l'.length) : cmpBy cf (l.drop k) (l'.drop k) = if cf l[k] l'[k] ≠ 0 then cf l[k] l'[k] else cmpBy cf (l.drop (k + 1)) (l'.drop (k + 1)) := by
  rw [List.drop_eq_getElem_cons h, List.drop_eq_getElem_cons h']; rfl

set_option maxHeartbeats 2000000 in
theorem compareFunc_c (l l' : List V) (A A' : Option Addr) (c c' : Nat) (cf : V → V → Int) (g : Nat) (lb : Array Value) (w : World) (hR : RRep w w.heap.size l A c) (hR' : RRep w w.heap.size l' A' c')
    (eg : ∀ args w, (callFunc g args).run Tryz.prog w = .ok (.enter g args) w) (hp : CmpOn w l l' g lb cf) :
    Calls Tryz.prog 73 #[.slice A l.length c, .slice A' l'.length c', .func (.func g) #[] lb] w fun e w' => e = .returned (.int .i64 (cmpBy cf l l')) ∧ Below w.heap.size w w' := by
  have hl := hR.1; have hm := hR.2.1; have hl' := hR'.1; have hm' := hR'.2.1
  have HR := Lib.hid hR; have HR' := Lib.hid hR'; have HP := Lib.hid hp; clear hR hR' hp
  have hmax : maxLen = 9223372036854775807 := rfl
  obtain ⟨r, hr⟩ : ∃ r, r = cmpBy cf l l' := ⟨_, rfl⟩
  rw [← hr]
  have HRS := Lib.hid hr
  clear hr
  go_enter Tryz.func73, Tryz.ntmps73
  go_wp2_with fail
  go_loopg [13] (l.length + 1) (fun gg s13 wr => ∃ kk : Nat, kk ≤ l.length ∧ kk ≤ l'.length ∧ gg = l.length + 1 - kk ∧ s13 = .int .i64 (kk : Int) ∧ Below w.heap.size w wr ∧ cmpBy cf (l.drop kk) (l'.drop kk) = r)
  case atStart => exact ⟨0, Nat.zero_le _, Nat.zero_le _, by omega, rfl, Below.refl _ w, by rw [List.drop_zero, List.drop_zero]; exact HRS.out.symm⟩
  case round =>
    obtain ⟨kk, hkk, hkk', hg, rfl, hB, hA⟩ := hrel
    have HB := Lib.hid hB; have HA := Lib.hid hA; have HG := Lib.hid hg
    obtain ⟨wo, hwo⟩ : ∃ wo, wo = wr := ⟨_, rfl⟩
    subst hwo
    clear hB hA hg
    by_cases hlt : kk < l.length
    · have hltz : (kk : Int) < (l.length : Int) := by omega
      obtain ⟨b, off, rfl, hb, k, n, s, lx, Ax, cx, ht, hv, c0, c1, c2, c3⟩ := (HR.out.under HB.out).at_ hlt
      by_cases hlt' : kk < l'.length
      · have hltz' : ¬ (l'.length : Int) ≤ (kk : Int) := by omega
        have HT := Lib.hid ht; have HV := Lib.hid hv
        clear ht hv
        obtain ⟨b', off', rfl, hb', k', n', s', ly, Ay, cy, ht', hv', d0, d1, d2, d3⟩ := (HR'.out.under HB.out).at_ hlt'
        have HV' := Lib.hid hv'
        clear ht' hv'
        have hbw : b < wo.heap.size := Nat.lt_of_lt_of_le hb HB.out.size
        have hbw' : b' < wo.heap.size := Nat.lt_of_lt_of_le hb' HB.out.size
        have hW : Below w.heap.size w ((wo.alloc (.cells #[.int .u8 (k : Int), .int .i64 n, .string s, .slice Ax lx.length cx] 28)).alloc (.cells #[.int .u8 (k' : Int), .int .i64 n', .string s', .slice Ay ly.length cy] 28)) :=
          (HB.out.alloc HB.out.size _).alloc (by have := HB.out.size; simp; omega) _
        have hwW : Below wo.heap.size wo ((wo.alloc (.cells #[.int .u8 (k : Int), .int .i64 n, .string s, .slice Ax lx.length cx] 28)).alloc (.cells #[.int .u8 (k' : Int), .int .i64 n', .string s', .slice Ay ly.length cy] 28)) :=
          ((Below.refl _ _).alloc (Nat.le_refl _) _).alloc (by simp) _
        have hcall := HP.out l[kk] (List.getElem_mem hlt) l'[kk] (List.getElem_mem hlt') _ _ _ hW ((HV.out.more HB.out.size |>.under hwW).more hwW.size) ((HV'.out.more HB.out.size |>.under hwW).more hwW.size)
        have hst := cmpBy_step cf l l' hlt hlt'
        rw [HA.out] at hst
        obtain ⟨q, hq⟩ : ∃ q, cf l[kk] l'[kk] = q := ⟨_, rfl⟩
        rw [hq] at hcall hst
        have HST := Lib.hid hst; have HC := Lib.hid hcall; have HW := Lib.hid hW
        clear hq hcall hst hW hwW
        by_cases hq0 : q = 0
        · subst hq0
          go_wp2_with (go_at_fn g; refine HC.out.mono ?_; rintro e w' ⟨rfl, hb'⟩; have HB' := Lib.hid (HW.out.trans (hb'.mono HW.out.size)); clear hb')
          go_roundg (l.length + 1 - (kk + 1))
          case measure => have := HG.out; omega
          case rel => exact ⟨kk + 1, by omega, by omega, rfl, by go_num, HB'.out, by have := HST.out; rw [if_neg (by simp)] at this; exact this.symm⟩
        · go_wp2_with (go_at_fn g; refine HC.out.mono ?_; rintro e w' ⟨rfl, hb'⟩; have HB' := Lib.hid (HW.out.trans (hb'.mono HW.out.size)); clear hb')
          go_ret
          exact ⟨by have := HST.out; rw [if_pos hq0] at this; rw [this]; rfl, HB'.out⟩
      · have hltz' : (l'.length : Int) ≤ (kk : Int) := by omega
        have hres : r = 1 := by
          have e1 : l'.drop kk = [] := List.drop_of_length_le (by omega)
          rw [← HA.out, List.drop_eq_getElem_cons hlt, e1]; rfl
        subst hres
        clear ht hv
        go_wp2_with fail
        go_ret
        exact ⟨rfl, HB.out.alloc HB.out.size _⟩
    · have hltz : ¬ (kk : Int) < (l.length : Int) := by omega
      obtain rfl : kk = l.length := by omega
      by_cases hlt' : l.length < l'.length
      · have hltz' : (l.length : Int) < (l'.length : Int) := by omega
        have hres : r = -1 := by
          rw [← HA.out, List.drop_of_length_le (by omega), List.drop_eq_getElem_cons hlt']; rfl
        subst hres
        go_wp2_with fail
        go_ret
        exact ⟨rfl, HB.out⟩
      · have hltz' : ¬ (l.length : Int) < (l'.length : Int) := by omega
        have hres : r = 0 := by
          rw [← HA.out, List.drop_of_length_le (by omega), List.drop_of_length_le (by omega)]; rfl
        subst hres
        go_wp2_with fail
        go_ret
        exact ⟨rfl, HB.out⟩
end Go.Proofs.YtaapppieipfinaaGreatDoor
