/- What a walk over package value wants. -/
import Derived.Test.YtibpebhepoeikaaDoorProg
import Derived.Test.YtibpebhepoeikaaDoorVr
import Derived.WalkKit
import Derived.WalkSpells
import Derived.WalkSmall
import Derived.WalkLawsBesides
import Derived.Deep.DeepCutAuto
import Derived.Deep.LoopGhost
import Derived.Lib.Hide
import Derived.Lib.Strings
import Derived.Below
import Derived.Laws.OwnMore
import Derived.Laws.Rows
import Derived.Deep.AppendLies
import Derived.Deep.Draws
import Derived.Deep.QuietTactic
import Derived.BigQuiet
import Derived.RegionTactic
import Derived.OwnWalk
import Derived.Maps.AppendAt
import Derived.Deep.RegionLaw
import Derived.Shelf.Abstract
import Derived.Shelf.RegionOpen
namespace Go.Proofs.YtibpebhepoeikaaDoor
open Go.RowKit Vp
open Go

theorem any_take {α : Type} (p : α → Bool) (l : List α) : ∀ k, (∀ j (hj : j < l.length), j < k → p l[j] = false) → (l.take k).any p = false := by
  intro k h
  rw [List.any_eq_false]
  intro x hx
  obtain ⟨j, hj, rfl⟩ := List.mem_iff_getElem.1 hx
  rw [List.length_take] at hj
  simp only [List.getElem_take]
  rw [h j (by omega) (by omega)]; simp
theorem any_at {α : Type} (p : α → Bool) (l : List α) {j : Nat} (hj : j < l.length) (h : p l[j] = true) : l.any p = true := List.any_eq_true.2 ⟨_, List.getElem_mem hj, h⟩

/-- What is asked of a predicate on a row's values. -/
def PredOn (w : World) (l : List V) (g : Nat) (lb : Array Value) (p : V → Bool) : Prop :=
  ∀ j (hj : j < l.length) W u, Below w.heap.size w W → VRep W w.heap.size l[j] u → Calls Tryd.prog g (#[u] ++ lb) W fun e w' => e = .returned (.bool (p l[j])) ∧ Below w.heap.size w w'

set_option maxHeartbeats 1000000 in
theorem index_func (l : List V) (A : Option Addr) (c : Nat) (p : V → Bool) (g : Nat) (lb : Array Value) (w : World) (hR : RRep w w.heap.size l A c) (eg : ∀ args w, (callFunc g args).run Tryd.prog w = .ok (.enter g args) w)
    (hp : PredOn w l g lb p) :
    Calls Tryd.prog 53 #[.slice A l.length c, .func (.func g) #[] lb] w fun e w' => (∃ i : Int, e = .returned (.int .i64 i) ∧ decide (0 ≤ i) = l.any p) ∧ Below w.heap.size w w' := by
  have hl := hR.1; have hm := hR.2.1
  have HR := Lib.hid hR; have HP := Lib.hid hp; clear hR hp
  have hmax : maxLen = 9223372036854775807 := rfl
  go_enter Tryd.func53, Tryd.ntmps53
  go_wp2_with fail
  go_loopg [5, 8] (l.length + 1) (fun gg _ s8 wr => ∃ kk : Nat, kk ≤ l.length ∧ gg = l.length + 1 - kk ∧ s8 = .int .i64 (kk : Int) ∧ Below w.heap.size w wr ∧ (∀ j (hj : j < l.length), j < kk → p l[j] = false))
  case atStart => exact ⟨0, Nat.zero_le _, by omega, rfl, Below.refl _ w, fun j _ hj => absurd hj (Nat.not_lt_zero _)⟩
  case round =>
    obtain ⟨kk, hkk, hg, rfl, hB, hA⟩ := hrel
    have HB := Lib.hid hB; have HA := Lib.hid hA; have HG := Lib.hid hg
    clear hB hA hg
    by_cases hlt : kk < l.length
    · have hltz : (kk : Int) < (l.length : Int) := by omega
      obtain ⟨b, off, rfl, hb, k, n, s, l', A', c', ht, hv, c0, c1, c2, c3⟩ := (HR.out.under HB.out).at_ hlt
      have hcall := HP.out kk hlt wr _ HB.out hv
      have HPQ := Lib.hid (rfl : p l[kk] = p l[kk])
      have HT := Lib.hid ht
      clear ht hv
      obtain ⟨q, hq⟩ : ∃ q, p l[kk] = q := ⟨_, rfl⟩
      rw [hq] at hcall
      have HQ := Lib.hid hq
      have HC := Lib.hid hcall
      clear hq hcall HPQ
      cases q with
      | true =>
        go_wp2_with (go_at_fn g; refine HC.out.mono ?_; rintro e w' ⟨rfl, hb'⟩; have HB' := Lib.hid hb'; clear hb')
        go_ret
        exact ⟨⟨(kk : Int), rfl, by rw [any_at p l hlt HQ.out]; simp⟩, HB'.out⟩
      | false =>
        go_wp2_with (go_at_fn g; refine HC.out.mono ?_; rintro e w' ⟨rfl, hb'⟩; have HB' := Lib.hid hb'; clear hb')
        go_roundg (l.length + 1 - (kk + 1))
        case measure => have := HG.out; omega
        case rel =>
          refine ⟨kk + 1, by omega, rfl, by go_num, HB'.out, fun j hj hjk => ?_⟩
          by_cases e : j = kk
          · subst e; exact HQ.out
          · exact HA.out j hj (by omega)
    · have hltz : ¬ (kk : Int) < (l.length : Int) := by omega
      obtain rfl : kk = l.length := by omega
      go_wp2_with fail
      go_ret
      refine ⟨⟨-1, rfl, ?_⟩, HB.out⟩
      have := any_take p l l.length HA.out
      rw [List.take_length] at this
      rw [this]; rfl
set_option maxHeartbeats 1000000 in
theorem contains_func (l : List V) (A : Option Addr) (c : Nat) (p : V → Bool) (g : Nat) (lb : Array Value) (w : World) (hR : RRep w w.heap.size l A c) (eg : ∀ args w, (callFunc g args).run Tryd.prog w = .ok (.enter g args) w)
    (hp : PredOn w l g lb p) :
    Calls Tryd.prog 37 #[.slice A l.length c, .func (.func g) #[] lb] w fun e w' => e = .returned (.bool (l.any p)) ∧ Below w.heap.size w w' := by
  have HC := Lib.hid (index_func l A c p g lb w hR eg hp)
  clear hR hp
  generalize l.any p = q at HC ⊢
  go_enter Tryd.func37, Tryd.ntmps37
  go_wp2_with (go_at_call 53; refine HC.out.mono ?_; rintro e w' ⟨⟨i, rfl, hi⟩, hb'⟩; have HI := Lib.hid hi; have HB := Lib.hid hb'; clear hi hb')
  go_ret
  exact ⟨by rw [← HI.out]; rfl, HB.out⟩

theorem PredOn.of {w : World} {l : List V} {g : Nat} {lb : Array Value} {p : V → Bool}
    (h : ∀ t ∈ l, ∀ W u, Below w.heap.size w W → VRep W W.heap.size t u → Calls Tryd.prog g (#[u] ++ lb) W fun e w' => e = .returned (.bool (p t)) ∧ Below W.heap.size W w') : PredOn w l g lb p :=
  fun _ hj W u hB hv => (h _ (List.getElem_mem hj) W u hB (hv.more hB.size)).mono fun _ _ ⟨he, hB'⟩ => ⟨he, hB.trans (hB'.mono hB.size)⟩

/-- The function in deeper. -/
theorem deeper1_c (lv : Nat) (hlv : lv ≤ 100000) (ih : ∀ (t : V) (u : Value) (w : World), VRep w w.heap.size t u → Calls Tryd.prog 31 #[u, .int .i64 (lv : Int)] w fun e w' => e = .returned (.bool (deeper lv t)) ∧ Below w.heap.size w w')
    (t : V) (u : Value) (w : World) (h : VRep w w.heap.size t u) (B : Nat) (hB : B < w.heap.size) (m : Int) (hm : m = (lv : Int) + 1) (hc : w.cell? ⟨B, 0, none⟩ = some (.int .i64 m)) :
    Calls Tryd.prog 38 #[u, .pointer (some ⟨B, 0, none⟩)] w fun e w' => e = .returned (.bool (deeper lv t)) ∧ Below w.heap.size w w' := by
  have hne : B ≠ w.heap.size := by omega
  have hw : IntKind.i64.wrap (m - 1) = (lv : Int) := by rw [IntWalk.i64_in _ (by omega)]; omega
  obtain ⟨k, n, s, l, A, c, rfl, rfl, hk, hn, hs, hR⟩ := h.open_
  have H := Lib.hid h; have IH := Lib.hid ih; have HM := Lib.hid hm
  clear h ih hR hm
  have hcall := IH.out _ _ (w.alloc (.cells #[.int .u8 (k : Int), .int .i64 n, .string s, .slice A l.length c] 42)) ((H.out.under ((Below.refl _ w).alloc (Nat.le_refl _) _)).more (by simp))
  have HC := Lib.hid hcall
  clear hcall
  generalize deeper lv (.mk k n s l) = q at HC ⊢
  go_enter Tryd.func38, Tryd.ntmps38
  go_wp2_with (go_at_call 31; refine HC.out.mono ?_; rintro e w' ⟨rfl, hb'⟩; have HB' := Lib.hid hb'; clear hb')
  go_ret
  exact ⟨rfl, ((Below.refl _ w).alloc (Nat.le_refl _) _).trans (HB'.out.mono (by simp))⟩
/-- deeper, at any number of levels. -/
theorem deeper_c : ∀ (lv : Nat) (t : V) (u : Value) (w : World), lv ≤ 100000 → VRep w w.heap.size t u →
    Calls Tryd.prog 31 #[u, .int .i64 (lv : Int)] w fun e w' => e = .returned (.bool (deeper lv t)) ∧ Below w.heap.size w w' := by
  intro lv
  induction lv with
  | zero =>
    intro t u w _ h
    obtain ⟨k, n, s, l, A, c, rfl, rfl, hk, hn, hs, hR⟩ := h.open_
    have hd : deeper 0 (.mk k n s l) = true := rfl
    rw [hd]
    clear hR h hd
    go_enter Tryd.func31, Tryd.ntmps31
    go_wp2_with fail
    go_ret
    exact ⟨rfl, ((Below.refl _ _).alloc (Nat.le_refl _) _).alloc (by simp) _⟩
  | succ lv ih =>
    intro t u w hlv h
    obtain ⟨k, n, s, l, A, c, rfl, rfl, hk, hn, hs, hR⟩ := h.open_
    have hd : deeper (lv + 1) (.mk k n s l) = l.any (deeper lv) := rfl
    rw [hd]
    obtain ⟨m, hm⟩ : ∃ m : Int, m = ((lv + 1 : Nat) : Int) := ⟨_, rfl⟩
    rw [← hm]
    have hm0 : ¬ m = 0 := by omega
    have hm1 : m = (lv : Int) + 1 := by omega
    have hBW : Below w.heap.size w ((w.alloc (.cells #[.int .u8 (k : Int), .int .i64 n, .string s, .slice A l.length c] 42)).alloc (.cells #[.int .i64 m] 3)) := ((Below.refl _ _).alloc (Nat.le_refl _) _).alloc (by simp) _
    have hcon := contains_func l A c (deeper lv) 38 #[.pointer (some ⟨w.heap.size + 1, 0, none⟩)] ((w.alloc (.cells #[.int .u8 (k : Int), .int .i64 n, .string s, .slice A l.length c] 42)).alloc (.cells #[.int .i64 m] 3))
      ((hR.under hBW).more hBW.size) (enters_of Tryd.func38 (by kernel_rfl) rfl) (PredOn.of fun t _ W u hb hv => by
        refine deeper1_c lv (by omega) (fun t u w h => ih t u w (by omega) h) t u W hv (w.heap.size + 1) (by have := hb.size; simp at this; omega) m hm1 ?_
        rw [hb.cell (p := ⟨w.heap.size + 1, 0, none⟩) (by simp)]
        simp)
    have HC := Lib.hid hcon; have HB := Lib.hid hBW; have HM := Lib.hid hm
    clear hR h hd hcon hBW hm hm1 ih
    generalize l.any (deeper lv) = q at HC ⊢
    go_enter Tryd.func31, Tryd.ntmps31
    go_wp2_with (go_at_call 37; refine HC.out.mono ?_; rintro e w' ⟨rfl, hb'⟩; have HB' := Lib.hid hb'; clear hb')
    go_ret
    exact ⟨by show Ending.returned (Value.bool (m == 0 || q)) = _; simp [hm0], HB.out.trans (HB'.out.mono HB.out.size)⟩

/-- The function in somewhere. -/
theorem somewhere1_c (gp : FuncId) (pp : V → Bool) (t : V) (ih : ∀ (u : Value) (w : World), VRep w w.heap.size t u → Calls Tryd.prog 32 #[u, .func (.func gp) #[] #[]] w fun e w' => e = .returned (.bool (some_ pp t)) ∧ Below w.heap.size w w')
    (u : Value) (w : World) (h : VRep w w.heap.size t u) (B : Nat) (hB : B < w.heap.size) (hc : w.cell? ⟨B, 0, none⟩ = some (.func (.func gp) #[] #[])) :
    Calls Tryd.prog 39 #[u, .pointer (some ⟨B, 0, none⟩)] w fun e w' => e = .returned (.bool (some_ pp t)) ∧ Below w.heap.size w w' := by
  have hne : B ≠ w.heap.size := by omega
  obtain ⟨k, n, s, l, A, c, rfl, rfl, hk, hn, hs, hR⟩ := h.open_
  have hcall := ih _ (w.alloc (.cells #[.int .u8 (k : Int), .int .i64 n, .string s, .slice A l.length c] 42)) ((h.under ((Below.refl _ w).alloc (Nat.le_refl _) _)).more (by simp))
  have HC := Lib.hid hcall
  clear h ih hR hcall
  generalize some_ pp (.mk k n s l) = q at HC ⊢
  go_enter Tryd.func39, Tryd.ntmps39
  go_wp2_with (go_at_call 32; refine HC.out.mono ?_; rintro e w' ⟨rfl, hb'⟩; have HB' := Lib.hid hb'; clear hb')
  go_ret
  exact ⟨rfl, ((Below.refl _ w).alloc (Nat.le_refl _) _).trans (HB'.out.mono (by simp))⟩
/-- somewhere, of a predicate that is true or false of each value of a tree. -/
theorem somewhere_c (gp : FuncId) (pp nok : V → Bool) (eg : ∀ args w, (callFunc gp args).run Tryd.prog w = .ok (.enter gp args) w)
    (hp : ∀ (t : V) (u : Value) (w : World), nok t = false → VRep w w.heap.size t u → Calls Tryd.prog gp #[u] w fun e w' => e = .returned (.bool (pp t)) ∧ Below w.heap.size w w') :
    ∀ (t : V), some_ nok t = false → ∀ (u : Value) (w : World), VRep w w.heap.size t u →
    Calls Tryd.prog 32 #[u, .func (.func gp) #[] #[]] w fun e w' => e = .returned (.bool (some_ pp t)) ∧ Below w.heap.size w w' := by
  intro t
  induction t using V.ind with
  | h k n s l ih =>
    intro hno u w h
    have hno' := hno
    rw [some_eq, Bool.or_eq_false_iff] at hno'
    obtain ⟨hn0, hnl⟩ := hno'
    replace hnl : l.any (some_ nok) = false := hnl
    rw [List.any_eq_false] at hnl
    obtain ⟨k', n', s', l', A, c, ht, rfl, hk, hn, hs, hR⟩ := h.open_
    injection ht with e1 e2 e3 e4
    subst e1; subst e2; subst e3; subst e4
    obtain ⟨W, hW⟩ : ∃ W, W = (w.alloc (.cells #[.int .u8 (k : Int), .int .i64 n, .string s, .slice A l.length c] 42)).alloc (.cells #[.func (.func gp) #[] #[]] 67) := ⟨_, rfl⟩
    have hBW : Below w.heap.size w W := by rw [hW]; exact ((Below.refl _ _).alloc (Nat.le_refl _) _).alloc (by simp) _
    have hsz : W.heap.size = w.heap.size + 1 + 1 := by rw [hW]; simp
    have hcW : W.cell? ⟨w.heap.size + 1, 0, none⟩ = some (.func (.func gp) #[] #[]) := by rw [hW]; simp
    have hfW : ∀ i, W.cell? ⟨w.heap.size, i, none⟩ = (#[.int .u8 (k : Int), .int .i64 n, .string s, .slice A l.length c] : Array Value)[i]? := by intro i; rw [hW]; simp
    have f0 := hfW 0; have f1 := hfW 1; have f2 := hfW 2; have f3 := hfW 3
    simp at f0 f1 f2 f3
    have hself := hp _ _ W hn0 ((h.under hBW).more hBW.size)
    have hcon : ∀ W', Below W.heap.size W W' → Calls Tryd.prog 37 #[.slice A l.length c, .func (.func 39) #[] #[.pointer (some ⟨w.heap.size + 1, 0, none⟩)]] W' fun e w' => e = .returned (.bool (l.any (some_ pp))) ∧ Below W'.heap.size W' w' := by
      intro W' hb'
      have hBW' := hBW.trans (hb'.mono hBW.size)
      refine contains_func l A c (some_ pp) 39 #[.pointer (some ⟨w.heap.size + 1, 0, none⟩)] W' ((hR.under hBW').more hBW'.size) (enters_of Tryd.func39 (by kernel_rfl) rfl) (PredOn.of fun t ht W2 u hb hv => ?_)
      refine somewhere1_c gp pp t (fun u w hv => ih t ht (by simpa using hnl t ht) u w hv) u W2 hv (w.heap.size + 1) (by have := hb.size; have := hb'.size; omega) ?_
      rw [hb.cell (p := ⟨w.heap.size + 1, 0, none⟩) (by have := hb'.size; show w.heap.size + 1 < W'.heap.size; omega), hb'.cell (p := ⟨w.heap.size + 1, 0, none⟩) (by show w.heap.size + 1 < W.heap.size; omega)]
      exact hcW
    have hres : some_ pp (.mk k n s l) = (pp (.mk k n s l) || l.any (some_ pp)) := some_eq _ _
    rw [hres]
    have HF3 := Lib.hid f3; have hsW : w.heap.size < W.heap.size := by omega
    have HSW := Lib.hid hsW
    have HS := Lib.hid hself; have HC := Lib.hid hcon; have HB := Lib.hid hBW
    clear hself hcon hBW hR h ih hp hno hnl hres hn0 hfW hcW f0 f1 f2 f3 hsz hsW
    subst hW
    generalize l.any (some_ pp) = q at HC ⊢
    generalize pp (.mk k n s l) = r at HS ⊢
    go_enter Tryd.func32, Tryd.ntmps32
    cases r with
    | true =>
      go_wp2_with (go_at_fn gp; refine HS.out.mono ?_; rintro e w1 ⟨rfl, hb1⟩; have HB1 := Lib.hid hb1; clear hb1)
      go_ret
      exact ⟨rfl, HB.out.trans (HB1.out.mono HB.out.size)⟩
    | false =>
      go_wp2_with (first
        | (go_at_fn gp; refine HS.out.mono ?_; rintro e w1 ⟨rfl, hb1⟩; have c3 := (hb1.cell (p := ⟨w.heap.size, 3, none⟩) HSW.out).trans HF3.out; have HB1 := Lib.hid hb1; clear hb1)
        | (go_at_call 37; refine (HC.out _ HB1.out).mono ?_; rintro e w2 ⟨rfl, hb2⟩; have HB2 := Lib.hid hb2; clear hb2))
      go_ret
      exact ⟨rfl, HB.out.trans ((HB1.out.trans (HB2.out.mono HB1.out.size)).mono HB.out.size)⟩
end Go.Proofs.YtibpebhepoeikaaDoor
