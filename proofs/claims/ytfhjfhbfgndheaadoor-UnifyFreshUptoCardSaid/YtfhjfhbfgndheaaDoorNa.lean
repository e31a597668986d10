/- Package unify: walks that only look at a type. -/
import Derived.Test.YtfhjfhbfgndheaaDoorTa
import Derived.Test.YtfhjfhbfgndheaaDoorKp
import Derived.Test.YtfhjfhbfgndheaaDoorVs
import Derived.Test.YtfhjfhbfgndheaaDoorSkw
import Derived.Deep.AppendLies
import Derived.Deep.Draws
import Derived.Deep.QuietTactic
import Derived.BigQuiet
import Derived.RegionTactic
import Derived.OwnWalk
import Derived.Maps.AppendAt
import Derived.Deep.RegionLaw
import Derived.Shelf.Abstract
import Derived.Shelf.RegionOpen
namespace Go.Proofs.YtfhjfhbfgndheaaDoor
open Go.RowKit Go.Shelf
open Go
attribute [local go_sem] Oper.semAt_some

theorem vsize_lenT (s : ByteArray) : s.size = s.data.toList.length := by rw [Array.length_toList]; rfl
theorem lt_of_cell {w : World} {b i : Nat} {x : Value} (h : w.cell? ⟨b, i, none⟩ = some x) : b < w.heap.size := by
  exact block_lt_of_cell h
theorem cell_alloc_n (w : World) (cs : Array Value) (t : TypeId) {b i : Nat} {x : Value} (hb : b = w.heap.size) (h : cs[i]? = some x := by rfl) : (w.alloc (.cells cs t)).cell? ⟨b, i, none⟩ = some x := by
  rw [hb, (Blk.new w t cs).cell, h]
theorem cell_alloc_o (w : World) (o : Obj) (p : Addr) (hb : p.block ≠ w.heap.size) : (w.alloc o).cell? p = w.cell? p := World.cell?_alloc_old _ _ _ hb
theorem cell_of_block {w w' : World} {b : Nat} (h : w'.heap[b]? = w.heap[b]?) (i : Nat) : w'.cell? ⟨b, i, none⟩ = w.cell? ⟨b, i, none⟩ := by
  simp only [World.cell?, h]
/-- A name that begins with '. -/
def pfx (n : ByteArray) : Bool := Lib.hasPrefix n.data.toList [39]
def isVarT (t : Ty) : Bool := pfx t.name && decide (1 < t.name.size) && decide (t.args.length = 0)
def isTypeT (t : Ty) : Bool := isVarT t || (!decide (t.name.size = 0) && !pfx t.name)
theorem pfx_c (n : ByteArray) (w : World) : Calls Tryd.prog 31 #[.string n, .string { data := #[39] }] w fun e w' => e = .returned (.bool (pfx n)) ∧ w' = w := Tryd.strings_HasPrefix n { data := #[39] } w
theorem isVar_c (n : ByteArray) (a : Value) (i : Value) (w : World) :
    Calls Tryd.prog 46 #[.agg #[.string n, a, i]] w fun e w' => e = .returned (.bool (pfx n)) ∧ Below w.heap.size w w' := by
  have HP := fun w => pfx_c n w
  generalize pfx n = q at HP ⊢
  have HP := Lib.hid HP
  go_enter Tryd.func46, Tryd.ntmps46
  go_wp2_with (go_at_call 31; refine (HP.out _).mono ?_; rintro e w' ⟨rfl, rfl⟩)
  go_ret
  exact ⟨rfl, (Below.refl _ _).alloc (Nat.le_refl _) _⟩
theorem tIsVar_c (t : Ty) (u : Value) (w : World) (h : TyRep w w.heap.size t u) :
    Calls Tryd.prog 14 #[u] w fun e w' => e = .returned (.bool (isVarT t)) ∧ Below w.heap.size w w' := by
  obtain ⟨A, c, rfl, hn, hr⟩ := h
  obtain ⟨n, a⟩ := t
  have HP := fun w => pfx_c n w
  unfold isVarT
  simp only [Ty.name, Ty.args] at hn hr ⊢
  generalize pfx n = q at HP ⊢
  have HP := Lib.hid HP
  have hl := hr.len
  clear hr
  cases q with
  | false =>
    go_enter Tryd.func14, Tryd.ntmps14
    go_wp2_with (go_at_call 31; refine (HP.out _).mono ?_; rintro e w' ⟨rfl, rfl⟩)
    go_ret
    exact ⟨rfl, (Below.refl _ _).alloc (Nat.le_refl _) _⟩
  | true =>
    by_cases h1 : 1 < n.size
    · go_enter Tryd.func14, Tryd.ntmps14
      go_wp2_with (go_at_call 31; refine (HP.out _).mono ?_; rintro e w' ⟨rfl, rfl⟩)
      go_ret
      refine ⟨?_, (Below.refl _ _).alloc (Nat.le_refl _) _⟩
      show Ending.returned (Value.bool (decide ((a.length : Int) = 0))) = _
      simp [h1]
    · go_enter Tryd.func14, Tryd.ntmps14
      go_wp2_with (go_at_call 31; refine (HP.out _).mono ?_; rintro e w' ⟨rfl, rfl⟩)
      go_ret
      refine ⟨?_, (Below.refl _ _).alloc (Nat.le_refl _) _⟩
      simp
theorem isType_c (t : Ty) (u : Value) (w : World) (h : TyRep w w.heap.size t u) :
    Calls Tryd.prog 33 #[u] w fun e w' => e = .returned (.bool (isTypeT t)) ∧ Below w.heap.size w w' := by
  have HV := fun W (hb : Below w.heap.size w W) => tIsVar_c t u W ((h.under hb).more hb.size)
  obtain ⟨A, c, rfl, hn, hr⟩ := h
  obtain ⟨n, a⟩ := t
  have HP := fun w => pfx_c n w
  unfold isTypeT
  simp only [Ty.name, Ty.args] at hn hr HV ⊢
  have hbb := HV _ ((Below.refl _ _).alloc (Nat.le_refl _) (.cells #[.string n, .slice A a.length c] 36))
  clear HV
  generalize isVarT (.mk n a) = v at hbb ⊢
  generalize pfx n = q at HP ⊢
  have HP := Lib.hid HP
  have HV := Lib.hid hbb
  clear hr hbb
  cases v with
  | true =>
    go_enter Tryd.func33, Tryd.ntmps33
    go_wp2_with (go_at_call 14; refine HV.out.mono ?_; rintro e w' ⟨rfl, hb⟩; have HB := Lib.hid hb; clear hb)
    go_ret
    exact ⟨rfl, ((Below.refl _ _).alloc (Nat.le_refl _) _).trans (HB.out.mono (by simp))⟩
  | false =>
    by_cases h1 : n.size = 0
    · have h0 : n = { data := #[] } := by
        obtain ⟨d⟩ := n
        have : d = #[] := Array.eq_empty_of_size_eq_zero h1
        rw [this]
      subst h0
      go_enter Tryd.func33, Tryd.ntmps33
      go_wp2_with (go_at_call 14; refine HV.out.mono ?_; rintro e w' ⟨rfl, hb⟩; have HB := Lib.hid hb; have hcell := hb.cell (p := ⟨w.heap.size, 0, none⟩) (by simp); simp at hcell; clear hb)
      go_ret
      refine ⟨?_, ((Below.refl _ _).alloc (Nat.le_refl _) _).trans (HB.out.mono (by simp))⟩
      show Ending.returned (Value.bool false) = _
      have : (({ data := #[] } : ByteArray).size = 0) := rfl
      simp [this]
    · have h0 : ¬ n = { data := #[] } := fun e => h1 (by rw [e]; rfl)
      have hd : ¬ n.toList = [] := by rw [Lib.toList_data]; exact fun e => h1 (by rw [vsize_lenT, e]; rfl)
      go_enter Tryd.func33, Tryd.ntmps33
      go_wp2_with first
        | (go_at_call 14; refine HV.out.mono ?_; rintro e w' ⟨rfl, hb⟩; have HB := Lib.hid hb; have hcell := hb.cell (p := ⟨w.heap.size, 0, none⟩) (by simp); simp at hcell; clear hb)
        | (go_at_call 31; refine (HP.out _).mono ?_; rintro e w' ⟨rfl, rfl⟩)
      go_ret
      refine ⟨?_, ((Below.refl _ _).alloc (Nat.le_refl _) _).trans (HB.out.mono (by simp))⟩
      simp [h1, hd]

/-! ### All of a list, a state being passed on -/
def scan {σ : Type} (f : σ → Ty → Bool × σ) : σ → List Ty → Bool × σ
  | s, [] => (true, s)
  | s, t :: l => match f s t with
    | (true, s') => scan f s' l
    | (false, s') => (false, s')
set_option maxHeartbeats 1000000 in
theorem index_scan {σ : Type} (f : σ → Ty → Bool × σ) (I E : σ → World → Prop) (B : Nat) (l : List Ty) (A : Option Addr) (c : Nat) (g : Nat) (lb : Array Value) (hI : ∀ s W, I s W → LRep W B l A c) (eg : ∀ args w, (callFunc g args).run Tryd.prog w = .ok (.enter g args) w)
    (hp : ∀ t ∈ l, ∀ s W u, I s W → TyRep W B t u → Calls Tryd.prog g (#[u] ++ lb) W fun e w' => e = .returned (.bool (!(f s t).1)) ∧ ((f s t).1 = true → I (f s t).2 w') ∧ ((f s t).1 = false → E (f s t).2 w')) (s0 : σ) (w : World) (h0 : I s0 w) :
    Calls Tryd.prog 53 #[.slice A l.length c, .func (.func g) #[] lb] w fun e w' => (∃ i : Int, e = .returned (.int .i64 i) ∧ decide (0 ≤ i) = !(scan f s0 l).1) ∧ ((scan f s0 l).1 = true → I (scan f s0 l).2 w') ∧ ((scan f s0 l).1 = false → E (scan f s0 l).2 w') := by
  have hl := (hI _ _ h0).len.1; have hm := (hI _ _ h0).len.2
  have HP := Lib.hid hp; have HI := Lib.hid hI; have H0 := Lib.hid h0; clear hp hI h0
  have hmax : maxLen = 9223372036854775807 := rfl
  go_enter Tryd.func53, Tryd.ntmps53
  go_wp2_with fail
  go_loopg [5, 8] (l.length + 1) (fun gg _ s8 wr => ∃ (kk : Nat) (s : σ), kk ≤ l.length ∧ gg = l.length + 1 - kk ∧ s8 = .int .i64 (kk : Int) ∧ I s wr ∧ scan f s0 l = scan f s (l.drop kk))
  case atStart => exact ⟨0, s0, Nat.zero_le _, by omega, rfl, H0.out, rfl⟩
  case round =>
    obtain ⟨kk, s, hkk, hg, rfl, hB, hA⟩ := hrel
    have HA := Lib.hid hA; have HG := Lib.hid hg
    by_cases hlt : kk < l.length
    · have hltz : (kk : Int) < (l.length : Int) := by omega
      obtain ⟨b, off, rfl, hb, n, a, A', c', ht, hn, hv, c0, c1⟩ := (HI.out _ _ hB).at_ hlt
      have hcall := HP.out l[kk] (List.getElem_mem hlt) s wr (.agg #[.string n, .slice A' a.length c']) hB (by rw [ht]; exact ⟨A', c', rfl, hn, hv⟩)
      have hdr : l.drop kk = l[kk] :: l.drop (kk + 1) := List.drop_eq_getElem_cons hlt
      rw [hdr] at hA
      obtain ⟨⟨q, s'⟩, hq⟩ : ∃ q, f s l[kk] = q := ⟨_, rfl⟩
      rw [scan, hq] at hA
      rw [hq] at hcall
      have HT := Lib.hid ht
      have HC := Lib.hid hcall
      have HA2 := Lib.hid hA
      clear hq hcall hA hdr ht hv hg hB
      cases q with
      | false =>
        go_wp2_with (go_at_fn g; refine HC.out.mono ?_; rintro e w' ⟨rfl, hb'⟩; have HB' := Lib.hid hb'; clear hb')
        go_ret
        rw [HA2.out]
        exact ⟨⟨(kk : Int), rfl, by simp⟩, fun h => by simp at h, fun _ => HB'.out.2 trivial⟩
      | true =>
        go_wp2_with (go_at_fn g; refine HC.out.mono ?_; rintro e w' ⟨rfl, hb'⟩; have HB' := Lib.hid hb'; clear hb')
        go_roundg (l.length + 1 - (kk + 1))
        case measure => have := HG.out; omega
        case rel => exact ⟨kk + 1, s', by omega, rfl, by go_num, HB'.out.1 trivial, HA2.out⟩
    · have hltz : ¬ (kk : Int) < (l.length : Int) := by omega
      obtain rfl : kk = l.length := by omega
      have HB := Lib.hid hB
      clear hB hA hg
      go_wp2_with fail
      go_ret
      rw [HA.out, List.drop_length, scan]
      exact ⟨⟨-1, rfl, rfl⟩, fun _ => HB.out, fun h => by cases h⟩
set_option maxHeartbeats 1000000 in
theorem contains_scan {σ : Type} (f : σ → Ty → Bool × σ) (I E : σ → World → Prop) (B : Nat) (l : List Ty) (A : Option Addr) (c : Nat) (g : Nat) (lb : Array Value) (hI : ∀ s W, I s W → LRep W B l A c) (eg : ∀ args w, (callFunc g args).run Tryd.prog w = .ok (.enter g args) w)
    (hp : ∀ t ∈ l, ∀ s W u, I s W → TyRep W B t u → Calls Tryd.prog g (#[u] ++ lb) W fun e w' => e = .returned (.bool (!(f s t).1)) ∧ ((f s t).1 = true → I (f s t).2 w') ∧ ((f s t).1 = false → E (f s t).2 w')) (s0 : σ) (w : World) (h0 : I s0 w) :
    Calls Tryd.prog 34 #[.slice A l.length c, .func (.func g) #[] lb] w fun e w' => e = .returned (.bool (!(scan f s0 l).1)) ∧ ((scan f s0 l).1 = true → I (scan f s0 l).2 w') ∧ ((scan f s0 l).1 = false → E (scan f s0 l).2 w') := by
  have HC := Lib.hid (index_scan f I E B l A c g lb hI eg hp s0 w h0)
  clear hI hp h0
  generalize scan f s0 l = q at HC ⊢
  go_enter Tryd.func34, Tryd.ntmps34
  go_wp2_with (go_at_call 53; refine HC.out.mono ?_; rintro e w' ⟨⟨i, rfl, hi⟩, hb'⟩; have HI := Lib.hid hi; have HB := Lib.hid hb'; clear hi hb')
  go_ret
  exact ⟨by rw [← HI.out]; rfl, HB.out⟩
/-! ### How many parts, how deep -/
/-- fits, as it counts. -/
def fitsM : Nat → Int → Ty → Bool × Int
  | 0, p, _ => (false, p - 1)
  | lv + 1, p, t => if 0 ≤ p - 1 then scan (fitsM lv) (p - 1) t.args else (false, p - 1)
theorem scan_le {f : Int → Ty → Bool × Int} (h : ∀ p t, (f p t).2 ≤ p ∧ -1 ≤ (f p t).2 ∨ p < 0) (h' : ∀ p t, 0 ≤ p → (f p t).1 = true → 0 ≤ (f p t).2) : ∀ (l : List Ty) (p : Int), 0 ≤ p → (scan f p l).2 ≤ p ∧ -1 ≤ (scan f p l).2 ∧ ((scan f p l).1 = true → 0 ≤ (scan f p l).2)
  | [], p, hp => by simp [scan]; omega
  | t :: l, p, hp => by
    have h1 := h p t
    have h2 := h' p t hp
    rw [scan]
    obtain ⟨⟨q, s⟩, hq⟩ : ∃ q, f p t = q := ⟨_, rfl⟩
    rw [hq] at h1 h2 ⊢
    cases q with
    | false => simp at h1 ⊢; omega
    | true =>
      simp at h1 h2 ⊢
      have := scan_le h h' l s h2
      exact ⟨by omega, by omega, this.2.2⟩
theorem fitsM_le : ∀ (lv : Nat) (p : Int) (t : Ty), ((fitsM lv p t).2 ≤ p ∧ -1 ≤ (fitsM lv p t).2 ∨ p < 0) ∧ (0 ≤ p → (fitsM lv p t).1 = true → 0 ≤ (fitsM lv p t).2)
  | 0, p, t => by simp [fitsM]; omega
  | lv + 1, p, t => by
    rw [fitsM]
    by_cases h : 0 ≤ p - 1
    · rw [if_pos h]
      have := scan_le (fun p t => (fitsM_le lv p t).1) (fun p t => (fitsM_le lv p t).2) t.args (p - 1) h
      exact ⟨by omega, fun _ => this.2.2⟩
    · rw [if_neg h]; simp; omega
theorem fits1_c (lv : Nat) (hlv : lv ≤ 100000) (pb B b1 b2 : Nat) (ih : ∀ (t : Ty) (u : Value) (p : Int) (w : World), 0 ≤ p → p ≤ 1000000000 → TyRep w B t u → Blk w pb 3 #[.int .i64 p] → Calls Tryd.prog 32 #[u, .pointer (some ⟨pb, 0, none⟩), .int .i64 (lv : Int)] w fun e w' => e = .returned (.bool (fitsM lv p t).1) ∧ Blk w' pb 3 #[.int .i64 (fitsM lv p t).2] ∧ Keep (fun b => b = pb) w w')
    (t : Ty) (u : Value) (p : Int) (w : World) (hp0 : 0 ≤ p) (hp : p ≤ 1000000000) (h : TyRep w B t u) (hc : Blk w pb 3 #[.int .i64 p]) (hB : B ≤ w.heap.size) (m : Int) (hm : m = (lv : Int) + 1)
    (h1 : w.cell? ⟨b1, 0, none⟩ = some (.pointer (some ⟨pb, 0, none⟩))) (h2 : w.cell? ⟨b2, 0, none⟩ = some (.int .i64 m)) :
    Calls Tryd.prog 52 #[u, .pointer (some ⟨b1, 0, none⟩), .pointer (some ⟨b2, 0, none⟩)] w fun e w' => e = .returned (.bool (!(fitsM lv p t).1)) ∧ Blk w' pb 3 #[.int .i64 (fitsM lv p t).2] ∧ Keep (fun b => b = pb) w w' := by
  have hw : IntKind.i64.wrap (m - 1) = (lv : Int) := by rw [IntWalk.i64_in _ (by omega)]; omega
  have l1 := lt_of_cell h1; have l2 := lt_of_cell h2
  obtain ⟨A, c, rfl, hn, hR⟩ := h
  obtain ⟨n, a⟩ := t
  simp only [Ty.name, Ty.args] at hn hR ⊢
  have n1 : b1 ≠ w.heap.size := by omega
  have n2 : b2 ≠ w.heap.size := by omega
  have hcall := ih (.mk n a) _ p (w.alloc (.cells #[.string n, .slice A a.length c] 36)) hp0 hp ⟨A, c, rfl, hn, hR.under ((Below.refl _ w).alloc hB _)⟩ (hc.alloc _)
  simp only [Ty.name, Ty.args] at hcall
  have HC := Lib.hid hcall; have HM := Lib.hid hm
  clear hR ih hcall hm hc
  obtain ⟨q, hq⟩ : ∃ q, fitsM lv p (.mk n a) = q := ⟨_, rfl⟩
  rw [hq] at HC ⊢
  clear hq
  go_enter Tryd.func52, Tryd.ntmps52
  go_wp2_with (go_at_call 32; refine HC.out.mono ?_; rintro e w' ⟨rfl, hb, hk⟩; have HB := Lib.hid hb; have HK := Lib.hid hk; clear hb hk)
  go_ret
  exact ⟨rfl, HB.out, (Keep.of_new ((Below.refl _ _).alloc (Nat.le_refl _) _)).trans HK.out fun x _ h => h⟩
set_option maxHeartbeats 1000000 in
/-- fits: what it tells, how many parts are left. -/
theorem fits_c : ∀ (lv : Nat), lv ≤ 100000 → ∀ (pb B : Nat), B ≤ pb → ∀ (t : Ty) (u : Value) (p : Int) (w : World), -1000000000 ≤ p → p ≤ 1000000000 → TyRep w B t u → Blk w pb 3 #[.int .i64 p] →
    Calls Tryd.prog 32 #[u, .pointer (some ⟨pb, 0, none⟩), .int .i64 (lv : Int)] w fun e w' => e = .returned (.bool (fitsM lv p t).1) ∧ Blk w' pb 3 #[.int .i64 (fitsM lv p t).2] ∧ Keep (fun b => b = pb) w w' := by
  intro lv
  induction lv with
  | zero =>
    intro _ pb B hpb t u p w hp0 hp h hc
    have hw : IntKind.i64.wrap (p - 1) = p - 1 := IntWalk.i64_in _ (by omega)
    obtain ⟨A, c, rfl, hn, hR⟩ := h
    obtain ⟨n, a⟩ := t
    simp only [Ty.name, Ty.args] at hn hR ⊢
    have hl := hc.lt
    have n1 : pb ≠ w.heap.size := by omega
    have n2 : pb ≠ w.heap.size + 1 := by omega
    have n3 : pb ≠ w.heap.size + 2 := by omega
    rw [fitsM]
    obtain ⟨W, hW⟩ : ∃ W, W = ((w.alloc (.cells #[.string n, .slice A a.length c] 36)).alloc (.cells #[.pointer (some ⟨pb, 0, none⟩)] 69)).alloc (.cells #[.int .i64 0] 3) := ⟨_, rfl⟩
    have c0 := hc.cell 0
    simp at c0
    have hcW : Blk W pb 3 #[.int .i64 p] := by rw [hW]; exact ((hc.alloc _).alloc _).alloc _
    have hkW : Keep (fun b => b = pb) w W := by rw [hW]; exact Keep.of_new ((((Below.refl _ w).alloc (Nat.le_refl _) _).alloc (by simp) _).alloc (by simp; omega) _)
    have d1 := hcW.cell 0
    have d2 := hcW.frozen 0
    rw [hW] at d1 d2
    simp at d1
    have HC := Lib.hid (hcW.set_ 0 (.int .i64 (p - 1)))
    have HK := Lib.hid (hkW.set ⟨pb, 0, none⟩ rfl (.int .i64 (p - 1)))
    clear hR hcW hkW hc
    rcases Int.lt_or_le (p - 1) 0 with h0 | h0
    · go_enter Tryd.func32, Tryd.ntmps32
      go_wp2_with fail
      go_ret
      subst hW
      exact ⟨rfl, HC.out, HK.out⟩
    · go_enter Tryd.func32, Tryd.ntmps32
      go_wp2_with fail
      go_ret
      subst hW
      exact ⟨rfl, HC.out, HK.out⟩
  | succ lv ih =>
    intro hlv pb B hpb t u p w hp0 hp h hc
    have hw : IntKind.i64.wrap (p - 1) = p - 1 := IntWalk.i64_in _ (by omega)
    have hu := h
    obtain ⟨A, c, rfl, hn, hR⟩ := h
    obtain ⟨n, a⟩ := t
    simp only [Ty.name, Ty.args] at hn hR hu ⊢
    have hl := hc.lt
    obtain ⟨m, hm⟩ : ∃ m : Int, m = ((lv + 1 : Nat) : Int) := ⟨_, rfl⟩
    rw [← hm]
    have hm1 : m = (lv : Int) + 1 := by omega
    have hm2 : 0 < m := by omega
    have n1 : pb ≠ w.heap.size := by omega
    have n2 : pb ≠ w.heap.size + 1 := by omega
    have n3 : pb ≠ w.heap.size + 2 := by omega
    rw [fitsM]
    obtain ⟨W, hW⟩ : ∃ W, W = (((w.alloc (.cells #[.string n, .slice A a.length c] 36)).alloc (.cells #[.pointer (some ⟨pb, 0, none⟩)] 69)).alloc (.cells #[.int .i64 m] 3)) := ⟨_, rfl⟩
    have c0 := hc.cell 0
    simp at c0
    have hbW : Below w.heap.size w W := by rw [hW]; exact (((Below.refl _ w).alloc (Nat.le_refl _) _).alloc (by simp) _).alloc (by simp; omega) _
    have hsz : W.heap.size = w.heap.size + 3 := by rw [hW]; simp
    have hcW : Blk W pb 3 #[.int .i64 p] := by rw [hW]; exact ((hc.alloc _).alloc _).alloc _
    have w1 : W.cell? ⟨w.heap.size + 1, 0, none⟩ = some (.pointer (some ⟨pb, 0, none⟩)) := by rw [hW]; exact (cell_alloc_o _ _ _ (by simp)).trans (cell_alloc_n _ _ _ (by simp))
    have w2 : W.cell? ⟨w.heap.size + 2, 0, none⟩ = some (.int .i64 m) := by rw [hW]; exact cell_alloc_n _ _ _ (by simp)
    have hkW : Keep (fun b => b = pb) w W := Keep.of_new hbW
    have d1 := hcW.cell 0
    have d2 := hcW.frozen 0
    rw [hW] at d1 d2
    simp at d1
    have hcS := hcW.set_ 0 (.int .i64 (p - 1))
    have hkS := hkW.set ⟨pb, 0, none⟩ rfl (.int .i64 (p - 1))
    have hkS2 : Keep (fun b => b = pb) W (W.setCell ⟨pb, 0, none⟩ (.int .i64 (p - 1))) := (Keep.refl (fun b => b = pb) W).set ⟨pb, 0, none⟩ rfl _
    rcases Int.lt_or_le (p - 1) 0 with h0 | h0
    · rw [if_neg (by omega)]
      have HC := Lib.hid hcS
      have HK := Lib.hid hkS
      clear hR hcW hkW hc hu ih hcS hkS hkS2 hbW w1 w2 hm hm1
      go_enter Tryd.func32, Tryd.ntmps32
      go_wp2_with fail
      go_ret
      subst hW
      exact ⟨rfl, HC.out, HK.out⟩
    · rw [if_pos h0]
      have hcon := contains_scan (fitsM lv) (fun p' W' => Blk W' pb 3 #[.int .i64 p'] ∧ Keep (fun b => b = pb) W W' ∧ 0 ≤ p' ∧ p' ≤ 1000000000) (fun p' W' => Blk W' pb 3 #[.int .i64 p'] ∧ Keep (fun b => b = pb) W W') B a A c 52 #[.pointer (some ⟨w.heap.size + 1, 0, none⟩), .pointer (some ⟨w.heap.size + 2, 0, none⟩)]
        (fun s W' h => (hR.under (hbW.mono (by omega))).under (h.2.1.below (fun x hx e => by omega) (by omega))) (enters_of Tryd.func52 (by kernel_rfl) rfl) (fun t ht s W' u h hv => by
          have hb' : Below pb W W' := h.2.1.below (fun x hx e => by omega) (by omega)
          have e1 : W'.cell? ⟨w.heap.size + 1, 0, none⟩ = some (.pointer (some ⟨pb, 0, none⟩)) := (cell_of_block (h.2.1.block (w.heap.size + 1) (by omega) (by omega)) 0).trans w1
          have e2 : W'.cell? ⟨w.heap.size + 2, 0, none⟩ = some (.int .i64 m) := (cell_of_block (h.2.1.block (w.heap.size + 2) (by omega) (by omega)) 0).trans w2
          refine (fits1_c lv (by omega) pb B (w.heap.size + 1) (w.heap.size + 2) (fun t u p w h1 h2 h3 h4 => ih (by omega) pb B hpb t u p w (by omega) h2 h3 h4) t u s W' h.2.2.1 h.2.2.2 hv h.1 (by have := h.2.1.size; omega) m hm1 e1 e2).mono ?_
          rintro e w' ⟨rfl, q1, q2⟩
          have hle := fitsM_le lv s t
          refine ⟨rfl, fun hq => ⟨q1, h.2.1.trans q2 fun x _ h => h, hle.2 h.2.2.1 hq, ?_⟩, fun _ => ⟨q1, h.2.1.trans q2 fun x _ h => h⟩⟩
          have := h.2.2
          omega) (p - 1) (W.setCell ⟨pb, 0, none⟩ (.int .i64 (p - 1))) ⟨by simpa using hcS, hkS2, h0, by omega⟩
      rw [hW] at hcon
      have HCON := Lib.hid hcon
      have HKW := Lib.hid hkW
      clear hcon hR hcW hc hu ih hcS hkS hkS2 hbW w1 w2 hm hm1 hkW
      obtain ⟨q, hq⟩ : ∃ q, scan (fitsM lv) (p - 1) a = q := ⟨_, rfl⟩
      simp only [Ty.args]
      rw [hq] at HCON ⊢
      clear hq
      go_enter Tryd.func32, Tryd.ntmps32
      go_wp2_with (go_at_call 34; refine HCON.out.mono ?_; rintro e w' ⟨rfl, hb, hk⟩; have HB := Lib.hid hb; have HK := Lib.hid hk; clear hb hk)
      go_ret
      rw [← hW] at HB HK
      obtain ⟨q1, q2⟩ := q
      cases q1 with
      | true => exact ⟨rfl, (HB.out rfl).1, HKW.out.trans (HB.out rfl).2.1 fun x _ h => h⟩
      | false => exact ⟨rfl, (HK.out rfl).1, HKW.out.trans (HK.out rfl).2 fun x _ h => h⟩
/-! ### All parts -/
/-- allParts of a type of at most k levels, a state being passed on. -/
def allPM {σ : Type} (st : σ → Ty → Bool × σ) : Nat → σ → Ty → Bool × σ
  | 0, s, _ => (true, s)
  | k + 1, s, t => match st s t with
    | (true, s') => scan (allPM st k) s' t.args
    | (false, s') => (false, s')
def deepLe : Nat → Ty → Prop
  | 0, _ => False
  | k + 1, t => ∀ a ∈ t.args, deepLe k a
theorem scan_split {σ : Type} {f : σ → Ty → Bool × σ} : ∀ {l : List Ty} {s : σ}, (scan f s l).1 = true → ∀ t ∈ l, ∃ s', (f s' t).1 = true
  | [], _, _, t, ht => by simp at ht
  | t :: l, s, h, t', ht => by
    rw [scan] at h
    obtain ⟨⟨q, s'⟩, hq⟩ : ∃ q, f s t = q := ⟨_, rfl⟩
    rw [hq] at h
    cases q with
    | false => simp at h
    | true =>
      rcases List.mem_cons.1 ht with e | e
      · exact ⟨s, by rw [e, hq]⟩
      · exact scan_split h t' e
theorem fitsM_deep : ∀ (lv : Nat) (p : Int) (t : Ty), (fitsM lv p t).1 = true → deepLe lv t
  | 0, p, t, h => by simp [fitsM] at h
  | lv + 1, p, t, h => fun a ha => by
    rw [fitsM] at h
    split at h
    · obtain ⟨s', hs⟩ := scan_split h a ha
      exact fitsM_deep lv s' a hs
    · cases h
/-- A state in memory: which blocks it leaves as they are may be more, when new memory is made, or fewer. -/
structure Frame {σ : Type} (I : (Nat → Prop) → σ → World → Prop) : Prop where
  mono : ∀ (X X' : Nat → Prop) s W, I X' s W → (∀ b, X b → X' b) → I X s W
  more : ∀ X s W W', I X s W → Below W.heap.size W W' → I (fun b => X b ∨ (W.heap.size ≤ b ∧ b < W'.heap.size)) s W'
/-- What a function that passes on a state tells. -/
def Passes {σ : Type} (I : (Nat → Prop) → σ → World → Prop) (X : Nat → Prop) (neg : Bool) (r : Bool × σ) (w : World) (e : Ending) (w' : World) : Prop :=
  e = .returned (.bool (neg ^^ r.1)) ∧ I X r.2 w' ∧ Keep (fun b => ¬ X b) w w'
theorem keep_X {X X' : Nat → Prop} {w W w' : World} (hb : Below w.heap.size w W) (k : Keep (fun b => ¬ X' b) W w') (h : ∀ b, X b → X' b) : Keep (fun b => ¬ X b) w w' :=
  (Keep.of_new hb).trans k fun _ _ hn hx => hn (h _ hx)
theorem allParts1_c {σ : Type} (st : σ → Ty → Bool × σ) (k : Nat) (I : (Nat → Prop) → σ → World → Prop) (hF : Frame I) (B b1 : Nat) (fv : Value)
    (t : Ty) (ih : ∀ (X : Nat → Prop) (s : σ) (W : World) (u : Value), I X s W → (∀ b, b < B → X b) → B ≤ W.heap.size → TyRep W B t u → Calls Tryd.prog 25 #[u, fv] W (Passes I X false (allPM st k s t) W))
    (X : Nat → Prop) (s : σ) (w : World) (u : Value) (h0 : I X s w) (hX : ∀ b, b < B → X b) (hB : B ≤ w.heap.size) (h : TyRep w B t u) (hc : w.cell? ⟨b1, 0, none⟩ = some fv) :
    Calls Tryd.prog 43 #[u, .pointer (some ⟨b1, 0, none⟩)] w (Passes I X true (allPM st k s t) w) := by
  have l1 := lt_of_cell hc
  have n1 : b1 ≠ w.heap.size := by omega
  obtain ⟨A, c, rfl, hn, hR⟩ := h
  have hbw : Below w.heap.size w (w.alloc (.cells #[.string t.name, .slice A t.args.length c] 36)) := (Below.refl _ w).alloc (Nat.le_refl _) _
  have HC := Lib.hid (ih _ s _ (.agg #[.string t.name, .slice A t.args.length c]) (hF.more _ _ _ _ h0 hbw) (fun b hb => .inl (hX b hb)) (by simp; omega) ⟨A, c, rfl, hn, hR.under (hbw.mono hB)⟩)
  have HF := Lib.hid hF
  have HBW := Lib.hid hbw
  clear hR ih hF h0 hbw hX
  obtain ⟨q, hq⟩ : ∃ q, allPM st k s t = q := ⟨_, rfl⟩
  rw [hq] at HC ⊢
  clear hq
  go_enter Tryd.func43, Tryd.ntmps43
  go_wp2_with (go_at_call 25; refine HC.out.mono ?_; rintro e w' ⟨rfl, hb, hk⟩; have HB := Lib.hid hb; have HK := Lib.hid hk; clear hb hk)
  go_ret
  exact ⟨by obtain ⟨q1, q2⟩ := q; cases q1 <;> rfl, HF.out.mono _ _ _ _ HB.out fun b h => .inl h, keep_X HBW.out HK.out fun b h => .inl h⟩
set_option maxHeartbeats 1000000 in
/-- allParts, of a function that passes on a state in memory. -/
theorem allParts_c {σ : Type} (st : σ → Ty → Bool × σ) (I : (Nat → Prop) → σ → World → Prop) (hF : Frame I) (B : Nat) (g : Nat) (lb : Array Value)
    (eg : ∀ args w, (callFunc g args).run Tryd.prog w = .ok (.enter g args) w)
    (Q : Ty → Prop) (hQ : ∀ t, Q t → ∀ a ∈ t.args, Q a) (hp : ∀ X t s W u, Q t → I X s W → (∀ b, b < B → X b) → B ≤ W.heap.size → TyRep W B t u → Calls Tryd.prog g (#[u] ++ lb) W (Passes I X false (st s t) W)) :
    ∀ (k : Nat) (t : Ty), deepLe k t → Q t → ∀ (X : Nat → Prop) (s : σ) (w : World) (u : Value), I X s w → (∀ b, b < B → X b) → B ≤ w.heap.size → TyRep w B t u → Calls Tryd.prog 25 #[u, .func (.func g) #[] lb] w (Passes I X false (allPM st k s t) w) := by
  intro k
  induction k with
  | zero => intro t h; exact absurd h id
  | succ k ih =>
    intro t hd hq0 X s w u h0 hX hB h
    have hu := h
    obtain ⟨A, c, rfl, hn, hR⟩ := h
    have hqa := hQ _ hq0
    obtain ⟨n, a⟩ := t
    simp only [Ty.args] at hqa
    simp only [Ty.name, Ty.args] at hn hR hu ⊢
    obtain ⟨W, hW⟩ : ∃ W, W = (w.alloc (.cells #[.string n, .slice A a.length c] 36)).alloc (.cells #[.func (.func g) #[] lb] 40) := ⟨_, rfl⟩
    have hbW : Below w.heap.size w W := by rw [hW]; exact ((Below.refl _ w).alloc (Nat.le_refl _) _).alloc (by simp) _
    have hsz : W.heap.size = w.heap.size + 2 := by rw [hW]; simp
    have w0 : W.cell? ⟨w.heap.size, 0, none⟩ = some (.string n) := by rw [hW]; exact (cell_alloc_o _ _ _ (by simp)).trans (cell_alloc_n _ _ _ (by simp))
    have w0' : W.cell? ⟨w.heap.size, 1, none⟩ = some (.slice A a.length c) := by rw [hW]; exact (cell_alloc_o _ _ _ (by simp)).trans (cell_alloc_n _ _ _ (by simp))
    have w1 : W.cell? ⟨w.heap.size + 1, 0, none⟩ = some (.func (.func g) #[] lb) := by rw [hW]; exact cell_alloc_n _ _ _ (by simp)
    obtain ⟨X1, hX1⟩ : ∃ X1, X1 = fun b => X b ∨ (w.heap.size ≤ b ∧ b < W.heap.size) := ⟨_, rfl⟩
    have hIW : I X1 s W := by rw [hX1]; exact hF.more _ _ _ _ h0 hbW
    have hXB : ∀ b, b < B → X1 b := fun b hb => by rw [hX1]; exact .inl (hX b hb)
    have hXn : ∀ b, w.heap.size ≤ b → b < w.heap.size + 2 → X1 b := fun b h1 h2 => by rw [hX1]; exact .inr ⟨h1, by omega⟩
    have hXX : ∀ b, X b → X1 b := fun b hb => by rw [hX1]; exact .inl hb
    clear hX1
    have hrW : LRep W B a A c := hR.under (hbW.mono hB)
    have hcall := hp X1 (.mk n a) s W (.agg #[.string n, .slice A a.length c]) hq0 hIW hXB (by omega) (hu.under (hbW.mono hB))
    obtain ⟨⟨q, s1⟩, hq⟩ : ∃ q, st s (.mk n a) = q := ⟨_, rfl⟩
    rw [hq] at hcall
    rw [allPM, hq]
    have hcell : ∀ W', Keep (fun b => ¬ X1 b) W W' → W'.cell? ⟨w.heap.size, 1, none⟩ = some (.slice A a.length c) ∧ W'.cell? ⟨w.heap.size + 1, 0, none⟩ = some (.func (.func g) #[] lb) ∧ W.heap.size ≤ W'.heap.size ∧ LRep W' B a A c := fun W' hk =>
      ⟨(cell_of_block (hk.block w.heap.size (by omega) fun h => h (hXn _ (by omega) (by omega))) 1).trans w0', (cell_of_block (hk.block (w.heap.size + 1) (by omega) fun h => h (hXn _ (by omega) (by omega))) 0).trans w1, hk.size, hrW.under (hk.below (fun x hx h => h (hXB x hx)) (by omega))⟩
    cases q with
    | false =>
      have HC := Lib.hid hcall
      have HF := Lib.hid hF
      have HXX := Lib.hid hXX
      have HBW := Lib.hid hbW
      clear hcall hF h0 hX hR hu hp ih hd w0 w0' w1 hIW hXB hXn hXX hrW hcell hq hbW
      subst hW
      go_enter Tryd.func25, Tryd.ntmps25
      go_wp2_with (go_at_fn g; refine HC.out.mono ?_; rintro e w' ⟨rfl, hb, hk⟩; have HB := Lib.hid hb; have HK := Lib.hid hk; clear hb hk)
      go_ret
      exact ⟨rfl, HF.out.mono _ _ _ _ HB.out HXX.out, keep_X HBW.out HK.out HXX.out⟩
    | true =>
      have hcon := fun W' (hk : Keep (fun b => ¬ X1 b) W W') (hi : I X1 s1 W') => contains_scan (allPM st k) (fun s' W2 => I X1 s' W2 ∧ Keep (fun b => ¬ X1 b) W W2) (fun s' W2 => I X1 s' W2 ∧ Keep (fun b => ¬ X1 b) W W2) B a A c 43 #[.pointer (some ⟨w.heap.size + 1, 0, none⟩)]
        (fun s W' h => (hcell W' h.2).2.2.2) (enters_of Tryd.func43 (by kernel_rfl) rfl) (fun t ht s' W2 u h hv => by
          have hc2 := hcell W2 h.2
          refine (allParts1_c st k I hF B (w.heap.size + 1) (.func (.func g) #[] lb) t (fun X s W u h1 h2 h3 h4 => ih t (hd t ht) (hqa t ht) X s W u h1 h2 h3 h4) X1 s' W2 u h.1 hXB (by have := hc2.2.2.1; omega) hv hc2.2.1).mono ?_
          rintro e w' ⟨rfl, q1, q2⟩
          have hkk := h.2.trans q2 fun x _ h => h
          exact ⟨by cases (allPM st k s' t).1 <;> rfl, fun _ => ⟨q1, hkk⟩, fun _ => ⟨q1, hkk⟩⟩) s1 W' ⟨hi, hk⟩
      have HC := Lib.hid hcall
      have HF := Lib.hid hF
      have HXX := Lib.hid hXX
      have HBW := Lib.hid hbW
      have HCON := Lib.hid hcon
      have HCELL := Lib.hid hcell
      clear hcall hF h0 hX hR hu hp ih hd w0 w0' w1 hIW hXB hXn hXX hrW hcell hq hbW hcon
      simp only [Ty.args]
      obtain ⟨r, hr⟩ : ∃ r, scan (allPM st k) s1 a = r := ⟨_, rfl⟩
      rw [hr] at HCON ⊢
      clear hr
      have HW := Lib.hid hW
      subst hW
      go_enter Tryd.func25, Tryd.ntmps25
      go_wp2_with first
        | (go_at_fn g; refine HC.out.mono ?_; rintro e w1 ⟨rfl, hb, hk⟩; have hcl := HCELL.out _ hk; obtain ⟨c1, c2, c3, -⟩ := hcl; have HCC := Lib.hid (HCON.out _ hk hb); clear hb hk)
        | (go_at_call 34; refine HCC.out.mono ?_; rintro e w' ⟨rfl, hb, hk⟩; have HB := Lib.hid hb; have HK := Lib.hid hk; clear hb hk)
      go_ret
      obtain ⟨r1, r2⟩ := r
      cases r1 with
      | true => exact ⟨rfl, HF.out.mono _ _ _ _ (HB.out rfl).1 HXX.out, keep_X HBW.out (HB.out rfl).2 HXX.out⟩
      | false => exact ⟨rfl, HF.out.mono _ _ _ _ (HK.out rfl).1 HXX.out, keep_X HBW.out (HK.out rfl).2 HXX.out⟩
end Go.Proofs.YtfhjfhbfgndheaaDoor
