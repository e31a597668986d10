/- What the law asks of types: that two are the same, how many parts they have. -/
import Derived.Test.YtagmgkkicodbiaaGreatDoorJl
namespace Go.Proofs.YtagmgkkicodbiaaGreatDoor
open Go.RowKit Go.Shelf
open Go
attribute [local go_sem] Oper.semAt_some

def SameAt (B : Nat) (t : Ty) : Prop := ∀ (W : World) (u v : Value), B ≤ W.heap.size → TyRep W B t u → TyRep W B t v → Calls Tryz.prog 8 #[u, v] W fun e w' => e = .returned (.bool true) ∧ Below W.heap.size W w'
set_option maxRecDepth 100000 in
set_option maxHeartbeats 4000000 in
theorem same_c (B : Nat) (t : Ty) : SameAt B t := by
  induction t using Ty.ind with
  | h n a ih =>
    intro w u v hB hu hv
    obtain ⟨A, c, rfl, hn, hR⟩ := hu
    obtain ⟨A2, c2, rfl, _, hR2⟩ := hv
    simp only [Ty.name, Ty.args] at hn hR hR2 ⊢
    have hlc := hR.len
    have hlc2 := hR2.len
    have hmax : maxLen = 9223372036854775807 := rfl
    obtain ⟨W0, hW0⟩ : ∃ W, W = (w.alloc (.cells #[.string n, .slice A a.length c] 24)).alloc (.cells #[.string n, .slice A2 a.length c2] 24) := ⟨_, rfl⟩
    have hb0 : Below w.heap.size w W0 := by rw [hW0]; exact ((Below.refl _ w).alloc (Nat.le_refl _) _).alloc (by simp) _
    have hs0 : W0.heap.size = w.heap.size + 2 := by rw [hW0]; simp
    have x0 : W0.cell? ⟨w.heap.size, 1, none⟩ = some (.slice A a.length c) := by rw [hW0]; exact (cell_alloc_o _ _ _ (by simp)).trans (cell_alloc_n _ _ _ rfl)
    have x1 : W0.cell? ⟨w.heap.size + 1, 1, none⟩ = some (.slice A2 a.length c2) := by rw [hW0]; exact cell_alloc_n _ _ _ (by simp)
    have HR := Lib.hid hR; have HR2 := Lib.hid hR2; have IH := Lib.hid ih; have HB0 := Lib.hid hb0; have X0 := Lib.hid x0; have X1 := Lib.hid x1; have HS0 := Lib.hid hs0; have HW0 := Lib.hid hW0
    clear hR hR2 ih hb0 x0 x1 hs0 hW0
    go_enter Tryz.func8, Tryz.ntmps8
    go_wp2_with fail
    go_loopg [5] (a.length + 1) (fun gg s5 wr => ∃ k : Nat, k ≤ a.length ∧ gg = a.length + 1 - k ∧ s5 = .int .i64 (k : Int) ∧ Below W0.heap.size W0 wr)
    case atStart => exact ⟨0, Nat.zero_le _, by omega, rfl, by rw [HW0.out]; exact Below.refl _ _⟩
    case round =>
      obtain ⟨k, hk, hg, rfl, hI⟩ := hrel
      have HG := Lib.hid hg
      have hbw : Below w.heap.size w wr := HB0.out.trans (hI.mono (by have := HS0.out; omega))
      have y0 : wr.cell? ⟨w.heap.size, 1, none⟩ = some (.slice A a.length c) := (hI.cell (p := ⟨w.heap.size, 1, none⟩) (by have := HS0.out; show w.heap.size < _; omega)).trans X0.out
      have y1 : wr.cell? ⟨w.heap.size + 1, 1, none⟩ = some (.slice A2 a.length c2) := (hI.cell (p := ⟨w.heap.size + 1, 1, none⟩) (by have := HS0.out; show w.heap.size + 1 < _; omega)).trans X1.out
      by_cases hlt : k < a.length
      · have hltz : (k : Int) < (a.length : Int) := by omega
        obtain ⟨b, off, hA, hb, nm, a', A', c', ht, hnm, hv, c0, c1⟩ := (HR.out.under (hbw.mono hB)).at_ hlt
        obtain ⟨b', off', hA2, hb2, nm2, a2, A3, c3, ht2, hnm2, hv2, d0, d1⟩ := (HR2.out.under (hbw.mono hB)).at_ hlt
        subst hA
        subst hA2
        have hcall := IH.out a[k] (List.getElem_mem hlt) wr.drew (.agg #[.string nm, .slice A' a'.length c']) (.agg #[.string nm2, .slice A3 a2.length c3]) (by have := hbw.size; show B ≤ wr.heap.size; omega) (by rw [ht]; exact ⟨A', c', rfl, hnm, hv.under (Below.refl _ _).drew⟩) (by rw [ht2]; exact ⟨A3, c3, rfl, hnm2, hv2.under (Below.refl _ _).drew⟩)
        have HC := Lib.hid hcall; have HI := Lib.hid hI; have HBW := Lib.hid hbw
        clear hcall hv hv2 hI hg ht ht2 hbw
        go_wp2_with fail
        go_region_with (go_at_call 8; refine HC.out.mono ?_; rintro e w5 ⟨rfl, hb5⟩; have HB5 := Lib.hid hb5; clear hb5)
        all_goals
          go_wp2_with fail
          go_roundg (a.length + 1 - (k + 1))
          case measure => have := HG.out; omega
          case rel => exact ⟨k + 1, by omega, rfl, by go_num, HI.out.trans (((Below.refl _ _).drew.trans HB5.out).mono HI.out.size)⟩
      · have hltz : ¬ (k : Int) < (a.length : Int) := by omega
        have HBW := Lib.hid hbw
        clear hI hg hbw
        go_wp2_with fail
        go_ret
        exact ⟨rfl, HBW.out⟩
/-! ### How many parts -/
mutual
def tyT : Ty → Int → Int | .mk _ a, m => tyL a m 0
def tyL : List Ty → Int → Int → Int
  | [], _, n => n
  | t :: l, m, n => if n < m then tyL l m (n + 1 + tyT t (m - n)) else n
end
theorem tyT_eq (t : Ty) (m : Int) : tyT t m = tyL t.args m 0 := by cases t; rw [tyT]; rfl
def TyOk (l : List Ty) : Prop := ∀ m n : Int, n ≤ tyL l m n ∧ tyL l m n ≤ n + sizeL l ∧ (tyL l m n < m → tyL l m n = n + sizeL l)
theorem tyL_list : ∀ (l : List Ty), (∀ t ∈ l, TyOk t.args) → TyOk l
  | [], _ => fun m n => by simp [tyL, sizeL]
  | t :: l, h => fun m n => by
    have ih := tyL_list l fun t ht => h t (by simp [ht])
    have ht := h t (by simp) (m - n) 0
    have hs : sizeT t = 1 + sizeL t.args := by cases t; rw [sizeT]; rfl
    rw [tyL, sizeL, tyT_eq, hs]
    have := ih m (n + 1 + tyL t.args (m - n) 0)
    split
    · refine ⟨by omega, by omega, fun h => ?_⟩
      have h3 := this.2.2 h
      have h4 := ht.2.2 (by omega)
      omega
    · exact ⟨by omega, by omega, fun h => by omega⟩
theorem tyT_ok (t : Ty) : TyOk t.args := by
  induction t using Ty.ind with
  | h n a ih => exact tyL_list a ih
theorem tyL_ok (l : List Ty) : TyOk l := tyL_list l fun t _ => tyT_ok t
theorem tyL_drop (l : List Ty) (k : Nat) (hk : k < l.length) (m n : Int) : tyL (l.drop k) m n = if n < m then tyL (l.drop (k + 1)) m (n + 1 + tyL l[k].args (m - n) 0) else n := by
  rw [List.drop_eq_getElem_cons hk, tyL, tyT_eq]
def TypesAt (l : List Ty) : Prop := ∀ (m : Int) (A : Option Addr) (c : Nat) (w : World), -100000000 ≤ m → m ≤ 100000000 → sizeL l ≤ 100000000 → LRep w w.heap.size l A c →
  Calls Tryz.prog 4 #[.slice A l.length c, .int .i64 m] w fun e w' => e = .returned (.int .i64 (tyL l m 0)) ∧ Below w.heap.size w w'
set_option maxRecDepth 100000 in
set_option maxHeartbeats 4000000 in
theorem types_l (l : List Ty) (ih : ∀ t ∈ l, TypesAt t.args) : TypesAt l := by
  intro m A c w hm1 hm2 hsz hR
  have hlc := hR.len
  have hmax : maxLen = 9223372036854775807 := rfl
  have hls := len_size l
  have HR := Lib.hid hR; have IH := Lib.hid ih
  clear hR ih
  go_enter Tryz.func4, Tryz.ntmps4
  go_wp2_with fail
  go_loopg [5, 6] (l.length + 1) (fun gg s5 s6 wr => ∃ (k : Nat) (n : Int), k ≤ l.length ∧ gg = l.length + 1 - k ∧ s5 = .int .i64 n ∧ s6 = .int .i64 (k : Int) ∧ 0 ≤ n ∧ n ≤ sizeL (l.take k) ∧ tyL l m 0 = tyL (l.drop k) m n ∧ Below w.heap.size w wr)
  case atStart => exact ⟨0, 0, Nat.zero_le _, by omega, rfl, rfl, by omega, by simp [sizeL], rfl, Below.refl _ _⟩
  case round =>
    obtain ⟨k, n, hk, hg, rfl, rfl, hn0, hn1, hT, hI⟩ := hrel
    have HG := Lib.hid hg
    have hst := sizeL_take_le l k
    by_cases hlt : k < l.length
    · have hltz : (k : Int) < (l.length : Int) := by omega
      rw [tyL_drop l k hlt] at hT
      by_cases hnm : n < m
      · rw [if_pos hnm] at hT
        obtain ⟨b, off, hA, hb, nm, a', A', c', ht, hnmz, hv, c0, c1⟩ := (HR.out.under hI).at_ hlt
        subst hA
        have hargs : l[k].args = a' := by rw [ht]; rfl
        have hst2 := sizeL_take l k hlt
        have hst3 := sizeL_take_le l (k + 1)
        have hsk : sizeT l[k] = 1 + sizeL a' := by rw [ht, sizeT]
        have hwb : IntKind.i64.wrap (m - n) = m - n := IntWalk.i64_in _ (by omega)
        have hwa : IntKind.i64.wrap (n + 1) = n + 1 := IntWalk.i64_in _ (by omega)
        have hok := tyL_ok a' (m - n) 0
        have hcall := IH.out l[k] (List.getElem_mem hlt) (m - n) A' c' wr (by omega) (by omega) (by rw [hargs]; omega) (by rw [hargs]; exact hv.more hI.size)
        rw [hargs] at hcall hT
        generalize tyL a' (m - n) 0 = r at hcall hT hok
        have hwr : IntKind.i64.wrap (n + 1 + r) = n + 1 + r := IntWalk.i64_in _ (by omega)
        have HC := Lib.hid hcall; have HI := Lib.hid hI; have HT := Lib.hid hT
        clear hcall hv hI hg ht hT hargs
        go_wp2_with (go_at_call 4; refine HC.out.mono ?_; rintro e w5 ⟨rfl, hb5⟩; have HB5 := Lib.hid hb5; clear hb5)
        go_roundg (l.length + 1 - (k + 1))
        case measure => have := HG.out; omega
        case rel => exact ⟨k + 1, n + 1 + r, by omega, rfl, rfl, by go_num, by omega, by omega, HT.out, HI.out.trans (HB5.out.mono HI.out.size)⟩
      · rw [if_neg hnm] at hT
        have HI := Lib.hid hI; have HT := Lib.hid hT
        clear hI hg hT
        go_wp2_with fail
        go_ret
        exact ⟨by rw [HT.out]; rfl, HI.out⟩
    · obtain rfl : k = l.length := by omega
      rw [List.drop_length, tyL] at hT
      have hltz : ¬ (l.length : Int) < (l.length : Int) := by omega
      have HI := Lib.hid hI; have HT := Lib.hid hT
      clear hI hg hT
      go_wp2_with fail
      go_ret
      exact ⟨by rw [HT.out]; rfl, HI.out⟩
theorem types_at (t : Ty) : TypesAt t.args := by
  induction t using Ty.ind with
  | h n a ih => exact types_l a ih
theorem types_c (l : List Ty) : TypesAt l := types_l l fun t _ => types_at t
end Go.Proofs.YtagmgkkicodbiaaGreatDoor
