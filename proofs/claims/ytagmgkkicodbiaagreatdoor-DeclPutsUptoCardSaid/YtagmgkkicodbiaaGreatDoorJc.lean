/- Package decl: isParameter, fits of a type. -/
import Derived.Test.YtagmgkkicodbiaaGreatDoorJb
namespace Go.Proofs.YtagmgkkicodbiaaGreatDoor
open Go.RowKit Go.Shelf
open Go
attribute [local go_sem] Oper.semAt_some

theorem isParam_c (n : ByteArray) (w : World) : Calls Tryz.prog 15 #[.string n] w fun e w' => e = .returned (.bool (pfx n)) ∧ w' = w := by
  have HP := fun w => pfx_c n w
  generalize pfx n = q at HP ⊢
  have HP := Lib.hid HP
  go_enter Tryz.func15, Tryz.ntmps15
  go_wp2_with (go_at_call 34; refine (HP.out _).mono ?_; rintro e w' ⟨rfl, rfl⟩)
  go_ret
  exact ⟨rfl, rfl⟩
theorem typeParts_c (n : ByteArray) (A : Option Addr) (l c : Nat) (w : World) : Calls Tryz.prog 36 #[.agg #[.string n, .slice A l c]] w fun e w' => e = .returned (.slice A l c) ∧ w' = w.alloc (.cells #[.string n, .slice A l c] 24) := by
  go_enter Tryz.func36, Tryz.ntmps36
  go_wp2_with fail
  go_ret
  exact ⟨rfl, rfl⟩
def partsV : Value := .func (.func 36) #[] #[]
/-- fits, where there is room. -/
def FitsAt (B pb : Nat) (t : Ty) (lv : Int) : Prop := ∀ (u : Value) (p : Int) (w : World), (sizeT t : Int) ≤ p → p ≤ 1000000000 → TyRep w B t u → Blk w pb 3 #[.int .i64 p] → B ≤ w.heap.size →
  Calls Tryz.prog 35 #[u, .pointer (some ⟨pb, 0, none⟩), .int .i64 lv, partsV] w fun e w' => e = .returned (.bool true) ∧ Blk w' pb 3 #[.int .i64 (p - sizeT t)] ∧ Keep (fun b => b = pb) w w'
theorem fits1_c (B pb b1 b2 b3 : Nat) (t : Ty) (lv : Int) (hlv : -1000000000 ≤ lv ∧ lv ≤ 1000000000) (ih : FitsAt B pb t (lv - 1)) (u : Value) (p : Int) (w : World) (hp0 : (sizeT t : Int) ≤ p) (hp : p ≤ 1000000000) (h : TyRep w B t u) (hc : Blk w pb 3 #[.int .i64 p]) (hB : B ≤ w.heap.size)
    (h1 : w.cell? ⟨b1, 0, none⟩ = some (.pointer (some ⟨pb, 0, none⟩))) (h2 : w.cell? ⟨b2, 0, none⟩ = some (.int .i64 lv)) (h3 : w.cell? ⟨b3, 0, none⟩ = some partsV) :
    Calls Tryz.prog 64 #[u, .pointer (some ⟨b1, 0, none⟩), .pointer (some ⟨b2, 0, none⟩), .pointer (some ⟨b3, 0, none⟩)] w fun e w' => e = .returned (.bool (!true)) ∧ Blk w' pb 3 #[.int .i64 (p - sizeT t)] ∧ Keep (fun b => b = pb) w w' := by
  have hw : IntKind.i64.wrap (lv - 1) = lv - 1 := IntWalk.i64_in _ (by omega)
  have l1 := lt_of_cell h1; have l2 := lt_of_cell h2; have l3 := lt_of_cell h3
  obtain ⟨A, c, rfl, hn, hR⟩ := h
  have n1 : b1 ≠ w.heap.size := by omega
  have n2 : b2 ≠ w.heap.size := by omega
  have n3 : b3 ≠ w.heap.size := by omega
  have hcall := ih _ p (w.alloc (.cells #[.string t.name, .slice A t.args.length c] 24)) hp0 hp ⟨A, c, rfl, hn, hR.under ((Below.refl _ w).alloc hB _)⟩ (hc.alloc _) (by simp; omega)
  unfold partsV at *
  have HC := Lib.hid hcall
  clear hR ih hcall hc hp0
  generalize (sizeT t : Int) = q at HC ⊢
  generalize t.name = n at HC hn ⊢
  generalize t.args.length = al at HC ⊢
  go_enter Tryz.func64, Tryz.ntmps64
  go_wp2_with (go_at_call 35; refine HC.out.mono ?_; rintro e w' ⟨rfl, hb, hk⟩; have HB := Lib.hid hb; have HK := Lib.hid hk; clear hb hk)
  go_ret
  exact ⟨rfl, HB.out, (Keep.of_new ((Below.refl _ _).alloc (Nat.le_refl _) _)).trans HK.out fun x _ h => h⟩
set_option maxHeartbeats 1000000 in
theorem fits_c (B pb : Nat) (hpb : B ≤ pb) (t : Ty) : ∀ (lv : Int), (deepT t : Int) ≤ lv → lv ≤ 1000000000 → FitsAt B pb t lv := by
  induction t using Ty.ind with
  | h n a ih =>
    intro lv hlv hlv2 u p w hp0 hp h hc hBw
    rw [deepT] at hlv
    have hw : IntKind.i64.wrap (p - 1) = p - 1 := IntWalk.i64_in _ (by have := sizeT_pos (.mk n a); omega)
    rw [sizeT] at hp0 ⊢
    have hu := h
    obtain ⟨A, c, rfl, hn, hR⟩ := h
    simp only [Ty.name, Ty.args] at hn hR hu ⊢
    have hl := hc.lt
    have n1 : pb ≠ w.heap.size := by omega
    have n2 : pb ≠ w.heap.size + 1 := by omega
    have n3 : pb ≠ w.heap.size + 2 := by omega
    have n4 : pb ≠ w.heap.size + 3 := by omega
    have h0 : 0 ≤ p - 1 := by omega
    have hlv0 : 0 < lv := by omega
    obtain ⟨W, hW⟩ : ∃ W, W = ((((w.alloc (.cells #[.string n, .slice A a.length c] 24)).alloc (.cells #[.pointer (some ⟨pb, 0, none⟩)] 68)).alloc (.cells #[.int .i64 lv] 3)).alloc (.cells #[partsV] 110)) := ⟨_, rfl⟩
    have c0 := hc.cell 0
    simp at c0
    have hbW : Below w.heap.size w W := by rw [hW]; exact ((((Below.refl _ w).alloc (Nat.le_refl _) _).alloc (by simp) _).alloc (by simp; omega) _).alloc (by simp; omega) _
    have hsz : W.heap.size = w.heap.size + 4 := by rw [hW]; simp
    have hcW : Blk W pb 3 #[.int .i64 p] := by rw [hW]; exact (((hc.alloc _).alloc _).alloc _).alloc _
    have w1 : W.cell? ⟨w.heap.size + 1, 0, none⟩ = some (.pointer (some ⟨pb, 0, none⟩)) := by rw [hW]; exact (cell_alloc_o _ _ _ (by simp)).trans ((cell_alloc_o _ _ _ (by simp)).trans (cell_alloc_n _ _ _ (by simp)))
    have w2 : W.cell? ⟨w.heap.size + 2, 0, none⟩ = some (.int .i64 lv) := by rw [hW]; exact (cell_alloc_o _ _ _ (by simp)).trans (cell_alloc_n _ _ _ (by simp))
    have w3 : W.cell? ⟨w.heap.size + 3, 0, none⟩ = some partsV := by rw [hW]; exact cell_alloc_n _ _ _ (by simp)
    have hkW : Keep (fun b => b = pb) w W := Keep.of_new hbW
    have d1 := hcW.cell 0
    have d2 := hcW.frozen 0
    rw [hW] at d1 d2
    simp at d1
    have hcS := hcW.set_ 0 (.int .i64 (p - 1))
    have hkS := hkW.set ⟨pb, 0, none⟩ rfl (.int .i64 (p - 1))
    have hkS2 : Keep (fun b => b = pb) W ((W.setCell ⟨pb, 0, none⟩ (.int .i64 (p - 1))).alloc (.cells #[.string n, .slice A a.length c] 24)) := ((Keep.refl (fun b => b = pb) W).set ⟨pb, 0, none⟩ rfl _).trans (F' := fun b => b = pb) (Keep.of_new ((Below.refl _ _).alloc (Nat.le_refl _) _)) fun _ _ h => h
    have hcon := contains_none (fun k W' => Blk W' pb 3 #[.int .i64 (p - 1 - sizeL (a.take k))] ∧ Keep (fun b => b = pb) W W') B a A c 64 #[.pointer (some ⟨w.heap.size + 1, 0, none⟩), .pointer (some ⟨w.heap.size + 2, 0, none⟩), .pointer (some ⟨w.heap.size + 3, 0, none⟩)]
      (fun s W' h => (hR.under (hbW.mono hBw)).under (h.2.below (fun x hx e => by omega) (by omega))) (enters_of Tryz.func64 (by kernel_rfl) rfl) (fun k hk W' u h hv => by
        have e1 : W'.cell? ⟨w.heap.size + 1, 0, none⟩ = some (.pointer (some ⟨pb, 0, none⟩)) := (cell_of_block (h.2.block (w.heap.size + 1) (by omega) (by omega)) 0).trans w1
        have e2 : W'.cell? ⟨w.heap.size + 2, 0, none⟩ = some (.int .i64 lv) := (cell_of_block (h.2.block (w.heap.size + 2) (by omega) (by omega)) 0).trans w2
        have e3 : W'.cell? ⟨w.heap.size + 3, 0, none⟩ = some partsV := (cell_of_block (h.2.block (w.heap.size + 3) (by omega) (by omega)) 0).trans w3
        have hm : a[k] ∈ a := List.getElem_mem hk
        have hd := deepL_mem hm
        have hs := sizeL_take a k hk
        have hs2 := sizeL_take_le a (k + 1)
        refine (fits1_c B pb (w.heap.size + 1) (w.heap.size + 2) (w.heap.size + 3) a[k] lv (by omega) (ih _ hm (lv - 1) (by omega) (by omega)) u (p - 1 - sizeL (a.take k)) W' (by omega) (by omega) hv h.1 (by have := h.2.size; omega) e1 e2 e3).mono ?_
        rintro e w' ⟨rfl, q1, q2⟩
        refine ⟨rfl, ?_, h.2.trans q2 fun x _ h => h⟩
        rw [hs]
        rw [show p - 1 - ((sizeL (a.take k) + sizeT a[k] : Nat) : Int) = p - 1 - (sizeL (a.take k) : Nat) - (sizeT a[k] : Nat) by omega]
        exact q1) ((W.setCell ⟨pb, 0, none⟩ (.int .i64 (p - 1))).alloc (.cells #[.string n, .slice A a.length c] 24)) ⟨by have := hcS.alloc (.cells #[.string n, .slice A a.length c] 24); simpa [sizeL] using this, hkS2⟩
    rw [sizeL_takeAll] at hcon
    rw [show p - ((1 + sizeL a : Nat) : Int) = p - 1 - (sizeL a : Nat) by omega]
    rw [hW] at hcon
    have HCON := Lib.hid hcon
    have HKW := Lib.hid hkW
    have HTP := Lib.hid fun w => typeParts_c n A a.length c w
    clear hcon hR hcW hc hu ih hcS hkS hkS2 hbW w1 w2 w3 hkW hp0
    generalize (sizeL a : Int) = sa at HCON ⊢
    unfold partsV at *
    go_enter Tryz.func35, Tryz.ntmps35
    go_wp2_with first
      | (go_at_call 36; refine (HTP.out _).mono ?_; rintro e w' ⟨rfl, rfl⟩)
      | (go_at_call 37; refine HCON.out.mono ?_; rintro e w' ⟨rfl, hb, hk⟩; have HB := Lib.hid hb; have HK := Lib.hid hk; clear hb hk)
    go_ret
    subst hW
    exact ⟨rfl, HB.out, HKW.out.trans HK.out fun _ _ h => h⟩
end Go.Proofs.YtagmgkkicodbiaaGreatDoor
