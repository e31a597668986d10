/- Package unify: May, the valid ones, Vars. -/
import Derived.Test.YtfhjfhbfgndheaaDoorNa
import Derived.Test.YtfhjfhbfgndheaaDoorMp
namespace Go.Proofs.YtfhjfhbfgndheaaDoor
open Go.RowKit Go.Shelf
open Go
attribute [local go_sem] Oper.semAt_some

/-- A state that is none. -/
def noneI (_ : Nat → Prop) (_ : Unit) (_ : World) : Prop := True
theorem noneI_frame : Frame noneI := ⟨fun _ _ _ _ _ _ => trivial, fun _ _ _ _ _ _ => trivial⟩
def pureF (p : Ty → Bool) (_ : Unit) (t : Ty) : Bool × Unit := (p t, ())
/-- A valid type. -/
def mayT (t : Ty) : Bool := (fitsM 64 2048 t).1 && (allPM (pureF isTypeT) 64 () t).1
theorem may_c (t : Ty) (u : Value) (w : World) (h : TyRep w w.heap.size t u) : Calls Tryd.prog 15 #[u] w fun e w' => e = .returned (.bool (mayT t)) ∧ Below w.heap.size w w' := by
  have hu := h
  obtain ⟨A, c, rfl, hn, hR⟩ := h
  obtain ⟨n, a⟩ := t
  simp only [Ty.name, Ty.args] at hn hR hu ⊢
  obtain ⟨W, hW⟩ : ∃ W, W = (w.alloc (.cells #[.string n, .slice A a.length c] 36)).alloc (.cells #[.int .i64 2048] 3) := ⟨_, rfl⟩
  have hbW : Below w.heap.size w W := by rw [hW]; exact ((Below.refl _ w).alloc (Nat.le_refl _) _).alloc (by simp) _
  have hsz : W.heap.size = w.heap.size + 2 := by rw [hW]; simp
  have w0 : W.cell? ⟨w.heap.size, 0, none⟩ = some (.string n) := by rw [hW]; exact (cell_alloc_o _ _ _ (by simp)).trans (cell_alloc_n _ _ _ (by simp))
  have w0' : W.cell? ⟨w.heap.size, 1, none⟩ = some (.slice A a.length c) := by rw [hW]; exact (cell_alloc_o _ _ _ (by simp)).trans (cell_alloc_n _ _ _ (by simp))
  have hpb : Blk W (w.heap.size + 1) 3 #[.int .i64 2048] := by
    have := Blk.new (w.alloc (.cells #[.string n, .slice A a.length c] 36)) 3 #[.int .i64 2048]
    rw [World.size_alloc] at this
    rw [hW]; exact this
  have hcall := fits_c 64 (by omega) (w.heap.size + 1) (w.heap.size) (by omega) (.mk n a) (.agg #[.string n, .slice A a.length c]) 2048 W (by omega) (by omega) (hu.under hbW) hpb
  unfold mayT
  obtain ⟨⟨q, p⟩, hq⟩ : ∃ q, fitsM 64 2048 (.mk n a) = q := ⟨_, rfl⟩
  have hdeep := fitsM_deep 64 2048 (.mk n a)
  rw [hq] at hcall hdeep
  rw [hq]
  cases q with
  | false =>
    have HC := Lib.hid hcall
    have HBW := Lib.hid hbW
    clear hcall hdeep hq hR hu w0 w0' hpb hbW
    subst hW
    go_enter Tryd.func15, Tryd.ntmps15
    go_wp2_with (go_at_call 32; refine HC.out.mono ?_; rintro e w' ⟨rfl, hb, hk⟩; have HK := Lib.hid hk; clear hb hk)
    go_ret
    exact ⟨rfl, HBW.out.trans (HK.out.below (fun x hx e => by omega) (by simp; omega))⟩
  | true =>
    have hall := fun W' (hk : Keep (fun b => b = w.heap.size + 1) W W') => allParts_c (pureF isTypeT) noneI noneI_frame w.heap.size 33 #[] (enters_of Tryd.func33 (by kernel_rfl) rfl)
      (fun _ => True) (fun _ _ _ _ => trivial) (fun X t s W u _ _ _ hB hv => (isType_c t u W (hv.more hB)).mono fun e w' h => ⟨by rw [h.1]; simp [pureF], trivial, Keep.of_new h.2⟩) 64 (.mk n a) (hdeep rfl) trivial (fun b => b < w.heap.size) () W' (.agg #[.string n, .slice A a.length c]) trivial (fun b hb => hb) (by have := hk.size; omega)
      ((hu.under hbW).under (hk.below (fun x hx e => by omega) (by omega)))
    have hcell : ∀ W', Keep (fun b => b = w.heap.size + 1) W W' → W'.cell? ⟨w.heap.size, 0, none⟩ = some (.string n) ∧ W'.cell? ⟨w.heap.size, 1, none⟩ = some (.slice A a.length c) ∧ Below w.heap.size w W' := fun W' hk =>
      ⟨(cell_of_block (hk.block w.heap.size (by omega) (by omega)) 0).trans w0, (cell_of_block (hk.block w.heap.size (by omega) (by omega)) 1).trans w0', hbW.trans (hk.below (fun x hx e => by omega) (by omega))⟩
    have HC := Lib.hid hcall
    have HALL := Lib.hid hall
    have HCELL := Lib.hid hcell
    clear hcall hall hdeep hq hR hu w0 w0' hpb hbW hcell
    obtain ⟨r, hr⟩ : ∃ r, allPM (pureF isTypeT) 64 () (.mk n a) = r := ⟨_, rfl⟩
    rw [hr] at HALL ⊢
    clear hr
    subst hW
    go_enter Tryd.func15, Tryd.ntmps15
    go_wp2_with first
      | (go_at_call 32; refine HC.out.mono ?_; rintro e w1 ⟨rfl, hb, hk⟩; obtain ⟨c1, c2, c3⟩ := HCELL.out _ hk; have HCC := Lib.hid (HALL.out _ hk); have HB1 := Lib.hid c3; clear hb hk c3)
      | (go_at_call 25; refine HCC.out.mono ?_; rintro e w2 ⟨rfl, hb, hk⟩; have HK := Lib.hid hk; clear hb hk)
    go_ret
    exact ⟨by obtain ⟨r1, r2⟩ := r; cases r1 <;> rfl, HB1.out.trans (HK.out.below (fun x hx h => h hx) HB1.out.size)⟩
theorem scan_pure {p : Ty → Bool} : ∀ l : List Ty, scan (pureF p) () l = (l.all p, ())
  | [] => rfl
  | t :: l => by
    rw [scan]
    simp only [pureF]
    cases h : p t with
    | false => simp [h]
    | true => simp [h]; exact scan_pure l
theorem may1_c (t : Ty) (u : Value) (w : World) (h : TyRep w w.heap.size t u) : Calls Tryd.prog 35 #[u] w fun e w' => e = .returned (.bool (!mayT t)) ∧ Below w.heap.size w w' := by
  obtain ⟨A, c, rfl, hn, hR⟩ := h
  have hbw : Below w.heap.size w (w.alloc (.cells #[.string t.name, .slice A t.args.length c] 36)) := (Below.refl _ w).alloc (Nat.le_refl _) _
  have HC := Lib.hid (may_c t _ _ ⟨A, c, rfl, hn, (hR.under hbw).more hbw.size⟩)
  have HBW := Lib.hid hbw
  clear hR hbw
  generalize mayT t = q at HC ⊢
  go_enter Tryd.func35, Tryd.ntmps35
  go_wp2_with (go_at_call 15; refine HC.out.mono ?_; rintro e w' ⟨rfl, hb⟩; have HB := Lib.hid hb; clear hb)
  go_ret
  exact ⟨rfl, HBW.out.trans (HB.out.mono HBW.out.size)⟩
theorem allValid_c (l : List Ty) (A : Option Addr) (c : Nat) (w : World) (h : LRep w w.heap.size l A c) : Calls Tryd.prog 17 #[.slice A l.length c] w fun e w' => e = .returned (.bool (l.all mayT)) ∧ Below w.heap.size w w' := by
  have HC := Lib.hid (contains_scan (pureF mayT) (fun _ W => Below w.heap.size w W) (fun _ W => Below w.heap.size w W) w.heap.size l A c 35 #[] (fun s W hb => h.under hb) (enters_of Tryd.func35 (by kernel_rfl) rfl)
    (fun t _ s W u hb hv => (may1_c t u W (hv.more hb.size)).mono fun e w' h => ⟨h.1, fun _ => hb.trans (h.2.mono hb.size), fun _ => hb.trans (h.2.mono hb.size)⟩) () w (Below.refl _ _))
  rw [scan_pure] at HC
  clear h
  generalize l.all mayT = q at HC ⊢
  go_enter Tryd.func17, Tryd.ntmps17
  go_wp2_with (go_at_call 34; refine HC.out.mono ?_; rintro e w' ⟨rfl, hb, hk⟩; have HB := Lib.hid hb; have HK := Lib.hid hk; clear hb hk)
  go_ret
  cases q with
  | true => exact ⟨rfl, HB.out rfl⟩
  | false => exact ⟨rfl, HK.out rfl⟩
end Go.Proofs.YtfhjfhbfgndheaaDoor
