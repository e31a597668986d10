/- Package unify: tables: New, their bindings, Resolve. -/
import Derived.Test.YtfhjfhbfgndheaaDoorNr
import Derived.Test.YtfhjfhbfgndheaaDoorOa
namespace Go.Proofs.YtfhjfhbfgndheaaDoor
open Go.RowKit Go.Shelf Un
open Go
attribute [local go_sem] Oper.semAt_some

def st0 : St := ⟨[], fun n => n, 0, fun _ => false⟩
/-- A table at block T, in blocks that meet F alone. -/
def TN (B0 : Nat) (F : Nat → Prop) (K : Nat) (st : St) (w : World) (T : Nat) : Prop :=
  GlobF B0 w ∧ (∀ x, F x → B0 ≤ x) ∧ F T ∧ K ≤ 50000000 ∧ ((Blk w T 45 #[.pointer none] ∧ st = st0) ∨ ∃ g, Blk w T 45 #[.pointer (some ⟨g, 0, none⟩)] ∧ BR B0 F K st w g)
theorem TN.mono {B0 K : Nat} {F F' : Nat → Prop} {st : St} {w : World} {T : Nat} (h : TN B0 F K st w T) (hF : ∀ b, b < w.heap.size → F b → F' b) (hb : ∀ x, F' x → B0 ≤ x) : TN B0 F' K st w T := by
  obtain ⟨h1, h2, h3, h4, h5⟩ := h
  rcases h5 with ⟨h5, h6⟩ | ⟨g, h5, h6⟩
  · exact ⟨h1, hb, hF _ h5.lt h3, h4, .inl ⟨h5, h6⟩⟩
  · exact ⟨h1, hb, hF _ h5.lt h3, h4, .inr ⟨g, h5, h6.mono hF hb⟩⟩
theorem TN.keep {B0 K : Nat} {F : Nat → Prop} {st : St} {w w' : World} {T : Nat} (h : TN B0 F K st w T) (hb : ∀ b, F b → b < w.heap.size → w'.heap[b]? = w.heap[b]?) (hb0 : Below B0 w w') : TN B0 F K st w' T := by
  obtain ⟨h1, h2, h3, h4, h5⟩ := h
  rcases h5 with ⟨h5, h6⟩ | ⟨g, h5, h6⟩
  · exact ⟨h1.below hb0, h2, h3, h4, .inl ⟨(hb _ h3 h5.lt).trans h5, h6⟩⟩
  · exact ⟨h1.below hb0, h2, h3, h4, .inr ⟨g, (hb _ h3 h5.lt).trans h5, h6.keep hb hb0⟩⟩
theorem TN.lt {B0 K : Nat} {F : Nat → Prop} {st : St} {w : World} {T : Nat} (h : TN B0 F K st w T) : T < w.heap.size ∧ B0 ≤ w.heap.size := by
  obtain ⟨h1, h2, h3, h4, h5⟩ := h
  have hT : T < w.heap.size := by rcases h5 with ⟨h5, h6⟩ | ⟨g, h5, h6⟩ <;> exact h5.lt
  exact ⟨hT, by have := h2 _ h3; omega⟩
theorem TN.below {B0 K : Nat} {F : Nat → Prop} {st : St} {w w' : World} {T : Nat} (h : TN B0 F K st w T) (hb : Below w.heap.size w w') : TN B0 F K st w' T := h.keep (fun b _ hl => hb.block b hl) (hb.mono h.lt.2)
theorem LN.one {N : Nat → Prop} {w : World} {t : Ty} {A : Option Addr} {c rb : Nat} (hb : Blk w rb 36 #[.string t.name, .slice A t.args.length c]) (hn : t.name.size ≤ maxLen) (hl : LN N w t.args A c) (hN : N rb) : LN N w [t] (some ⟨rb, 0, none⟩) 1 := by
  refine .mk (fun _ => rb) (fun _ => 0) (fun _ => A) (fun _ => c) (Nat.le_refl _) (by decide) (fun j hj => ?_) fun j hj => ?_
  · obtain rfl : j = 0 := by simpa using hj
    exact ⟨rfl, hN, hn, by rw [hb.cell]; rfl, by rw [hb.cell]; rfl⟩
  · obtain rfl : j = 0 := by simpa using hj
    exact hl
theorem setCell_allocT (w : World) (o : Obj) (p : Addr) (u : Value) (h : p.block < w.heap.size) : (w.alloc o).setCell p u = (w.setCell p u).alloc o := by
  simp only [World.setCell, World.alloc]
  congr 1
  apply Array.ext_getElem?
  intro i
  simp only [Array.getElem?_modify, Array.getElem?_push, Array.size_modify]
  by_cases e : p.block = i
  · rw [if_pos e, if_neg (by omega), if_neg (by omega), if_pos e]
  · rw [if_neg e, if_neg e]
set_option maxRecDepth 100000 in
theorem new_c (B0 : Nat) (w : World) (hg : GlobF B0 w) (hB : B0 ≤ w.heap.size) : Calls Tryd.prog 6 #[] w fun e w' => e = .returned (.pointer (some ⟨w.heap.size, 0, none⟩)) ∧ TN B0 (fun b => b = w.heap.size) 0 st0 w' w.heap.size ∧ Below w.heap.size w w' := by
  go_enter Tryd.func6, Tryd.ntmps6
  go_wp2_with fail
  go_ret
  have hb : Below w.heap.size w (w.alloc (.cells #[.pointer none] 45)) := (Below.refl _ _).alloc (Nat.le_refl _) _
  exact ⟨rfl, ⟨hg.below (hb.mono hB), fun x hx => by omega, rfl, by omega, .inl ⟨Blk.new _ _ _, rfl⟩⟩, hb⟩
set_option maxRecDepth 100000 in
set_option maxHeartbeats 4000000 in
theorem bindings_c {B0 K : Nat} {F : Nat → Prop} {st : St} {w : World} {T : Nat} (h : TN B0 F K st w T) : Calls Tryd.prog 18 #[.pointer (some ⟨T, 0, none⟩)] w fun e w' => ∃ g, e = .returned (.pointer (some ⟨g, 0, none⟩)) ∧ Blk w' T 45 #[.pointer (some ⟨g, 0, none⟩)] ∧ BR B0 (fun b => F b ∨ w.heap.size ≤ b) K st w' g ∧ Keep F w w' := by
  have hlt := h.lt
  obtain ⟨h1, h2, h3, h4, h5⟩ := h
  rcases h5 with ⟨h5, rfl⟩ | ⟨g, h5, h6⟩
  · have hmm := @run_makeMap Tryd.prog
    have c0 := h5.cell 0
    have f0 := h5.frozen 0
    simp at c0
    obtain ⟨w1, hw1⟩ : ∃ x, x = (((w.alloc (.map #[] 0)).alloc (.map #[] 0)).alloc (.cells #[.slice none 0 0, .slice none 0 0, .map (some w.heap.size), .int .i64 0, .map (some (w.heap.size + 1))] 60)) := ⟨_, rfl⟩
    have hal : Below w.heap.size w w1 := by rw [hw1]; exact (((Below.refl _ _).alloc (Nat.le_refl _) _).alloc (by simp) _).alloc (by simp <;> omega) _
    have hs1 : w1.heap.size = w.heap.size + 3 := by rw [hw1]; simp
    have hbk : Blk w1 (w.heap.size + 2) 60 #[.slice none 0 0, .slice none 0 0, .map (some w.heap.size), .int .i64 0, .map (some (w.heap.size + 1))] := by
      have := Blk.new ((w.alloc (.map #[] 0)).alloc (.map #[] 0)) 60 #[.slice none 0 0, .slice none 0 0, .map (some w.heap.size), .int .i64 0, .map (some (w.heap.size + 1))]
      rw [World.size_alloc, World.size_alloc] at this
      rw [hw1]; exact this
    have m1 := Gm.MapR.new (P := Tryd.prog) (kt := 9) (R := plainElem (H := Unit) Tryd.prog 3) (ke := Gm.kS) (en := fun n : Nat => Gm.eI n) w
    have m2 := Gm.MapR.new (P := Tryd.prog) (kt := 3) (R := plainElem (H := Unit) Tryd.prog 4) (ke := Gm.kI) (en := Gm.eB) (w.alloc (.map #[] 0))
    rw [World.size_alloc] at m2
    have hT1 : Blk w1 T 45 #[.pointer none] := h5.below hal h5.lt
    have hbr : BRx B0 (fun b => F b ∨ w.heap.size ≤ b) K st0 [] (fun _ => 0) [] (.slice none 0 0) (.slice none 0 0) w.heap.size (w.heap.size + 1) w1 (w.heap.size + 2) := by
      refine { glob := h1.below (hal.mono hlt.2), base := fun x hx => hx.elim (h2 x) fun h => by omega, fg := .inr (by omega), fm := .inr (by omega), fk := .inr (by omega), mkb := by omega, blk := hbk, map := ?_, tak := ?_, upR := Gd.Own.nil _ _ _ _ _, tsR := Gd.Own.nil _ _ _ _ _, len := rfl, for_ := ⟨fun n h => absurd h (Nat.not_lt_zero _), fun n h => absurd h (Nat.not_lt_zero _), fun n h => absurd h (Nat.not_lt_zero _), fun n h => absurd h (Nat.not_lt_zero _), fun _ _ => rfl⟩, ins_ := ⟨rfl, fun i h => absurd h (Nat.not_lt_zero _)⟩, wf := ⟨fun i h => absurd h (Nat.not_lt_zero _), fun i h => absurd h (Nat.not_lt_zero _), fun i h => absurd h (Nat.not_lt_zero _), fun i h => absurd h (Nat.not_lt_zero _), fun i _ h => absurd h (Nat.not_lt_zero _)⟩, few := Nat.zero_le _, sum := Nat.zero_le _, lim := h4, las := ⟨by simp [st0], by simp [st0]⟩ }
      · exact (m1.keep (by rw [hw1]; exact (Below.heap_alloc _ _ _ (by simp <;> omega)).trans (Below.heap_alloc _ _ _ (by simp)))).mono (Nat.zero_le _)
      · exact (m2.keep (by rw [hw1]; exact Below.heap_alloc _ _ _ (by simp))).mono (Nat.zero_le _)
    have hend : BR B0 (fun b => F b ∨ w.heap.size ≤ b) K st0 (w1.setCell ⟨T, 0, none⟩ (.pointer (some ⟨w.heap.size + 2, 0, none⟩))) (w.heap.size + 2) ∧ Blk (w1.setCell ⟨T, 0, none⟩ (.pointer (some ⟨w.heap.size + 2, 0, none⟩))) T 45 #[.pointer (some ⟨w.heap.size + 2, 0, none⟩)] ∧ Keep F w (w1.setCell ⟨T, 0, none⟩ (.pointer (some ⟨w.heap.size + 2, 0, none⟩))) := by
      refine ⟨?_, hT1.set_ 0 _, (Keep.of_new hal).set ⟨T, 0, none⟩ h3 _⟩
      have h9 : BR B0 (fun b => (F b ∨ w.heap.size ≤ b) ∧ b ≠ T) K st0 w1 (w.heap.size + 2) := by
        refine ⟨_, _, _, _, _, _, _, ({ hbr with base := fun x hx => hbr.base x hx.1, fg := ⟨hbr.fg, by omega⟩, fm := ⟨hbr.fm, by omega⟩, fk := ⟨hbr.fk, by omega⟩, upR := Gd.Own.nil _ _ _ _ _, tsR := Gd.Own.nil _ _ _ _ _ } : BRx B0 (fun b => (F b ∨ w.heap.size ≤ b) ∧ b ≠ T) K st0 [] (fun _ => 0) [] (.slice none 0 0) (.slice none 0 0) w.heap.size (w.heap.size + 1) w1 (w.heap.size + 2))⟩
      exact (h9.keep (fun b hb _ => Below.heap_setCell _ _ _ _ hb.2) ((Below.refl _ _).setCell (by have := h2 _ h3; exact this) _)).mono (fun b _ hb => hb.1) hbr.base
    have d0 := hT1.cell 0
    have e0 := hT1.frozen 0
    have a0 := hend.2.1.cell 0
    simp at d0 a0
    have heq : w1.setCell ⟨T, 0, none⟩ (.pointer (some ⟨w.heap.size + 2, 0, none⟩)) = (((w.setCell ⟨T, 0, none⟩ (.pointer (some ⟨w.heap.size + 1 + 1, 0, none⟩))).alloc (.map #[] 0)).alloc (.map #[] 0)).alloc (.cells #[.slice none 0 0, .slice none 0 0, .map (some w.heap.size), .int .i64 0, .map (some (w.heap.size + 1))] 60) := by
      rw [hw1, setCell_allocT _ _ _ _ (by simp <;> omega), setCell_allocT _ _ _ _ (by simp <;> omega), setCell_allocT _ _ _ _ hlt.1]
    rw [heq] at hend
    have HE := Lib.hid hend
    have hTs : T < w.heap.size + 1 := by omega
    have hTs2 : T < w.heap.size + 1 + 1 := by omega
    clear hbr hend hbk m1 m2 h1 h2 hal hT1 h5
    subst hw1
    go_enter Tryd.func18, Tryd.ntmps18
    go_wp2_with fail
    go_ret
    exact ⟨_, rfl, HE.out.2.1, HE.out.1, HE.out.2.2⟩
  · have c0 := h5.cell 0
    simp at c0
    have H5 := Lib.hid h5; have H6 := Lib.hid h6; have H2 := Lib.hid h2
    clear h5 h6 h1 h2
    go_enter Tryd.func18, Tryd.ntmps18
    go_wp2_with fail
    go_ret
    exact ⟨g, rfl, H5.out, H6.out.mono (fun b _ h => .inl h) fun x hx => hx.elim (H2.out x) fun h => by omega, Keep.refl _ _⟩
end Go.Proofs.YtfhjfhbfgndheaaDoor
