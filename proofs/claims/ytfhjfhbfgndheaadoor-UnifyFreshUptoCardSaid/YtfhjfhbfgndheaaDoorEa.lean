/- What is known of strconv.Atoi, for the evaluator; the awake (works) of corollarylaw09. -/
import Derived.Test.YtfhjfhbfgndheaaDoorTab
import Derived.Test.YtfhjfhbfgndheaaDoorVs
import Derived.Lib.AtoiErrMem
namespace Go.Proofs.YtfhjfhbfgndheaaDoor
open Go.RowKit Go.Shelf
open Go Go.Xe

/-- strconv.Atoi: the number, or an error whose place alone is known. -/
noncomputable def atoiS : List AV → T AO → Nat → Option (AV × T AO × Nat)
  | [.str l], h, nx => match Nat.ble l.length 1000, Lib.atoiAll l with
    | true, Lib.NumEnd.syntax => some (.tup [.int .i64 0, .iface 104 (.ptr nx 0)], h, nx + 1)
    | true, .ok v => some (.tup [.int .i64 v, .nili], h, nx)
    | _, _ => none
  | _, _, _ => none
theorem atoi_enters : ∀ ays w, (callFunc 36 ays).run Tryd.prog w = .ok (.enter 36 ays) w := enters_of Tryd.func36 (by kernel_rfl) rfl
theorem atoi_ok (W : World) (ev : Value) (hg : W.cell? ⟨0, 0, none⟩ = some ev) (hev : ev = .nilIface ∨ ∃ te pe, ev = .iface te pe) : FOk tab Tryd.prog (baseOf W) 36 atoiS := by
  intro args h nx v h' nx' hv e w ARGS s ha
  unfold atoiS at hv
  split at hv
  · rename_i l
    cases ha with
    | cons _ V1 _ _ r1 r2 =>
      cases r2
      cases r1
      have hlen : ∀ b, Nat.ble l.length 1000 = b → b = true → l.length ≤ 1000 := fun b h1 h2 => Nat.le_of_ble_eq_true (h1.trans h2)
      have hsz : (⟨⟨l⟩⟩ : ByteArray).size = l.length := rfl
      split at hv
      · rename_i h1 h2
        cases hv
        have h00 : w.cell? ⟨0, 0, none⟩ = some ev := by
          have hlt : 0 < W.heap.size := by
            rcases Nat.lt_or_ge 0 W.heap.size with h | h
            · exact h
            · simp [World.cell?, Array.getElem?_eq_none h] at hg
          have := s.base.2.2.2 0 hlt
          rw [← hg]
          simp only [World.cell?]
          rw [this]
          rfl
        refine (Tryd.strconv_Atoi_syntax ⟨⟨l⟩⟩ (by rw [hsz]; have := hlen _ h1 rfl; omega) h2 ev w h00 hev).mono ?_
        rintro E w' ⟨N, rfl, _, _, hb⟩
        obtain ⟨s1, st1⟩ := s.belowW hb
        obtain ⟨s2, st2⟩ := s1.phantom N
        exact ⟨_, _, rfl, .tup _ _ (.cons _ _ _ _ (.int _ _) (.cons _ _ _ _ (.iface _ _ _ (.ptr _ _ _ (by simp [Env.put]))) .nil)), s2, st1.trans st2⟩
      · rename_i n h1 h2
        cases hv
        refine (Tryd.strconv_Atoi_ok ⟨⟨l⟩⟩ (by rw [hsz]; have := hlen _ h1 rfl; omega) n h2 w).mono ?_
        rintro E w' ⟨rfl, hw⟩
        have hb : Below w.heap.size w w' := by
          rcases hw with rfl | ⟨t, rfl⟩
          · exact Below.refl _ _
          · exact Lib.bytesWorld_below _ _ _
        obtain ⟨s1, st1⟩ := s.belowW hb
        exact ⟨_, e, rfl, .tup _ _ (.cons _ _ _ _ (.int _ _) (.cons _ _ _ _ .nili .nil)), s1, st1⟩
      · cases hv
  · cases hv
set_option maxRecDepth 10000000 in
theorem works_c (w : World) (ev : Value) (hg : w.cell? ⟨0, 0, none⟩ = some ev) (hev : ev = .nilIface ∨ ∃ te pe, ev = .iface te pe) :
    Calls Tryd.prog 4 #[] w fun e w' => e = .returned (.bool true) ∧ Below w.heap.size w w' := by
  refine (run_closedS (A := tab) (S := orS 36 atoiS noS) (lp := 100) (d := 200) (p := fun v => match v with | .bool b => b | _ => false) tab_ok (by kernel_rfl) rfl (by kernel_rfl) w (orS_ok atoi_enters (atoi_ok w ev hg hev) noS_ok)).mono ?_
  rintro e w' ⟨v, V, e', rfl, hp, hv, hb⟩
  cases v <;> cases hp
  cases hv
  exact ⟨rfl, hb⟩
end Go.Proofs.YtfhjfhbfgndheaaDoor
