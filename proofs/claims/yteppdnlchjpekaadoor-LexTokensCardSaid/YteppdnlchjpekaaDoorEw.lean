/- Package lex: the words of the language, in a map. -/
import Derived.Test.YteppdnlchjpekaaDoorEc
import Derived.Maps.Own
import Derived.Maps.Views
import Derived.StringKeys
import Derived.Carry
namespace Go.Proofs.YteppdnlchjpekaaDoor
open Go.RowKit Lx
open Go
attribute [local go_sem] Oper.semAt_some

namespace Lx
def wordL : List (List UInt8) := [[109, 111, 100, 117, 108, 101], [105, 109, 112, 111, 114, 116], [112, 117, 98], [116, 121, 112, 101], [105, 110, 112, 117, 116], [114, 101, 108], [110, 101, 118, 101, 114], [110, 111, 116], [97, 110, 100], [111, 114], [105, 102], [116, 104, 101, 110], [101, 108, 115, 101], [116, 114, 117, 101], [102, 97, 108, 115, 101], [99, 111, 117, 110, 116], [115, 117, 109], [109, 105, 110], [109, 97, 120]]
def isW (s : List UInt8) : Bool := wordL.contains s
end Lx
theorem str_law : Maps.Keyed Tryd.prog 9 := Maps.string_keyed Tryd.underlying9
def mapD (ks : List (List UInt8)) : DataW Unit := ks.foldl (fun D k => D.put (.string k) (.lit (.bool true))) (.map [])
theorem mapD_snoc (ks : List (List UInt8)) (k : List UInt8) : mapD (ks ++ [k]) = (mapD ks).put (.string k) (.lit (.bool true)) := by simp [mapD]
theorem mapD_at (x : List UInt8) (z : DataW Unit) : ∀ ks : List (List UInt8), ∀ D : DataW Unit, Maps.IsMap D →
    (ks.foldl (fun D k => D.put (.string k) (.lit (.bool true))) D).atKey (.string x) z = if ks.contains x then .lit (.bool true) else D.atKey (.string x) z
  | [], D, _ => by simp
  | k :: ks, D, hD => by
    rw [List.foldl_cons, mapD_at x z ks _ (hD.put _ _)]
    by_cases h : ks.contains x = true
    · rw [if_pos h, if_pos (by rw [List.contains_cons, h]; simp)]
    · rw [if_neg h]
      by_cases hk : x = k
      · subst hk
        rw [Maps.atKey_put_same hD (show WideAt.IsKeyLit (.string x) from trivial), if_pos (by simp)]
      · rw [Maps.atKey_put_other (by intro e; injection e with e; exact hk e), if_neg (by rw [List.contains_cons]; simp [hk]; simpa using h)]
theorem elem_bool {P : Program} {e : TypeId} (he : P.underlying e = some .bool) {v : Value} {y : Bool} {ps : List MemPlace} (h : plainElem (H := Unit) P e v = some (.lit (.bool y), ps)) : ∃ x, v = .bool x ∧ x = y := by
  unfold plainElem at h
  rw [he] at h
  split at h
  · simp at h; exact ⟨_, rfl, h.1⟩
  · exact absurd ‹some TypeDesc.bool = some (TypeDesc.int _)› (by simp)
  · exact absurd ‹some TypeDesc.bool = some TypeDesc.string› (by simp)
  · cases h
/-- Block b is a map with just these texts, each true. -/
def WM (w : World) (b : Nat) (ks : List (List UInt8)) : Prop := w.ownsMap Tryd.prog 9 (plainElem (H := Unit) Tryd.prog 4) b ks.length (mapD ks)
theorem wpList_word (w : World) {ops : Array Oper} {rest : List Oper} {o : Oper} {a : Act} {Q : Exit → Act → World → Prop} (hg : o.guard = none) (m x v : Operand) (hop : o.op = Op.insert 74 m x v) (b : Nat) (ks : List (List UInt8))
    (hm : a.eval m = .map (some b)) (hown : WM w b ks) (hn : ks.length ≤ 1000) (s : ByteArray) (hx : a.eval x = .string s) (hv : a.eval v = .bool true) (hs : s.size ≤ 1000)
    (hK : ∀ w', WM w' b (ks ++ [s.data.toList]) → w.grownBy w' (some b) → wpList Tryd.prog ops Q rest (a.put o.dst undef) w') : wpList Tryd.prog ops Q (o :: rest) a w := by
  refine wpList_plain hg fun K' hK' => ?_
  obtain ⟨w', hrun, r1, r2⟩ := World.ownsMap.update hown str_law Tryd.underlying74 (by unfold maxLen; omega) (WideMaps.keyOf_string_mk Tryd.underlying9 (s := s) (by unfold maxLen; omega)) (plainElem_bool Tryd.underlying4 true)
  unfold Oper.wp
  simp [execOp, hop, hm, hx, hv, hrun, Result.andThen]
  refine hK' _ _ (hK w' ?_ r2)
  unfold WM
  rw [mapD_snoc, List.length_append]
  exact r1
theorem look_word {w : World} {b : Nat} {ks : List (List UInt8)} (h : WM w b ks) (s : ByteArray) (hs : s.size ≤ maxLen) : (Instr.lookup 74 (.map (some b)) (.string s) false).run Tryd.prog w = .ok (.bool (ks.contains s.data.toList)) w := by
  obtain ⟨v, ps, hrun, hv⟩ := World.ownsMap.lookup h str_law Tryd.underlying74 (z := .bool false) (by kernel_rfl) (plainElem_bool Tryd.underlying4 false) (WideMaps.keyOf_string_mk Tryd.underlying9 hs)
  rw [show mapD ks = ks.foldl (fun D k => D.put (.string k) (.lit (.bool true))) (.map []) from rfl, mapD_at _ _ _ _ Maps.isMap_empty] at hv
  have hv' : plainElem (H := Unit) Tryd.prog 4 v = some (.lit (.bool (ks.contains s.data.toList)), ps) := by
    rw [hv]
    cases ks.contains s.data.toList <;> rfl
  have : v = .bool (ks.contains s.data.toList) := by
    obtain ⟨x, rfl, hx⟩ := elem_bool Tryd.underlying4 hv'
    rw [hx]
  rw [hrun, this]
theorem WM.under {w w' : World} {b : Nat} {ks : List (List UInt8)} (h : WM w b ks) (hb : Below w.heap.size w w') : WM w' b ks := by
  have hlt := World.ownsMap.lt h
  obtain ⟨es, clock, hbk, F, hs, hD⟩ := h
  exact ⟨es, clock, (hb.block b hlt).trans hbk, F, hs, hD⟩

set_option maxRecDepth 100000 in
set_option maxHeartbeats 4000000 in
theorem words_c (w : World) : Calls Tryd.prog 30 #[] w fun e w' => ∃ b, e = .returned (.map (some b)) ∧ WM w' b wordL ∧ Below w.heap.size w w' := by
  have hmm := @run_makeMap Tryd.prog
  have h0 : WM (w.alloc (.map #[] 0)) w.heap.size [] := World.ownsMap_made _ _ _ _
  have hb0 : Below w.heap.size w (w.alloc (.map #[] 0)) := (Below.refl _ _).alloc (Nat.le_refl _) _
  have HO := Lib.hid (And.intro h0 hb0)
  clear h0 hb0
  go_enter Tryd.func30, Tryd.ntmps30
  go_wp2_with (refine wpList_word _ rfl _ _ _ rfl w.heap.size _ rfl HO.out.1 (by decide) _ rfl rfl (by decide) ?_; intro w1 h1 hg1; have HO2 := Lib.hid (And.intro h1 (HO.out.2.grown hg1 HO.out.2.size (fun j hj => by cases hj; exact Nat.le_refl _))); clear HO h1 hg1; rename _ => HO)
  go_ret
  exact ⟨_, rfl, HO.out.1, HO.out.2⟩
end Go.Proofs.YteppdnlchjpekaaDoor
