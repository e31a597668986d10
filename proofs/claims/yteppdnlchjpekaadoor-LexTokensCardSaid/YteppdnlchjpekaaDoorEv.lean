/- The law's first question: the tokens of the example. -/
import Derived.Test.YteppdnlchjpekaaDoorEu
import Derived.Test.YteppdnlchjpekaaDoorLz
namespace Go.Proofs.YteppdnlchjpekaaDoor
open Go.RowKit Lx
open Go
attribute [local go_sem] Oper.semAt_some

theorem tcells_len : ∀ l : List T, (tcells l).length = l.length * 4
  | [] => rfl
  | t :: l => by
    have := tcells_len l
    simp only [tcells, List.flatMap_cons, List.length_append, List.length_cons, List.length_nil] at this ⊢
    omega
theorem tcells_at : ∀ (l : List T) (j : Nat) (hj : j < l.length), (tcells l)[j * 4]? = some (.int .i64 l[j].line) ∧ (tcells l)[j * 4 + 1]? = some (.int .i64 l[j].col) ∧ (tcells l)[j * 4 + 2]? = some (.int .u8 (l[j].kind : Int)) ∧ (tcells l)[j * 4 + 3]? = some (.string l[j].text)
  | [], j, hj => by simp at hj
  | t :: l, 0, _ => ⟨rfl, rfl, rfl, rfl⟩
  | t :: l, j + 1, hj => by
    have h := tcells_at l j (by simpa using hj)
    have e : tcells (t :: l) = [.int .i64 t.line, .int .i64 t.col, .int .u8 (t.kind : Int), .string t.text] ++ tcells l := rfl
    have key : ∀ i, (tcells (t :: l))[(j + 1) * 4 + i]? = (tcells l)[j * 4 + i]? := fun i => by
      rw [e, List.getElem?_append_right (by simp only [List.length_cons, List.length_nil]; omega)]
      congr 1
      simp only [List.length_cons, List.length_nil]; omega
    exact ⟨(key 0).trans h.1, (key 1).trans h.2.1, (key 2).trans h.2.2.1, (key 3).trans h.2.2.2⟩
theorem trep_own {w : World} {B : Nat} {l : List T} {v : Value} (h : OwnT B l w v) : ∃ A c, v = .slice A l.length c ∧ TRep w w.heap.size l A c := by
  rcases h.2 with ⟨rfl, h0⟩ | ⟨g, cap, cur, rfl, _, hg, hn, hm, _, ht⟩
  · obtain rfl : l = [] := List.eq_nil_of_length_eq_zero h0
    exact ⟨none, 0, rfl, Nat.le_refl _, by unfold maxLen; omega, fun _ hj => absurd hj (Nat.not_lt_zero _)⟩
  · refine ⟨_, cap, rfl, hn, hm, fun j hj => ⟨g, 0, rfl, ?_, ?_⟩⟩
    · exact (Array.getElem?_eq_some_iff.1 hg).1
    · have key : ∀ i u, i < l.length * 4 → (tcells l)[i]? = some u → w.cell? ⟨g, 0 + i, none⟩ = some u := fun i u hi hu => by
        rw [Nat.zero_add, cell_of_row w g i cur _ _ hg, ← Array.getElem?_toList]
        rw [← ht, List.getElem?_take_of_lt hi] at hu
        exact hu
      obtain ⟨c0, c1, c2, c3⟩ := tcells_at l j hj
      exact ⟨key _ _ (by omega) c0, key _ _ (by omega) c1, key _ _ (by omega) c2, key _ _ (by omega) c3⟩
theorem own_at {w : World} {B : Nat} {l : List T} {v : Value} (h : OwnT B l w v) (hl : l ≠ []) : ∃ g c, v = .slice (some ⟨g, 0, none⟩) l.length c ∧ l.length ≤ c ∧ c ≤ maxLen ∧ B ≤ g ∧ g < w.heap.size ∧ TRep w w.heap.size l (some ⟨g, 0, none⟩) c ∧ ∀ i u, (tcells l)[i]? = some u → w.cell? ⟨g, i, none⟩ = some u := by
  obtain ⟨A, c, e, htr⟩ := trep_own h
  have hcs := fun g hg => World.ownsRow.cells h (g := g) hg
  rcases h.2 with ⟨rfl, h0⟩ | ⟨g, cap, cur, rfl, hB, hg, hn, hm, _, ht⟩
  · exact absurd (List.eq_nil_of_length_eq_zero h0) hl
  · injection e with e1 e2 e3
    subst e1 e3
    refine ⟨g, cap, rfl, hn, hm, hB, (Array.getElem?_eq_some_iff.1 hg).1, htr, fun i u hu => ?_⟩
    have := hcs g rfl i u hu
    rwa [add0] at this
namespace Lx
/-- The example, its tokens, their text. -/
def exB : ByteArray := ⟨#[97, 40, 88, 41, 32, 58, 45, 32, 98, 46, 99, 40, 88, 44, 32, 95, 41, 44, 32, 88, 32, 62, 61, 32, 49, 50, 98, 46, 32, 35, 32, 120]⟩
def exT : List T := [⟨1, 1, 2, ⟨#[97]⟩⟩, ⟨1, 2, 8, ⟨#[40]⟩⟩, ⟨1, 3, 3, ⟨#[88]⟩⟩, ⟨1, 4, 8, ⟨#[41]⟩⟩, ⟨1, 6, 8, ⟨#[58, 45]⟩⟩, ⟨1, 9, 2, ⟨#[98, 46, 99]⟩⟩, ⟨1, 12, 8, ⟨#[40]⟩⟩, ⟨1, 13, 3, ⟨#[88]⟩⟩, ⟨1, 14, 8, ⟨#[44]⟩⟩, ⟨1, 16, 4, ⟨#[95]⟩⟩, ⟨1, 17, 8, ⟨#[41]⟩⟩, ⟨1, 18, 8, ⟨#[44]⟩⟩, ⟨1, 20, 3, ⟨#[88]⟩⟩, ⟨1, 22, 8, ⟨#[62, 61]⟩⟩, ⟨1, 25, 6, ⟨#[49, 50]⟩⟩, ⟨1, 28, 8, ⟨#[46]⟩⟩]
theorem ex_toks : toks exB.data.toList = (exT, (0, 0), 0) := by kernel_rfl
theorem ex_show : (⟨(show_ exT).toArray⟩ : ByteArray) = ⟨#[97, 32, 40, 32, 88, 32, 41, 32, 58, 45, 32, 98, 46, 99, 32, 40, 32, 88, 32, 44, 32, 95, 32, 41, 32, 44, 32, 88, 32, 62, 61, 32, 49, 50, 98, 32, 46]⟩ := by kernel_rfl
end Lx
set_option maxRecDepth 100000 in
theorem tok_ex (w : World) (hM : MaxAt w) : Calls Tryd.prog 10 #[.string ⟨#[97, 40, 88, 41, 32, 58, 45, 32, 98, 46, 99, 40, 88, 44, 32, 95, 41, 44, 32, 88, 32, 62, 61, 32, 49, 50, 98, 46, 32, 35, 32, 120]⟩] w fun e w' => ∃ g c, e = .returned (.tuple #[.slice (some ⟨g, 0, none⟩) 16 c, .agg #[.int .i64 0, .int .i64 0], .int .i64 0]) ∧ 16 ≤ c ∧ c ≤ maxLen ∧ g < w'.heap.size ∧ TRep w' w'.heap.size exT (some ⟨g, 0, none⟩) c ∧ (∀ i u, (tcells exT)[i]? = some u → w'.cell? ⟨g, i, none⟩ = some u) ∧ Below w.heap.size w w' := by
  have h := tokens_c exB (by decide) w hM
  rw [ex_toks] at h
  refine h.mono ?_
  rintro e w' ⟨v, rfl, ho, hb⟩
  obtain ⟨g, c, rfl, h1, h2, _, h3, h4, h5⟩ := own_at ho (by decide)
  exact ⟨g, c, rfl, h1, h2, h3, h4, h5, hb⟩
set_option maxRecDepth 100000 in
theorem show_ex (g c : Nat) (w : World) (hR : TRep w w.heap.size exT (some ⟨g, 0, none⟩) c) : Calls Tryd.prog 11 #[.slice (some ⟨g, 0, none⟩) 16 c] w fun e w' => e = .returned (.string ⟨#[97, 32, 40, 32, 88, 32, 41, 32, 58, 45, 32, 98, 46, 99, 32, 40, 32, 88, 32, 44, 32, 95, 32, 41, 32, 44, 32, 88, 32, 62, 61, 32, 49, 50, 98, 32, 46]⟩) ∧ Below w.heap.size w w' := by
  have h := show_c exT _ c w hR (by decide)
  rw [ex_show] at h
  exact h
set_option maxRecDepth 100000 in
set_option maxHeartbeats 2000000 in
theorem works_c (w : World) (hM : MaxAt w) : Calls Tryd.prog 8 #[] w fun e w' => e = .returned (.bool true) ∧ Below w.heap.size w w' := by
  have hmax : maxLen = 9223372036854775807 := rfl
  have HT := Lib.hid (tok_ex w hM)
  go_enter Tryd.func8, Tryd.ntmps8
  go_wp2_with fail
  refine HT.out.mono ?_
  rintro e w1 ⟨g, c, rfl, hc1, hc2, hg, htr, hcs, hb⟩
  have HTR := Lib.hid htr; have HCS := Lib.hid hcs; have HB := Lib.hid hb
  clear htr hcs hb HT
  go_wp2_with fail
  have hb2 : Below w1.heap.size w1 (w1.alloc (.cells #[.int .i64 0, .int .i64 0] 24)) := (Below.refl _ _).alloc (Nat.le_refl _) _
  refine (show_ex g c _ ((HTR.out.under hb2).more (by simp))).mono ?_
  rintro e w3 ⟨rfl, hb3'⟩
  have hb3 : Below w1.heap.size w1 w3 := hb2.trans (hb3'.mono (by simp))
  have hcs := HCS.out
  have c0 := (hb3.cell (p := ⟨g, 0, none⟩) hg).trans (hcs 0 (.int .i64 1) rfl)
  have c1 := (hb3.cell (p := ⟨g, 1, none⟩) hg).trans (hcs 1 (.int .i64 1) rfl)
  have c2 := (hb3.cell (p := ⟨g, 2, none⟩) hg).trans (hcs 2 (.int .u8 2) rfl)
  have c3 := (hb3.cell (p := ⟨g, 3, none⟩) hg).trans (hcs 3 (.string ⟨#[97]⟩) rfl)
  have c10 := (hb3.cell (p := ⟨g, 10, none⟩) hg).trans (hcs 10 (.int .u8 3) rfl)
  have c18 := (hb3.cell (p := ⟨g, 18, none⟩) hg).trans (hcs 18 (.int .u8 8) rfl)
  have c22 := (hb3.cell (p := ⟨g, 22, none⟩) hg).trans (hcs 22 (.int .u8 2) rfl)
  have c38 := (hb3.cell (p := ⟨g, 38, none⟩) hg).trans (hcs 38 (.int .u8 4) rfl)
  have c56 := (hb3.cell (p := ⟨g, 56, none⟩) hg).trans (hcs 56 (.int .i64 1) rfl)
  have c57 := (hb3.cell (p := ⟨g, 57, none⟩) hg).trans (hcs 57 (.int .i64 25) rfl)
  have c58 := (hb3.cell (p := ⟨g, 58, none⟩) hg).trans (hcs 58 (.int .u8 6) rfl)
  have c59 := (hb3.cell (p := ⟨g, 59, none⟩) hg).trans (hcs 59 (.string ⟨#[49, 50]⟩) rfl)
  have HU := Lib.hid (HB.out.trans (hb3.mono HB.out.size))
  clear hb2 hb3 hb3' hcs HTR HCS HB
  go_wp2_with fail
  refine bodyPost_ret (v := .bool true) (by simp [results, Tryd.results8, go_sem]) rfl ⟨rfl, HU.out⟩
end Go.Proofs.YteppdnlchjpekaaDoor
