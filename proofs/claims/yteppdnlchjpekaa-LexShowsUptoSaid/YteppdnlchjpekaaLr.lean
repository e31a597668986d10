/- How tokens lie in memory, and that what a caller hands in lies so. -/
import Derived.ChangeArms
import Derived.DataReads
import Derived.Below
import Derived.Test.YteppdnlchjpekaaLa
import Derived.Test.YteppdnlchjpekaaRows
import Derived.Deep.Slices
namespace Go.Proofs.Yteppdnlchjpekaa
open Go.RowKit Go.ChangeShapes Go.WideShapes Go.Deep Lx
open Go

/-- Tokens lie in the world, in blocks below B. -/
def TRep (w : World) (B : Nat) (l : List T) (A : Option Addr) (c : Nat) : Prop :=
  l.length ≤ c ∧ c ≤ maxLen ∧ ∀ j (hj : j < l.length), ∃ b off, A = some ⟨b, off, none⟩ ∧ b < B ∧ w.cell? ⟨b, off + j * 4, none⟩ = some (.int .i64 l[j].line) ∧ w.cell? ⟨b, off + j * 4 + 1, none⟩ = some (.int .i64 l[j].col) ∧
    w.cell? ⟨b, off + j * 4 + 2, none⟩ = some (.int .u8 (l[j].kind : Int)) ∧ w.cell? ⟨b, off + j * 4 + 3, none⟩ = some (.string l[j].text)
theorem TRep.under {w w' : World} {B : Nat} {l : List T} {A : Option Addr} {c : Nat} (h : TRep w B l A c) (hb : Below B w w') : TRep w' B l A c := by
  obtain ⟨h1, h2, h3⟩ := h
  refine ⟨h1, h2, fun j hj => ?_⟩
  obtain ⟨b, off, e1, e2, c0, c1, c2, c3⟩ := h3 j hj
  exact ⟨b, off, e1, e2, (hb.cell (p := ⟨b, _, none⟩) e2).trans c0, (hb.cell (p := ⟨b, _, none⟩) e2).trans c1, (hb.cell (p := ⟨b, _, none⟩) e2).trans c2, (hb.cell (p := ⟨b, _, none⟩) e2).trans c3⟩
theorem TRep.more {w : World} {B B' : Nat} {l : List T} {A : Option Addr} {c : Nat} (h : TRep w B l A c) (hb : B ≤ B') : TRep w B' l A c := by
  obtain ⟨h1, h2, h3⟩ := h
  refine ⟨h1, h2, fun j hj => ?_⟩
  obtain ⟨b, off, e1, e2, h⟩ := h3 j hj
  exact ⟨b, off, e1, by omega, h⟩

theorem bulk_le {H : Type} : ∀ (l : List T) (ds : List (DataW H)), l.length = ds.length → (∀ (i : Nat) t d, l[i]? = some t → ds[i]? = some d → t.text.size + 1 ≤ Rows.uptoBulk d) → bulk l ≤ Rows.uptoBulkAll ds
  | [], _, _, _ => by simp [bulk]
  | t :: l, [], h, _ => by simp at h
  | t :: l, d :: ds, h, hp => by
    have h0 := hp 0 t d rfl rfl
    have h1 := bulk_le l ds (by simpa using h) (fun i t' d' ht hd => hp (i + 1) t' d' (by simpa using ht) (by simpa using hd))
    rw [bulk_cons, Rows.uptoBulkAll]; omega

section
variable {H : Type} {enc : TypeId × Value → H} {w : World} {spare : Nat → Bool} {held : Bool}
theorem cellsT : Try.prog.cellsOf 26 = 4 := by kernel_rfl
theorem open_tok (fuel : Nat) (cs : List Value) (x : DataW H × List MemPlace) (h : DataW.trod enc Try.prog w 0 spare held fuel 26 cs = some x) :
    ∃ t : T, cs = [.int .i64 t.line, .int .i64 t.col, .int .u8 (t.kind : Int), .string t.text] ∧ t.text.size + 1 ≤ Rows.uptoBulk x.1 ∧ t.kind < 256 := by
  obtain ⟨xs, n, rfl, rfl, hl, hlen, hf⟩ := DataW.trod_struct Try.underlying26 h
  rw [cellsT] at hl
  match cs, hl with
  | [a, b, c, d], _ =>
    have g0 : DataW.trod enc Try.prog w 0 spare held n 24 (List.take (Try.prog.cellsOf 24) (List.drop 0 [a, b, c, d])) = xs[0]? := hf 0 _ rfl
    have g1 : DataW.trod enc Try.prog w 0 spare held n 5 (List.take (Try.prog.cellsOf 5) (List.drop 2 [a, b, c, d])) = xs[1]? := hf 1 _ rfl
    have g2 : DataW.trod enc Try.prog w 0 spare held n 9 (List.take (Try.prog.cellsOf 9) (List.drop 3 [a, b, c, d])) = xs[2]? := hf 2 _ rfl
    have hx : xs.length = 3 := hlen
    have cP : Try.prog.cellsOf 24 = 2 := by kernel_rfl
    have cI : Try.prog.cellsOf 3 = 1 := by kernel_rfl
    have cU : Try.prog.cellsOf 5 = 1 := by kernel_rfl
    have cS : Try.prog.cellsOf 9 = 1 := by kernel_rfl
    rw [cP, List.getElem?_eq_getElem (by omega)] at g0
    rw [cU, List.getElem?_eq_getElem (by omega)] at g1
    rw [cS, List.getElem?_eq_getElem (by omega)] at g2
    obtain ⟨ys, m, rfl, hx0, _, hyl, hg⟩ := DataW.trod_struct Try.underlying24 g0
    have k0 : DataW.trod enc Try.prog w 0 spare held m 3 (List.take (Try.prog.cellsOf 3) (List.drop 0 (List.take 2 (List.drop 0 [a, b, c, d])))) = ys[0]? := hg 0 _ rfl
    have k1 : DataW.trod enc Try.prog w 0 spare held m 3 (List.take (Try.prog.cellsOf 3) (List.drop 1 (List.take 2 (List.drop 0 [a, b, c, d])))) = ys[1]? := hg 1 _ rfl
    have hy : ys.length = 2 := hyl
    rw [cI, List.getElem?_eq_getElem (by omega)] at k0 k1
    obtain ⟨li, e0, _, _⟩ := DataW.trod_int Try.underlying3 k0
    obtain ⟨co, e1, _, _⟩ := DataW.trod_int Try.underlying3 k1
    obtain ⟨k, e2, _, wk⟩ := DataW.trod_int Try.underlying5 g1
    obtain ⟨s, e3, hs, _⟩ := DataW.trod_string Try.underlying9 g2
    simp at e0 e1 e2 e3
    subst e0; subst e1; subst e2; subst e3
    have hk' : 0 ≤ k ∧ k < 256 := by
      simp only [Lit.wf, Bool.and_eq_true, decide_eq_true_eq] at wk
      have h1 : IntKind.u8.min = 0 := by decide
      have h2 : IntKind.u8.max = 255 := by decide
      omega
    refine ⟨⟨li, co, k.toNat, s⟩, by simp [Int.toNat_of_nonneg hk'.1], ?_, by simp; omega⟩
    match xs, hx with
    | [x0, x1, x2], _ =>
      simp at hs
      subst hs
      simp only [Rows.uptoBulk, Rows.uptoBulkAll, List.map_cons, List.map_nil]
      have e : s.data.toList.length = s.size := by rw [Array.length_toList]; rfl
      omega
set_option maxRecDepth 100000 in
/-- Tokens that are handed in. -/
theorem open_toks {b0 : Nat} {r : Reach} {v : Value} {d : DataW H} {ps : List MemPlace}
    (hval : Value.okWide Try.prog w r b0 22 v) (hd : DataW.Trod enc Try.prog w 0 spare held 22 v d ps) :
    ∃ (l : List T) (A : Option Addr) (c : Nat), v = .slice A l.length c ∧ TRep w w.heap.size l A c ∧ bulk l ≤ Rows.uptoBulk d ∧ ∀ t ∈ l, t.kind < 256 := by
  obtain ⟨A, len, cap, rfl⟩ := okWide_slice Try.underlying22 hval
  obtain ⟨fuel, hf⟩ := hd
  rcases DataW.trod_slice Try.underlying22 hf with ⟨hcs, _⟩ | ⟨a, len', cap', elems, rest, n, _, hcs, hx, _, hlc, hcm, hlen, hel, _⟩
  · simp only [Value.cells, List.cons.injEq, Value.slice.injEq, and_true] at hcs
    obtain ⟨rfl, rfl, rfl⟩ := hcs
    exact ⟨[], none, 0, rfl, ⟨Nat.le_refl _, by decide, fun _ hj => absurd hj (Nat.not_lt_zero _)⟩, by simp [bulk], by simp⟩
  · simp only [Value.cells, List.cons.injEq, Value.slice.injEq, and_true] at hcs
    obtain ⟨rfl, rfl, rfl⟩ := hcs
    rw [cellsT] at hel
    obtain ⟨F, hF⟩ := choose_lt (α := T) (n := len) (p := fun i t => t.kind < 256 ∧ (∀ y, (elems.map (·.1))[i]? = some y → t.text.size + 1 ≤ Rows.uptoBulk y) ∧ ∃ b off, a = ⟨b, off, none⟩ ∧ b < w.heap.size ∧ w.cell? ⟨b, off + i * 4, none⟩ = some (.int .i64 t.line) ∧ w.cell? ⟨b, off + i * 4 + 1, none⟩ = some (.int .i64 t.col) ∧
        w.cell? ⟨b, off + i * 4 + 2, none⟩ = some (.int .u8 (t.kind : Int)) ∧ w.cell? ⟨b, off + i * 4 + 3, none⟩ = some (.string t.text)) (fun i hi => by
      have h1 := hel i hi
      rw [List.getElem?_eq_getElem (by omega)] at h1
      obtain ⟨cs', h2, h3⟩ := Option.bind_eq_some_iff.1 h1
      obtain ⟨_, hl4, hc4⟩ := World.cells?_some h2
      obtain ⟨t, rfl, hbk, hk⟩ := open_tok n cs' _ h3
      refine ⟨t, hk, fun y hy => ?_, ?_⟩
      · rw [List.getElem?_map, List.getElem?_eq_getElem (by omega)] at hy
        simp at hy; rw [← hy]; exact hbk
      have hspot : a.spot = none ∧ a.block < w.heap.size := by
        have h0 := hel 0 (by omega)
        rw [List.getElem?_eq_getElem (by omega)] at h0
        obtain ⟨cs0, h02, _⟩ := Option.bind_eq_some_iff.1 h0
        obtain ⟨_, hl0, hc0⟩ := World.cells?_some h02
        have h00 := hc0 0 (by omega)
        rw [List.getElem?_eq_getElem (by omega)] at h00
        have e0 : (a.add (0 * 4)).add 0 = a := by simp [Addr.add]
        rw [e0] at h00
        unfold World.cell? at h00
        split at h00
        · rename_i hb
          refine ⟨?_, ?_⟩
          · cases hs : a.spot with
            | none => rfl
            | some q => simp [hs] at h00
          · rw [Array.getElem?_eq_some_iff] at hb
            exact hb.1
        · simp at h00
      obtain ⟨hs, hb⟩ := hspot
      have key : ∀ k, k < 4 → (a.add (i * 4)).add k = ⟨a.block, a.off + i * 4 + k, none⟩ := fun k _ => by
        rw [add_add]
        unfold Addr.add
        split
        · rename_i hz0
          have : i * 4 = 0 ∧ k = 0 := by omega
          cases a; simp_all
        · simp
      have c0 := hc4 0 (by omega); have c1 := hc4 1 (by omega); have c2 := hc4 2 (by omega); have c3 := hc4 3 (by omega)
      rw [key _ (by omega)] at c0 c1 c2 c3
      exact ⟨a.block, a.off, by cases a; simp_all, hb, c0, c1, c2, c3⟩)
    refine ⟨(List.range len).map F, some a, cap, by simp, ⟨by simpa using hlc, hcm, fun j hj => ?_⟩, ?_, fun t ht => ?_⟩
    · obtain ⟨_, _, b, off, rfl, hb, hc⟩ := hF j (by simpa using hj)
      refine ⟨b, off, rfl, hb, ?_⟩
      simpa using hc
    · have hle : bulk ((List.range len).map F) ≤ Rows.uptoBulkAll (elems.map (·.1)) := bulk_le _ _ (by simp [hlen]) (fun i t y ht hy => by
        have hi : i < len := by
          rcases Nat.lt_or_ge i len with h | h
          · exact h
          · rw [List.getElem?_eq_none (by simpa using h)] at ht; cases ht
        rw [List.getElem?_map, List.getElem?_range hi] at ht
        simp at ht; subst ht
        exact (hF i hi).2.1 y hy)
      have : d = .slice (elems.map (·.1)) (rest.map (·.1)) := by injection hx
      rw [this, Rows.uptoBulk]; omega
    · simp at ht
      obtain ⟨i, hi, rfl⟩ := ht
      exact (hF i hi).1
end
end Go.Proofs.Yteppdnlchjpekaa
