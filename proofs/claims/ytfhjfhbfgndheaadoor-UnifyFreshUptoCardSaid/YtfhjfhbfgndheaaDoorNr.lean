/- Package unify: list: types, each made by a function. -/
import Derived.Test.YtfhjfhbfgndheaaDoorTb
import Derived.Test.YtfhjfhbfgndheaaDoorKp
import Derived.Test.YtfhjfhbfgndheaaDoorVs
import Derived.Deep.AppendLies
import Derived.Deep.Draws
import Derived.Deep.QuietTactic
import Derived.BigQuiet
import Derived.RegionTactic
import Derived.OwnWalk
import Derived.Maps.AppendAt
import Derived.Deep.RegionLaw
import Derived.Shelf.Abstract
import Derived.Shelf.RegionOpen
namespace Go.Proofs.YtfhjfhbfgndheaaDoor
open Go.RowKit Go.Shelf
open Go
attribute [local go_sem] Oper.semAt_some

theorem retT1 {fn : Func} {p : Tmp} (h : fn.results = #[.cell p 36]) {tmps : Array Value} {W : World} {g : Nat} {x y : Value} (hp : tmps.getD p undef = .pointer (some ⟨g, 0, none⟩))
    (hb : Blk W g 36 #[x, y]) : (results fn tmps).run Tryd.prog W = .ok (.agg #[x, y]) W := by
  have c0 := hb.cell 0
  have c1 := hb.cell 1
  simp at c0 c1
  rw [Array.getD_eq_getD_getElem?] at hp
  simp [results, h, hp, go_sem, c0, c1]
theorem retT2 {fn : Func} {p q : Tmp} (h : fn.results = #[.cell p 36, .tmp q]) {tmps : Array Value} {W : World} {g : Nat} {x y v : Value} (hp : tmps.getD p undef = .pointer (some ⟨g, 0, none⟩)) (hq : tmps.getD q undef = v)
    (hb : Blk W g 36 #[x, y]) : (results fn tmps).run Tryd.prog W = .ok (.tuple #[.agg #[x, y], v]) W := by
  have c0 := hb.cell 0
  have c1 := hb.cell 1
  simp at c0 c1
  rw [Array.getD_eq_getD_getElem?] at hp hq
  simp [results, h, hp, hq, go_sem, c0, c1]
/-- So many types, a state being passed on. -/
def foldN {σ : Type} (f : σ → Nat → Ty × σ) (s : σ) : Nat → List Ty × σ
  | 0 => ([], s)
  | k + 1 => ((foldN f s k).1 ++ [(f (foldN f s k).2 k).1], (f (foldN f s k).2 k).2)
theorem foldN_len {σ : Type} (f : σ → Nat → Ty × σ) (s : σ) : ∀ k, (foldN f s k).1.length = k
  | 0 => rfl
  | k + 1 => by rw [foldN, List.length_append, foldN_len f s k]; rfl
theorem info_ty : (Tryd.prog.info? 36).map (fun i => (i.zero, i.size, i.bytes)) = some (some (.agg #[.string ⟨#[]⟩, .slice none 0 0]), 2, 40) := by kernel_rfl
/-- A row that is being filled: so many of its types are there. -/
structure Fill (w0 : World) (rb n : Nat) (l : List Ty) (w : World) : Prop where
  blk : ∃ cur, Blk w rb 36 cur ∧ cur.size = n * 2 ∧ ∀ j (hj : j < l.length), ∃ A' c', cur[j * 2]? = some (.string l[j].name) ∧ cur[j * 2 + 1]? = some (.slice A' l[j].args.length c') ∧ l[j].name.size ≤ maxLen ∧ LN (fun b => w0.heap.size ≤ b ∧ b ≠ rb) w l[j].args A' c'
theorem Fill.keep {w0 w w' : World} {rb n : Nat} {l : List Ty} (h : Fill w0 rb n l w) (hr : w0.heap.size ≤ rb) (hb : ∀ b, w0.heap.size ≤ b → b < w.heap.size → w'.heap[b]? = w.heap[b]?) : Fill w0 rb n l w' := by
  obtain ⟨cur, h1, h2, h3⟩ := h.blk
  refine ⟨cur, (hb rb hr h1.lt).trans h1, h2, fun j hj => ?_⟩
  obtain ⟨A', c', q1, q2, q3, q4⟩ := h3 j hj
  exact ⟨A', c', q1, q2, q3, q4.keep (fun b hn hl => hb b hn.1 hl) fun b h => h⟩
theorem Fill.ln {w0 w : World} {rb n : Nat} {l : List Ty} (h : Fill w0 rb n l w) (hr : w0.heap.size ≤ rb) (hl : l.length = n) (hm : n ≤ maxLen) : LN (fun b => w0.heap.size ≤ b) w l (some ⟨rb, 0, none⟩) n := by
  obtain ⟨cur, h1, h2, h3⟩ := h.blk
  have hy : ∀ j, ∃ (p : Option Addr × Nat), ∀ hj : j < l.length, cur[j * 2]? = some (.string l[j].name) ∧ cur[j * 2 + 1]? = some (.slice p.1 l[j].args.length p.2) ∧ l[j].name.size ≤ maxLen ∧ LN (fun b => w0.heap.size ≤ b ∧ b ≠ rb) w l[j].args p.1 p.2 := fun j => by
    by_cases hj : j < l.length
    · obtain ⟨A', c', q⟩ := h3 j hj
      exact ⟨(A', c'), fun _ => q⟩
    · exact ⟨(none, 0), fun h => absurd h hj⟩
  obtain ⟨p, hp⟩ := Classical.axiomOfChoice hy
  refine .mk (fun _ => rb) (fun _ => 0) (fun j => (p j).1) (fun j => (p j).2) (by omega) hm (fun j hj => ?_) fun j hj => (hp j hj).2.2.2.keep (fun _ _ _ => rfl) fun b h => h.1
  obtain ⟨q1, q2, q3, q4⟩ := hp j hj
  exact ⟨rfl, hr, q3, by rw [Nat.zero_add, h1.cell, q1], by rw [Nat.zero_add, h1.cell, q2]⟩
theorem Fill.add {w0 w : World} {rb n : Nat} {l : List Ty} {t : Ty} {A : Option Addr} {c : Nat} (h : Fill w0 rb n l w) (hl : l.length < n) (hn : t.name.size ≤ maxLen) (ht : LN (fun b => w0.heap.size ≤ b ∧ b ≠ rb) w t.args A c) :
    Fill w0 rb n (l ++ [t]) ((w.setCell ⟨rb, l.length * 2, none⟩ (.string t.name)).setCell ⟨rb, l.length * 2 + 1, none⟩ (.slice A t.args.length c)) := by
  obtain ⟨cur, h1, h2, h3⟩ := h.blk
  have far : ∀ b, b ≠ rb → ((w.setCell ⟨rb, l.length * 2, none⟩ (.string t.name)).setCell ⟨rb, l.length * 2 + 1, none⟩ (.slice A t.args.length c)).heap[b]? = w.heap[b]? := fun b hb => (Below.heap_setCell _ _ _ _ hb).trans (Below.heap_setCell _ _ _ _ hb)
  refine ⟨(cur.setIfInBounds (l.length * 2) (.string t.name)).setIfInBounds (l.length * 2 + 1) (.slice A t.args.length c), (h1.set_ _ _).set_ _ _, by simp [h2], fun j hj => ?_⟩
  rw [List.length_append, List.length_singleton] at hj
  rcases Nat.lt_or_ge j l.length with hlt | hge
  · obtain ⟨A', c', q1, q2, q3, q4⟩ := h3 j hlt
    rw [List.getElem_append_left hlt]
    refine ⟨A', c', ?_, ?_, q3, q4.keep (fun b hb _ => far b hb.2) fun b h => h⟩
    · rw [Array.getElem?_setIfInBounds_ne (by omega), Array.getElem?_setIfInBounds_ne (by omega)]; exact q1
    · rw [Array.getElem?_setIfInBounds_ne (by omega), Array.getElem?_setIfInBounds_ne (by omega)]; exact q2
  · obtain rfl : j = l.length := by omega
    have e : (l ++ [t])[l.length]'(by simp) = t := by simp
    rw [e]
    refine ⟨A, c, ?_, ?_, hn, ht.keep (fun b hb _ => far b hb.2) fun b h => h⟩
    · rw [Array.getElem?_setIfInBounds_ne (by omega), Array.getElem?_setIfInBounds_self_of_lt (by omega)]
    · rw [Array.getElem?_setIfInBounds_self_of_lt (by simp; omega)]
set_option maxRecDepth 100000 in
set_option maxHeartbeats 4000000 in
/-- list, of a function that passes on a state in memory, in blocks that meet X. -/
theorem list_c {σ : Type} (X : Nat → Prop) (B : Nat) (hX : ∀ b, X b → b < B) (f : σ → Nat → Ty × σ) (I : σ → World → Prop) (n : Nat) (hn : n ≤ 1000000) (g : Nat) (lb : Array Value) (eg : ∀ args w, (callFunc g args).run Tryd.prog w = .ok (.enter g args) w)
    (s0 : σ) (hp : ∀ i, i < n → ∀ W, I (foldN f s0 i).2 W → B ≤ W.heap.size → Calls Tryd.prog g (#[.int .i64 (i : Int)] ++ lb) W fun e w' => ∃ u, e = .returned u ∧ TyN (fun b => W.heap.size ≤ b) w' (f (foldN f s0 i).2 i).1 u ∧ I (f (foldN f s0 i).2 i).2 w' ∧ Keep X W w')
    (w : World) (hI : ∀ s W W', I s W → Keep (fun b => w.heap.size ≤ b) W W' → w.heap.size ≤ W.heap.size → I s W') (h0 : I s0 w) (hB : B ≤ w.heap.size) :
    Calls Tryd.prog 38 #[.int .i64 (n : Int), .func (.func g) #[] lb] w fun e w' => ∃ A c, e = .returned (.slice A n c) ∧ LN (fun b => w.heap.size ≤ b) w' (foldN f s0 n).1 A c ∧ I (foldN f s0 n).2 w' ∧ Keep X w w' := by
  obtain ⟨i0, hi, hz0, hz1, hz2⟩ := info_parts info_ty
  have hmk : ∀ u : World, (Instr.makeSlice 22 (.int .i64 (n : Int)) (.int .i64 (n : Int))).run Tryd.prog u =
      .ok (.slice (some ⟨u.heap.size, 0, none⟩) n n) (u.alloc (.cells (madeCells #[.string ⟨#[]⟩, .slice none 0 0] (n * 2)) 36)) := fun u => by
    have h := run_make (P := Tryd.prog) u 22 36 i0 _ Tryd.underlying22 hi hz0 .i64 .i64 (n : Int) (n : Int) (by omega) (Int.le_refl _) (by rw [hz2]; omega) (by omega)
    simpa [hz1, Value.cells] using h
  have hmax : maxLen = 9223372036854775807 := rfl
  have hnn : n < maxLen := by omega
  by_cases hz : n = 0
  · subst hz
    have H0 := Lib.hid h0
    clear h0 hp hI hmk
    go_enter Tryd.func38, Tryd.ntmps38
    go_wp2_with fail
    go_ret
    exact ⟨none, 0, rfl, LN.nil (by decide), H0.out, Keep.refl _ _⟩
  · have hnz : ¬ (n : Int) = 0 := by omega
    have hal : Below w.heap.size w (w.alloc (.cells (madeCells #[.string ⟨#[]⟩, .slice none 0 0] (n * 2)) 36)) := (Below.refl _ _).alloc (Nat.le_refl _) _
    have hf0 : Fill w w.heap.size n [] (w.alloc (.cells (madeCells #[.string ⟨#[]⟩, .slice none 0 0] (n * 2)) 36)) := ⟨_, Blk.new _ _ _, size_madeCells _ _, fun j hj => absurd hj (Nat.not_lt_zero _)⟩
    have hi0 := hI _ _ _ h0 (Keep.of_below hal fun x hx _ => hx) (Nat.le_refl _)
    have HMK := Lib.hid (hmk w); have HF0 := Lib.hid hf0; have HI0 := Lib.hid hi0; have HP := Lib.hid hp; have HAL := Lib.hid hal; have HI := Lib.hid hI
    have HBX := Lib.hid (And.intro hX hB)
    clear h0 hp hI hmk hf0 hi0 hal hi hz0 hz1 hz2 hX hB
    go_enter Tryd.func38, Tryd.ntmps38
    go_wp2_with fail
    rw [HMK.out]
    simp only [Result.andThen]
    rw [Oper.upon_value]
    go_wp2_with fail
    go_loopg [6, 13] (n + 1) (fun gg _ s13 wr => ∃ k : Nat, k ≤ n ∧ gg = n + 1 - k ∧ s13 = .int .i64 (k : Int) ∧ Fill w w.heap.size n (foldN f s0 k).1 wr ∧ I (foldN f s0 k).2 wr ∧ Keep X w wr ∧ w.heap.size < wr.heap.size)
    case atStart => exact ⟨0, Nat.zero_le _, by omega, rfl, HF0.out, HI0.out, Keep.of_new HAL.out, by simp⟩
    case round =>
      obtain ⟨k, hk, hg, rfl, hF, hi, hK, hsz⟩ := hrel
      have HF := Lib.hid hF; have HK := Lib.hid hK; have HG := Lib.hid hg
      by_cases hlt : k < n
      · have hltz : (k : Int) < (n : Int) := by omega
        have hcall := HP.out k hlt wr hi (by have := HBX.out.2; omega)
        have hst : ∀ w' t A c, f (foldN f s0 k).2 k = (t, (f (foldN f s0 k).2 k).2) → t.name.size ≤ maxLen → LN (fun b => wr.heap.size ≤ b) w' t.args A c → I (f (foldN f s0 k).2 k).2 w' → Keep X wr w' →
            w'.frozen? ⟨w.heap.size, k * 2, none⟩ = false ∧ (∃ x, w'.cell? ⟨w.heap.size, k * 2, none⟩ = some x) ∧ (∃ x, w'.cell? ⟨w.heap.size, k * 2 + 1, none⟩ = some x) ∧ w'.frozen? ⟨w.heap.size, k * 2 + 1, none⟩ = false ∧
            Fill w w.heap.size n (foldN f s0 (k + 1)).1 ((w'.setCell ⟨w.heap.size, k * 2, none⟩ (.string t.name)).setCell ⟨w.heap.size, k * 2 + 1, none⟩ (.slice A t.args.length c)) ∧
            I (foldN f s0 (k + 1)).2 ((w'.setCell ⟨w.heap.size, k * 2, none⟩ (.string t.name)).setCell ⟨w.heap.size, k * 2 + 1, none⟩ (.slice A t.args.length c)) ∧
            Keep X w ((w'.setCell ⟨w.heap.size, k * 2, none⟩ (.string t.name)).setCell ⟨w.heap.size, k * 2 + 1, none⟩ (.slice A t.args.length c)) ∧ wr.heap.size ≤ w'.heap.size := fun w' t A c ht hn hl hi' hk' => by
          have hxb : ∀ b, w.heap.size ≤ b → ¬ X b := fun b hb hx => by have := HBX.out.1 b hx; have := HBX.out.2; omega
          have hf' := HF.out.keep (w' := w') (Nat.le_refl _) fun b hb hl => hk'.block b hl (hxb b hb)
          have hfa := hf'.add (by rw [foldN_len]; exact hlt) hn (hl.keep (fun _ _ _ => rfl) fun b hb => ⟨by omega, by omega⟩)
          rw [foldN_len] at hfa
          obtain ⟨cur, q1, q2, _⟩ := hf'.blk
          have hfold : (foldN f s0 (k + 1)).1 = (foldN f s0 k).1 ++ [t] := by rw [foldN, ht]
          have hfold2 : (foldN f s0 (k + 1)).2 = (f (foldN f s0 k).2 k).2 := by rw [foldN]
          refine ⟨q1.frozen _, ⟨cur[k * 2]'(by omega), by rw [q1.cell, Array.getElem?_eq_getElem]⟩, ⟨cur[k * 2 + 1]'(by omega), by rw [q1.cell, Array.getElem?_eq_getElem]⟩, q1.frozen _, hfold ▸ hfa, ?_, ?_, hk'.size⟩
          · rw [hfold2]
            exact HI.out _ _ _ hi' (((Keep.refl _ _).set ⟨w.heap.size, k * 2, none⟩ (Nat.le_refl _) _).set ⟨w.heap.size, k * 2 + 1, none⟩ (Nat.le_refl _) _) (by have := hk'.size; omega)
          · have hk2 := HK.out.trans hk' fun _ _ h => h
            exact ⟨hk2.os, hk2.tape, hk2.output, by have := hk2.size; simpa using this, fun b hb hn => ((Below.heap_setCell _ _ _ _ (by show b ≠ w.heap.size; omega)).trans (Below.heap_setCell _ _ _ _ (by show b ≠ w.heap.size; omega))).trans (hk2.block b hb hn)⟩
        have HC := Lib.hid hcall; have HST := Lib.hid hst
        clear hF hi hK hg hcall hst
        go_wp2_with (go_at_fn g; refine HC.out.mono ?_; rintro e w' ⟨u, rfl, ⟨A, c, rfl, hn1, hl1⟩, hi1, hk1⟩; obtain ⟨f0, ⟨x0, c0⟩, ⟨x1, c1⟩, f1, hF2, hI2, hK2, hs2⟩ := HST.out _ _ _ _ rfl hn1 hl1 hi1 hk1; have HF2 := Lib.hid hF2; have HI2 := Lib.hid hI2; have HK2 := Lib.hid hK2; clear hF2 hI2 hK2 hn1 hl1 hi1 hk1)
        go_roundg (n + 1 - (k + 1))
        case measure => have := HG.out; omega
        case rel => exact ⟨k + 1, by omega, rfl, by go_num, HF2.out, HI2.out, HK2.out, by simp; omega⟩
      · have hltz : ¬ (k : Int) < (n : Int) := by omega
        obtain rfl : k = n := by omega
        have HI3 := Lib.hid hi
        clear hF hi hK hg
        go_wp2_with fail
        go_ret
        exact ⟨_, _, rfl, HF.out.ln (Nat.le_refl _) (foldN_len _ _ _) (by omega), HI3.out, HK.out⟩
end Go.Proofs.YtfhjfhbfgndheaaDoor
