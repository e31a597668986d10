/- Package decl: each, replaced, copyType. -/
import Derived.Test.YtagmgkkicodbiaaGreatDoorJd
namespace Go.Proofs.YtagmgkkicodbiaaGreatDoor
open Go.RowKit Go.Shelf
open Go
attribute [local go_sem] Oper.semAt_some

/-- A row that may be written. -/
def UnF (w : World) (A : Option Addr) : Prop := ∀ p, A = some p → ∃ cur, Blk w p.block 24 cur
def UnU (w : World) (u : Value) : Prop := ∀ n A l c, u = .agg #[.string n, .slice A l c] → UnF w A
theorem UnF.set {w : World} {A : Option Addr} (h : UnF w A) (b i : Nat) (x : Value) : UnF (w.setCell ⟨b, i, none⟩ x) A := fun p hp => by
  obtain ⟨cur, hc⟩ := h p hp
  by_cases e : p.block = b
  · rw [e] at hc ⊢; exact ⟨_, hc.set_ i x⟩
  · exact ⟨cur, (Below.heap_setCell _ _ _ _ e).trans hc⟩
set_option maxRecDepth 100000 in
set_option maxHeartbeats 4000000 in
/-- each, of a function that makes types in new memory. -/
theorem each_c (B : Nat) (f : Ty → Ty) (I : World → Prop) (l : List Ty) (hn : l.length ≤ 100000000) (A : Option Addr) (c : Nat) (g : Nat) (lb : Array Value) (eg : ∀ args w, (callFunc g args).run Tryz.prog w = .ok (.enter g args) w)
    (hp : ∀ t ∈ l, ∀ W u, I W → B ≤ W.heap.size → TyRep W B t u → Calls Tryz.prog g (#[u] ++ lb) W fun e w' => ∃ u', e = .returned u' ∧ TyN (fun b => W.heap.size ≤ b) w' (f t) u' ∧ Below W.heap.size W w')
    (w : World) (hI : ∀ W W', I W → Below w.heap.size W W' → I W') (h0 : I w) (hB : B ≤ w.heap.size) (hl : LRep w B l A c) :
    Calls Tryz.prog 40 #[.slice A l.length c, .func (.func g) #[] lb] w fun e w' => ∃ A' c', e = .returned (.slice A' l.length c') ∧ LN (fun b => w.heap.size ≤ b) w' (l.map f) A' c' ∧ Below w.heap.size w w' ∧ UnF w' A' := by
  obtain ⟨i0, hi, hz0, hz1, hz2⟩ := info_parts info_ty
  have hmk : ∀ u : World, (Instr.makeSlice 22 (.int .i64 (l.length : Int)) (.int .i64 (l.length : Int))).run Tryz.prog u =
      .ok (.slice (some ⟨u.heap.size, 0, none⟩) l.length l.length) (u.alloc (.cells (madeCells #[.string ⟨#[]⟩, .slice none 0 0] (l.length * 2)) 24)) := fun u => by
    have h := run_make (P := Tryz.prog) u 22 24 i0 _ Tryz.underlying22 hi hz0 .i64 .i64 (l.length : Int) (l.length : Int) (by omega) (Int.le_refl _) (by rw [hz2]; omega) (by omega)
    simpa [hz1, Value.cells] using h
  have hmax : maxLen = 9223372036854775807 := rfl
  obtain ⟨n, hnn⟩ : ∃ n, n = l.length := ⟨_, rfl⟩
  rw [← hnn] at hn hmk ⊢
  have hlc := hl.len
  by_cases hz : n = 0
  · subst hz
    have hl0 : l = [] := List.eq_nil_of_length_eq_zero hnn.symm
    subst hl0
    clear h0 hp hI hmk hl hnn hlc
    go_enter Tryz.func40, Tryz.ntmps40
    go_wp2_with fail
    go_ret
    exact ⟨none, 0, rfl, LN.nil (by decide), Below.refl _ _, fun p h => by cases h⟩
  · have hnz : ¬ (n : Int) = 0 := by omega
    have hal : Below w.heap.size w (w.alloc (.cells (madeCells #[.string ⟨#[]⟩, .slice none 0 0] (n * 2)) 24)) := (Below.refl _ _).alloc (Nat.le_refl _) _
    have hf0 : Fill w w.heap.size n [] (w.alloc (.cells (madeCells #[.string ⟨#[]⟩, .slice none 0 0] (n * 2)) 24)) := ⟨_, Blk.new _ _ _, size_madeCells _ _, fun j hj => absurd hj (Nat.not_lt_zero _)⟩
    have HMK := Lib.hid (hmk w); have HF0 := Lib.hid hf0; have HP := Lib.hid hp; have HAL := Lib.hid hal; have HI := Lib.hid hI; have H0 := Lib.hid h0; have HL := Lib.hid hl; have HN := Lib.hid hnn; have HLC := Lib.hid hlc
    clear h0 hp hI hmk hf0 hal hi hz0 hz1 hz2 hl hnn hlc
    go_enter Tryz.func40, Tryz.ntmps40
    go_wp2_with fail
    rw [HMK.out]
    simp only [Result.andThen]
    rw [Oper.upon_value]
    go_wp2_with fail
    go_loopg [6, 7, 16] (n + 1) (fun gg _ _ s16 wr => ∃ k : Nat, k ≤ n ∧ gg = n + 1 - k ∧ s16 = .int .i64 (k : Int) ∧ Fill w w.heap.size n ((l.take k).map f) wr ∧ Below w.heap.size w wr ∧ w.heap.size < wr.heap.size)
    case atStart => exact ⟨0, Nat.zero_le _, by omega, rfl, HF0.out, HAL.out, by simp⟩
    case round =>
      obtain ⟨k, hk, hg, rfl, hF, hK, hsz⟩ := hrel
      have HG := Lib.hid hg
      by_cases hlt : k < n
      · have hltz : (k : Int) < (n : Int) := by omega
        have hkl : k < l.length := by have := HN.out; omega
        obtain ⟨b, off, hA, hb, nm, a, A', c', ht, hnm, hv, c0, c1⟩ := (HL.out.under (hK.mono hB)).at_ hkl
        have hty : TyRep wr B l[k] (.agg #[.string nm, .slice A' a.length c']) := by rw [ht]; exact ⟨A', c', rfl, hnm, hv⟩
        have hab : Below wr.heap.size wr (wr.alloc (.cells #[.string nm, .slice A' a.length c'] 24)) := (Below.refl _ _).alloc (Nat.le_refl _) _
        have hcall := HP.out l[k] (List.getElem_mem hkl) (wr.alloc (.cells #[.string nm, .slice A' a.length c'] 24)) (.agg #[.string nm, .slice A' a.length c']) (HI.out _ _ H0.out (hK.trans (hab.mono (by omega)))) (by simp; omega) (hty.under (hab.mono (by omega)))
        have hst : ∀ w' t A c, f l[k] = t → t.name.size ≤ maxLen → LN (fun b => (wr.alloc (.cells #[.string nm, .slice A' a.length c'] 24)).heap.size ≤ b) w' t.args A c → Below (wr.alloc (.cells #[.string nm, .slice A' a.length c'] 24)).heap.size (wr.alloc (.cells #[.string nm, .slice A' a.length c'] 24)) w' →
            w'.frozen? ⟨w.heap.size, k * 2, none⟩ = false ∧ (∃ x, w'.cell? ⟨w.heap.size, k * 2, none⟩ = some x) ∧ (∃ x, w'.cell? ⟨w.heap.size, k * 2 + 1, none⟩ = some x) ∧ w'.frozen? ⟨w.heap.size, k * 2 + 1, none⟩ = false ∧
            Fill w w.heap.size n ((l.take (k + 1)).map f) ((w'.setCell ⟨w.heap.size, k * 2, none⟩ (.string t.name)).setCell ⟨w.heap.size, k * 2 + 1, none⟩ (.slice A t.args.length c)) ∧
            Below w.heap.size w ((w'.setCell ⟨w.heap.size, k * 2, none⟩ (.string t.name)).setCell ⟨w.heap.size, k * 2 + 1, none⟩ (.slice A t.args.length c)) ∧ w.heap.size < w'.heap.size := fun w' t A c htt hnn hln hk' => by
          have hbw : Below wr.heap.size wr w' := hab.trans (hk'.mono (by simp))
          have hf' := hF.keep (w' := w') (Nat.le_refl _) fun b hb hl => hbw.block b hl
          have hlen : ((l.take k).map f).length = k := by simp; omega
          have hfa := hf'.add (by rw [hlen]; exact hlt) hnn (hln.keep (fun _ _ _ => rfl) fun b hb => by rw [World.size_alloc] at hb; exact ⟨by omega, by omega⟩)
          rw [hlen] at hfa
          obtain ⟨cur, q1, q2, _⟩ := hf'.blk
          have hfold : (l.take (k + 1)).map f = (l.take k).map f ++ [t] := by rw [List.take_succ_eq_append_getElem hkl, List.map_append, List.map_singleton, htt]
          refine ⟨q1.frozen _, ⟨cur[k * 2]'(by omega), by rw [q1.cell, Array.getElem?_eq_getElem]⟩, ⟨cur[k * 2 + 1]'(by omega), by rw [q1.cell, Array.getElem?_eq_getElem]⟩, q1.frozen _, hfold ▸ hfa, ?_, by have := hbw.size; omega⟩
          exact (((hK.trans (hbw.mono (by omega))).setCell (Nat.le_refl _) _).setCell (Nat.le_refl _) _)
        have HC := Lib.hid hcall; have HST := Lib.hid hst
        clear hF hK hg hcall hst hty hv hab ht
        subst hA
        go_wp2_with (go_at_fn g; refine HC.out.mono ?_; rintro e w' ⟨u, rfl, ⟨A, c, rfl, hn1, hl1⟩, hk1⟩; obtain ⟨f0, ⟨x0, c0⟩, ⟨x1, c1⟩, f1, hF2, hK2, hs2⟩ := HST.out _ _ _ _ rfl hn1 hl1 hk1; have HF2 := Lib.hid hF2; have HK2 := Lib.hid hK2; clear hF2 hK2 hn1 hl1 hk1)
        go_roundg (n + 1 - (k + 1))
        case measure => have := HG.out; omega
        case rel => exact ⟨k + 1, by omega, rfl, by go_num, HF2.out, HK2.out, by simp; omega⟩
      · have hltz : ¬ (k : Int) < (n : Int) := by omega
        obtain rfl : k = n := by omega
        have HF := Lib.hid hF; have HK := Lib.hid hK
        clear hF hK hg
        go_wp2_with fail
        go_ret
        have hta : l.take k = l := by rw [HN.out, List.take_length]
        have := HF.out.ln (Nat.le_refl _) (by simp [HN.out]) (by omega)
        rw [hta] at this
        exact ⟨_, _, rfl, this, HK.out, fun p hp => by cases hp; obtain ⟨cur, h, _⟩ := HF.out.blk; exact ⟨cur, h⟩⟩
end Go.Proofs.YtagmgkkicodbiaaGreatDoor
