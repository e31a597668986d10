/- Package intern: the walk of PutRow: a row's numbers. -/
import Derived.Test.YtibpebhepoeikaaDoorIf
namespace Go.Proofs.YtibpebhepoeikaaDoor
open Go.RowKit Go.Shelf Vp Tx
open Go
attribute [local go_sem] Oper.semAt_some

def putsL (ts l : List V) : List V := l.foldl putL ts
theorem putsL_snoc (ts l : List V) (t : V) : putsL ts (l ++ [t]) = putL (putsL ts l) t := by simp [putsL]
theorem putsL_len (ts : List V) : ∀ l : List V, (putsL ts l).length ≤ ts.length + l.length := by
  intro l
  induction l generalizing ts with
  | nil => simp [putsL]
  | cons t l ih =>
    have h1 := ih (putL ts t)
    have h2 := putL_len ts t
    have : putsL ts (t :: l) = putsL (putL ts t) l := rfl
    rw [this, List.length_cons]
    omega
/-- The number of the value at a place of a row that is put. -/
def numAt (ts l : List V) (j : Nat) (h : j < l.length) : Nat := putN (putsL ts (l.take j)) l[j]
/-- Block g has a row's first k numbers. -/
def Nums (w : World) (g : Nat) (ts l : List V) (k : Nat) : Prop := ∃ cs : Array Value, Blk w g 3 cs ∧ cs.size = l.length ∧ ∀ j (hj : j < l.length), j < k → cs[j]? = some (.int .i64 (numAt ts l j hj : Int))
theorem Nums.under {B : Nat} {w w' : World} {g : Nat} {ts l : List V} {k : Nat} (h : Nums w g ts l k) (hb : Below B w w') (hg : g < B) : Nums w' g ts l k := by
  obtain ⟨cs, h1, h2, h3⟩ := h
  exact ⟨cs, h1.below hb hg, h2, h3⟩
theorem Nums.keep {w w' : World} {g : Nat} {ts l : List V} {k : Nat} (h : Nums w g ts l k) (hb : w'.heap[g]? = w.heap[g]?) : Nums w' g ts l k := by
  obtain ⟨cs, h1, h2, h3⟩ := h
  exact ⟨cs, hb.trans h1, h2, h3⟩
theorem Nums.lt {w : World} {g : Nat} {ts l : List V} {k : Nat} (h : Nums w g ts l k) : g < w.heap.size := by
  obtain ⟨cs, h1, _⟩ := h
  exact h1.lt
theorem Nums.cell {w : World} {g : Nat} {ts l : List V} {k j : Nat} (h : Nums w g ts l k) (hj : j < l.length) (hjk : j < k) : w.cell? ⟨g, j, none⟩ = some (.int .i64 (numAt ts l j hj : Int)) := by
  obtain ⟨cs, h1, h2, h3⟩ := h
  rw [h1.cell]
  exact h3 j hj hjk
theorem Nums.some {w : World} {g : Nat} {ts l : List V} {k j : Nat} (h : Nums w g ts l k) (hj : j < l.length) : ∃ x, w.cell? ⟨g, j, none⟩ = some x := by
  obtain ⟨cs, h1, h2, h3⟩ := h
  rw [h1.cell]
  exact ⟨cs[j]'(by omega), by simp⟩
theorem Nums.frozen {w : World} {g : Nat} {ts l : List V} {k j : Nat} (h : Nums w g ts l k) : w.frozen? ⟨g, j, none⟩ = false := by
  obtain ⟨cs, h1, h2, h3⟩ := h
  exact h1.frozen j
theorem Nums.step {w : World} {g : Nat} {ts l : List V} {k : Nat} (h : Nums w g ts l k) (hk : k < l.length) : Nums (w.setCell ⟨g, k, none⟩ (.int .i64 (numAt ts l k hk : Int))) g ts l (k + 1) := by
  obtain ⟨cs, h1, h2, h3⟩ := h
  refine ⟨_, h1.set_ k _, by simpa using h2, fun j hj hjk => ?_⟩
  by_cases e : k = j
  · subst e
    rw [Array.getElem?_setIfInBounds_self_of_lt (by omega)]
  · rw [Array.getElem?_setIfInBounds_ne e]
    exact h3 j hj (by omega)
theorem info_i64 : (Tryd.prog.info? 3).map (fun i => (i.zero, i.size, i.bytes)) = some (some (.int .i64 0), 1, 8) := by kernel_rfl
theorem numN_lt (ts : List V) (t : V) : putN ts t ≤ ts.length := by
  unfold putN
  cases h : pos ts (txtV t) with
  | none => exact Nat.le_refl _
  | some i =>
    obtain ⟨hi, _⟩ := List.findIdx?_eq_some_iff_getElem.1 h
    exact Nat.le_of_lt hi
theorem Keep.setNew {F : Nat → Prop} {w w' : World} (h : Keep F w w') (p : Addr) (hp : w.heap.size ≤ p.block) (u : Value) : Keep F w (w'.setCell p u) :=
  ⟨h.os, h.tape, h.output, by have := h.size; simpa [World.setCell] using this, fun x hx hn => (Below.heap_setCell w' p u x (by omega)).trans (h.block x hx hn)⟩
/-- What PutRow answers. -/
def Told13 (F : Nat → Prop) (ts l : List V) (g : Nat) (w : World) (e : Ending) (w' : World) : Prop :=
  (errL l = 0 ∧ ∃ gn, e = .returned (.tuple #[.slice (some ⟨gn, 0, none⟩) l.length l.length, .int .i64 0]) ∧ Nums w' gn ts l l.length ∧ w.heap.size ≤ gn ∧ TabR (fun b => F b ∨ gn < b) (putsL ts l) w' g) ∨
  (errL l ≠ 0 ∧ e = .returned (.tuple #[.slice none 0 0, .int .i64 (errL l)]) ∧ TabR F ts w' g)
set_option maxRecDepth 100000 in
set_option maxHeartbeats 4000000 in
theorem putrow_c (F : Nat → Prop) (ts : List V) (g : Nat) (l : List V) (A : Option Addr) (c : Nat) (w : World) (hT : TabR F ts w g) (hR : RRep w w.heap.size l A c) (hRF : ∀ w', Keep F w w' → RRep w' w.heap.size l A c) (hl : ts.length + l.length ≤ 90000000) (htx : ∀ t ∈ l, chkV t = 0 → (txtV t).length ≤ 900000000) (hsl : ∀ t ∈ l, chkV t = 0 → slim t) (htab : TabF w.heap.size w) :
    Calls Tryd.prog 13 #[.pointer (some ⟨g, 0, none⟩), .slice A l.length c] w fun e w' => Told13 F ts l g w e w' ∧ Keep F w w' := by
  obtain ⟨i0, hi, hz0, hz1, hz2⟩ := info_parts info_i64
  have hmk : ∀ u : World, (Instr.makeSlice 31 (.int .i64 (l.length : Int)) (.int .i64 (l.length : Int))).run Tryd.prog u =
      .ok (.slice (some ⟨u.heap.size, 0, none⟩) l.length l.length) (u.alloc (.cells (madeCells #[.int .i64 0] l.length) 3)) := fun u => by
    have h := run_make (P := Tryd.prog) u 31 3 i0 (.int .i64 0) Tryd.underlying31 hi hz0 .i64 .i64 (l.length : Int) (l.length : Int) (by omega) (Int.le_refl _) (by rw [hz2]; omega) (by omega)
    simpa [hz1, Value.cells] using h
  have htxs := textsOf_c l (by omega) htx A c w hR htab
  have hT0 : TabR (fun b => F b ∧ b < w.heap.size) ts w g := hT.mono fun b hb h => ⟨h, hb⟩
  have HT9 := Lib.hid hT0; clear hT0
  have HMK := Lib.hid hmk; have HTXS := Lib.hid htxs; have HT := Lib.hid hT; have HRF := Lib.hid hRF; have HL := Lib.hid hl; have HTX := Lib.hid htx; have HSL := Lib.hid hsl
  have HCAP := Lib.hid hR.1
  have hll : l.length ≤ 90000000 := by omega
  clear hmk htxs hT hR hRF hl htx hsl htab hi hz0 hz1 hz2
  go_enter Tryd.func13, Tryd.ntmps13
  go_wp2_with fail
  refine HTXS.out.mono ?_
  rintro e w1 ⟨⟨h0, gt, rfl, ht1, hgt⟩ | ⟨h0, rfl⟩, hb1⟩
  · have HB1 := Lib.hid hb1; have HTT := Lib.hid ht1; have H0 := Lib.hid h0
    clear hb1 ht1 h0
    have hl0 := errL_zero H0.out
    have HZ := Lib.hid hl0; clear hl0
    go_wp2_with fail
    rw [HMK.out]
    simp only [Result.andThen]
    rw [Oper.upon_value]
    have hn0 : Nums (w1.alloc (.cells (madeCells #[.int .i64 0] l.length) 3)) w1.heap.size ts l 0 := ⟨_, Blk.new w1 _ _, size_madeCells _ _, fun _ _ h => absurd h (Nat.not_lt_zero _)⟩
    have hx0 : Txs (w1.alloc (.cells (madeCells #[.int .i64 0] l.length) 3)) gt l l.length := HTT.out.under ((Below.refl _ _).alloc (Nat.le_refl _) _) HTT.out.lt
    have hk0 : Keep F w (w1.alloc (.cells (madeCells #[.int .i64 0] l.length) 3)) := Keep.of_new (HB1.out.alloc HB1.out.size _)
    have ht0 : TabR (fun b => (F b ∧ b < w.heap.size) ∨ w1.heap.size < b) ts (w1.alloc (.cells (madeCells #[.int .i64 0] l.length) 3)) g := (HT9.out.below (HB1.out.alloc HB1.out.size _)).mono fun _ _ h => .inl h
    have HN0 := Lib.hid hn0; have HX0 := Lib.hid hx0; have HK0 := Lib.hid hk0; have HT0 := Lib.hid ht0; have HGT := Lib.hid HTT.out.lt
    clear hn0 hx0 hk0 ht0 HTT
    go_wp2_with fail
    go_loopg [26] (l.length + 1) (fun gg s26 wr => ∃ i : Nat, i ≤ l.length ∧ gg = l.length + 1 - i ∧ s26 = .int .i64 (i : Int) ∧ Nums wr w1.heap.size ts l i ∧ Txs wr gt l l.length ∧ Keep F w wr ∧ TabR (fun b => (F b ∧ b < w.heap.size) ∨ w1.heap.size < b) (putsL ts (l.take i)) wr g)
    case atStart => exact ⟨0, Nat.zero_le _, by omega, rfl, HN0.out, HX0.out, HK0.out, HT0.out⟩
    case round =>
      clear HN0 HX0 HK0 HT0
      obtain ⟨i, hi, hg, rfl, hn, hx, hk, ht⟩ := hrel
      have HG := Lib.hid hg; have HN := Lib.hid hn; have HX := Lib.hid hx; have HK := Lib.hid hk; have HTB := Lib.hid ht
      clear hg hn hx hk ht
      by_cases hlt : i < l.length
      · have hltz : (i : Int) < (l.length : Int) := by omega
        obtain ⟨b, off, rfl, hb, k, n, s, l', A', c', ht, hv, c0, c1, c2, c3⟩ := (HRF.out wr HK.out).at_ hlt
        have ctx := HX.out.cell hlt hlt
        have hlen : (putsL ts (l.take i)).length ≤ 90000000 := by have h1 := putsL_len ts (l.take i); have := HL.out; rw [List.length_take] at h1; omega
        have hput := put_c _ _ g l[i] _ wr HTB.out (hv.more HK.out.size) (HZ.out _ (List.getElem_mem hlt)) (HSL.out _ (List.getElem_mem hlt) (HZ.out _ (List.getElem_mem hlt))) hlen (HTX.out _ (List.getElem_mem hlt) (HZ.out _ (List.getElem_mem hlt)))
        have HPUT := Lib.hid hput
        clear hput hv ht hlen hb
        go_wp2_with fail
        refine HPUT.out.mono ?_
        rintro e w2 ⟨rfl, hk2, ht2⟩
        have hgl2 : w.heap.size ≤ w1.heap.size := HB1.out.size
        have hng : ¬ ((F w1.heap.size ∧ w1.heap.size < w.heap.size) ∨ w1.heap.size < w1.heap.size) := by omega
        have hn2 := HN.out.keep (hk2.block _ HN.out.lt hng)
        have hgt2 : ¬ ((F gt ∧ gt < w.heap.size) ∨ w1.heap.size < gt) := by have := HGT.out; omega
        have hx2 : Txs w2 gt l l.length := by
          obtain ⟨cs, h1, h2⟩ := HX.out
          exact ⟨cs, (hk2.block _ h1.lt hgt2).trans h1, h2⟩
        have hkk := HK.out.trans hk2 fun x hx h => by
          rcases h with h | h
          · exact h.1
          · omega
        have ht3 : TabR (fun b => (F b ∧ b < w.heap.size) ∨ w1.heap.size < b) (putL (putsL ts (l.take i)) l[i]) w2 g := ht2.mono fun x _ h => by
          rcases h with h | h
          · exact h
          · exact .inr (by have := HN.out.lt; omega)
        have HN2 := Lib.hid hn2; have HX2 := Lib.hid hx2; have HKK := Lib.hid hkk; have HT3 := Lib.hid ht3; have HNG := Lib.hid hng; have HGL2 := Lib.hid hgl2
        obtain ⟨x0, hx0⟩ := hn2.some (j := i) hlt
        have hfr := hn2.frozen (j := i)
        have hnat : numAt ts l i hlt = putN (putsL ts (l.take i)) l[i] := rfl
        have HNAT := Lib.hid hnat
        clear hk2 ht2 hn2 hgt2 hx2 hkk ht3 hng hgl2 hnat c0 c1 c2 c3 ctx
        go_wp2_with fail
        go_roundg (l.length + 1 - (i + 1))
        case measure => have := HG.out; omega
        case rel =>
          have htk : l.take (i + 1) = l.take i ++ [l[i]] := List.take_succ_eq_append_getElem hlt
          refine ⟨i + 1, by omega, rfl, by go_num, ?_, ?_, HKK.out.setNew _ HGL2.out _, ?_⟩
          · rw [← HNAT.out]; exact HN2.out.step hlt
          · obtain ⟨cs, h1, h2⟩ := HX2.out
            exact ⟨cs, (Below.heap_setCell _ _ _ _ (by show gt ≠ w1.heap.size; have := HGT.out; omega)).trans h1, h2⟩
          · rw [htk, putsL_snoc]
            exact HT3.out.keep (fun x hx _ => Below.heap_setCell _ _ _ _ fun e => by have e' : x = w1.heap.size := e; have hng := HNG.out; rw [← e'] at hng; rcases hx with hx | hx; exact hng (.inl hx); omega) (by simp [World.setCell])
      · have hltz : ¬ (i : Int) < (l.length : Int) := by omega
        obtain rfl : i = l.length := by omega
        go_wp2_with fail
        go_ret2
        have ht := HTB.out
        rw [List.take_length] at ht
        exact ⟨.inl ⟨H0.out, _, rfl, HN.out, HB1.out.size, ht.mono fun x _ h => by
          rcases h with h | h
          · exact .inl h.1
          · exact .inr h⟩, HK.out⟩
  · have HB1 := Lib.hid hb1; have H0 := Lib.hid h0
    obtain ⟨z, hz⟩ : ∃ z, z = errL l := ⟨_, rfl⟩
    have hzn : ¬ z = 0 := by rw [hz]; exact h0
    rw [← hz]
    have HZ := Lib.hid hz
    clear hb1 h0 hz
    go_wp2_with fail
    go_ret2
    exact ⟨.inr ⟨H0.out, by rw [← HZ.out]; rfl, HT.out.below HB1.out⟩, Keep.of_new HB1.out⟩
end Go.Proofs.YtibpebhepoeikaaDoor
