/- Package intern: the walk of textsOf: the texts of a row's values, or the first error. -/
import Derived.Test.YtibpebhepoeikaaDoorIb
import Derived.Test.YtibpebhepoeikaaDoorIxc
namespace Go.Proofs.YtibpebhepoeikaaDoor
open Go.RowKit Vp Tx
open Go
attribute [local go_sem] Oper.semAt_some

/-- The first error in a row, or 0. -/
def errL : List V → Int
  | [] => 0
  | t :: ts => if chkV t = 0 then errL ts else chkV t
theorem errL_all : ∀ {l : List V}, (∀ t ∈ l, chkV t = 0) → errL l = 0
  | [], _ => rfl
  | t :: ts, h => by rw [errL, if_pos (h t (by simp))]; exact errL_all fun x hx => h x (by simp [hx])
theorem errL_zero : ∀ {l : List V}, errL l = 0 → ∀ t ∈ l, chkV t = 0
  | [], _, _, ht => by cases ht
  | t :: ts, h, x, hx => by
    rw [errL] at h
    by_cases h0 : chkV t = 0
    · rw [if_pos h0] at h
      rcases List.mem_cons.1 hx with rfl | hx
      · exact h0
      · exact errL_zero h x hx
    · rw [if_neg h0] at h; exact absurd h h0
theorem errL_at : ∀ {l : List V} {i : Nat} (hi : i < l.length), (∀ j (hj : j < l.length), j < i → chkV l[j] = 0) → chkV l[i] ≠ 0 → errL l = chkV l[i]
  | [], _, hi, _, _ => by simp at hi
  | t :: ts, 0, _, _, h => by
    have h' : ¬ chkV t = 0 := h
    rw [errL, if_neg h']; rfl
  | t :: ts, i + 1, hi, hb, h => by
    have h' : chkV t = 0 := hb 0 (by simp) (by omega)
    rw [errL, if_pos h']
    exact errL_at (i := i) (by simpa using hi) (fun j hj hji => by have := hb (j + 1) (by simpa using hj) (by omega); simpa using this) (by simpa using h)

theorem info_strT : (Tryd.prog.info? 9).map (fun i => (i.zero, i.size, i.bytes)) = some (some (.string ⟨#[]⟩), 1, 16) := by kernel_rfl
/-- Block g has the texts of the first k values. -/
def Txs (w : World) (g : Nat) (l : List V) (k : Nat) : Prop := ∃ cs : Array Value, Blk w g 9 cs ∧ cs.size = l.length ∧ ∀ j (hj : j < l.length), j < k → cs[j]? = some (.string ⟨(txtV l[j]).toArray⟩)
theorem Txs.under {B : Nat} {w w' : World} {g : Nat} {l : List V} {k : Nat} (h : Txs w g l k) (hb : Below B w w') (hg : g < B) : Txs w' g l k := by
  obtain ⟨cs, h1, h2, h3⟩ := h
  exact ⟨cs, h1.below hb hg, h2, h3⟩
theorem Txs.lt {w : World} {g : Nat} {l : List V} {k : Nat} (h : Txs w g l k) : g < w.heap.size := by
  obtain ⟨cs, h1, _⟩ := h
  exact h1.lt
theorem Txs.cell {w : World} {g : Nat} {l : List V} {k j : Nat} (h : Txs w g l k) (hj : j < l.length) (hjk : j < k) : w.cell? ⟨g, j, none⟩ = some (.string ⟨(txtV l[j]).toArray⟩) := by
  obtain ⟨cs, h1, h2, h3⟩ := h
  rw [h1.cell]
  exact h3 j hj hjk
theorem Txs.some {w : World} {g : Nat} {l : List V} {k j : Nat} (h : Txs w g l k) (hj : j < l.length) : ∃ x, w.cell? ⟨g, j, none⟩ = some x := by
  obtain ⟨cs, h1, h2, h3⟩ := h
  rw [h1.cell]
  exact ⟨cs[j]'(by omega), by simp⟩
theorem Txs.frozen {w : World} {g : Nat} {l : List V} {k j : Nat} (h : Txs w g l k) : w.frozen? ⟨g, j, none⟩ = false := by
  obtain ⟨cs, h1, h2, h3⟩ := h
  exact h1.frozen j
theorem Txs.step {w : World} {g : Nat} {l : List V} {k : Nat} (h : Txs w g l k) (hk : k < l.length) : Txs (w.setCell ⟨g, k, none⟩ (.string ⟨(txtV l[k]).toArray⟩)) g l (k + 1) := by
  obtain ⟨cs, h1, h2, h3⟩ := h
  refine ⟨_, h1.set_ k _, by simpa using h2, fun j hj hjk => ?_⟩
  by_cases e : k = j
  · subst e
    rw [Array.getElem?_setIfInBounds_self_of_lt (by omega)]
  · rw [Array.getElem?_setIfInBounds_ne e]
    exact h3 j hj (by omega)

def Told28 (w : World) (l : List V) (e : Ending) (w' : World) : Prop :=
  (errL l = 0 ∧ ∃ g, e = .returned (.tuple #[.slice (some ⟨g, 0, none⟩) l.length l.length, .int .i64 0]) ∧ Txs w' g l l.length ∧ w.heap.size ≤ g) ∨ (errL l ≠ 0 ∧ e = .returned (.tuple #[.slice none 0 0, .int .i64 (errL l)]))
set_option maxRecDepth 100000 in
set_option maxHeartbeats 4000000 in
theorem textsOf_c (l : List V) (hl : l.length ≤ 100000000) (htx : ∀ t ∈ l, chkV t = 0 → (txtV t).length ≤ 900000000) (A : Option Addr) (c : Nat) (w : World) (hR : RRep w w.heap.size l A c) (htab : TabF w.heap.size w) :
    Calls Tryd.prog 28 #[.slice A l.length c] w fun e w' => Told28 w l e w' ∧ Below w.heap.size w w' := by
  obtain ⟨i0, hi, hz0, hz1, hz2⟩ := info_parts info_strT
  have hmk : (Instr.makeSlice 60 (.int .i64 (l.length : Int)) (.int .i64 (l.length : Int))).run Tryd.prog w =
      .ok (.slice (some ⟨w.heap.size, 0, none⟩) l.length l.length) (w.alloc (.cells (madeCells #[.string ⟨#[]⟩] l.length) 9)) := by
    have h := run_make (P := Tryd.prog) w 60 9 i0 (.string ⟨#[]⟩) Tryd.underlying60 hi hz0 .i64 .i64 (l.length : Int) (l.length : Int) (by omega) (Int.le_refl _) (by rw [hz2]; omega) (by omega)
    simpa [hz1, Value.cells] using h
  have ht0 : Txs (w.alloc (.cells (madeCells #[.string ⟨#[]⟩] l.length) 9)) w.heap.size l 0 := ⟨_, Blk.new w _ _, size_madeCells _ _, fun _ _ h => absurd h (Nat.not_lt_zero _)⟩
  have hu0 : Below w.heap.size w (w.alloc (.cells (madeCells #[.string ⟨#[]⟩] l.length) 9)) := (Below.refl _ _).alloc (Nat.le_refl _) _
  have HMK := Lib.hid hmk; have HT0 := Lib.hid ht0; have HU0 := Lib.hid hu0; have HR := Lib.hid hR; have HTAB := Lib.hid htab; have HTX := Lib.hid htx
  clear hmk ht0 hu0 hR htab htx hi hz0 hz1 hz2
  go_enter Tryd.func28, Tryd.ntmps28
  go_wp2_with fail
  rw [HMK.out]
  simp only [Result.andThen]
  rw [Oper.upon_value]
  go_wp2_with fail
  go_loopg [13] (l.length + 1) (fun gg s13 wr => ∃ i : Nat, i ≤ l.length ∧ gg = l.length + 1 - i ∧ s13 = .int .i64 (i : Int) ∧ Txs wr w.heap.size l i ∧ Below w.heap.size w wr ∧ ∀ j (hj : j < l.length), j < i → chkV l[j] = 0)
  case atStart => exact ⟨0, Nat.zero_le _, by omega, rfl, HT0.out, HU0.out, fun j _ h => absurd h (Nat.not_lt_zero _)⟩
  case round =>
    clear HT0 HU0 HMK
    obtain ⟨i, hi, hg, rfl, ht, hu, hz⟩ := hrel
    have HG := Lib.hid hg; have HT := Lib.hid ht; have HU := Lib.hid hu; have HZ := Lib.hid hz
    clear hg ht hu hz
    by_cases hlt : i < l.length
    · have hltz : (i : Int) < (l.length : Int) := by omega
      obtain ⟨b, off, rfl, hb, k, n, s, l', A', c', ht, hv, c0, c1, c2, c3⟩ := (HR.out.under HU.out).at_ hlt
      obtain ⟨W, hW⟩ : ∃ W, W = wr.alloc (.cells #[.int .u8 (k : Int), .int .i64 n, .string s, .slice A' l'.length c'] 42) := ⟨_, rfl⟩
      have hBW : Below w.heap.size w W := hW ▸ HU.out.alloc HU.out.size _
      have hbx : Blk W wr.heap.size 42 #[.int .u8 (k : Int), .int .i64 n, .string s, .slice A' l'.length c'] := hW ▸ Blk.new _ _ _
      have hvW : VRep W W.heap.size l[i] (.agg #[.int .u8 (k : Int), .int .i64 n, .string s, .slice A' l'.length c']) := by
        have : Below wr.heap.size wr W := hW ▸ (Below.refl _ _).alloc (Nat.le_refl _) _
        exact ((hv.more HU.out.size).under this).more this.size
      have htW : Txs W w.heap.size l i := by
        have : Below wr.heap.size wr W := hW ▸ (Below.refl _ _).alloc (Nat.le_refl _) _
        exact HT.out.under this HT.out.lt
      have hck := check_c l[i] _ W hvW
      have HBW := Lib.hid hBW; have HBX := Lib.hid hbx; have HVW := Lib.hid hvW; have HTW := Lib.hid htW
      by_cases hch : chkV l[i] = 0
      · rw [hch] at hck
        have hsh : ∀ W', Below W.heap.size W W' → Calls Tryd.prog 30 #[.agg #[.int .u8 (k : Int), .int .i64 n, .string s, .slice A' l'.length c']] W' fun e w' => e = .returned (.string ⟨(txtV l[i]).toArray⟩) ∧ Below W'.heap.size W' w' := fun W' hb' =>
          show_c l[i] hch (HTX.out _ (List.getElem_mem hlt) hch) _ W' ((HVW.out.under hb').more hb'.size) ((HTAB.out.below (HBW.out.trans (hb'.mono HBW.out.size))).more (Nat.le_trans HBW.out.size hb'.size))
        have HCK := Lib.hid hck; have HSH := Lib.hid hsh; have HCH := Lib.hid hch
        clear hck hsh hch hBW hbx hvW htW hv ht
        have hgT : w.heap.size < W.heap.size := HTW.out.lt
        have HGT := Lib.hid hgT; clear hgT
        have hWs : W.heap.size = wr.heap.size + 1 := by rw [hW]; simp
        have HWS := Lib.hid hWs; clear hWs
        rw [hW] at HCK
        go_wp2_with fail
        refine HCK.out.mono ?_
        rintro e w1 ⟨rfl, hb1⟩
        rw [← hW] at hb1
        have hx := HBX.out.below hb1 HBX.out.lt
        have ht1 := HTW.out.under hb1 HTW.out.lt
        have d0 := hx.cell 0; have d1 := hx.cell 1; have d2 := hx.cell 2; have d3 := hx.cell 3
        simp at d0 d1 d2 d3
        have HS1 := Lib.hid (HSH.out w1 hb1)
        have HB1 := Lib.hid (HBW.out.trans (hb1.mono HBW.out.size)); have HT1 := Lib.hid ht1
        clear hx hb1 ht1 hW HCK HTW
        go_wp2_with fail
        refine HS1.out.mono ?_
        rintro e w2 ⟨rfl, hb2⟩
        have HT2 := Lib.hid (HT1.out.under hb2 HT1.out.lt)
        have HB2 := Lib.hid (HB1.out.trans (hb2.mono HB1.out.size))
        have hfr := HT2.out.frozen (j := i)
        obtain ⟨x0, hx0⟩ := HT2.out.some (j := i) hlt
        clear hb2 d0 d1 d2 d3
        go_wp2_with fail
        go_roundg (l.length + 1 - (i + 1))
        case measure => have := HG.out; omega
        case rel =>
          refine ⟨i + 1, by omega, rfl, by go_num, HT2.out.step hlt, HB2.out.setCell (Nat.le_refl _) _, fun j hj hji => ?_⟩
          by_cases e : j = i
          · subst e; exact HCH.out
          · exact HZ.out j hj (by omega)
      · have HCK := Lib.hid hck; have HCH := Lib.hid hch
        have hz : ¬ chkV l[i] = 0 := hch
        obtain ⟨z, hzz⟩ : ∃ z, z = chkV l[i] := ⟨_, rfl⟩
        rw [← hzz] at HCK hz
        have HZZ := Lib.hid hzz
        rw [hW] at HCK
        clear hck hch hBW hbx hvW htW hv ht hzz
        go_wp2_with fail
        refine HCK.out.mono ?_
        rintro e w1 ⟨rfl, hb1⟩
        rw [← hW] at hb1
        have HB1 := Lib.hid (HBW.out.trans (hb1.mono HBW.out.size))
        clear hb1 hW HCK
        go_wp2_with fail
        go_ret2
        have he : errL l = z := by rw [HZZ.out]; exact errL_at hlt HZ.out HCH.out
        exact ⟨.inr ⟨by rw [he, HZZ.out]; exact HCH.out, by rw [he]; rfl⟩, HB1.out⟩
    · have hltz : ¬ (i : Int) < (l.length : Int) := by omega
      obtain rfl : i = l.length := by omega
      go_wp2_with fail
      go_ret2
      exact ⟨.inl ⟨errL_all fun t ht => by obtain ⟨j, hj, rfl⟩ := List.getElem_of_mem ht; exact HZ.out j hj hj, _, rfl, HT.out, Nat.le_refl _⟩, HU.out⟩
end Go.Proofs.YtibpebhepoeikaaDoor
