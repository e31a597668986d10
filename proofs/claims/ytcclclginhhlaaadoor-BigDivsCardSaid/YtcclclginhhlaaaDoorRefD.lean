/- The walk over the document own answer for layer 1: the text of a number. -/
import Derived.Test.YtcclclginhhlaaaDoorRefC
namespace Go.Proofs.YtcclclginhhlaaaDoor
open Go.RowKit
open Pl Dig

theorem info5 : (Tryd.prog.info? 5).map (fun i => (i.zero, i.size, i.bytes)) = some (some (.int .u8 0), 1, 1) := by kernel_rfl
def byt (l : List UInt8) : List Value := l.map fun c => .int .u8 (c.toNat : Int)
theorem byt_snoc (l : List UInt8) (c : UInt8) : byt (l ++ [c]) = byt l ++ [.int .u8 (c.toNat : Int)] := by simp [byt]
def chr (d : Nat) : UInt8 := UInt8.ofNat (48 + d)
/-- The text of a number. -/
def txt (z : Int) : List UInt8 := if z = 0 then [48] else (if z < 0 then [45] else []) ++ (dg 10 z.natAbs).reverse.map chr
/-- The text of a number, from its start down to the digit at place j. -/
def txtPre (z : Int) (j : Nat) : List UInt8 := (if z < 0 then [45] else []) ++ ((dg 10 z.natAbs).drop j).reverse.map chr
theorem txtPre_step {z : Int} {k : Nat} (hk : k < (dg 10 z.natAbs).length) : txtPre z k = txtPre z (k + 1) ++ [chr (dg 10 z.natAbs)[k]] := by
  unfold txtPre
  rw [List.drop_eq_getElem_cons hk, List.reverse_cons, List.map_append, List.append_assoc]; rfl
theorem txtPre_all (z : Int) : txtPre z (dg 10 z.natAbs).length = if z < 0 then [45] else [] := by unfold txtPre; simp
theorem txtPre_zero {z : Int} (h : ¬ (dg 10 z.natAbs).length = 0) : txtPre z 0 = txt z := by
  unfold txtPre txt
  have hz : ¬ z = 0 := by intro e; rw [e] at h; exact h rfl
  rw [if_neg hz]; rfl
theorem txtPre_ne {z : Int} (h : ¬ (dg 10 z.natAbs).length = 0) : txtPre z 0 ≠ [] := by
  unfold txtPre
  intro e
  rw [List.append_eq_nil_iff] at e
  have := congrArg List.length e.2
  simp at this
  exact h (by rw [this]; rfl)
theorem own_convert {w : World} {base n : Nat} {v : Value} {l : List UInt8} (h : w.ownsRow base 5 1 v n (byt l)) (hl : l ≠ []) :
    ∃ g cap, v = .slice (some ⟨g, 0, none⟩) n cap ∧ (convert 48 9 (.slice (some ⟨g, 0, none⟩) n cap)).run Tryd.prog w = .ok (.string ⟨l.toArray⟩) w := by
  have hn : l.length = n := by simpa [byt] using h.1
  have hp : 0 < l.length := List.length_pos_iff.2 hl
  obtain ⟨g, cap, rfl, _, _⟩ := h.form (by omega)
  refine ⟨g, cap, rfl, ?_⟩
  rw [← hn]
  refine run_convert_bytes_back w 48 9 5 ⟨g, 0, none⟩ cap l Tryd.underlying48 Tryd.underlying5 Tryd.underlying9 (fun j hj => h.cells (g := g) rfl j _ ?_)
  simp [byt, List.getElem?_eq_getElem hj]
theorem chr_nat {d : Nat} (h : d < 10) : (chr d).toNat = 48 + d := by
  unfold chr; rw [UInt8.toNat_ofNat']; omega
def txtOut (z : Int) : List UInt8 × Int := if (dg 10 z.natAbs).length ≤ 200 then (txt z, 0) else ([], 80)

set_option maxRecDepth 100000 in
set_option maxHeartbeats 400000 in
theorem text_any (b : Bool) (A : Option Addr) (c : Nat) (ds : List Nat) (w : World) (hr : Rd w w.heap.size 3 A (ints ds)) (hc : ds.length ≤ c) (hm : c ≤ maxLen) (hd : ∀ d ∈ ds, d < 10) (_hl : ds.length ≤ 40000) :
    Calls Tryd.prog 28 #[.agg #[.bool b, .slice A ds.length c]] w fun e w' =>
      e = .returned (.tuple #[.string ⟨(txtOut (sgn b (vl 10 ds))).1.toArray⟩, .int .i64 (txtOut (sgn b (vl 10 ds))).2]) ∧ Below w.heap.size w w' := by
  have hrA := (hr.below ((Below.refl _ w).alloc (Nat.le_refl _) (.cells #[.bool b, .slice A ds.length c] 39))).more ((Below.refl _ w).alloc (Nat.le_refl _) (.cells #[.bool b, .slice A ds.length c] 39)).size
  have HRA := Lib.hid hrA; clear hrA
  have HD := Lib.hid hd; clear hd
  have HR := Lib.hid hr; clear hr
  have HX := Lib.hid (Blk.new w 39 #[.bool b, .slice A ds.length c])
  generalize hz : sgn b (vl 10 ds) = z
  have HZ := Lib.hid hz; clear hz
  go_enter Tryd.func28, Tryd.ntmps28
  go_wp2_with (go_at_call 52; refine (tidy_num _ _ _ ds _ HRA.out hc hm HD.out).mono ?_; rintro e w1 ⟨v1, rfl, hN, hB1⟩; rw [HZ.out] at hN; obtain ⟨A1, c1, rfl, m1, m2, m3⟩ := hN; have bX := HX.out.below hB1 (by simp); have x0 := bX.cell0; have x1 := bX.cell1; have k0 := bX.frozen 0; have k1 := bX.frozen 1; have BX := Lib.hid bX; clear bX; have HB1 := Lib.hid hB1; clear hB1; have HM := Lib.hid m3; clear m3; refine Hid.out ?_)
  refine Lib.hid ?_
  by_cases h0 : (dg 10 z.natAbs).length = 0
  · have hz0 : z = 0 := by have := (dg_nil (b := 10) (n := z.natAbs) (by decide)).1 (List.eq_nil_of_length_eq_zero h0); omega
    have hfin : txtOut z = ([48], 0) := by rw [hz0]; rfl
    have HF := Lib.hid hfin; clear hfin
    have HZ0 := Lib.hid hz0; clear hz0
    go_wp2_with fail
    go_ret2
    exact ⟨by rw [HF.out]; rfl, ((((Below.refl _ w).alloc (Nat.le_refl _) _).trans (HB1.out.mono (by simp))).setCell (by simp) _).setCell (by simp) _⟩
  by_cases h200 : 200 < (dg 10 z.natAbs).length
  · have hfin : txtOut z = ([], 80) := by unfold txtOut; rw [if_neg (by omega)]
    have HF := Lib.hid hfin; clear hfin
    go_wp2_with fail
    go_ret2
    exact ⟨by rw [HF.out]; rfl, ((((Below.refl _ w).alloc (Nat.le_refl _) _).trans (HB1.out.mono (by simp))).setCell (by simp) _).setCell (by simp) _⟩
  have hfin : txtOut z = (txt z, 0) := by unfold txtOut; rw [if_pos (by omega)]
  have HF := Lib.hid hfin; clear hfin
  have hl2 : (dg 10 z.natAbs).length ≤ 200 := by omega
  go_upto_if 17 with fail
  go_cut [4] (fun s4 wx => ∃ n, wx.ownsRow (w.heap.size + 1) 5 1 s4 n (byt (if z < 0 then [45] else [])) ∧ n ≤ 1 ∧ Blk wx w.heap.size 39 #[.bool (decide (z < 0)), .slice A1 (dg 10 z.natAbs).length c1] ∧ Below w.heap.size w wx ∧ Rd wx wx.heap.size 3 A1 (ints (dg 10 z.natAbs)))
  case first =>
    obtain ⟨w2, hw2⟩ : ∃ w2, w2 = ((w1.setCell ⟨w.heap.size, 0, none⟩ (.bool (decide (z < 0)))).setCell ⟨w.heap.size, 1, none⟩ (.slice A1 (dg 10 z.natAbs).length c1)) := ⟨_, rfl⟩
    have bX2 := BX.out.store2 (x' := .bool (decide (z < 0))) (y' := .slice A1 (dg 10 z.natAbs).length c1)
    have hB2 := (((((Below.refl w.heap.size w).alloc (Nat.le_refl _) (.cells #[.bool b, .slice A ds.length c] 39)).trans (HB1.out.mono (by simp))).setCell (p := ⟨w.heap.size, 0, none⟩) (by simp) (.bool (decide (z < 0)))).setCell (p := ⟨w.heap.size, 1, none⟩) (by simp) (.slice A1 (dg 10 z.natAbs).length c1))
    have hR2 := ((HM.out.far (p := ⟨w.heap.size, 0, none⟩) BX.out (by decide) (.bool (decide (z < 0)))).far (p := ⟨w.heap.size, 1, none⟩) (BX.out.set_ 0 _) (by decide) (.slice A1 (dg 10 z.natAbs).length c1)).more (B' := w2.heap.size) (by rw [hw2]; simp [World.setCell])
    rw [← hw2] at bX2 hB2 hR2 ⊢
    clear x0 x1 k0 k1
    have x0 := bX2.cell0
    have hlt := bX2.lt
    have BX2 := Lib.hid bX2; have HB2 := Lib.hid hB2; have HR2 := Lib.hid hR2; clear bX2 hB2 hR2
    have HW2 := Lib.hid hw2; clear hw2
    by_cases hneg : z < 0
    · have hn : decide (z < 0) = true := by simpa using hneg
      have e : byt (if z < 0 then [45] else []) = [.int .u8 45] := by rw [if_pos hneg]; rfl
      have HE := Lib.hid e; clear e
      go_wp2_with (at_builtin; refine wpList_app1 _ rfl (.tmp 18) (.tmp 19) 48 rfl (w.heap.size + 1) 5 (.int .u8 0) 1 Tryd.underlying48 info5 rfl (.slice none 0 0) 0 [] rfl (World.ownsRow_nil _ _ _ _) w2.heap.size 1 (.int .u8 45) rfl (by simp [World.cell?_alloc_new]) (by simp [Value.oneCell']) (by omega) (by omega) (by simp; omega) ?_; intro g' cap' w3 hA; have HA := Lib.hid hA; clear hA)
      go_meet
      refine ⟨1, by rw [HE.out]; exact HA.out.1, by omega, HA.out.blk (BX2.out.alloc _) (by decide), (HB2.out.alloc (by omega) _).trans (HA.out.2.2.mono (by omega)), (HA.out.rd (HR2.out.alloc (Nat.le_refl _) _) (by decide)).more (by have := HA.out.2.2.size; simp at this; omega)⟩
    · have hn : decide (z < 0) = false := by simpa using hneg
      have e : byt (if z < 0 then [45] else []) = [] := by rw [if_neg hneg]; rfl
      have HE := Lib.hid e; clear e
      go_wp2_with fail
      go_meet
      exact ⟨0, by rw [HE.out]; exact World.ownsRow_nil _ _ _ _, by omega, BX2.out, HB2.out, HR2.out⟩
  case rest =>
    obtain ⟨n, hown, hn, bX, hB, hR⟩ := hcut
    have HOWN := Lib.hid hown; have BX3 := Lib.hid bX; have HB3 := Lib.hid hB; have HR3 := Lib.hid hR
    clear hown bX hB hR
    have hlt3 := BX3.out.lt
    have x0 := BX3.out.cell0
    have x1 := BX3.out.cell1
    go_wp2_with fail
    go_loopg [4, 5] ((dg 10 z.natAbs).length + 1) (fun g s4 s5 wr => ∃ j n : Nat, g = j + 1 ∧ j ≤ (dg 10 z.natAbs).length ∧ s5 = .int .i64 ((j : Int) - 1) ∧ n ≤ 201 - j ∧
      wr.ownsRow (w.heap.size + 1) 5 1 s4 n (byt (txtPre z j)) ∧ Blk wr w.heap.size 39 #[.bool (decide (z < 0)), .slice A1 (dg 10 z.natAbs).length c1] ∧ Below w.heap.size w wr ∧ Rd wr wr.heap.size 3 A1 (ints (dg 10 z.natAbs)))
    case atStart =>
      exact ⟨(dg 10 z.natAbs).length, n, rfl, Nat.le_refl _, rfl, by omega, by rw [txtPre_all]; exact HOWN.out, BX3.out, HB3.out, HR3.out⟩
    case round =>
      obtain ⟨j, n, hg, hj, rfl, hn, hown, bX, hB, hR⟩ := hrel
      have hlt4 := bX.lt
      have x0 := bX.cell0
      have x1 := bX.cell1
      have HG := Lib.hid hg; clear hg
      by_cases h0' : j = 0
      · subst h0'
        rw [txtPre_zero h0] at hown
        obtain ⟨g, cap, rfl, hcv⟩ := own_convert hown (by rw [← txtPre_zero h0]; exact txtPre_ne h0)
        have HOWN := Lib.hid hown; have BX4 := Lib.hid bX; have HB4 := Lib.hid hB; have HR4 := Lib.hid hR
        clear hown bX hB hR
        go_wp2_with fail
        go_ret2
        exact ⟨by rw [HF.out]; rfl, HB4.out⟩
      · obtain ⟨k, rfl⟩ : ∃ k, j = k + 1 := ⟨j - 1, by omega⟩
        have hk : k < (dg 10 z.natAbs).length := by omega
        obtain ⟨bb, off, rfl, hbb, hcell⟩ := hR.int hk
        have hd10 := dg_lt (b := 10) (by decide) z.natAbs _ (List.getElem_mem hk)
        obtain ⟨y, hy⟩ : ∃ y : Nat, y = (dg 10 z.natAbs)[k] := ⟨_, rfl⟩
        rw [← hy] at hcell hd10
        have hd11 : (y : Int) < 10 := by omega
        have HY := Lib.hid hy; clear hy
        have HOWN := Lib.hid hown; have BX4 := Lib.hid bX; have HB4 := Lib.hid hB; have HR4 := Lib.hid hR
        clear hown bX hB hR
        go_wp2_with (at_builtin; refine wpList_app1 _ rfl (.tmp 29) (.tmp 37) 48 rfl (w.heap.size + 1) 5 (.int .u8 0) 1 Tryd.underlying48 info5 rfl _ n _ rfl (HOWN.out.alloc _) wr.heap.size 1 (.int .u8 (48 + (y : Int))) rfl (by simp [World.cell?_alloc_new]) (by simp [Value.oneCell']) (by omega) (by omega) (by simp; omega) ?_; intro g' cap' w3 hA; have HA := Lib.hid hA; clear hA)
        go_roundg (k + 1)
        case measure => have := HG.out; omega
        case rel =>
          have ho := HA.out.1
          have e : (48 + (y : Int)) = ((chr y).toNat : Int) := by rw [chr_nat hd10]; omega
          rw [e, ← byt_snoc, HY.out, ← txtPre_step hk] at ho
          exact ⟨k, n + 1, rfl, by omega, rfl, by omega, ho, HA.out.blk (BX4.out.alloc _) (by decide), (HB4.out.alloc (by omega) _).trans (HA.out.2.2.mono (by omega)), (HA.out.rd (HR4.out.alloc (Nat.le_refl _) _) (by decide)).more (by have := HA.out.2.2.size; simp at this; omega)⟩
end Go.Proofs.YtcclclginhhlaaaDoor
