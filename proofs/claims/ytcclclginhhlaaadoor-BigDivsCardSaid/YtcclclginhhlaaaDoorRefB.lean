/- The walks over the document's own answer for layer 1: the number of a text. -/
import Derived.Test.YtcclclginhhlaaaDoorRefA
namespace Go.Proofs.YtcclclginhhlaaaDoor
open Go.RowKit
open Pl Dig

def dig (c : UInt8) : Nat := c.toNat - 48
def frm (s : ByteArray) : Nat := if negB s then 1 else 0
/-- the digits of the places from j on, the last one first -/
def digs (s : ByteArray) (j : Nat) : List Nat := (s.data.toList.drop j).reverse.map dig


theorem digs_len (s : ByteArray) (j : Nat) : (digs s j).length = s.size - j := by rw [size_len]; simp [digs]
theorem digs_step {s : ByteArray} {k : Nat} (hk : k < s.size) : digs s k = digs s (k + 1) ++ [dig s[k]] := by
  unfold digs
  rw [List.drop_eq_getElem_cons (by rw [← size_len]; exact hk)]
  simp; rfl
theorem digs_lt {s : ByteArray} {f : Nat} (h : ∀ j, (hj : j < s.size) → f ≤ j → isDig s[j] = true) {d : Nat} (hd : d ∈ digs s f) : d < 10 := by
  unfold digs at hd
  rw [List.mem_map] at hd
  obtain ⟨c, hc, rfl⟩ := hd
  rw [List.mem_reverse] at hc
  obtain ⟨i, hi⟩ := List.mem_iff_getElem?.1 hc
  rw [List.getElem?_drop] at hi
  obtain ⟨hlt, he⟩ := List.getElem?_eq_some_iff.1 hi
  have := h (f + i) (by rw [size_len]; exact hlt) (by omega)
  have e : s[f + i]'(by rw [size_len]; exact hlt) = c := he
  rw [e] at this
  unfold isDig at this; unfold dig
  have := of_decide_eq_true this; omega

set_option maxRecDepth 100000 in
set_option maxHeartbeats 400000 in
theorem of_any (s : ByteArray) (w : World) (hs : s.size ≤ 1000) (h0 : 0 < s.size) (hdig : ∀ j, (hj : j < s.size) → frm s ≤ j → isDig s[j] = true) :
    Calls Tryd.prog 30 #[.string s] w fun e w' => ∃ v, e = .returned v ∧ NumIs w' (sgn (negB s) (vl 10 (digs s (frm s)))) v ∧ Below w.heap.size w w' := by
  obtain ⟨i0, hi, hz0, hz1, hz2⟩ := info_parts info3
  have HI := Lib.hid hi; have HZ0 := Lib.hid hz0; have HZ1 := Lib.hid hz1; have HZ2 := Lib.hid hz2
  clear hi hz0 hz1 hz2
  have HDIG := Lib.hid hdig
  clear hdig
  go_enter Tryd.func30, Tryd.ntmps30
  go_upto_if 9 with fail
  go_cut [4] (fun s4 wx => s4 = .int .i64 (frm s : Nat) ∧ Blk wx w.heap.size 39 #[.bool false, .slice none 0 0] ∧ Blk wx (w.heap.size + 1) 39 #[.bool (negB s), .slice none 0 0] ∧ Below w.heap.size w wx)
  case first =>
    have hn := neg_yes h0
    have e2 : ((w.alloc (.cells #[.bool false, .slice none 0 0] 39)).heap.size) = w.heap.size + 1 := by simp
    have bR := (Blk.new w 39 #[.bool false, .slice none 0 0]).alloc (.cells #[.bool (negB s), .slice none 0 0] 39)
    have bX := Blk.new (w.alloc (.cells #[.bool false, .slice none 0 0] 39)) 39 #[.bool (negB s), .slice none 0 0]
    have bB := ((Below.refl w.heap.size w).alloc (Nat.le_refl _) (.cells #[.bool false, .slice none 0 0] 39)).alloc (by simp) (.cells #[.bool (negB s), .slice none 0 0] 39)
    rw [e2] at bX
    cases hb : negB s with
    | true =>
      have hf : frm s = 1 := by simp [frm, hb]
      rw [hb] at hn bR bX bB
      have HF := Lib.hid hf; clear hf
      have HBB := Lib.hid hb; clear hb
      have BR := Lib.hid bR; have BX := Lib.hid bX; have BB := Lib.hid bB; clear bR bX bB e2
      go_wp2_with fail
      go_meet
      exact ⟨by rw [HF.out]; rfl, BR.out, by rw [HBB.out]; exact BX.out, BB.out⟩
    | false =>
      have hf : frm s = 0 := by simp [frm, hb]
      rw [hb] at hn bR bX bB
      have HF := Lib.hid hf; clear hf
      have HBB := Lib.hid hb; clear hb
      have BR := Lib.hid bR; have BX := Lib.hid bX; have BB := Lib.hid bB; clear bR bX bB e2
      go_wp2_with fail
      go_meet
      exact ⟨by rw [HF.out]; rfl, BR.out, by rw [HBB.out]; exact BX.out, BB.out⟩
  case rest =>
    obtain ⟨rfl, bR, bX, hB⟩ := hcut
    have hfr : frm s ≤ 1 := by unfold frm; split <;> omega
    have BR := Lib.hid bR; have BX := Lib.hid bX; have HB := Lib.hid hB; clear bR bX hB
    go_wp2_with fail
    go_loopg [5] (s.size + 1) (fun g s5 wr => ∃ (j n : Nat) (v : Value), g = j + 1 ∧ frm s ≤ j ∧ j ≤ s.size ∧ s5 = .int .i64 ((j : Int) - 1) ∧ n = s.size - j ∧ Blk wr w.heap.size 39 #[.bool false, .slice none 0 0] ∧ Blk wr (w.heap.size + 1) 39 #[.bool (negB s), v] ∧ Below w.heap.size w wr ∧
      wr.ownsRow (w.heap.size + 2) 3 1 v n (ints (digs s j)))
    case atStart =>
      have e : digs s s.size = [] := by unfold digs; rw [size_len, List.drop_length]; rfl
      exact ⟨s.size, 0, .slice none 0 0, rfl, by omega, Nat.le_refl _, rfl, by omega, BR.out, BX.out, HB.out, by rw [e]; exact World.ownsRow_nil _ _ _ _⟩
    case round =>
      obtain ⟨j, n, v, hg, hj1, hj2, rfl, hn, bR, bX, hB, hown⟩ := hrel
      have x0 := bX.cell 0
      have x1 := bX.cell 1
      have f0 := bX.frozen 0
      have f1 := bX.frozen 1
      simp at x0 x1
      by_cases hlt : frm s < j
      · obtain ⟨k, rfl⟩ : ∃ k, j = k + 1 := ⟨j - 1, by omega⟩
        have hk : k < s.size := by omega
        have hsz := bX.lt
        have hn1 : n ≤ 1000 := by omega
        have HXA := Lib.hid (fun (o : Obj) => bX.drew.alloc o)
        have HRA := Lib.hid (fun (o : Obj) => bR.drew.alloc o)
        have BR := Lib.hid bR; have BX := Lib.hid bX; have HB := Lib.hid hB; clear bR bX hB
        have HN := Lib.hid hn; have HG := Lib.hid hg; clear hn hg
        have hdj := HDIG.out k (by omega) (by omega)
        have hd1 : (48 : Int) ≤ s[k].toNat ∧ (s[k].toNat : Int) ≤ 57 := by
          unfold isDig at hdj; have := of_decide_eq_true hdj; omega
        clear hdj
        obtain ⟨hd1, hd2⟩ := hd1
        go_wp2_with fail
        have ew1 : IntKind.u8.wrap ((s[k].toNat : Int) - 48) = ((dig s[k] : Nat) : Int) := by
          rw [IntWalk.u8_in _ (by omega)]; unfold dig; omega
        have ew2 : IntKind.i64.wrap ((dig s[k] : Nat) : Int) = ((dig s[k] : Nat) : Int) := IntWalk.i64_in _ (by unfold dig; omega)
        go_region_law (refine step_app1 _ rfl (.tmp 20) (.tmp 26) 37 rfl (w.heap.size + 2) 3 (.int .i64 0) 8 Tryd.underlying37 info3 rfl v n (ints (digs s (k + 1))) rfl (hown.alloc _) wr.heap.size 1 (.int .i64 ((dig s[k] : Nat) : Int)) rfl (by simp [World.cell?_alloc_new]) (by simp [Value.oneCell']) (by omega) (by omega) (by simp; omega) ?_; intro g' cap' w1 hA; have bX1 := hA.blk (HXA.out _) (by decide); have y0 := bX1.cell 0; have y1 := bX1.cell 1; have k1 := bX1.frozen 1; simp at y0 y1)
        all_goals
          clear ew1 ew2
          have HA := Lib.hid hA; clear hA
          have HX1 := Lib.hid bX1; clear bX1
          go_wp2_with fail
          go_roundg (k + 1)
          case measure => have := HG.out; omega
          case rel =>
            have ho := HA.out.1
            rw [← ints_snoc, ← digs_step hk] at ho
            refine ⟨k, n + 1, _, rfl, by omega, by omega, rfl, by have := HN.out; omega, (HA.out.blk (HRA.out _) (by decide)).far (by simp) _, HX1.out.set_ 1 _, ?_, own_far ho HX1.out (by decide) 1 _⟩
            exact ((((HB.out.drew).alloc (by show _ ≤ wr.heap.size; omega) _).trans (HA.out.2.2.mono (by omega))).setCell (by simp) _)
      · obtain rfl : j = frm s := by omega
        have hsz := bX.lt
        have hn1 : n ≤ 1000 := by omega
        obtain ⟨A, c, rfl, hc1, hc2, hrd⟩ := own_slice hown
        have hl : n = (digs s (frm s)).length := by rw [digs_len]; exact hn
        subst hl
        clear hn
        have BR := Lib.hid bR; have BX := Lib.hid bX; have HB := Lib.hid hB; clear bR bX hB
        have HG := Lib.hid hg; clear hg
        have HO := Lib.hid hown; clear hown
        have HRD := Lib.hid hrd; clear hrd
        have hltR := BR.out.lt
        go_wp2_with (go_at_call 52; refine (tidy_num _ _ _ (digs s (frm s)) _ HRD.out hc1 hc2 (fun d hd => digs_lt (fun j hj hj' => HDIG.out j hj hj') hd)).mono ?_; rintro e w1 ⟨v1, rfl, hN, hB1⟩; obtain ⟨A1, c1, rfl, m1, m2, m3⟩ := hN; have bR1 := BR.out.below hB1 hltR; have y0 := bR1.cell0; have y1 := bR1.cell1; have k0 := bR1.frozen 0; have k1 := bR1.frozen 1; have HR1 := Lib.hid bR1; clear bR1; have HB1 := Lib.hid hB1; clear hB1; have HM := Lib.hid m3; clear m3)
        refine bodyPost_ret (ret39 (g := w.heap.size) Tryd.results30 rfl HR1.out.store2) rfl ⟨_, rfl, NumIs.store39 ⟨A1, c1, rfl, m1, m2, HM.out⟩ HR1.out, ?_⟩
        · exact (((HB.out.trans (HB1.out.mono (by omega))).setCell (by simp) _).setCell (by simp) _)
end Go.Proofs.YtcclclginhhlaaaDoor
