/- The walks over package big: the text of a number. -/
import Derived.Test.YtcclclginhhlaaaDoorTx
import Derived.Test.YtcclclginhhlaaaDoorFe
import Derived.Lib.BufferKept
import Derived.Sort.CutIn
namespace Go.Proofs.YtcclclginhhlaaaDoor
open Go.RowKit Go.Shelf
open Pl Dig
attribute [local go_sem] Oper.semAt_some

set_option maxRecDepth 100000 in
theorem zero_big (z : Int) (v : Value) (w : World) (h : BigIs w z v) : Calls Tryd.prog 61 #[v] w fun e w' => e = .returned (.bool (decide (z = 0))) ∧ Below w.heap.size w w' := by
  obtain ⟨A, c, rfl, hP⟩ := h
  have e1 : (((dg b9 z.natAbs).length : Int) == 0) = decide (z = 0) := by
    rw [Bool.eq_iff_iff, beq_iff_eq, decide_eq_true_iff]
    constructor
    · intro h
      have := (dg_nil b9_two (n := z.natAbs)).1 (List.eq_nil_of_length_eq_zero (by omega))
      omega
    · rintro rfl; rfl
  have E1 := Lib.hid e1
  clear hP e1
  go_enter Tryd.func61, Tryd.ntmps61
  go_wp2_with fail
  go_ret
  exact ⟨by rw [← E1.out]; rfl, (Below.refl _ w).alloc (Nat.le_refl _) _⟩

/-- What has been written when the parts from place j on are. -/
def outAt (s : List UInt8) (ps : List Nat) (j : Nat) : List UInt8 := s ++ (if j = ps.length then [] else Lib.decDigits (top ps j))

theorem out_step (s bs : List UInt8) (ps : List Nat) (hp : ∀ d ∈ ps, d < b9) (ht : Tip ps) {k : Nat} (hk : k < ps.length) (hbs : bs = outAt s ps (ps.length - k)) :
    bs ++ ((if (fe ps k).1 < ps.length - 1 then List.replicate (lead (fe ps k).2) 48 else []) ++ Lib.decDigits (fe ps k).2) = outAt s ps (ps.length - (k + 1)) := by
  obtain ⟨j, hj⟩ : ∃ j, ps.length = j + k + 1 := ⟨ps.length - 1 - k, by omega⟩
  have e1 : fe ps k = (j, ps.getD j 0) := by unfold fe; rw [show ps.length - 1 - k = j from by omega]
  have hd : ps.getD j 0 < b9 := hp _ (by rw [List.getD_eq_getElem?_getD, List.getElem?_eq_getElem (by omega)]; exact List.getElem_mem _)
  rw [e1, hbs, show ps.length - k = j + 1 from by omega, show ps.length - (k + 1) = j from by omega]
  unfold outAt
  rw [if_neg (show ¬ j = ps.length from by omega), top_step ps (show j < ps.length from by omega)]
  by_cases h0 : k = 0
  · rw [if_pos (by omega), if_neg (by simp; omega), show j + 1 = ps.length from by omega, top_end]
    simp
  · rw [if_neg (by omega), if_pos (by simp; omega), dec_step hd (top_pos ht (by omega))]
    simp [List.append_assoc]
theorem out_end (z : Int) (hz : ¬ z = 0) : outAt (if decide (z < 0) then [45] else []) (dg b9 z.natAbs) 0 = txt z := by
  unfold outAt txt
  have hl : ¬ (0 = (dg b9 z.natAbs).length) := by
    intro h; have := (dg_nil b9_two (n := z.natAbs)).1 (List.eq_nil_of_length_eq_zero h.symm); omega
  rw [if_neg hl, top_all, dg_vl b9_two, decD _ (by omega), if_neg hz]
  simp
theorem builder_below {B b : Nat} {bs : List Value} {W W' : World} (h : Lib.IsBuilder 82 5 B b bs W) (hb : Below W.heap.size W W') : Lib.IsBuilder 82 5 B b bs W' := by
  have aux : ∀ p, Lib.BuilderAt 82 5 B b p bs W → Lib.BuilderAt 82 5 B b p bs W' := by
    rintro p ⟨hB, v, hbk, hown, hne⟩
    have hlt := (Array.getElem?_eq_some_iff.1 hbk).1
    refine ⟨hB, v, (hb.block b hlt).trans hbk, ⟨hown.1, ?_⟩, hne⟩
    rcases hown.2 with h | ⟨g, cap, cur, h1, h2, h3, h4⟩
    · exact .inl h
    · exact .inr ⟨g, cap, cur, h1, h2, (hb.block g (Array.getElem?_eq_some_iff.1 h3).1).trans h3, h4⟩
  exact h.imp (aux _) (aux _)

theorem strCells_of (l : List UInt8) : Lib.strCells ⟨l.toArray⟩ = Lib.byteCells l := by simp [Lib.strCells, Lib.byteCells]
theorem byteCells_app (a c : List UInt8) : Lib.byteCells (a ++ c) = Lib.byteCells a ++ Lib.byteCells c := by simp [Lib.byteCells]
theorem wlist (b : Nat) (bs l : List UInt8) (D : ByteArray) (hD : D = ⟨l.toArray⟩) (w : World) (h : Lib.IsBuilder 82 5 b b (Lib.byteCells bs) w) (hlen : bs.length + l.length ≤ 1000000) :
    Calls Tryd.prog 73 #[.pointer (some ⟨b, 0, none⟩), .string D] w fun e w' => (∃ v, e = .returned v) ∧ Lib.IsBuilder 82 5 b b (Lib.byteCells (bs ++ l)) w' ∧ Below b w w' ∧ Lib.OthersKept 5 (some b) w w' := by
  subst hD
  refine (wstr b b _ ⟨l.toArray⟩ w h (by rw [Lib.byteCells_length]; have : (⟨l.toArray⟩ : ByteArray).size = l.length := by simp [ByteArray.size]
                                         omega) (Nat.le_of_lt (builder_lt h))).mono ?_
  rintro e w' ⟨rfl, h1, h2, h3⟩
  rw [strCells_of, ← byteCells_app] at h1
  exact ⟨⟨_, rfl⟩, h1, h2, h3⟩
theorem repeat48 : ∀ c, Lib.repeatL [48] c = List.replicate c 48
  | 0 => rfl
  | c + 1 => by rw [Lib.repeatL, repeat48 c]; rfl
theorem rep48 (c : Nat) (hc : c ≤ 9) (w : World) : Calls Tryd.prog 74 #[.string ⟨#[48]⟩, .int .i64 (c : Int)] w fun e w' => e = .returned (.string ⟨(List.replicate c 48).toArray⟩) ∧ Below w.heap.size w w' := by
  refine (Tryd.strings_Repeat ⟨#[48]⟩ c w (by omega) (by have : (⟨#[48]⟩ : ByteArray).size = 1 := rfl
                                                         rw [this]; omega)).mono ?_
  rintro e w' ⟨rfl, h⟩
  exact ⟨by rw [← repeat48], h⟩
theorem fe_lt {ps : List Nat} (h : ∀ d ∈ ps, d < b9) (k : Nat) : (fe ps k).2 < b9 := by
  unfold fe
  dsimp only
  rw [List.getD_eq_getElem?_getD]
  cases e : ps[ps.length - 1 - k]? with
  | none => decide
  | some d => exact h d (List.mem_of_getElem? e)
theorem upto_snoc {pre : List Nat} {x : Nat} (h : pre ++ [x] = upto id (pre ++ [x]).length) : pre = upto id pre.length ∧ x = pre.length := by
  rw [List.length_append, List.length_singleton, upto_succ] at h
  have h2 := List.append_inj' h rfl
  exact ⟨h2.1, by simpa using h2.2⟩
/-- What has been written after the rounds of pre, where these are the first ones. -/
def Wrote (s : List UInt8) (ps pre : List Nat) (bs : List UInt8) : Prop := pre = upto id pre.length → bs = outAt s ps (ps.length - pre.length)

set_option maxRecDepth 100000 in
set_option maxHeartbeats 2000000 in
theorem text_in (z : Int) (v : Value) (w : World) (h : BigIs w z v) (hl : (dg b9 z.natAbs).length ≤ 1000)
    (htab : ∀ W', Below w.heap.size w W' → Lib.TabIs Tryd.prog W' "internal/strconv.uint64pow10" .u64 Lib.pow10Tab) :
    CallsIn Fence.wide 5 Tryd.prog 51 #[v] w fun e w' => e = .returned (.string ⟨(txt z).toArray⟩) ∧ Below w.heap.size w w' := by
  obtain ⟨A, c, rfl, hP⟩ := h
  have f61 : Fence.wide.fn 61 := trivial
  have f70 : Fence.wide.fn 70 := trivial
  have f71 : Fence.wide.fn 71 := trivial
  have f72 : Fence.wide.fn 72 := trivial
  have f73 : Fence.wide.fn 73 := trivial
  have f74 : Fence.wide.fn 74 := trivial
  have f75 : Fence.wide.fn 75 := trivial
  have hzb : ∀ W, BigP W z A c → Calls Tryd.prog 61 #[.agg #[.bool (decide (z < 0)), .slice A (dg b9 z.natAbs).length c]] W fun e w' => e = .returned (.bool (decide (z = 0))) ∧ Below W.heap.size W w' := fun W hW => zero_big z _ W hW.is
  obtain ⟨ng, hng⟩ : ∃ ng, ng = decide (z < 0) := ⟨_, rfl⟩
  rw [← hng] at hzb
  rw [← hng]
  have HZB := Lib.hid hzb; have HNG := Lib.hid hng
  clear hzb hng
  by_cases hz : z = 0
  · have hd : decide (z = 0) = true := by simpa using hz
    refine callsIn_of_wp_marks Tryd.func51 rfl trivial ?_ rfl
    simp only [Tryd.ntmps51, List.size_toArray, List.length_cons, List.length_nil, Nat.reduceAdd, Nat.reduceSub, Array.replicate_succ, Array.replicate_zero, List.push_toArray, List.append_toArray, List.nil_append, List.cons_append]
    have HP := Lib.hid hP; have HZ := Lib.hid hz
    clear hP hz
    gi_wp2_with (gi_at_call 61; refine (callsIn_wide.2 (HZB.out _ (HP.out.alloc _))).mono ?_; rintro e w1 ⟨rfl, hB1⟩; have HB1 := Lib.hid hB1; clear hB1)
    refine ⟨_, results_tmp rfl _ _ _, ?_, ?_⟩
    · rw [HZ.out]; rfl
    · exact ((Below.refl _ w).alloc (Nat.le_refl _) _).trans (HB1.out.mono (by simp))
  · have hd : decide (z = 0) = false := by simpa using hz
    refine callsIn_of_wp_marks Tryd.func51 rfl trivial ?_ rfl
    simp only [Tryd.ntmps51, List.size_toArray, List.length_cons, List.length_nil, Nat.reduceAdd, Nat.reduceSub, Array.replicate_succ, Array.replicate_zero, List.push_toArray, List.append_toArray, List.nil_append, List.cons_append]
    have bX := Blk.new w 54 #[.bool ng, .slice A (dg b9 z.natAbs).length c]
    have HP := Lib.hid hP; have HZ := Lib.hid hz; have BX := Lib.hid bX; have HT := Lib.hid htab
    clear htab
    clear hP hz bX
    have bX := BX.out
    gi_upto_if 10 with (gi_at_call 61; refine (callsIn_wide.2 (HZB.out _ (HP.out.alloc _))).mono ?_; rintro e w1 ⟨rfl, hB1⟩; have bX := (BX.out.below hB1 (by simp)).alloc (.cells #[.pointer none, .slice none 0 0] 82); have x0 := bX.cell0; have x1 := bX.cell1; have HB1 := Lib.hid hB1; clear hB1 bX)
    have hsz : w.heap.size < w1.heap.size := by have := HB1.out.size; simp at this; omega
    have hB2 : Below w.heap.size w (w1.alloc (.cells #[.pointer none, .slice none 0 0] 82)) := (((Below.refl _ w).alloc (Nat.le_refl _) _).trans (HB1.out.mono (by simp))).alloc (by omega) _
    have hI := Lib.fresh_isBuilder 82 5 w1
    have bX2 : Blk (w1.alloc (.cells #[.pointer none, .slice none 0 0] 82)) w.heap.size 54 #[.bool ng, .slice A (dg b9 z.natAbs).length c] := (BX.out.below HB1.out (by simp)).alloc _
    have HB2 := Lib.hid hB2; have HI := Lib.hid hI; have BX2 := Lib.hid bX2
    clear hB2 hI bX2
    gi_cut [] from 34 (fun wx => Lib.IsBuilder 82 5 w1.heap.size w1.heap.size (Lib.byteCells (if ng then [45] else [])) wx ∧ Blk wx w.heap.size 54 #[.bool ng, .slice A (dg b9 z.natAbs).length c] ∧ Below w.heap.size w wx)
    case first =>
      cases ng
      · gi_wp2_with fail
        gi_meet
        exact ⟨HI.out, BX2.out, HB2.out⟩
      · gi_wp2_with (gi_at_call 70; refine (callsIn_wide.2 (wbyte w1.heap.size w1.heap.size [] 45 _ HI.out (by decide) (by simp))).mono ?_; rintro e w2 ⟨rfl, hI2, hb2, hk2⟩; have HI2 := Lib.hid hI2; have Hb2 := Lib.hid hb2; clear hI2 hb2 hk2)
        gi_meet
        refine ⟨?_, ?_, ?_⟩
        · exact HI2.out
        · exact BX2.out.below Hb2.out hsz
        · exact HB2.out.trans (Hb2.out.mono (by omega))
    case rest =>
      obtain ⟨hI, bX, hB⟩ := hcut
      obtain ⟨s0, hs0⟩ : ∃ s0 : List UInt8, s0 = if ng then [45] else [] := ⟨_, rfl⟩
      rw [← hs0] at hI
      have hs1 : s0.length ≤ 1 := by rw [hs0]; cases ng <;> decide
      have HS0 := Lib.hid hs0; have HS1 := Lib.hid hs1; clear hs0 hs1
      have x0 := bX.cell0; have x1 := bX.cell1
      have HI3 := Lib.hid hI; have BX3 := Lib.hid bX; have HB3 := Lib.hid hB
      clear HI BX2 HB2 hI bX hB
      have hsz3 : w1.heap.size < wc.heap.size := builder_lt HI3.out
      obtain ⟨ps, hps⟩ : ∃ ps, ps = dg b9 z.natAbs := ⟨_, rfl⟩
      have hp9 : ∀ d ∈ ps, d < b9 := by rw [hps]; exact dg_lt b9_two _
      have htip : Tip ps := by rw [hps]; exact dg_tip b9_two _
      have hrd : Rd wc w.heap.size 78 A (u32s ps) := by rw [hps]; exact HP.out.2.2.below HB3.out
      have HPS := Lib.hid hps; have H9 := Lib.hid hp9; have HTIP := Lib.hid htip; have HRD := Lib.hid hrd
      rw [← hps] at x1 hl BX3 ⊢
      clear hps hp9 htip hrd
      gi_wp2_with (gi_at_call 71; refine (fromEnd_in Fence.wide 4 trivial rfl _ _ _ _).mono ?_; rintro e w3 ⟨rfl, rfl⟩)
      have bN := Blk.new wc 52 #[.slice A ps.length c]
      refine wpIn_rangeFunc_ownG rfl (by decide) (gf := 90) (lb := #[.pointer (some ⟨wc.heap.size, 0, none⟩)]) rfl trivial (enters_of Tryd.func90 (by kernel_rfl) rfl)
        (fromEnd_stops2 Fence.wide 4 trivial rfl (by decide) wc.heap.size w.heap.size c A ps (by omega) _ (by simp) (by simp; omega) (by simp) (HRD.out.alloc (by omega) _)) Keeps.trans (keepsK_b (by simp; omega) (by simp)) (Below.refl _ _) (fun _ => rfl)
        (fun pre W => ((∃ bs : List UInt8, Lib.IsBuilder 82 5 w1.heap.size w1.heap.size (Lib.byteCells bs) W ∧ bs.length ≤ 1 + 18 * pre.length ∧ Wrote s0 ps pre bs) ∧
          Blk W w.heap.size 54 #[.bool ng, .slice A ps.length c] ∧ Blk W wc.heap.size 52 #[.slice A ps.length c]) ∧ Below w.heap.size w W)
        (fun _ _ _ => False) ?own (fun _ _ _ _ _ h _ _ => h) ?start
        (fun x => { tmps := #[.agg #[.bool ng, .slice A ps.length c], .pointer (some ⟨w.heap.size, 0, none⟩), .string ⟨#[]⟩, .pointer (some ⟨w1.heap.size, 0, none⟩), .int .i64 ((fe ps x).1 : Int), .int .u32 ((fe ps x).2 : Int), undef,
          .agg #[.bool ng, .slice A ps.length c], .bool false, .pointer (some ⟨w.heap.size, 0, none⟩), .bool ng, u11, .pointer (some ⟨w.heap.size, 1, none⟩), .slice A ps.length c, .func (.func 90) #[] #[.pointer (some ⟨wc.heap.size, 0, none⟩)], .int .i64 ((fe ps x).1 : Int), .int .u32 ((fe ps x).2 : Int),
          undef, undef, undef, undef, undef, undef, undef, undef, undef, undef, undef, undef, undef, undef, undef, undef, undef], defers := [] }) ?assign ?body ?done ?stop
      case own =>
        refine OwnFrom.and (fun s W W' row hs hg hr => ?_) (ownFrom_below (Nat.le_refl _) (by simp; omega))
        obtain ⟨⟨bs, h1, h2, h3⟩, h4, h5⟩ := hs
        exact ⟨⟨bs, builder_kept h1 hg (fun r e => (hr r e).2), h2, h3⟩, (grownBy_keeps_cells hg (fun r e => (hr r e).2) h4 rfl).trans h4, (grownBy_keeps_cells hg (fun r e => (hr r e).2) h5 rfl).trans h5⟩
      case start =>
        refine ⟨⟨⟨_, builder_below HI3.out ((Below.refl _ _).alloc (Nat.le_refl _) _), ?_, ?_⟩, BX3.out.alloc _, bN⟩, HB3.out.alloc (by omega) _⟩
        · have := HS1.out; simpa using this
        · intro _; simp [outAt]
      case assign =>
        intro l x W K hK
        gi_wp2
        exact hK
      case stop => exact fun _ _ _ _ _ _ h _ => h.elim
      case body =>
        rintro l pre x W ⟨⟨⟨bs, hI, hlen, hbs⟩, hb1, hb2⟩, hB⟩ hlt
        have hfin : pre ++ [x] = upto id (pre ++ [x]).length → bs ++ ((if (fe ps x).1 < ps.length - 1 then List.replicate (lead (fe ps x).2) 48 else []) ++ Lib.decDigits (fe ps x).2) = outAt s0 ps (ps.length - (pre ++ [x]).length) := by
          intro e
          obtain ⟨e1, rfl⟩ := upto_snoc e
          rw [List.length_append, List.length_singleton]
          exact out_step _ _ ps H9.out HTIP.out hlt (hbs e1)
        have hy9 := fe_lt H9.out x
        generalize (fe ps x).2 = y at hfin hy9 ⊢
        generalize (fe ps x).1 = i at hfin ⊢
        have hdl := dec_len hy9
        have hle : lead y = 9 - (Lib.decDigits y).length := rfl
        obtain ⟨D, hD⟩ : ∃ D : ByteArray, D = ⟨(Lib.decDigits y).toArray⟩ := ⟨_, rfl⟩
        have hDs : D.size = (Lib.decDigits y).length := by rw [hD]; simp [ByteArray.size]
        have hU : ∀ W', Below W.heap.size W W' → Calls Tryd.prog 72 #[.int .u64 (y : Int), .int .i64 10] W' fun e w'' => e = .returned (.string D) ∧ Below W'.heap.size W' w'' := by
          intro W' hW'
          have : y < 18446744073709551616 := Nat.lt_trans hy9 (by decide)
          refine (ufmt72 y this W' (HT.out W' (hB.trans (hW'.mono hB.size)))).mono ?_
          rintro e w'' ⟨rfl, k, os, rfl⟩
          exact ⟨by rw [hD], Lib.below_grow _ _ (Nat.le_refl _) _ _⟩
        have hy0 : (y : Int) < 1000000000 := by have : y < 1000000000 := hy9; omega
        have hD1 : 1 ≤ D.size := by omega
        have hD9 : D.size ≤ 9 := by omega
        have hlead : lead y = 9 - D.size := by omega
        have hdig : (Lib.decDigits y).length ≤ 9 := hdl.2
        have hlen2 : bs.length + 18 ≤ 1000000 := by omega
        have x0 := hb1.cell0; have x1 := hb1.cell1
        have HI0 := Lib.hid hI; have HL := Lib.hid hlen; have HB1 := Lib.hid hb1; have HB2 := Lib.hid hb2; have HBW := Lib.hid hB; have HF := Lib.hid hfin; have HD := Lib.hid hD; have HU := Lib.hid hU
        have HLE := Lib.hid hlead; have HDG := Lib.hid hdig; have HL2 := Lib.hid hlen2; have HPL := Lib.hid hl; have HLT := Lib.hid hlt; have HS3 := Lib.hid hsz3
        clear hd bX
        clear hI hlen hbs hb1 hb2 hB hfin hdl hle hD hDs hU hy9 hlead hdig hlen2 hlt
        by_cases hc : i < ps.length - 1
        · have hc' : decide ((i : Int) < (ps.length : Int) - 1) = true := decide_eq_true (by omega)
          obtain ⟨Z, hZ⟩ : ∃ Z : ByteArray, Z = ⟨(List.replicate (9 - D.size) 48).toArray⟩ := ⟨_, rfl⟩
          have hR : ∀ W', Calls Tryd.prog 74 #[.string ⟨#[48]⟩, .int .i64 ((9 : Int) - (D.size : Int))] W' fun e w' => e = .returned (.string Z) ∧ Below W'.heap.size W' w' := by
            intro W'
            rw [show (9 : Int) - (D.size : Int) = ((9 - D.size : Nat) : Int) from by omega, hZ]
            exact rep48 _ (by omega) W'
          have HC := Lib.hid hc; have HZZ := Lib.hid hZ; have HR := Lib.hid hR; have HCC := Lib.hid hc'; clear hc hZ hR hc'
          gi_upto_if 25 with (gi_at_call 72; refine (callsIn_wide.2 (HU.out _ (Below.refl _ _))).mono ?_; rintro e w4 ⟨rfl, hb4⟩; have x0' := (HB1.out.below hb4 HB1.out.lt).cell0; have x1' := (HB1.out.below hb4 HB1.out.lt).cell1; have Hb4 := Lib.hid hb4; clear hb4)
          rw [HCC.out]
          clear x0 x1 x0' x1' hy0 hl hsz3 bN
          gi_upto_region 12 with (first
            | (gi_at_call 74; refine (callsIn_wide.2 (HR.out _)).mono ?_; rintro e w5 ⟨rfl, hb5⟩; have Hb5 := Lib.hid hb5; clear hb5)
            | (gi_at_call 73; refine (callsIn_wide.2 (wlist w1.heap.size bs (List.replicate (9 - D.size) 48) Z HZZ.out _ (builder_below (builder_below HI0.out Hb4.out) Hb5.out) (by have := HL2.out; simp; omega))).mono ?_; rintro e w6 ⟨⟨v6, rfl⟩, hI6, hb6, hk6⟩; have HI6 := Lib.hid hI6; have Hb6 := Lib.hid hb6; have HK6 := Lib.hid hk6; clear hI6 hb6 hk6))
          gi_wp2_with (first
            | (gi_at_call 73; refine (callsIn_wide.2 (wlist w1.heap.size (bs ++ List.replicate (9 - D.size) 48) (Lib.decDigits y) D HD.out _ HI6.out (by have := HL2.out; have := HDG.out; simp; omega))).mono ?_; rintro e w7 ⟨⟨v7, rfl⟩, hI7, hb7, hk7⟩; have HI7 := Lib.hid hI7; have Hb7 := Lib.hid hb7; have HK7 := Lib.hid hk7; clear hI7 hb7 hk7))
          have hbb := builder_lt HI0.out
          have hB7 : Below w1.heap.size W w7 := (((Hb4.out.mono (by omega)).trans (Hb5.out.mono (by have := Hb4.out.size; omega))).trans Hb6.out).trans Hb7.out
          have hK7 : Lib.OthersKept 5 (some w1.heap.size) W w7 := ((((Lib.OthersKept.refl _ _ W).below Hb4.out).below Hb5.out).trans HK6.out).trans HK7.out
          have hs3 := HS3.out
          refine ⟨kept_from hK7 hB7.size (by first | omega | (simp; omega)), ⟨hB7.mono (by omega), kept_blk hK7 HB2.out (by omega) (by decide)⟩, ⟨⟨_, HI7.out, ?_, ?_⟩, (kept_blk hK7 HB1.out (by omega) (by decide)).trans HB1.out, (kept_blk hK7 HB2.out (by omega) (by decide)).trans HB2.out⟩, HBW.out.trans (hB7.mono (by omega))⟩
          · have := HL.out; have := HDG.out; simp; omega
          · intro e
            have := HF.out e
            rw [if_pos HC.out, HLE.out] at this
            rw [List.append_assoc]; exact this
        · have hc' : decide ((i : Int) < (ps.length : Int) - 1) = false := decide_eq_false (by have := HLT.out; omega)
          have HC := Lib.hid hc; have HCC := Lib.hid hc'; clear hc hc' hD1 hD9
          gi_upto_if 25 with (gi_at_call 72; refine (callsIn_wide.2 (HU.out _ (Below.refl _ _))).mono ?_; rintro e w4 ⟨rfl, hb4⟩; have x0' := (HB1.out.below hb4 HB1.out.lt).cell0; have x1' := (HB1.out.below hb4 HB1.out.lt).cell1; have Hb4 := Lib.hid hb4; clear hb4)
          rw [HCC.out]
          clear x0 x1 x0' x1' hy0 hl hsz3 bN
          gi_wp2_with (first
            | (gi_at_call 73; refine (callsIn_wide.2 (wlist w1.heap.size bs (Lib.decDigits y) D HD.out _ (builder_below HI0.out Hb4.out) (by have := HL2.out; have := HDG.out; omega))).mono ?_; rintro e w7 ⟨⟨v7, rfl⟩, hI7, hb7, hk7⟩; have HI7 := Lib.hid hI7; have Hb7 := Lib.hid hb7; have HK7 := Lib.hid hk7; clear hI7 hb7 hk7))
          have hbb := builder_lt HI0.out
          have hB7 : Below w1.heap.size W w7 := (Hb4.out.mono (by omega)).trans Hb7.out
          have hK7 : Lib.OthersKept 5 (some w1.heap.size) W w7 := ((Lib.OthersKept.refl _ _ W).below Hb4.out).trans HK7.out
          have hs3 := HS3.out
          refine ⟨kept_from hK7 hB7.size (by first | omega | (simp; omega)), ⟨hB7.mono (by omega), kept_blk hK7 HB2.out (by omega) (by decide)⟩, ⟨⟨_, HI7.out, ?_, ?_⟩, (kept_blk hK7 HB1.out (by omega) (by decide)).trans HB1.out, (kept_blk hK7 HB2.out (by omega) (by decide)).trans HB2.out⟩, HBW.out.trans (hB7.mono (by omega))⟩
          · have := HL.out; have := HDG.out; simp; omega
          · intro e
            have := HF.out e
            rw [if_neg HC.out, List.nil_append] at this
            exact this
      case done =>
        rintro D ys W hD rfl ⟨⟨⟨bs, hI, _, hbs⟩, _, _⟩, hB⟩ hK
        have hbs' : bs = txt z := by
          have h0 := hbs (by rw [upto_length])
          rw [upto_length, Nat.sub_self, HPS.out, HS0.out, HNG.out] at h0
          rw [h0, out_end z HZ.out]
        rw [hbs'] at hI
        have HI5 := Lib.hid hI; have HB5 := Lib.hid hB
        clear hI hB hbs hbs'
        gi_wp2_with (gi_at_call 75; refine (callsIn_wide.2 (Any.Builder_String_any_k Tryd.lays169 Tryd.Builder_Extra_169 w1.heap.size w1.heap.size (txt z) W (Lib.IsBuilderF.of HI5.out) (Nat.le_of_lt (builder_lt HI5.out)))).mono ?_; rintro e w5 ⟨rfl, _, hB6, hk6⟩; have HB6 := Lib.hid hB6; have HK6 := Lib.hid hk6; clear hB6 hk6)
        have hK' : w5.heap[D]? = some (.deferred (some [])) := HK6.out D _ hK (by intro e; injection e; simp at hD; omega) (fun c fz e => by cases e)
        refine ⟨by simp, .inl ⟨_, _, rfl, run_takeDeferred hK', ?_⟩⟩
        refine ⟨_, results_tmp rfl _ _ _, rfl, ?_⟩
        exact (HB5.out.trans (HB6.out.mono (by omega))).trans (belowK_b (w := w) (Nat.le_refl _) w5 D _ _ (by simp at hD; omega) hK' rfl rfl)

/-- text: the text of a number. -/
theorem text_big (z : Int) (v : Value) (w : World) (h : BigIs w z v) (hl : (dg b9 z.natAbs).length ≤ 1000)
    (htab : ∀ W', Below w.heap.size w W' → Lib.TabIs Tryd.prog W' "internal/strconv.uint64pow10" .u64 Lib.pow10Tab) :
    Calls Tryd.prog 51 #[v] w fun e w' => e = .returned (.string ⟨(txt z).toArray⟩) ∧ Below w.heap.size w w' := callsIn_wide.1 (text_in z v w h hl htab)
end Go.Proofs.YtcclclginhhlaaaDoor
