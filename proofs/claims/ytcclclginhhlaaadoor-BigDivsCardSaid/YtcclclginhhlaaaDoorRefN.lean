/- The walk over the document's own answer for layer 1: a quotient and a rest. -/
import Derived.Test.YtcclclginhhlaaaDoorRefM
import Derived.Test.YtcclclginhhlaaaDoorBigC
import Derived.Test.YtcclclginhhlaaaDoorRg
namespace Go.Proofs.YtcclclginhhlaaaDoor
open Go.RowKit
open Pl Dig

theorem ret39_2 {fn : Func} {p q : Tmp} (h : fn.results = #[.cell p 39, .cell q 39]) {tmps : Array Value} {W : World} {g k : Nat} {x y x' y' : Value} (hp : tmps.getD p undef = .pointer (some ⟨g, 0, none⟩)) (hq : tmps.getD q undef = .pointer (some ⟨k, 0, none⟩))
    (hb : Blk W g 39 #[x, y]) (hb' : Blk W k 39 #[x', y']) : (results fn tmps).run Tryd.prog W = .ok (.tuple #[.agg #[x, y], .agg #[x', y']]) W := by
  have c0 := hb.cell0
  have c1 := hb.cell1
  have d0 := hb'.cell0
  have d1 := hb'.cell1
  rw [Array.getD_eq_getD_getElem?] at hp hq
  simp [results, h, hp, hq, go_sem, c0, c1, d0, d1]
/-- The two ways of a sign. -/
theorem quo_signs {z z' : Int} : sgn (!(decide (z < 0) == decide (z' < 0))) (z.natAbs / z'.natAbs) = z.tdiv z' ∧ sgn (decide (z < 0)) (z.natAbs % z'.natAbs) = z.tmod z' := by
  unfold sgn
  by_cases h1 : z < 0 <;> by_cases h2 : z' < 0
  · obtain ⟨p, rfl⟩ : ∃ p : Nat, z = -(p : Int) := ⟨z.natAbs, by omega⟩
    obtain ⟨q, rfl⟩ : ∃ q : Nat, z' = -(q : Int) := ⟨z'.natAbs, by omega⟩
    rw [decide_eq_true h1, decide_eq_true h2, Int.neg_tdiv, Int.tdiv_neg, Int.neg_tmod, Int.tmod_neg]; simp; rfl
  · obtain ⟨p, rfl⟩ : ∃ p : Nat, z = -(p : Int) := ⟨z.natAbs, by omega⟩
    obtain ⟨q, rfl⟩ : ∃ q : Nat, z' = (q : Int) := ⟨z'.natAbs, by omega⟩
    rw [decide_eq_true h1, decide_eq_false (by omega), Int.neg_tdiv, Int.neg_tmod]; simp; rfl
  · obtain ⟨p, rfl⟩ : ∃ p : Nat, z = (p : Int) := ⟨z.natAbs, by omega⟩
    obtain ⟨q, rfl⟩ : ∃ q : Nat, z' = -(q : Int) := ⟨z'.natAbs, by omega⟩
    rw [decide_eq_false (by omega), decide_eq_true h2, Int.tdiv_neg, Int.tmod_neg]; simp; rfl
  · obtain ⟨p, rfl⟩ : ∃ p : Nat, z = (p : Int) := ⟨z.natAbs, by omega⟩
    obtain ⟨q, rfl⟩ : ∃ q : Nat, z' = (q : Int) := ⟨z'.natAbs, by omega⟩
    rw [decide_eq_false (by omega), decide_eq_false (by omega)]; simp; rfl

/-- A call of a Go function, by its contract, as a step of a region that draws. -/
theorem step_call {P : Program} {ops : Array Oper} {dst : Option Tmp} {f : FuncId} {xs : Array Operand} {ats : Array TypeId} {ty : TypeId} {pos : String} {after : Array Edge} {a : Act} {w : World} {K : Act → World → Prop} {Q : Exit → Act → World → Prop} {E : Prop}
    (args : Array Value) (hargs : #[] ++ xs.map a.eval ++ #[] = args) (he : (callFunc f args).run P w = .ok (.enter f args) w) {R : Ending → World → Prop} (hc : Calls P f args w R) (h : ∀ e w', R e w' → ∃ v, e = .returned v ∧ K (a.put dst v) w') :
    if Region.wanted { dst, op := .call { callee := .value (.func f), args := xs, argTypes := ats }, type := ty, pos, after, guard := none } (yielded ops a.tmps) = true then
      Oper.wp P { dst, op := .call { callee := .value (.func f), args := xs, argTypes := ats }, type := ty, pos, after, guard := none } a w K Q else E := by
  have hw : Region.wanted { dst, op := .call { callee := .value (.func f), args := xs, argTypes := ats }, type := ty, pos, after, guard := none } (yielded ops a.tmps) = true := by simp [Region.wanted]
  rw [if_pos hw]
  unfold Oper.wp
  rw [execOp_call_go, hargs, he, Oper.upon_enter]
  refine hc.mono ?_
  rintro e w' hR
  obtain ⟨v, rfl, hK⟩ := h e w' hR
  exact hK
/-- What the rounds of a division leave. -/
def OverR (ds : List Nat) (V k : Nat) (qs : List Nat) (R : Nat) : Prop := R = vl 10 (ds.drop k) % V ∧ vl 10 qs = vl 10 (ds.drop k) / V
theorem over_step {ds qs : List Nat} {V j R : Nat} (hV : 0 < V) (h : OverR ds V (j + 1) qs R) :
    OverR ds V j ((ds.getD j 0 + 10 * R) / V :: qs) ((ds.getD j 0 + 10 * R) % V) := by
  obtain ⟨h1, h2⟩ := h
  have hd := div_step (b := 10) (V := V) (T := vl 10 (ds.drop (j + 1))) (p := ds.getD j 0) hV
  rw [← vl_dropD, ← h1] at hd
  refine ⟨hd.2.symm, ?_⟩
  rw [hd.1, ← h2]; rfl
theorem nat_is {w : World} {m : Nat} {A : Option Addr} {c : Nat} (h : (dg 10 m).length ≤ c ∧ c ≤ maxLen ∧ Rd w w.heap.size 3 A (ints (dg 10 m))) : NumIs w (m : Int) (.agg #[.bool false, .slice A (dg 10 m).length c]) :=
  ⟨A, c, by rw [decide_eq_false (by omega : ¬ (m : Int) < 0), Int.natAbs_natCast], by rw [Int.natAbs_natCast]; exact h⟩
/-- The value is the number m of magnitude, with the parts of its slice. -/
def NatP (w : World) (m : Nat) (A : Option Addr) (c : Nat) : Prop := (dg 10 m).length ≤ c ∧ c ≤ maxLen ∧ Rd w w.heap.size 3 A (ints (dg 10 m))
theorem NatP.below {w w' : World} {m : Nat} {A : Option Addr} {c : Nat} (h : NatP w m A c) (hb : Below w.heap.size w w') : NatP w' m A c := ⟨h.1, h.2.1, (h.2.2.below hb).more hb.size⟩
theorem NatP.far {w : World} {m : Nat} {A : Option Addr} {c : Nat} {p : Addr} {t : TypeId} {cs : Array Value} (h : NatP w m A c) (hX : Blk w p.block t cs) (hne : 3 ≠ t) (u : Value) : NatP (w.setCell p u) m A c :=
  ⟨h.1, h.2.1, (h.2.2.far hX hne u).more (by simp [World.setCell])⟩
theorem num_nat {w : World} {m : Nat} {v : Value} (h : NumIs w (m : Int) v) : ∃ A c, v = .agg #[.bool false, .slice A (dg 10 m).length c] ∧ NatP w m A c := by
  obtain ⟨A, c, rfl, h⟩ := h
  rw [Int.natAbs_natCast] at h
  exact ⟨A, c, by rw [decide_eq_false (by omega : ¬ (m : Int) < 0), Int.natAbs_natCast], h⟩
theorem tidy_cons (A : Option Addr) (c y R : Nat) (w : World) {base : Nat} (h : w.ownsRow base 3 1 (.slice A (1 + (dg 10 R).length) c) (1 + (dg 10 R).length) ([.int .i64 (y : Int)] ++ ints (dg 10 R))) (hy : y < 10) :
    Calls Tryd.prog 52 #[.agg #[.bool false, .slice A (1 + (dg 10 R).length) c]] w fun e w' => ∃ A' c', e = .returned (.agg #[.bool false, .slice A' (dg 10 (y + 10 * R)).length c']) ∧ NatP w' (y + 10 * R) A' c' ∧ Below w.heap.size w w' := by
  obtain ⟨A3, c3, he3, hc1, hc2, hrd⟩ := own_slice h
  injection he3 with e1 _ e3
  subst e1; subst e3
  have hds : ∀ d ∈ y :: dg 10 R, d < 10 := by
    intro d hd
    rcases List.mem_cons.1 hd with h | h
    · rw [h]; exact hy
    · exact dg_lt (by decide) R d h
  have hl2 : (y :: dg 10 R).length = 1 + (dg 10 R).length := by simp; omega
  have := tidy_num false A c (y :: dg 10 R) w hrd (by omega) hc2 hds
  rw [hl2, show vl 10 (y :: dg 10 R) = y + 10 * R by simp only [vl]; rw [dg_vl (by decide)], show sgn false (y + 10 * R) = ((y + 10 * R : Nat) : Int) from rfl] at this
  refine this.mono ?_
  rintro e w' ⟨v, rfl, hN, hB⟩
  obtain ⟨A', c', rfl, hP⟩ := num_nat hN
  exact ⟨A', c', rfl, hP, hB⟩

theorem minus_nat (m V : Nat) (A : Option Addr) (c : Nat) (A' : Option Addr) (c' : Nat) (w : World) (h : NatP w m A c) (h' : NatP w V A' c') (hl : (dg 10 m).length ≤ 40000) (hl' : (dg 10 V).length ≤ 40000) (hle : V ≤ m) :
    Calls Tryd.prog 68 #[.agg #[.bool false, .slice A (dg 10 m).length c], .agg #[.bool false, .slice A' (dg 10 V).length c']] w fun e w' => ∃ B d, e = .returned (.agg #[.bool false, .slice B (dg 10 (m - V)).length d]) ∧ NatP w' (m - V) B d ∧ Below w.heap.size w w' := by
  have := minus_any false false A A' c c' (dg 10 m) (dg 10 V) w h.2.2 h'.2.2 hl hl' (dg_lt (by decide) _) (dg_lt (by decide) _) (by rw [dg_vl (by decide), dg_vl (by decide)]; exact hle)
  rw [dg_vl (by decide), dg_vl (by decide)] at this
  refine this.mono ?_
  rintro e w' ⟨v, rfl, hN, hB⟩
  obtain ⟨B, d, rfl, hP⟩ := num_nat hN
  exact ⟨B, d, rfl, hP, hB⟩
theorem size_nat (m : Nat) (b : Bool) (V : Nat) (A : Option Addr) (c : Nat) (A' : Option Addr) (c' : Nat) (w : World) (h : NatP w m A c) (h' : NatP w V A' c') (hl : (dg 10 m).length ≤ 40000) (hl' : (dg 10 V).length ≤ 40000) :
    Calls Tryd.prog 44 #[.agg #[.bool false, .slice A (dg 10 m).length c], .agg #[.bool b, .slice A' (dg 10 V).length c']] w fun e w' => e = .returned (.int .i64 (cmpN m V)) ∧ Below w.heap.size w w' := by
  have := size_any false b A A' c c' (dg 10 m) (dg 10 V) w h.2.2 h'.2.2 hl hl' (dg_lt (by decide) _) (dg_lt (by decide) _)
  rwa [dg_vl (by decide), dg_vl (by decide)] at this

set_option maxRecDepth 100000 in
set_option maxHeartbeats 2000000 in
theorem over_num (z z' : Int) (v v' : Value) (w : World) (h : NumIs w z v) (h' : NumIs w z' v') (hl : (dg 10 z.natAbs).length ≤ 200) (hl' : (dg 10 z'.natAbs).length ≤ 200) (hz : z' ≠ 0) :
    Calls Tryd.prog 54 #[v, v'] w fun e w' => ∃ u u', e = .returned (.tuple #[u, u']) ∧ NumIs w' (z.tdiv z') u ∧ NumIs w' (z.tmod z') u' ∧ Below w.heap.size w w' := by
  obtain ⟨A, c, rfl, hN⟩ := h
  obtain ⟨A', c', rfl, hN'⟩ := h'
  have hqs := quo_signs (z := z) (z' := z')
  obtain ⟨zq, hzq⟩ : ∃ r, r = z.tdiv z' := ⟨_, rfl⟩
  obtain ⟨zr, hzr⟩ : ∃ r, r = z.tmod z' := ⟨_, rfl⟩
  rw [← hzq, ← hzr] at hqs ⊢
  have hV : 0 < z'.natAbs := by omega
  have n1 : NatP w z.natAbs A c := hN
  have n2 : NatP w z'.natAbs A' c' := hN'
  have hv1 := dg_vl (b := 10) (by decide) z.natAbs
  have h9 := dg_lt (b := 10) (by decide) z.natAbs
  obtain ⟨sa, hsa⟩ : ∃ s, s = decide (z < 0) := ⟨_, rfl⟩
  obtain ⟨sb, hsb⟩ : ∃ s, s = decide (z' < 0) := ⟨_, rfl⟩
  rw [← hsa, ← hsb] at hqs ⊢
  have n2i : ∀ W, NatP W z'.natAbs A' c' → NumIs W z' (.agg #[.bool sb, .slice A' (dg 10 z'.natAbs).length c']) := fun W h => ⟨A', c', by rw [hsb], h⟩
  have hsz := fun (R : Nat) (u : Value) (W : World) (hu : NumIs W (R : Int) u) (hW : NatP W z'.natAbs A' c') (hl : (dg 10 (R : Int).natAbs).length ≤ 40000) => size_num (R : Int) z' u _ W hu (n2i W hW) hl (by omega)
  generalize z.natAbs = M at *
  generalize z'.natAbs = V at *
  unfold NatP at n1
  generalize dg 10 M = ds at *
  have HQS := Lib.hid hqs; have HV1 := Lib.hid hv1; have H9 := Lib.hid h9; have N1 := Lib.hid n1; have N2 := Lib.hid n2; have HSZ := Lib.hid hsz
  clear hqs hv1 h9 n1 n2 hN hN' hsa hsb hzq hzr hz n2i hsz
  go_enter Tryd.func54, Tryd.ntmps54
  go_wp2_with fail
  go_loopg [8] (ds.length + 1) (fun g s8 wr => ∃ (k R : Nat) (qs : List Nat) (Aq : Option Addr) (cq : Nat) (Ar : Option Addr) (cr : Nat), g = k + 1 ∧ k ≤ ds.length ∧ s8 = .int .i64 ((k : Int) - 1) ∧ OverR ds V k qs R ∧ qs.length + k = ds.length ∧ (∀ d ∈ qs, d < 10) ∧ R < V ∧
    qs.length ≤ cq ∧ cq ≤ maxLen ∧ Rd wr wr.heap.size 3 Aq (ints qs) ∧ NatP wr R Ar cr ∧ Blk wr w.heap.size 39 #[.bool sa, .slice A ds.length c] ∧ Blk wr (w.heap.size + 1) 39 #[.bool sb, .slice A' (dg 10 V).length c'] ∧ Blk wr (w.heap.size + 1 + 1) 39 #[.bool false, .slice none 0 0] ∧ Blk wr (w.heap.size + 1 + 1 + 1) 39 #[.bool false, .slice none 0 0] ∧ Blk wr (w.heap.size + 1 + 1 + 1 + 1) 39 #[.bool false, .slice Aq qs.length cq] ∧ Blk wr (w.heap.size + 1 + 1 + 1 + 1 + 1) 39 #[.bool false, .slice Ar (dg 10 R).length cr] ∧ Below w.heap.size w wr)
  case atStart =>
    refine ⟨ds.length, 0, [], none, 0, none, 0, rfl, by omega, rfl, ⟨by simp [vl], by simp [vl]⟩, by simp, by simp, hV, by simp, by unfold maxLen; omega, Rd.nil_, ⟨by simp [dg_zero], by unfold maxLen; omega, Rd.nil_⟩, ?_, ?_, ?_, ?_, ?_, ?_, ?_⟩
    · have := (((((Blk.new w 39 #[.bool sa, .slice A ds.length c]).alloc (.cells #[.bool sb, .slice A' (dg 10 V).length c'] 39)).alloc (.cells #[.bool false, .slice none 0 0] 39)).alloc (.cells #[.bool false, .slice none 0 0] 39)).alloc (.cells #[.bool false, .slice none 0 0] 39)).alloc (.cells #[.bool false, .slice none 0 0] 39)
      simpa using this
    · have := ((((Blk.new (w.alloc (.cells #[.bool sa, .slice A ds.length c] 39)) 39 #[.bool sb, .slice A' (dg 10 V).length c']).alloc (.cells #[.bool false, .slice none 0 0] 39)).alloc (.cells #[.bool false, .slice none 0 0] 39)).alloc (.cells #[.bool false, .slice none 0 0] 39)).alloc (.cells #[.bool false, .slice none 0 0] 39)
      simpa using this
    · have := (((Blk.new ((w.alloc (.cells #[.bool sa, .slice A ds.length c] 39)).alloc (.cells #[.bool sb, .slice A' (dg 10 V).length c'] 39)) 39 #[.bool false, .slice none 0 0]).alloc (.cells #[.bool false, .slice none 0 0] 39)).alloc (.cells #[.bool false, .slice none 0 0] 39)).alloc (.cells #[.bool false, .slice none 0 0] 39)
      simpa using this
    · have := ((Blk.new (((w.alloc (.cells #[.bool sa, .slice A ds.length c] 39)).alloc (.cells #[.bool sb, .slice A' (dg 10 V).length c'] 39)).alloc (.cells #[.bool false, .slice none 0 0] 39)) 39 #[.bool false, .slice none 0 0]).alloc (.cells #[.bool false, .slice none 0 0] 39)).alloc (.cells #[.bool false, .slice none 0 0] 39)
      simpa using this
    · have := (Blk.new ((((w.alloc (.cells #[.bool sa, .slice A ds.length c] 39)).alloc (.cells #[.bool sb, .slice A' (dg 10 V).length c'] 39)).alloc (.cells #[.bool false, .slice none 0 0] 39)).alloc (.cells #[.bool false, .slice none 0 0] 39)) 39 #[.bool false, .slice none 0 0]).alloc (.cells #[.bool false, .slice none 0 0] 39)
      simpa [dg_zero] using this
    · have := Blk.new (((((w.alloc (.cells #[.bool sa, .slice A ds.length c] 39)).alloc (.cells #[.bool sb, .slice A' (dg 10 V).length c'] 39)).alloc (.cells #[.bool false, .slice none 0 0] 39)).alloc (.cells #[.bool false, .slice none 0 0] 39)).alloc (.cells #[.bool false, .slice none 0 0] 39)) 39 #[.bool false, .slice none 0 0]
      simpa [dg_zero] using this
    · exact (((((((Below.refl _ _).alloc (Nat.le_refl _) _).alloc (by simp) _).alloc (by simp; omega) _).alloc (by simp; omega) _).alloc (by simp; omega) _).alloc (by simp; omega) _)
  case round =>
    obtain ⟨k, R, qs, Aq, cq, Ar, cr, hg, hk, rfl, hov, hql, hq10, hRV, hc1, hcm, hrq, hnr, b0, b1, b2, b3, b4, b5, hB⟩ := hrel
    obtain ⟨wo, hwo⟩ : ∃ wo, wo = wr := ⟨_, rfl⟩
    subst hwo
    have hz := b5.lt
    have HG := Lib.hid hg; have HOV := Lib.hid hov; have HQL := Lib.hid hql; have H10 := Lib.hid hq10; have HC := Lib.hid (And.intro hc1 (And.intro hcm hrq)); have HNR := Lib.hid hnr; have HRV := Lib.hid hRV
    have B0 := Lib.hid b0; have B1 := Lib.hid b1; have B2 := Lib.hid b2; have B3 := Lib.hid b3; have B4 := Lib.hid b4; have B5 := Lib.hid b5; have HB := Lib.hid hB
    have hql2 : qs.length ≤ 200 := by omega
    clear hg hov hql hq10 hc1 hcm hrq hnr
    by_cases hk0 : 0 < k
    · obtain ⟨j, rfl⟩ : ∃ j, k = j + 1 := ⟨k - 1, by omega⟩
      have e3 : (((j + 1 : Nat) : Int) - 1) = (j : Int) := by omega
      rw [e3]
      clear e3
      have hj : j < ds.length := by omega
      obtain ⟨b, off, he, hbl, hcx⟩ := (N1.out.2.2.below hB).int hj
      obtain ⟨y, hy⟩ : ∃ y, y = ds.getD j 0 := ⟨_, rfl⟩
      have hcx' : wo.cell? ⟨b, off + j, none⟩ = some (.int .i64 (y : Int)) := by
        rw [hcx, hy]; simp [List.getD_eq_getElem?_getD, hj]
      have hy10 : y < 10 := by rw [hy]; exact getD_ltB (by decide) H9.out j
      have hst := over_step hV HOV.out
      rw [← hy] at hst
      have hT := rest_lt (b := 10) (T := R) hy10 hV
      rw [Nat.mod_eq_of_lt hRV] at hT
      have hRl : (dg 10 R).length ≤ 400 := by
        have h1 := (dg_len (b := 10) (by decide) V 200).1 hl'
        have h2 := (dg_len (b := 10) (by decide) R 200).2 (Nat.lt_trans hRV h1)
        omega
      rw [he] at b0
      have x0 := b0.cell1; have x1 := b5.cell1
      have bb0 := B0.out; have bb5 := B5.out
      have HST := Lib.hid hst; have HT := Lib.hid hT; have HRL := Lib.hid hRl; have HY := Lib.hid hy; have HE := Lib.hid he
      clear b0 b1 b2 b3 b4 b5 hB hcx he hst hT hy hRV bb0 bb5
      have hz0 : w.heap.size < wo.heap.size := by omega
      have x2 := (B5.out.drew.alloc (.cells #[.int .i64 (y : Int)] 3)).cell1
      obtain ⟨T, hTT⟩ : ∃ T, T = y + 10 * R := ⟨_, rfl⟩
      have HTT := Lib.hid hTT
      clear hTT
      go_upto_region 6 with fail
      go_cut [] (fun wx => ∃ (A6 : Option Addr) (c6 : Nat), NatP wx T A6 c6 ∧ Blk wx w.heap.size 39 #[.bool sa, .slice A ds.length c] ∧ Blk wx (w.heap.size + 1) 39 #[.bool sb, .slice A' (dg 10 V).length c'] ∧ Blk wx (w.heap.size + 1 + 1) 39 #[.bool false, .slice none 0 0] ∧ Blk wx (w.heap.size + 1 + 1 + 1) 39 #[.bool false, .slice none 0 0] ∧ Blk wx (w.heap.size + 1 + 1 + 1 + 1) 39 #[.bool false, .slice Aq qs.length cq] ∧ Rd wx wx.heap.size 3 Aq (ints qs) ∧ Blk wx (w.heap.size + 1 + 1 + 1 + 1 + 1) 39 #[.bool false, .slice A6 (dg 10 T).length c6] ∧ Below w.heap.size w wx)
      case first =>
        go_region_law (first
          | (refine step_appX _ rfl (.tmp 25) (.tmp 27) 37 rfl wo.heap.size 3 (.int .i64 0) 8 Tryd.underlying37 info3 rfl _ 1 [.int .i64 (y : Int)] rfl (World.ownsRow_lit wo.drew #[.int .i64 (y : Int)] 1 (Nat.le_refl _) (by unfold maxLen; omega) rfl) _ Ar _ cr (ints (dg 10 R)) rfl (ints_len _) (HNR.out.2.2.below (((Below.refl wo.heap.size wo).drew).alloc (Nat.le_refl _) _)) ints_one (by omega) (by omega) (by simp) ?_; intro A5 c5 w5 hG; have HGR := Lib.hid hG; clear hG)
          | (refine step_call (f := 52) #[.agg #[.bool false, .slice A5 (1 + (dg 10 R).length) c5]] (by simp [go_sem]) (enters_of Tryd.func52 (by kernel_rfl) rfl _ _) (tidy_cons A5 c5 y R _ HGR.out.1 hy10) ?_; rintro e w6 ⟨A6, c6, rfl, hp6, hB6⟩; refine ⟨_, rfl, ?_⟩; have g5 := (HGR.out.blk (B5.out.drew.alloc _) (by decide)).below hB6 (HGR.out.blk (B5.out.drew.alloc _) (by decide)).lt; have k0 := g5.frozen 0; have k1 := g5.frozen 1; have y0 := g5.cell0; have y1 := g5.cell1; have HP6 := Lib.hid hp6; have HB6 := Lib.hid hB6; have G5 := Lib.hid g5; clear hp6 hB6 g5))
        all_goals
          go_wp2_with fail
          go_meet
          rw [HTT.out]
          have hW6 : Below wo.heap.size wo w6 := ((((Below.refl wo.heap.size wo).drew).alloc (Nat.le_refl _) (.cells #[.int .i64 (y : Int)] 3)).trans HGR.out.2.2).trans (HB6.out.mono (by have := HGR.out.2.2.size; simp at this; omega))
          have e0 := ((B0.out.below hW6 hz0).far (p := ⟨w.heap.size + 1 + 1 + 1 + 1 + 1, 0, none⟩) (by simp; try omega) (.bool false)).far (p := ⟨w.heap.size + 1 + 1 + 1 + 1 + 1, 1, none⟩) (by simp; try omega) (.slice A6 (dg 10 (y + 10 * R)).length c6)
          have e1 := ((B1.out.below hW6 B1.out.lt).far (p := ⟨w.heap.size + 1 + 1 + 1 + 1 + 1, 0, none⟩) (by simp; try omega) (.bool false)).far (p := ⟨w.heap.size + 1 + 1 + 1 + 1 + 1, 1, none⟩) (by simp; try omega) (.slice A6 (dg 10 (y + 10 * R)).length c6)
          have e2 := ((B2.out.below hW6 B2.out.lt).far (p := ⟨w.heap.size + 1 + 1 + 1 + 1 + 1, 0, none⟩) (by simp; try omega) (.bool false)).far (p := ⟨w.heap.size + 1 + 1 + 1 + 1 + 1, 1, none⟩) (by simp; try omega) (.slice A6 (dg 10 (y + 10 * R)).length c6)
          have e3 := ((B3.out.below hW6 B3.out.lt).far (p := ⟨w.heap.size + 1 + 1 + 1 + 1 + 1, 0, none⟩) (by simp; try omega) (.bool false)).far (p := ⟨w.heap.size + 1 + 1 + 1 + 1 + 1, 1, none⟩) (by simp; try omega) (.slice A6 (dg 10 (y + 10 * R)).length c6)
          have e4 := ((B4.out.below hW6 B4.out.lt).far (p := ⟨w.heap.size + 1 + 1 + 1 + 1 + 1, 0, none⟩) (by simp; try omega) (.bool false)).far (p := ⟨w.heap.size + 1 + 1 + 1 + 1 + 1, 1, none⟩) (by simp; try omega) (.slice A6 (dg 10 (y + 10 * R)).length c6)
          have e5 := G5.out.store2 (x' := .bool false) (y' := .slice A6 (dg 10 (y + 10 * R)).length c6)
          have eq := ((HC.out.2.2.below hW6).far (p := ⟨w.heap.size + 1 + 1 + 1 + 1 + 1, 0, none⟩) G5.out (by decide) (.bool false)).far (p := ⟨w.heap.size + 1 + 1 + 1 + 1 + 1, 1, none⟩) (G5.out.set_ 0 _) (by decide) (.slice A6 (dg 10 (y + 10 * R)).length c6)
          have en := (HP6.out.far (p := ⟨w.heap.size + 1 + 1 + 1 + 1 + 1, 0, none⟩) G5.out (by decide) (.bool false)).far (p := ⟨w.heap.size + 1 + 1 + 1 + 1 + 1, 1, none⟩) (G5.out.set_ 0 _) (by decide) (.slice A6 (dg 10 (y + 10 * R)).length c6)
          exact ⟨A6, c6, en, e0, e1, e2, e3, e4, eq.more (by simp; exact hW6.size), e5, ((HB.out.trans (hW6.mono HB.out.size)).setCell (by simp; omega) _).setCell (by simp; omega) _⟩
      case rest =>
        obtain ⟨A6, c6, hnT, b0, b1, b2, b3, b4, hrq, b5, hB⟩ := hcut
        obtain ⟨wr, hwr⟩ : ∃ z, z = wc := ⟨_, rfl⟩
        subst hwr
        have B0 := Lib.hid b0; have B1 := Lib.hid b1; have B2 := Lib.hid b2; have B3 := Lib.hid b3; have B4 := Lib.hid b4; have B5 := Lib.hid b5; have HB := Lib.hid hB; have HC := Lib.hid (And.intro HC.out.1 (And.intro HC.out.2.1 hrq)); have HNT := Lib.hid hnT
        clear b0 b1 b2 b3 b4 b5 hB hrq hnT hcx' x0 x1 x2 HNR hz hz0
        have hqT : T / V < 10 := Nat.div_lt_of_lt_mul (by rw [HTT.out]; exact HT.out)
        have hTm := Nat.div_add_mod T V
        have hTl : (dg 10 T).length ≤ 400 := by
          have h1 := (dg_len (b := 10) (by decide) V 200).1 hl'
          have h2 : T < 10 ^ 201 := by
            rw [HTT.out, Nat.pow_succ]; exact Nat.lt_of_lt_of_le HT.out (Nat.mul_le_mul_right _ (Nat.le_of_lt h1))
          have h3 := (dg_len (b := 10) (by decide) T 201).2 h2
          omega
        have hrV := Nat.mod_lt T hV
        have HST2 : Hid (OverR ds V j (T / V :: qs) (T % V)) := Lib.hid (by rw [HTT.out]; exact HST.out)
        obtain ⟨Qt, hQt⟩ : ∃ q, q = T / V := ⟨_, rfl⟩
        obtain ⟨rm, hrm⟩ : ∃ q, q = T % V := ⟨_, rfl⟩
        rw [← hQt, ← hrm] at HST2
        rw [← hQt] at hqT
        rw [← hrm] at hrV
        rw [← hQt, ← hrm] at hTm
        have HTM := Lib.hid hTm
        clear hQt hrm hTm HST HT HTT
        go_wp2_with fail
        go_loopg [9] (Qt + 1) (fun g s9 wr => ∃ (u n Tu : Nat) (Ar : Option Addr) (cr : Nat), g = u + 1 ∧ n + u = Qt ∧ s9 = .int .i64 (n : Int) ∧ Tu = V * u + rm ∧ NatP wr Tu Ar cr ∧ (dg 10 Tu).length ≤ 400 ∧ Rd wr wr.heap.size 3 Aq (ints qs) ∧
          Blk wr w.heap.size 39 #[.bool sa, .slice A ds.length c] ∧ Blk wr (w.heap.size + 1) 39 #[.bool sb, .slice A' (dg 10 V).length c'] ∧ Blk wr (w.heap.size + 1 + 1) 39 #[.bool false, .slice none 0 0] ∧ Blk wr (w.heap.size + 1 + 1 + 1) 39 #[.bool false, .slice none 0 0] ∧ Blk wr (w.heap.size + 1 + 1 + 1 + 1) 39 #[.bool false, .slice Aq qs.length cq] ∧ Blk wr (w.heap.size + 1 + 1 + 1 + 1 + 1) 39 #[.bool false, .slice Ar (dg 10 Tu).length cr] ∧ Below w.heap.size w wr)
        case atStart => exact ⟨Qt, 0, T, A6, c6, rfl, by omega, rfl, HTM.out.symm, HNT.out, hTl, HC.out.2.2, B0.out, B1.out, B2.out, B3.out, B4.out, B5.out, HB.out⟩
        case round =>
          obtain ⟨u, n, Tu, Ar, cr, hg, hu, rfl, hTu, hn, hnl, hrq, b0, b1, b2, b3, b4, b5, hB⟩ := hrel
          obtain ⟨wo, hwo⟩ : ∃ wo, wo = wr := ⟨_, rfl⟩
          subst hwo
          have hz := b5.lt
          have y0 := b5.cell0; have y1 := b5.cell1; have y2 := b1.cell0; have y3 := b1.cell1
          have hS := size_nat Tu sb V Ar cr A' c' wo hn (N2.out.below hB) (by omega) (by omega)
          have HG2 := Lib.hid hg; have HN := Lib.hid hn; have HTU := Lib.hid hTu; have HRQ := Lib.hid hrq
          have B0 := Lib.hid b0; have B1 := Lib.hid b1; have B2 := Lib.hid b2; have B3 := Lib.hid b3; have B4 := Lib.hid b4; have B5 := Lib.hid b5; have HB := Lib.hid hB
          have hmu := Nat.zero_le (V * u)
          by_cases hu0 : u = 0
          · subst hu0
            have hk : cmpN Tu V = -1 := by
              unfold cmpN; rw [if_pos (by rw [hTu, Nat.mul_zero, Nat.zero_add]; exact hrV)]
            have hTr : Tu = rm := by rw [hTu, Nat.mul_zero, Nat.zero_add]
            have hnq : n = Qt := by omega
            rw [hk] at hS
            have HS := Lib.hid hS; have HNQ := Lib.hid hnq; have HTR := Lib.hid hTr
            clear hS hk hTu hn hrq b0 b1 b2 b3 b4 b5 hB hg hTr hnq hu
            go_wp2_with (first
              | (go_at_call 44; refine HS.out.mono ?_; rintro e w1 ⟨rfl, hB1⟩; have c4 := B4.out.below hB1 B4.out.lt; have z4 := (c4.alloc (.cells #[.int .i64 (n : Int)] 3)).cell1; have C4 := Lib.hid c4; have HB1 := Lib.hid hB1; clear hB1 c4)
              | (at_builtin; refine wpList_appX _ rfl (.tmp 43) (.tmp 45) 37 rfl w1.heap.size 3 (.int .i64 0) 8 Tryd.underlying37 info3 rfl _ 1 [.int .i64 (n : Int)] rfl (World.ownsRow_lit w1 #[.int .i64 (n : Int)] 1 (Nat.le_refl _) (by unfold maxLen; omega) rfl) _ Aq _ cq (ints qs) rfl (ints_len qs) ((HRQ.out.below HB1.out).below ((Below.refl wo.heap.size w1).alloc HB1.out.size _)) ints_one (by omega) (by omega) (by simp) ?_; intro A8 c8 w8 hG; have g8 := hG.blk (C4.out.alloc _) (by decide); have k8 := g8.frozen 1; have x8 := g8.cell1; have G8 := Lib.hid g8; have HGR := Lib.hid hG; clear hG g8))
            go_roundg (j + 1)
            case measure => have := HG.out; omega
            case rel =>
              have hP : Below wo.heap.size wo w8 := (HB1.out.alloc HB1.out.size (.cells #[.int .i64 (n : Int)] 3)).trans (HGR.out.2.2.mono HB1.out.size)
              obtain ⟨A9, c9, he9, h91, h92, h93⟩ := HGR.out.slice
              injection he9 with e1 _ e3
              subst e1; subst e3
              have hl8 : (Qt :: qs).length = 1 + qs.length := by simp; omega
              have hi8 : ints (Qt :: qs) = [.int .i64 (n : Int)] ++ ints qs := by rw [HNQ.out]; rfl
              rw [← hi8] at h93
              have hN8 := (HN.out.below hP).far (p := ⟨w.heap.size + 1 + 1 + 1 + 1, 1, none⟩) G8.out (by decide) (.slice A8 (1 + qs.length) c8)
              refine ⟨j, rm, Qt :: qs, A8, c8, Ar, cr, rfl, by omega, by first | rfl | go_num, HST2.out, by rw [hl8]; have := HQL.out; omega, ?_, hrV, by rw [hl8]; exact h91, h92, ?_, by rw [← HTR.out]; exact hN8, ?_, ?_, ?_, ?_, ?_, ?_, ?_⟩
              · intro d hd
                rcases List.mem_cons.1 hd with h | h
                · rw [h]; exact hqT
                · exact H10.out d h
              · exact (h93.far (p := ⟨w.heap.size + 1 + 1 + 1 + 1, 1, none⟩) G8.out (by decide) _).more (by simp)
              · exact (B0.out.below hP B0.out.lt).far (p := ⟨w.heap.size + 1 + 1 + 1 + 1, 1, none⟩) (by simp; try omega) _
              · exact (B1.out.below hP B1.out.lt).far (p := ⟨w.heap.size + 1 + 1 + 1 + 1, 1, none⟩) (by simp; try omega) _
              · exact (B2.out.below hP B2.out.lt).far (p := ⟨w.heap.size + 1 + 1 + 1 + 1, 1, none⟩) (by simp; try omega) _
              · exact (B3.out.below hP B3.out.lt).far (p := ⟨w.heap.size + 1 + 1 + 1 + 1, 1, none⟩) (by simp; try omega) _
              · rw [hl8]; exact G8.out.set_ 1 _
              · rw [← HTR.out]; exact (B5.out.below hP B5.out.lt).far (p := ⟨w.heap.size + 1 + 1 + 1 + 1, 1, none⟩) (by simp; try omega) _
              · exact (HB.out.trans (hP.mono HB.out.size)).setCell (by simp; omega) _
          · obtain ⟨p, rfl⟩ : ∃ p, u = p + 1 := ⟨u - 1, by omega⟩
            have hle : V ≤ Tu := by rw [hTu, Nat.mul_add, Nat.mul_one]; omega
            have hsub : Tu - V = V * p + rm := by rw [hTu, Nat.mul_add, Nat.mul_one]; omega
            obtain ⟨k, hk, hk0⟩ : ∃ k, cmpN Tu V = k ∧ 0 ≤ k := by
              refine ⟨_, rfl, ?_⟩
              unfold cmpN; rw [if_neg (by omega)]; split <;> omega
            rw [hk] at hS
            have hlsub : (dg 10 (Tu - V)).length ≤ 400 := by
              have h1 := (dg_len (b := 10) (by decide) Tu 400).1 hnl
              exact (dg_len (b := 10) (by decide) (Tu - V) 400).2 (by omega)
            have HS := Lib.hid hS; have HSUB := Lib.hid hsub; have HLS := Lib.hid hlsub
            clear hS hk hTu hn hrq b0 b1 b2 b3 b4 b5 hB hg hsub hlsub
            go_wp2_with (first
              | (go_at_call 44; refine HS.out.mono ?_; rintro e w1 ⟨rfl, hB1⟩; have c5 := B5.out.below hB1 B5.out.lt; have c1 := B1.out.below hB1 B1.out.lt; have z0 := c5.cell0; have z1 := c5.cell1; have z3 := c1.cell1; have HM := Lib.hid (minus_nat Tu V Ar cr A' c' w1 (HN.out.below hB1) (N2.out.below (HB.out.trans (hB1.mono HB.out.size))) (by omega) (by omega) hle); have C5 := Lib.hid c5; have HB1 := Lib.hid hB1; clear hB1 c5 c1)
              | (go_at_call 68; refine HM.out.mono ?_; rintro e w2 ⟨A8, c8, rfl, hN8, hB2⟩; have d5 := C5.out.below hB2 C5.out.lt; have k0 := d5.frozen 0; have k1 := d5.frozen 1; have x0 := d5.cell0; have x1 := d5.cell1; have D5 := Lib.hid d5; have HN8 := Lib.hid hN8; have HB2 := Lib.hid hB2; clear hN8 hB2 d5))
            go_roundg (p + 1)
            case measure => have := HG2.out; omega
            case rel =>
              have hP : Below wo.heap.size wo w2 := HB1.out.trans (HB2.out.mono HB1.out.size)
              have hf0 : ∀ {g : Nat} {t : TypeId} {cs : Array Value}, Blk wo g t cs → g ≠ w.heap.size + 1 + 1 + 1 + 1 + 1 → Blk ((w2.setCell ⟨w.heap.size + 1 + 1 + 1 + 1 + 1, 0, none⟩ (.bool false)).setCell ⟨w.heap.size + 1 + 1 + 1 + 1 + 1, 1, none⟩ (.slice A8 (dg 10 (Tu - V)).length c8)) g t cs := fun h hne => (((h.below hP h.lt).far (p := ⟨w.heap.size + 1 + 1 + 1 + 1 + 1, 0, none⟩) hne _).far (p := ⟨w.heap.size + 1 + 1 + 1 + 1 + 1, 1, none⟩) hne _)
              refine ⟨p, n + 1, Tu - V, A8, c8, rfl, by omega, by go_num, HSUB.out, ?_, HLS.out, ?_, ?_, ?_, ?_, ?_, ?_, ?_, ?_⟩
              · exact (HN8.out.far (p := ⟨w.heap.size + 1 + 1 + 1 + 1 + 1, 0, none⟩) D5.out (by decide) _).far (p := ⟨w.heap.size + 1 + 1 + 1 + 1 + 1, 1, none⟩) (D5.out.set_ 0 _) (by decide) _
              · exact (((HRQ.out.below hP).far (p := ⟨w.heap.size + 1 + 1 + 1 + 1 + 1, 0, none⟩) D5.out (by decide) _).far (p := ⟨w.heap.size + 1 + 1 + 1 + 1 + 1, 1, none⟩) (D5.out.set_ 0 _) (by decide) _).more (by simp; exact hP.size)
              · exact hf0 B0.out (by omega)
              · exact hf0 B1.out (by omega)
              · exact hf0 B2.out (by omega)
              · exact hf0 B3.out (by omega)
              · exact hf0 B4.out (by omega)
              · exact D5.out.store2
              · exact ((HB.out.trans (hP.mono HB.out.size)).setCell (by simp; omega) _).setCell (by simp; omega) _
    · obtain rfl : k = 0 := by omega
      have hR : R = M % V := by have := HOV.out.1; rw [List.drop_zero, HV1.out] at this; exact this
      have hq : vl 10 qs = M / V := by have := HOV.out.2; rw [List.drop_zero, HV1.out] at this; exact this
      have y0 := b0.cell0; have y1 := b1.cell0; have k4 := b4.frozen 0; have k5 := b5.frozen 0; have y4 := b4.cell0; have y5 := b5.cell0
      have v0 := (b0.far (p := ⟨w.heap.size + 1 + 1 + 1 + 1, 0, none⟩) (by simp; try omega) (.bool (!(sa == sb)))).cell0
      have k6 := (b5.far (p := ⟨w.heap.size + 1 + 1 + 1 + 1, 0, none⟩) (by simp; try omega) (.bool (!(sa == sb)))).frozen 0
      have g4 := (b4.set_ 0 (.bool (!(sa == sb)))).far (p := ⟨w.heap.size + 1 + 1 + 1 + 1 + 1, 0, none⟩) (by simp; try omega) (.bool sa)
      have g5 := (b5.far (p := ⟨w.heap.size + 1 + 1 + 1 + 1, 0, none⟩) (by simp; try omega) (.bool (!(sa == sb)))).set_ 0 (.bool sa)
      have g2 := (b2.far (p := ⟨w.heap.size + 1 + 1 + 1 + 1, 0, none⟩) (by simp; try omega) (.bool (!(sa == sb)))).far (p := ⟨w.heap.size + 1 + 1 + 1 + 1 + 1, 0, none⟩) (by simp; try omega) (.bool sa)
      have g3 := (b3.far (p := ⟨w.heap.size + 1 + 1 + 1 + 1, 0, none⟩) (by simp; try omega) (.bool (!(sa == sb)))).far (p := ⟨w.heap.size + 1 + 1 + 1 + 1 + 1, 0, none⟩) (by simp; try omega) (.bool sa)
      have rq := ((HC.out.2.2.far (p := ⟨w.heap.size + 1 + 1 + 1 + 1, 0, none⟩) b4 (by decide) (.bool (!(sa == sb)))).far (p := ⟨w.heap.size + 1 + 1 + 1 + 1 + 1, 0, none⟩) (b5.far (p := ⟨w.heap.size + 1 + 1 + 1 + 1, 0, none⟩) (by simp; try omega) (.bool (!(sa == sb)))) (by decide) (.bool sa)).more (B' := ((wo.setCell ⟨w.heap.size + 1 + 1 + 1 + 1, 0, none⟩ (.bool (!(sa == sb)))).setCell ⟨w.heap.size + 1 + 1 + 1 + 1 + 1, 0, none⟩ (.bool sa)).heap.size) (by simp)
      have rr := (HNR.out.far (p := ⟨w.heap.size + 1 + 1 + 1 + 1, 0, none⟩) b4 (by decide) (.bool (!(sa == sb)))).far (p := ⟨w.heap.size + 1 + 1 + 1 + 1 + 1, 0, none⟩) (b5.far (p := ⟨w.heap.size + 1 + 1 + 1 + 1, 0, none⟩) (by simp; try omega) (.bool (!(sa == sb)))) (by decide) (.bool sa)
      have hB7 := (hB.setCell (p := ⟨w.heap.size + 1 + 1 + 1 + 1, 0, none⟩) (by simp; omega) (.bool (!(sa == sb)))).setCell (p := ⟨w.heap.size + 1 + 1 + 1 + 1 + 1, 0, none⟩) (by simp; omega) (.bool sa)
      have G2 := Lib.hid g2; have G3 := Lib.hid g3; have G4 := Lib.hid g4; have G5 := Lib.hid g5; have RQ := Lib.hid rq; have RR := Lib.hid rr; have HB7 := Lib.hid hB7
      have HR := Lib.hid hR; have HQ := Lib.hid hq
      have hds : (dg 10 R).length ≤ cr := HNR.out.1
      clear b0 b1 b2 b3 b4 b5 hB g2 g3 g4 g5 rq rr hB7 hR hq
      go_upto_region 14 with fail
      clear v0 k4 k5 k6 y0 y1 y4 y5
      generalize (wo.setCell ⟨w.heap.size + 1 + 1 + 1 + 1, 0, none⟩ (.bool (!(sa == sb)))).setCell ⟨w.heap.size + 1 + 1 + 1 + 1 + 1, 0, none⟩ (.bool sa) = W at G2 G3 G4 G5 RQ RR HB7 ⊢
      have hT1 := tidy_num (!(sa == sb)) Aq cq qs W.drew RQ.out HC.out.1 HC.out.2.1 H10.out
      rw [HQ.out, HQS.out.1] at hT1
      have hS0 : W.drew.cell? ⟨w.heap.size + 1 + 1 + 1 + 1, 0, none⟩ = some (.bool (!(sa == sb))) ∧ W.drew.cell? ⟨w.heap.size + 1 + 1 + 1 + 1, 1, none⟩ = some (.slice Aq qs.length cq) ∧ W.drew.cell? ⟨w.heap.size + 1 + 1 + 1 + 1 + 1, 0, none⟩ = some (.bool sa) ∧ W.drew.cell? ⟨w.heap.size + 1 + 1 + 1 + 1 + 1, 1, none⟩ = some (.slice Ar (dg 10 R).length cr) := ⟨G4.out.drew.cell0, G4.out.drew.cell1, G5.out.drew.cell0, G5.out.drew.cell1⟩
      have HS0 := Lib.hid hS0; have HT1 := Lib.hid hT1
      clear hS0 hT1
      refine plain_region (fun W => W.cell? ⟨w.heap.size + 1 + 1 + 1 + 1, 0, none⟩ = some (.bool (!(sa == sb))) ∧ W.cell? ⟨w.heap.size + 1 + 1 + 1 + 1, 1, none⟩ = some (.slice Aq qs.length cq) ∧ W.cell? ⟨w.heap.size + 1 + 1 + 1 + 1 + 1, 0, none⟩ = some (.bool sa) ∧ W.cell? ⟨w.heap.size + 1 + 1 + 1 + 1 + 1, 1, none⟩ = some (.slice Ar (dg 10 R).length cr)) 6 (by kernel_rfl) ?_
      refine M_take (i := 0) (v := .agg #[.bool (!(sa == sb)), .slice Aq qs.length cq]) rfl (by kernel_rfl) (fun _ _ _ h => h) rfl (fun W hS => by obtain ⟨h1, h2, h3, h4⟩ := hS; go_simp) HS0.out ?_
      refine M_take (i := 2) (v := .agg #[.bool sa, .slice Ar (dg 10 R).length cr]) rfl (by kernel_rfl) (fun _ _ _ h => h) rfl (fun W hS => by obtain ⟨h1, h2, h3, h4⟩ := hS; go_simp) HS0.out ?_
      refine M_one (i := 1) rfl (by kernel_rfl) rfl ?_
      refine op_call #[.agg #[.bool (!(sa == sb)), .slice Aq qs.length cq]] (by simp [go_sem]) (enters_of Tryd.func52 (by kernel_rfl) rfl _ _) HT1.out ?_
      rintro e w2 ⟨v2, rfl, hI2, hB2⟩
      have hT2 := tidy_num sa Ar cr (dg 10 R) w2 ((show NatP W.drew R Ar cr from RR.out).below hB2).2.2 hds ((show NatP W.drew R Ar cr from RR.out).below hB2).2.1 (dg_lt (by decide) R)
      rw [dg_vl (by decide), HR.out, HQS.out.2, ← HR.out] at hT2
      have p2 := G2.out.drew.below hB2 G2.out.lt; have p3 := G3.out.drew.below hB2 G3.out.lt; have p4 := G4.out.drew.below hB2 G4.out.lt; have p5 := G5.out.drew.below hB2 G5.out.lt
      have HT2 := Lib.hid hT2; have HI2 := Lib.hid hI2; have HB2 := Lib.hid ((HB7.out.drew).trans (hB2.mono HB7.out.drew.size)); have P2 := Lib.hid p2; have P3 := Lib.hid p3; have P4 := Lib.hid p4; have P5 := Lib.hid p5
      clear hT2 hI2 hB2 p2 p3 p4 p5
      refine ⟨_, rfl, fun _ => ⟨P4.out.cell0, P4.out.cell1, P5.out.cell0, P5.out.cell1⟩, ?_⟩
      refine M_one (i := 3) rfl (by kernel_rfl) rfl ?_
      refine op_call #[.agg #[.bool sa, .slice Ar (dg 10 R).length cr]] (by simp [go_sem]) (enters_of Tryd.func52 (by kernel_rfl) rfl _ _) HT2.out ?_
      rintro e w3 ⟨v3, rfl, hI3, hB3⟩
      have q2 := P2.out.below hB3 P2.out.lt; have q3 := P3.out.below hB3 P3.out.lt; have q4 := P4.out.below hB3 P4.out.lt; have q5 := P5.out.below hB3 P5.out.lt
      obtain ⟨A2, c2, rfl, hI2⟩ := HI2.out.below hB3
      obtain ⟨A3, c3, rfl, hI3⟩ := hI3
      refine ⟨_, rfl, fun _ => ⟨q4.cell0, q4.cell1, q5.cell0, q5.cell1⟩, ?_⟩
      have HB3 := Lib.hid (HB2.out.trans (hB3.mono HB2.out.size))
      have x20 := q2.cell0; have x21 := q2.cell1; have f20 := q2.frozen 0; have f21 := q2.frozen 1
      have Q2 := Lib.hid q2; have Q3 := Lib.hid q3; have Q4 := Lib.hid q4; have Q5 := Lib.hid q5; have HI2 : Hid (NumIs w3 zq (.agg #[.bool (decide (zq < 0)), .slice A2 (dg 10 zq.natAbs).length c2])) := Lib.hid ⟨A2, c2, rfl, hI2⟩; have HI3 : Hid (NumIs w3 zr (.agg #[.bool (decide (zr < 0)), .slice A3 (dg 10 zr.natAbs).length c3])) := Lib.hid ⟨A3, c3, rfl, hI3⟩
      clear hB3 q2 q3 q4 q5 hI2 hI3 HT1 HT2 HS0
      refine M_one (i := 4) rfl (by kernel_rfl) rfl ?_
      go_simp
      clear x20 x21 f20 f21
      refine ⟨⟨Q4.out.cell0, Q4.out.cell1, Q5.out.cell0, Q5.out.cell1⟩, ?_⟩
      have r2 : Blk ((w3.setCell ⟨w.heap.size + 1 + 1, 0, none⟩ (.bool (decide (zq < 0)))).setCell ⟨w.heap.size + 1 + 1, 1, none⟩ (.slice A2 (dg 10 zq.natAbs).length c2)) (w.heap.size + 1 + 1) 39 #[.bool (decide (zq < 0)), .slice A2 (dg 10 zq.natAbs).length c2] := Q2.out.store2
      have hf : ∀ {g : Nat} {cs : Array Value}, Blk w3 g 39 cs → g ≠ w.heap.size + 1 + 1 → Blk ((w3.setCell ⟨w.heap.size + 1 + 1, 0, none⟩ (.bool (decide (zq < 0)))).setCell ⟨w.heap.size + 1 + 1, 1, none⟩ (.slice A2 (dg 10 zq.natAbs).length c2)) g 39 cs := fun h hne => (h.far (p := ⟨w.heap.size + 1 + 1, 0, none⟩) hne _).far (p := ⟨w.heap.size + 1 + 1, 1, none⟩) hne _
      have r3 := hf Q3.out (by omega); have r4 := hf Q4.out (by omega); have r5 := hf Q5.out (by omega)
      have n2 := NumIs.store39 (x' := .bool (decide (zq < 0))) (y' := .slice A2 (dg 10 zq.natAbs).length c2) HI2.out Q2.out
      have n3 := NumIs.store39 (x' := .bool (decide (zq < 0))) (y' := .slice A2 (dg 10 zq.natAbs).length c2) HI3.out Q2.out
      have hB8 := (HB3.out.setCell (p := ⟨w.heap.size + 1 + 1, 0, none⟩) (by simp; omega) (.bool (decide (zq < 0)))).setCell (p := ⟨w.heap.size + 1 + 1, 1, none⟩) (by simp; omega) (.slice A2 (dg 10 zq.natAbs).length c2)
      generalize (w3.setCell ⟨w.heap.size + 1 + 1, 0, none⟩ (.bool (decide (zq < 0)))).setCell ⟨w.heap.size + 1 + 1, 1, none⟩ (.slice A2 (dg 10 zq.natAbs).length c2) = w4 at r2 r3 r4 r5 n2 n3 hB8 ⊢
      have x30 := r3.cell0; have x31 := r3.cell1; have f30 := r3.frozen 0; have f31 := r3.frozen 1
      have R2 := Lib.hid r2; have R3 := Lib.hid r3; have R4 := Lib.hid r4; have R5 := Lib.hid r5; have N2' := Lib.hid n2; have N3' := Lib.hid n3; have HB8 := Lib.hid hB8
      clear r2 r3 r4 r5 n2 n3 hB8 hf
      refine M_one (i := 5) rfl (by kernel_rfl) rfl ?_
      go_simp
      have r2 := (R2.out.far (p := ⟨w.heap.size + 1 + 1 + 1, 0, none⟩) (by simp; try omega) (.bool (decide (zr < 0)))).far (p := ⟨w.heap.size + 1 + 1 + 1, 1, none⟩) (by simp; try omega) (.slice A3 (dg 10 zr.natAbs).length c3)
      have r3 := R3.out.store2 (x' := .bool (decide (zr < 0))) (y' := .slice A3 (dg 10 zr.natAbs).length c3)
      have r4 := (R4.out.far (p := ⟨w.heap.size + 1 + 1 + 1, 0, none⟩) (by simp; try omega) (.bool (decide (zr < 0)))).far (p := ⟨w.heap.size + 1 + 1 + 1, 1, none⟩) (by simp; try omega) (.slice A3 (dg 10 zr.natAbs).length c3)
      have r5 := (R5.out.far (p := ⟨w.heap.size + 1 + 1 + 1, 0, none⟩) (by simp; try omega) (.bool (decide (zr < 0)))).far (p := ⟨w.heap.size + 1 + 1 + 1, 1, none⟩) (by simp; try omega) (.slice A3 (dg 10 zr.natAbs).length c3)
      have n2 := NumIs.store39 (x' := .bool (decide (zr < 0))) (y' := .slice A3 (dg 10 zr.natAbs).length c3) N2'.out R3.out
      have n3 := NumIs.store39 (x' := .bool (decide (zr < 0))) (y' := .slice A3 (dg 10 zr.natAbs).length c3) N3'.out R3.out
      have hB9 := (HB8.out.setCell (p := ⟨w.heap.size + 1 + 1 + 1, 0, none⟩) (by simp; omega) (.bool (decide (zr < 0)))).setCell (p := ⟨w.heap.size + 1 + 1 + 1, 1, none⟩) (by simp; omega) (.slice A3 (dg 10 zr.natAbs).length c3)
      refine ⟨⟨R4.out.cell0, R4.out.cell1, R5.out.cell0, R5.out.cell1⟩, ?_⟩
      clear r4 r5 x30 x31 f30 f31
      refine M_done (by kernel_rfl) ?_
      go_wp2_with fail
      exact bodyPost_ret (ret39_2 (g := w.heap.size + 1 + 1) (k := w.heap.size + 1 + 1 + 1) Tryd.results54 rfl rfl r2 r3) rfl ⟨_, _, rfl, n2, n3, hB9⟩
end Go.Proofs.YtcclclginhhlaaaDoor
