/- The walks over package big: a quotient. -/
import Derived.Test.YtcclclginhhlaaaDoorBigN
import Derived.Test.YtcclclginhhlaaaDoorAppX
import Derived.Test.YtcclclginhhlaaaDoorRg
import Derived.Test.YtcclclginhhlaaaDoorBigF
namespace Go.Proofs.YtcclclginhhlaaaDoor
open Go.RowKit Go.Shelf
open Pl Dig
attribute [local go_sem] Oper.semAt_some

theorem wpListIn_appX {F : Fence} {nn : Nat} {P : Program} (w : World) {ops : Array Oper} {rest : List Oper} {o : Oper} {a : Act} {Q : Exit → Act → World → Prop} (hgd : o.guard = none) (s x : Operand) (t : TypeId)
    (ho : o.op = .call { callee := .builtin .append, args := #[s, x], argTypes := #[t, t] })
    (base : Nat) (e : TypeId) (z : Value) (bytes : Nat) (ht : P.underlying t = some (.slice e)) (hinfo : (P.info? e).map (fun i => (i.zero, i.size, i.bytes)) = some (some z, 1, bytes)) (hzs : z.cells.size = 1)
    (v : Value) (n : Nat) (xs : List Value) (hs : a.eval s = v) (hown : w.ownsRow base e 1 v n xs)
    (B : Nat) (A : Option Addr) (m c : Nat) (news : List Value) (hx : a.eval x = .slice A m c) (hl : news.length = m) (hrd : Rd w B e A news) (h1 : ∀ u ∈ news, u.oneCell' = true)
    (h63 : n + m ≤ 1000000) (hbytes : bytes ≤ 1000) (hbase : base ≤ w.heap.size)
    (h : ∀ A' cap' w', Grew w w' base e (.slice A' (n + m) cap') (n + m) (xs ++ news) → wpListIn F nn P ops Q rest (a.put o.dst (.slice A' (n + m) cap')) w') : wpListIn F nn P ops Q (o :: rest) a w := by
  refine wpListIn_plain hgd fun K hK' => ?_
  obtain ⟨v', w', hrun, hG⟩ := run_appX (P := P) w base t o.type e z bytes ht hinfo hzs v n xs hown B A m c news hl hrd h1 h63 hbytes hbase
  obtain ⟨A', cap', rfl, _⟩ := hG.slice
  unfold Oper.wpIn
  refine ⟨?_, ?_⟩
  · simp [Oper.about, ho, resolve, Target.leads, Sem.run_pure]
  · rw [Oper.semAt_plain F _ _ (by rw [ho]; intro c hc'; cases hc')]
    simp [execOp, ho, resolve, invoke, builtin, hs, hx, hrun, Result.andThen]
    exact hK' _ _ (h A' cap' w' hG)
theorem keepsO_below {W W' : World} (h : Below W.heap.size W W') : KeepsOthers W W' := ⟨h.size, fun k _ hk _ => (h.block k (Array.getElem?_eq_some_iff.1 hk).1).trans hk⟩
theorem own_full {w : World} {base n g c : Nat} {e : TypeId} {xs : List Value} (h : w.ownsRow base e 1 (.slice (some ⟨g, 0, none⟩) n c) n xs) (hc : c = n) : Blk w g e xs.toArray := by
  subst hc
  rcases h.2 with ⟨h', _⟩ | ⟨g', cap, cur, h', _, hg, _, _, hs, ht⟩
  · cases h'
  · injection h' with h1 _ h2
    injection h1 with h1; injection h1 with h1 _ _
    subst h1; subst h2
    unfold Blk
    rw [hg, ← ht, List.take_of_length_le (by rw [Array.length_toList, hs]; exact Nat.le_refl _)]
theorem Blk.rd {w : World} {g : Nat} {ps : List Nat} (h : Blk w g 78 (u32s ps).toArray) : Rd w w.heap.size 78 (some ⟨g, 0, none⟩) (u32s ps) := fun _ => by
  refine ⟨g, 0, rfl, h.lt, ⟨_, _, h⟩, fun j u hu => ?_⟩
  have := h.cell j
  simp only [Nat.zero_add]
  rw [this]; simpa using hu
theorem PartP.kept {W W' : World} {row : Option Nat} {m : Nat} {A : Option Addr} {c : Nat} (h : PartP W m A c) (hg : W.grownBy W' row) (hr : ∀ r, row = some r → ∃ o : Obj, W.heap[r]? = some o ∧ o.isCells = false) : PartP W' m A c :=
  ⟨h.1, h.2.1, (h.2.2.keep (fun _ _ ⟨_, _, hk⟩ => grownBy_keeps_cells hg hr hk rfl)).more hg.size⟩
theorem u32_one {ds : List Nat} : ∀ u ∈ u32s ds, u.oneCell' = true := by
  intro u hu; simp only [u32s, List.mem_map] at hu; obtain ⟨d, _, rfl⟩ := hu; simp [Value.oneCell']
/-- What the rounds of the division have made: the quotient's parts, and the rest. -/
def Quo (ps : List Nat) (V : Nat) (pre P : List Nat) (R : Nat) : Prop :=
  pre = upto id pre.length → R = vl b9 (ps.drop (ps.length - pre.length)) % V ∧ vl b9 (P.drop (ps.length - pre.length)) = vl b9 (ps.drop (ps.length - pre.length)) / V
theorem quo_step {ps P pre : List Nat} {V R x : Nat} (hV : 0 < V) (hP : P.length = ps.length) (hlt : pre.length < ps.length) (h : Quo ps V pre P R) :
    Quo ps V (pre ++ [x]) (P.set (fe ps x).1 (((fe ps x).2 + b9 * R) / V)) (((fe ps x).2 + b9 * R) % V) := by
  intro e
  obtain ⟨e1, rfl⟩ := upto_snoc e
  obtain ⟨h1, h2⟩ := h e1
  obtain ⟨j, hj⟩ : ∃ j, ps.length = j + pre.length + 1 := ⟨ps.length - 1 - pre.length, by omega⟩
  have e2 : fe ps pre.length = (j, ps.getD j 0) := by unfold fe; rw [show ps.length - 1 - pre.length = j from by omega]
  rw [e2]
  dsimp only
  rw [List.length_append, List.length_singleton, show ps.length - (pre.length + 1) = j from by omega]
  rw [show ps.length - pre.length = j + 1 from by omega] at h1 h2
  have hd := div_step (b := b9) (V := V) (T := vl b9 (ps.drop (j + 1))) (p := ps.getD j 0) hV
  rw [← vl_dropD, ← h1] at hd
  refine ⟨hd.2.symm, ?_⟩
  rw [hd.1, vl_dropD, List.drop_set_of_lt (by omega), h2]
  congr 1
  have : j < P.length := by omega
  simp [List.getD_eq_getElem?_getD, this]
/-- A part put ahead of a number's parts. -/
theorem trimA (A : Option Addr) (c y R : Nat) (w : World) {base : Nat} (h : w.ownsRow base 78 1 (.slice A (1 + (dg b9 R).length) c) (1 + (dg b9 R).length) ([.int .u32 (y : Int)] ++ u32s (dg b9 R))) (hl : (dg b9 R).length ≤ 900) (hy : y < b9) :
    Calls Tryd.prog 69 #[.slice A (1 + (dg b9 R).length) c] w fun e w' => (∃ c', e = .returned (.slice A (dg b9 (y + b9 * R)).length c') ∧ PartP w' (y + b9 * R) A c') ∧ Below w.heap.size w w' := by
  obtain ⟨A3, c3, he3, hc1, hc2, hrd⟩ := own_slice h
  injection he3 with e1 _ e3
  subst e1; subst e3
  have hds : ∀ d ∈ y :: dg b9 R, d < b9 := by
    intro d hd
    rcases List.mem_cons.1 hd with h | h
    · rw [h]; exact hy
    · exact dg_lt b9_two R d h
  have hl2 : (y :: dg b9 R).length = 1 + (dg b9 R).length := by simp; omega
  have := trimmed_at A c (y :: dg b9 R) (by omega) (by omega) hc2 w hrd hds
  rw [hl2, show vl b9 (y :: dg b9 R) = y + b9 * R by simp only [vl]; rw [dg_vl b9_two]] at this
  refine this.mono ?_
  rintro e w' ⟨⟨c', rfl, m1, m2, m3⟩, hB⟩
  exact ⟨⟨c', rfl, m1, m2, m3⟩, hB⟩
theorem Blk.c0 {w : World} {g : Nat} {t : TypeId} {x : Value} (h : Blk w g t #[x]) : w.cell? ⟨g, 0, none⟩ = some x := by simpa using h.cell 0
theorem tip_pos {n : Nat} (hn : 0 < n) : 0 < (dg b9 n).getD ((dg b9 n).length - 1) 0 := by
  have h0 : 0 < (dg b9 n).length := by rw [List.length_pos_iff, ne_eq, dg_nil b9_two]; omega
  have htip := dg_tip b9_two n
  generalize dg b9 n = qs at *
  rcases Nat.eq_zero_or_pos (qs.getD (qs.length - 1) 0) with h | h
  · exfalso
    apply htip
    rw [List.getLast?_eq_getElem?]
    have hlt : qs.length - 1 < qs.length := by omega
    rw [List.getElem?_eq_getElem hlt]
    simp [List.getD_eq_getElem?_getD, hlt] at h
    rw [h]
  · exact h
theorem PartP.far {w : World} {m : Nat} {A : Option Addr} {c : Nat} {p : Addr} {t : TypeId} {cs : Array Value} (h : PartP w m A c) (hX : Blk w p.block t cs) (hne : 78 ≠ t) (u : Value) : PartP (w.setCell p u) m A c :=
  ⟨h.1, h.2.1, (h.2.2.far hX hne u).more (by simp [World.setCell])⟩
theorem PartP.drew {w : World} {m : Nat} {A : Option Addr} {c : Nat} (h : PartP w m A c) : PartP w.drew m A c := h
/-- A list times the scale. -/
theorem mul_scale (m s : Nat) (A : Option Addr) (ca g : Nat) (W2 : World) (hA : PartP W2 m A ca) (hl : (dg b9 m).length ≤ 1000) (hs : s < b9) (hS : Blk W2 g 78 #[.int .u32 (s : Int)]) (W : World) (hW : Below W2.heap.size W2 W) :
    Calls Tryd.prog 60 #[.slice A (dg b9 m).length ca, .slice (some ⟨g, 0, none⟩) 1 1] W fun e w' => ∃ A' c', e = .returned (.slice A' (dg b9 (m * s)).length c') ∧ PartP w' (m * s) A' c' ∧ Below W2.heap.size W2 w' ∧ (∀ k A c, PartP W k A c → PartP w' k A c) := by
  have hS' := hS.below hW hS.lt
  have hr : Rd W W.heap.size 78 (some ⟨g, 0, none⟩) (u32s [s]) := fun _ => by
    refine ⟨g, 0, rfl, hS'.lt, ⟨_, _, hS'⟩, fun j u hu => ?_⟩
    match j, hu with
    | 0, hu => simp [u32s] at hu; subst hu; simpa using hS'.cell 0
  have := mul_any (dg b9 m) [s] A (some ⟨g, 0, none⟩) ca 1 W (hA.below hW).2.2 hr (dg_lt b9_two m) (by simpa using hs) hl (by simp)
  rw [dg_vl b9_two, show vl b9 [s] = s by simp [vl]] at this
  refine this.mono ?_
  rintro e w' ⟨A', c', rfl, hp, hB'⟩
  exact ⟨A', c', rfl, hp, hW.trans (hB'.mono hW.size), fun k A c h => h.below hB'⟩

set_option maxRecDepth 100000 in
set_option maxHeartbeats 2000000 in
theorem divp_in (m n : Nat) (A B : Option Addr) (ca cb : Nat) (w : World) (hA : PartP w m A ca) (hB : PartP w n B cb) (hlm : (dg b9 m).length ≤ 800) (hln : (dg b9 n).length ≤ 800) (hn : 0 < n) :
    CallsIn Fence.wide 5 Tryd.prog 62 #[.slice A (dg b9 m).length ca, .slice B (dg b9 n).length cb] w fun e w' => (∃ A' c', e = .returned (.slice A' (dg b9 (m / n)).length c') ∧ PartP w' (m / n) A' c') ∧ Below w.heap.size w w' := by
  have f69 : Fence.wide.fn 69 := trivial
  have f79 : Fence.wide.fn 79 := trivial
  generalize hQ : m / n = Q
  have HQ := Lib.hid hQ
  clear hQ
  have f1 : 0 < (dg b9 n).length := by rw [List.length_pos_iff, ne_eq, dg_nil b9_two]; omega
  have k2 : (dg b9 n).length - 1 < (dg b9 n).length := Nat.sub_lt f1 (by decide)
  have ht9 : (dg b9 n).getD ((dg b9 n).length - 1) 0 < 1000000000 := getD_ltB (by decide) (dg_lt b9_two n) _
  have ht0 := tip_pos hn
  obtain ⟨b', off', rfl, hb', hct⟩ := hB.2.2.u32 k2
  generalize (dg b9 n).getD ((dg b9 n).length - 1) 0 = t at ht9 ht0 hct
  have HA := Lib.hid hA; have HB := Lib.hid hB
  clear hA hB
  have hl1 : (((dg b9 n).length : Int) - 1).toNat = (dg b9 n).length - 1 := by omega
  have hl3 : 0 ≤ ((dg b9 n).length : Int) - 1 := by omega
  obtain ⟨s, hs⟩ : ∃ s, s = 1000000000 / (t + 1) := ⟨_, rfl⟩
  have hs0 : 0 < s := by rw [hs]; exact Nat.div_pos (by omega) (by omega)
  have hs9 : s ≤ 500000000 := by
    rw [hs]; exact Nat.le_trans (Nat.div_le_div_left (show 2 ≤ t + 1 by omega) (by decide)) (by decide)
  have hsI : (1000000000 : Int) / ((t : Int) + 1) = (s : Int) := by rw [hs]; simp
  have HSI := Lib.hid hsI
  clear hs hsI
  refine callsIn_of_wp_marks Tryd.func62 rfl trivial ?_ rfl
  simp only [Tryd.ntmps62, List.size_toArray, List.length_cons, List.length_nil, Nat.reduceAdd, Nat.reduceSub, Array.replicate_succ, Array.replicate_zero, List.push_toArray, List.append_toArray, List.nil_append, List.cons_append]
  refine wpIn_wide.2 ?_
  go_upto_region 2 with fail
  rw [HSI.out]
  have bB := (Blk.new w 52 #[.slice (some ⟨b', off', none⟩) (dg b9 n).length cb]).alloc (.cells #[.int .u32 (s : Int)] 78)
  have bS := Blk.new (w.alloc (.cells #[.slice (some ⟨b', off', none⟩) (dg b9 n).length cb] 52)) 78 #[.int .u32 (s : Int)]
  have hB2 := ((Below.refl w.heap.size w).alloc (Nat.le_refl _) (.cells #[.slice (some ⟨b', off', none⟩) (dg b9 n).length cb] 52)).alloc (by simp) (.cells #[.int .u32 (s : Int)] 78)
  rw [World.size_alloc] at bS
  obtain ⟨W2, hW2⟩ : ∃ W2, W2 = (w.alloc (.cells #[.slice (some ⟨b', off', none⟩) (dg b9 n).length cb] 52)).alloc (.cells #[.int .u32 (s : Int)] 78) := ⟨_, rfl⟩
  rw [← hW2] at bB bS hB2 ⊢
  have hA2 := HA.out.below hB2
  have hN2 := HB.out.below hB2
  have HMA := Lib.hid (mul_scale m s A ca (w.heap.size + 1) W2 hA2 (by omega) (Nat.lt_of_le_of_lt hs9 (by decide)) bS)
  have HMB := Lib.hid (mul_scale n s (some ⟨b', off', none⟩) cb (w.heap.size + 1) W2 hN2 (by omega) (Nat.lt_of_le_of_lt hs9 (by decide)) bS)
  have HN2 := Lib.hid hN2
  have x0 := bB.cell 0
  have k0 := bB.frozen 0
  have BB := Lib.hid bB; have HB2 := Lib.hid hB2
  clear hW2 bB bS hB2 hA2 hN2 hct hl1 hl3
  go_cut [0] from 19 to 24 (fun s0 wx => ∃ (A1 : Option Addr) (c1 : Nat) (A2 : Option Addr) (c2 : Nat), s0 = .slice A1 (dg b9 (m * s)).length c1 ∧ PartP wx (m * s) A1 c1 ∧ PartP wx (n * s) A2 c2 ∧ Blk wx w.heap.size 52 #[.slice A2 (dg b9 (n * s)).length c2] ∧ Below w.heap.size w wx)
  case first =>
    refine wp_region_noPanic ?_
    go_region_with
      (first
        | (go_at_call_of 60 (Value.slice A (dg b9 m).length ca); refine (HMA.out _ (by first | exact (Below.refl _ _).drew | exact HBb.out)).mono ?_; rintro e wa ⟨A1, c1, rfl, hp1, hB1, hk1⟩; have HPa := Lib.hid hp1; have HBa := Lib.hid hB1; have HKa := Lib.hid hk1; have ya := (BB.out.below hB1 BB.out.lt).cell 0; have za := (BB.out.below hB1 BB.out.lt).frozen 0; clear hp1 hB1 hk1)
        | (go_at_call_of 60 (Value.slice (some ⟨b', off', none⟩) (dg b9 n).length cb); refine (HMB.out _ (by first | exact (Below.refl _ _).drew | exact HBa.out)).mono ?_; rintro e wb ⟨A2, c2, rfl, hp1, hB1, hk1⟩; have HPb := Lib.hid hp1; have HBb := Lib.hid hB1; have HKb := Lib.hid hk1; have yb := (BB.out.below hB1 BB.out.lt).cell 0; have zb := (BB.out.below hB1 BB.out.lt).frozen 0; clear hp1 hB1 hk1))
    all_goals refine NoPanic.normal ?_
    all_goals
      go_wp2_with fail
      go_meet
      first
        | (have bF := BB.out.below HBb.out BB.out.lt
           exact ⟨A1, c1, A2, c2, rfl, (HKb.out _ _ _ HPa.out).far (p := ⟨w.heap.size, 0, none⟩) bF (by decide) _, HPb.out.far (p := ⟨w.heap.size, 0, none⟩) bF (by decide) _, bF.set_ 0 _, (HB2.out.trans (HBb.out.mono HB2.out.size)).setCell (Nat.le_refl _) _⟩)
        | (have bF := BB.out.below HBa.out BB.out.lt
           exact ⟨A1, c1, A2, c2, rfl, HPa.out.far (p := ⟨w.heap.size, 0, none⟩) bF (by decide) _, (HKa.out _ _ _ HPb.out).far (p := ⟨w.heap.size, 0, none⟩) bF (by decide) _, bF.set_ 0 _, (HB2.out.trans (HBa.out.mono HB2.out.size)).setCell (Nat.le_refl _) _⟩)
  case rest =>
    clear HMA HMB x0 k0 BB HB2 HN2
    obtain ⟨A1, c1, A2, c2, rfl, hp1, hp2, bB, hB⟩ := hcut
    have hq : m * s / (n * s) = Q := by rw [Nat.mul_div_mul_right m n hs0]; exact HQ.out
    have hls : (dg b9 (n * s)).length ≤ 801 := dg_mul_len hln (Nat.lt_of_le_of_lt hs9 (by decide))
    have hlm2 : (dg b9 (m * s)).length ≤ 801 := dg_mul_len hlm (Nat.lt_of_le_of_lt hs9 (by decide))
    have hV0 : 0 < n * s := Nat.mul_pos hn hs0
    generalize m * s = M at hp1 hlm2 hq ⊢
    generalize n * s = V at hp2 bB hls hV0 hq ⊢
    have HQ2 := Lib.hid hq
    have HP1 := Lib.hid hp1; have HP2 := Lib.hid hp2; have BB := Lib.hid bB; have HB2 := Lib.hid hB
    clear hp1 hp2 bB hB hq HA HB HQ hs0 hs9 HSI ht0 ht9
    have hsz := HB2.out.size
    obtain ⟨i52, hi, hz0, hz1, hz2⟩ := info_parts info78m
    have HI := Lib.hid hi; have HZ0 := Lib.hid hz0; have HZ1 := Lib.hid hz1; have HZ2 := Lib.hid hz2
    clear hi hz0 hz1 hz2
    go_wp2_with (at_make; refine wpList_make_full _ rfl _ _ 52 rfl wc.heap.size 78 i52 (.int .u32 0) 1 Tryd.underlying52 HI.out HZ0.out HZ1.out .i64 .i64 _ _ (dg b9 M).length rfl rfl rfl rfl (by rw [HZ2.out]; omega) (by unfold maxLen; omega) (Nat.le_refl _) ?_; intro w1 hown hgr; have HOWN := Lib.hid hown; have HBL := Lib.hid (made_below hgr); clear hown hgr)
    have bQ : Blk w1 wc.heap.size 78 (u32s (List.replicate (dg b9 M).length 0)).toArray := by
      have := own_full HOWN.out rfl
      rw [show (Value.int IntKind.u32 0).cells = #[.int .u32 0] from rfl, Nat.mul_one, made_u32] at this
      exact this
    have hz1 := HBL.out.size
    have hz2 := bQ.lt
    have bq := (Blk.new w1 52 #[.slice (some ⟨wc.heap.size, 0, none⟩) (dg b9 M).length (dg b9 M).length]).alloc (.cells #[.slice none 0 0] 52)
    have br := Blk.new (w1.alloc (.cells #[.slice (some ⟨wc.heap.size, 0, none⟩) (dg b9 M).length (dg b9 M).length] 52)) 52 #[.slice none 0 0]
    have bQ2 := (bQ.alloc (.cells #[.slice (some ⟨wc.heap.size, 0, none⟩) (dg b9 M).length (dg b9 M).length] 52)).alloc (.cells #[.slice none 0 0] 52)
    have hBL2 := (HBL.out.alloc (by omega) (.cells #[.slice (some ⟨wc.heap.size, 0, none⟩) (dg b9 M).length (dg b9 M).length] 52)).alloc (by simp; omega) (.cells #[.slice none 0 0] 52)
    rw [World.size_alloc] at br
    obtain ⟨w3, hw3⟩ : ∃ w3, w3 = (w1.alloc (.cells #[.slice (some ⟨wc.heap.size, 0, none⟩) (dg b9 M).length (dg b9 M).length] 52)).alloc (.cells #[.slice none 0 0] 52) := ⟨_, rfl⟩
    rw [← hw3] at bq br bQ2 hBL2 ⊢
    obtain ⟨gq, hgq⟩ : ∃ g, g = w1.heap.size := ⟨_, rfl⟩
    rw [← hgq] at bq br ⊢
    obtain ⟨gr, hgr⟩ : ∃ g, g = gq + 1 := ⟨_, rfl⟩
    rw [← hgr] at br ⊢
    have hz3 : wc.heap.size < gq := by omega
    have hz4 : gq < gr := by omega
    have hz5 := br.lt
    clear hw3 bQ hgq hz2 hz1 hgr
    have hp1 := HP1.out.below hBL2; have hp2 := HP2.out.below hBL2
    have bB := BB.out.below hBL2 BB.out.lt
    have hB := HB2.out.trans (hBL2.mono hsz)
    have HR1 := Lib.hid HP1.out.2.2
    have HP2V := Lib.hid HP2.out
    have BLTW := Lib.hid BB.out.lt
    have HBC := Lib.hid hBL2
    refine (callsIn_wide.1 (fromEnd_in Fence.wide 4 trivial rfl _ _ _ _)).mono ?_
    rintro e w4 ⟨rfl, rfl⟩
    have bN := Blk.new w3 52 #[.slice A1 (dg b9 M).length c1]
    have HP1 := Lib.hid (hp1.alloc (.cells #[.slice A1 (dg b9 M).length c1] 52)); have HP2 := Lib.hid (hp2.alloc (.cells #[.slice A1 (dg b9 M).length c1] 52))
    have BB := Lib.hid (bB.alloc (.cells #[.slice A1 (dg b9 M).length c1] 52)); have HBW := Lib.hid (hB.alloc (by have := hB.size; omega) (.cells #[.slice A1 (dg b9 M).length c1] 52))
    have BQ := Lib.hid (bq.alloc (.cells #[.slice A1 (dg b9 M).length c1] 52)); have BR := Lib.hid (br.alloc (.cells #[.slice A1 (dg b9 M).length c1] 52)); have BV := Lib.hid (bQ2.alloc (.cells #[.slice A1 (dg b9 M).length c1] 52)); have BN := Lib.hid bN
    have hvp := dg_vl b9_two M
    have hp9 : ∀ d ∈ dg b9 M, d < b9 := dg_lt b9_two M
    generalize dg b9 M = ps at *
    have HV := Lib.hid hvp; have HP9 := Lib.hid hp9
    clear bq br bQ2 hBL2 hp1 hp2 bB hB HOWN HBL bN hvp hp9 HB2 HI HZ0 HZ1 HZ2
    go_wp2_with fail
    refine (wpIn_wide (n := 5)).1 ?_
    refine wpIn_rangeFunc_ownG rfl (by decide) (gf := 90) (lb := #[.pointer (some ⟨w3.heap.size, 0, none⟩)]) rfl trivial (enters_of Tryd.func90 (by kernel_rfl) rfl)
      (fromEnd_stops2 Fence.wide 4 trivial rfl (by decide) w3.heap.size wc.heap.size c1 A1 ps (by omega) _ (by simp) (by simp; omega) BN.out.c0 (HR1.out.below (HBC.out.alloc (by omega) _))) Keeps.trans (keepsK_b (by simp; omega) (by simp)) (Below.refl _ _) (fun _ => rfl)
      (fun pre W => ((∃ (P : List Nat) (R : Nat) (A : Option Addr) (c : Nat), Quo ps V pre P R ∧ P.length = ps.length ∧ (∀ d ∈ P, d < b9) ∧ R < V ∧ PartP W R A c ∧ Blk W gr 52 #[.slice A (dg b9 R).length c] ∧ Blk W wc.heap.size 78 (u32s P).toArray) ∧
        Blk W w.heap.size 52 #[.slice A2 (dg b9 V).length c2] ∧ Below wc.heap.size wc W ∧ Blk W gq 52 #[.slice (some ⟨wc.heap.size, 0, none⟩) ps.length ps.length] ∧ Blk W w3.heap.size 52 #[.slice A1 ps.length c1]) ∧ Below w.heap.size w W)
      (fun _ _ _ => False) ?own (fun _ _ _ _ _ h _ _ => h) ?start
      (fun x => { tmps := #[.slice A1 ps.length c1, .slice (some ⟨b', off', none⟩) (dg b9 n).length cb, undef, .pointer (some ⟨w.heap.size, 0, none⟩), .slice none 0 0, .slice (some ⟨w.heap.size + 1, 0, none⟩) 1 1, .pointer (some ⟨gq, 0, none⟩), .pointer (some ⟨gr, 0, none⟩),
        .int .i64 ((fe ps x).1 : Int), .int .u32 ((fe ps x).2 : Int), .slice (some ⟨b', off', none⟩) (dg b9 n).length cb, .slice (some ⟨b', off', none⟩) (dg b9 n).length cb, .int .i64 ((dg b9 n).length : Int), .int .i64 (((dg b9 n).length : Int) - 1),
        .pointer (some ⟨b', off' + ((dg b9 n).length - 1), none⟩), .int .u32 (t : Int), .int .u32 ((t : Int) + 1), .int .u32 (s : Int), .slice (some ⟨w.heap.size + 1, 0, none⟩) 1 1, u19, u20, u21, u22, u23, u24, .slice A1 ps.length c1, .int .i64 (ps.length : Int), .slice (some ⟨wc.heap.size, 0, none⟩) ps.length ps.length, .slice A1 ps.length c1,
        .func (.func 90) #[] #[.pointer (some ⟨w3.heap.size, 0, none⟩)], .int .i64 ((fe ps x).1 : Int), .int .u32 ((fe ps x).2 : Int), undef, undef, undef, undef, undef, undef, undef, undef, undef, undef, undef, undef, undef, undef, undef, undef], defers := [] }) ?assign ?body ?done ?stop
    case own =>
      refine OwnFrom.and (fun s W W' row hs hg hr => ?_) (ownFrom_below (Nat.le_refl _) (by simp; omega))
      obtain ⟨⟨P, R, A, c, h1, h2, h3, h4, h5, h6, h7⟩, g1, g2, g3, g4⟩ := hs
      have hr' : ∀ r, row = some r → ∃ o : Obj, W.heap[r]? = some o ∧ o.isCells = false := fun r e => (hr r e).2
      exact ⟨⟨P, R, A, c, h1, h2, h3, h4, h5.kept hg hr', (grownBy_keeps_cells hg hr' h6 rfl).trans h6, (grownBy_keeps_cells hg hr' h7 rfl).trans h7⟩, (grownBy_keeps_cells hg hr' g1 rfl).trans g1, g2.grown hg g2.size (fun k e => Nat.le_trans (by simp; omega) (hr k e).1), (grownBy_keeps_cells hg hr' g3 rfl).trans g3, (grownBy_keeps_cells hg hr' g4 rfl).trans g4⟩
    case start =>
      refine ⟨⟨⟨List.replicate ps.length 0, 0, none, 0, fun _ => ?_, by simp, ?_, hV0, ⟨by simp [dg_zero], by unfold maxLen; omega, Rd.nil_⟩, BR.out, BV.out⟩, BB.out, HBC.out.alloc (by omega) _, BQ.out, BN.out⟩, HBW.out⟩
      · simp [vl, Nat.zero_mod, Nat.zero_div]
      · intro d hd; rw [List.mem_replicate] at hd; rw [hd.2]; decide
    case assign =>
      intro l x W K hK
      gi_wp2
      exact hK
    case stop => exact fun _ _ _ _ _ _ h _ => h.elim
    case body =>
      rintro l pre x W ⟨⟨⟨P, R, A, c, h1, h2, h3, h4, h5, h6, h7⟩, g1, g2, g3, g4⟩, hBW⟩ hlt
      have hst := quo_step (x := x) hV0 h2 hlt h1
      have hi : (fe ps x).1 < ps.length := by unfold fe; dsimp only; omega
      have hy9 : (fe ps x).2 < b9 := fe_lt HP9.out x
      generalize (fe ps x).2 = y at hst hy9 ⊢
      generalize (fe ps x).1 = i at hst hi ⊢
      have hT : y + b9 * R < V * b9 := by
        have h := rest_lt (T := R) hy9 hV0
        rwa [Nat.mod_eq_of_lt h4] at h
      have hTl : (dg b9 (y + b9 * R)).length ≤ 1000 := by
        have h1 := (dg_len b9_two V _).1 (Nat.le_refl (dg b9 V).length)
        have h2 := (dg_len b9_two (y + b9 * R) ((dg b9 V).length + 1)).2 (by rw [Nat.pow_succ]; exact Nat.lt_of_lt_of_le hT (Nat.mul_le_mul_right _ (Nat.le_of_lt h1)))
        omega
      have hRl : (dg b9 R).length ≤ 900 := Nat.le_trans (dg_mono (Nat.le_of_lt h4)) (by omega)
      have hTD : (y + b9 * R) / V < b9 := Nat.div_lt_of_lt_mul hT
      have hvl : vl b9 (y :: dg b9 R) = y + b9 * R := by simp only [vl]; rw [dg_vl b9_two]
      have hds : ∀ d ∈ y :: dg b9 R, d < b9 := by
        intro d hd
        rcases List.mem_cons.1 hd with h | h
        · rw [h]; exact hy9
        · exact dg_lt b9_two R d h
      have x0 := (h6.alloc (.cells #[.int .u32 (y : Int)] 78)).c0
      have hzW := g4.lt
      have HP := Lib.hid h2; have H3 := Lib.hid h3; have H4 := Lib.hid h4; have H5 := Lib.hid h5; have H6 := Lib.hid h6; have H7 := Lib.hid h7
      have G1 := Lib.hid g1; have G2 := Lib.hid g2; have G3 := Lib.hid g3; have G4 := Lib.hid g4; have HBW2 := Lib.hid hBW
      have HST := Lib.hid hst; have HVL := Lib.hid hvl; have HDS := Lib.hid hds; have HT := Lib.hid hT; have HTD := Lib.hid hTD; have HTL := Lib.hid hTl; have HRL := Lib.hid hRl
      have BLT := Lib.hid (And.intro g1.lt h7.lt)
      clear h1 h2 h3 h4 h5 h6 h7 g1 g2 g3 g4 hBW hst hvl hds hT hTD hTl
      gi_upto_region 9 with (first
        | (gi_at_builtin; refine wpListIn_appX _ rfl (.tmp 33) (.tmp 34) 52 rfl W.heap.size 78 (.int .u32 0) 4 Tryd.underlying52 info78m rfl _ 1 [.int .u32 (y : Int)] rfl (World.ownsRow_lit W #[.int .u32 (y : Int)] 1 (Nat.le_refl _) (by unfold maxLen; omega) rfl) _ A _ c (u32s (dg b9 R)) rfl (by simp [u32s]) ((H5.out.alloc _).2.2) u32_one (by omega) (by omega) (by simp) ?_; intro A5 c5 w5 hG; have HG := Lib.hid hG; clear hG)
        | (gi_at_call 69; refine (callsIn_wide.2 (trimA _ _ y R _ HG.out.1 HRL.out hy9)).mono ?_; rintro e w6 ⟨⟨c6, rfl, hp6⟩, hB6⟩; have HP6 := Lib.hid hp6; have HB6 := Lib.hid hB6; have b6 := (HG.out.blk (H6.out.alloc _) (by decide)).below hB6 (HG.out.blk (H6.out.alloc _) (by decide)).lt; have x6 := b6.c0; have k6 := b6.frozen 0; have B6 := Lib.hid b6; clear hp6 hB6 b6))
      clear x0
      have hT := HT.out
      have hK : Below W.heap.size W w6 := (((Below.refl W.heap.size W).alloc (Nat.le_refl _) _).trans HG.out.2.2).trans (HB6.out.mono (by have := HG.out.2.2.size; simp at this; omega))
      have hz6 : gr < W.heap.size := by omega
      have hzb : w.heap.size < W.heap.size := BLT.out.1
      have hzv : wc.heap.size < W.heap.size := BLT.out.2
      have hzc : w.heap.size < wc.heap.size := BLTW.out
      obtain ⟨T, hTT⟩ : ∃ T, T = y + b9 * R := ⟨_, rfl⟩
      rw [← hTT] at HP6 HST HTL HTD hT ⊢
      have hbr := B6.out.set_ 0 (.slice A5 (dg b9 T).length c6)
      have hbq := (G3.out.below hK G3.out.lt).far (p := ⟨gr, 0, none⟩) (by show gq ≠ gr; omega) (.slice A5 (dg b9 T).length c6)
      have hbb := (G1.out.below hK hzb).far (p := ⟨gr, 0, none⟩) (by show w.heap.size ≠ gr; omega) (.slice A5 (dg b9 T).length c6)
      have hbv := (H7.out.below hK hzv).far (p := ⟨gr, 0, none⟩) (by show wc.heap.size ≠ gr; omega) (.slice A5 (dg b9 T).length c6)
      have hbn := (G4.out.below hK hzW).far (p := ⟨gr, 0, none⟩) (by show w3.heap.size ≠ gr; omega) (.slice A5 (dg b9 T).length c6)
      have hgc := (G2.out.trans (hK.mono (by omega))).setCell (p := ⟨gr, 0, none⟩) (by show wc.heap.size ≤ gr; omega) (.slice A5 (dg b9 T).length c6)
      have hpt := HP6.out.far (p := ⟨gr, 0, none⟩) B6.out (by decide) (.slice A5 (dg b9 T).length c6)
      have hbw := (HBW2.out.trans (hK.mono (by omega))).setCell (p := ⟨gr, 0, none⟩) (by show w.heap.size ≤ gr; omega) (.slice A5 (dg b9 T).length c6)
      have hk7 : KeepsOthers W (w6.setCell ⟨gr, 0, none⟩ (.slice A5 (dg b9 T).length c6)) := (keepsO_below hK).trans (KeepsOthers.setCell _ _ _)
      have hn7 : Below wc.heap.size W (w6.setCell ⟨gr, 0, none⟩ (.slice A5 (dg b9 T).length c6)) := (hK.mono (by omega)).setCell (p := ⟨gr, 0, none⟩) (by show wc.heap.size ≤ gr; omega) _
      clear x6 k6
      generalize w6.setCell ⟨gr, 0, none⟩ (.slice A5 (dg b9 T).length c6) = W7 at hbr hbq hbb hbv hbn hgc hpt hbw hk7 hn7 ⊢
      have x0 := (show Blk W7 gr 52 #[.slice A5 (dg b9 T).length c6] from hbr).c0; have x1 := hbq.c0; have x2 := hbb.c0
      have BR := Lib.hid (show Blk W7 gr 52 #[.slice A5 (dg b9 T).length c6] from hbr); have BQ := Lib.hid hbq; have BB := Lib.hid hbb; have BV := Lib.hid hbv; have BN := Lib.hid hbn; have PV := Lib.hid (HP2V.out.below hgc); have GC := Lib.hid hgc; have PT := Lib.hid hpt; have HBW := Lib.hid hbw; have HK7 := Lib.hid hk7; have HN7 := Lib.hid hn7
      have HTT := Lib.hid hTT
      have hTD' : T / V < 1000000000 := HTD.out
      have hfr : Fr (wc.heap.size + 1) A5 := fun b off h => by have := own_fr HG.out.1 b off h; omega
      have HFR := Lib.hid hfr
      clear hfr
      clear hbr hbq hbb hbv hbn hgc hpt hbw hk7 hn7 hTT hK HP1 HR1 HBC H4 H5 H6 G2 HG HB6 HP6 B6
      have hLen : (u32s P).toArray.size = ps.length := by simp [u32s, HP.out]
      have HONC := Lib.hid (once_any T V A5 A2 c6 c2 W7.drew PT.out.drew PV.out.drew HTL.out (by omega) hV0 hT)
      obtain ⟨q, hq⟩ : ∃ q, q = T / V := ⟨_, rfl⟩
      rw [← hq] at HONC HST hTD'
      have HQQ := Lib.hid hq
      clear hq
      have zz : ∀ w8, Below W7.drew.heap.size W7.drew w8 → w8.cell? ⟨wc.heap.size, i, none⟩ = some (.int .u32 ((P.getD i 0 : Nat) : Int)) := fun w8 hB8 => by
        rw [(BV.out.drew.below hB8 BV.out.lt).cell i]; simpa using u32s_get (P := P) (by rw [HP.out]; exact hi)
      have hnv : ¬ wc.heap.size = gr := by omega
      have hnv2 : ¬ gr = wc.heap.size := by omega
      have HZZ := Lib.hid zz
      clear zz x0 x1 x2
      refine round_region (fun W => W.cell? ⟨gq, 0, none⟩ = some (.slice (some ⟨wc.heap.size, 0, none⟩) ps.length ps.length) ∧ W.cell? ⟨gr, 0, none⟩ = some (.slice A5 (dg b9 T).length c6) ∧ W.cell? ⟨w.heap.size, 0, none⟩ = some (.slice A2 (dg b9 V).length c2)) 10 (by kernel_rfl) (by kernel_rfl) (by rintro ⟨a, W, h⟩; exact h) ?_
      refine M_take (i := 0) (v := .slice (some ⟨wc.heap.size, 0, none⟩) ps.length ps.length) rfl (by kernel_rfl) (fun _ _ _ h => h) rfl (fun W hS => by obtain ⟨h1, h2, h3⟩ := hS; go_simp) ⟨BQ.out.drew.c0, BR.out.drew.c0, BB.out.drew.c0⟩ ?_
      refine M_take (i := 1) (v := .int .i64 (i : Int)) rfl (by kernel_rfl) (fun _ _ _ h => h) rfl (fun W hS => by go_simp) ⟨BQ.out.drew.c0, BR.out.drew.c0, BB.out.drew.c0⟩ ?_
      refine M_take (i := 2) (v := .slice A5 (dg b9 T).length c6) rfl (by kernel_rfl) (fun _ _ _ h => h) rfl (fun W hS => by obtain ⟨h1, h2, h3⟩ := hS; go_simp) ⟨BQ.out.drew.c0, BR.out.drew.c0, BB.out.drew.c0⟩ ?_
      refine M_take (i := 3) (v := .slice A2 (dg b9 V).length c2) rfl (by kernel_rfl) (fun _ _ _ h => h) rfl (fun W hS => by obtain ⟨h1, h2, h3⟩ := hS; go_simp) ⟨BQ.out.drew.c0, BR.out.drew.c0, BB.out.drew.c0⟩ ?_
      refine M_one (i := 4) rfl (by kernel_rfl) rfl ?_
      refine op_call #[.slice A5 (dg b9 T).length c6, .slice A2 (dg b9 V).length c2] (by simp [go_sem]) (enters_of Tryd.func79 (by kernel_rfl) rfl _ _) HONC.out ?_
      rintro e w8 ⟨A8, c8, rfl, hp8, hf8, hB8⟩
      have hne8 : ∀ b off, A8 = some ⟨b, off, none⟩ → wc.heap.size ≠ b := fun b off h => by
        rcases hf8 with h1 | h1
        · have := HFR.out b off (h1 ▸ h); omega
        · have := h1 b off h; have := BV.out.lt; simp at *; omega
      have HNE8 := Lib.hid hne8
      clear hf8 hne8
      have br := BR.out.drew.below hB8 BR.out.lt; have bq := BQ.out.drew.below hB8 BQ.out.lt; have bb := BB.out.drew.below hB8 BB.out.lt; have bv := BV.out.drew.below hB8 BV.out.lt
      have z3 := HZZ.out _ hB8
      have k1 := bv.frozen i
      have hS8 : w8.cell? ⟨gq, 0, none⟩ = some (.slice (some ⟨wc.heap.size, 0, none⟩) ps.length ps.length) ∧ w8.cell? ⟨gr, 0, none⟩ = some (.slice A5 (dg b9 T).length c6) ∧ w8.cell? ⟨w.heap.size, 0, none⟩ = some (.slice A2 (dg b9 V).length c2) := ⟨bq.c0, br.c0, bb.c0⟩
      have HS8 := Lib.hid hS8; have BR8 := Lib.hid br; have BQ8 := Lib.hid bq; have BB8 := Lib.hid bb; have BV8 := Lib.hid bv; have HP8 := Lib.hid hp8; have HB8 := Lib.hid hB8
      clear hS8 br bq bb bv hp8 hB8
      refine ⟨_, rfl, fun _ => HS8.out, ?_⟩
      refine M_take (i := 5) (v := .tuple #[.int .u32 (q : Int), .slice A8 (dg b9 (T % V)).length c8]) rfl (by kernel_rfl) (fun _ _ _ h => h) rfl (fun W hS => by go_simp) HS8.out ?_
      refine M_take (i := 6) (v := .int .u32 (q : Int)) rfl (by kernel_rfl) (fun _ _ _ h => h) rfl (fun W hS => by go_simp) HS8.out ?_
      refine M_take (i := 7) (v := .slice A8 (dg b9 (T % V)).length c8) rfl (by kernel_rfl) (fun _ _ _ h => h) rfl (fun W hS => by go_simp) HS8.out ?_
      refine M_take (i := 8) (v := .pointer (some ⟨wc.heap.size, i, none⟩)) rfl (by kernel_rfl) (fun _ _ _ h => h) rfl (fun W hS => by go_simp) HS8.out ?_
      refine M_one (i := 9) rfl (by kernel_rfl) rfl ?_
      go_simp
      have k2 := BR8.out.frozen 0
      have x2 := BR8.out.c0
      refine ⟨HS8.out, ?_⟩
      refine M_one (i := 10) rfl (by kernel_rfl) rfl ?_
      go_simp
      refine M_done (by kernel_rfl) ?_
      have e1 : Blk (w8.setCell ⟨wc.heap.size, i, none⟩ (.int .u32 (q : Int))) wc.heap.size 78 (u32s (P.set i q)).toArray := by
        have := BV8.out.set_ i (.int .u32 (q : Int))
        rwa [show (u32s P).toArray.setIfInBounds i (.int .u32 (q : Int)) = (u32s (P.set i q)).toArray from by rw [← u32s_set]; simp] at this
      have e2 := BR8.out.far (p := ⟨wc.heap.size, i, none⟩) (by show gr ≠ wc.heap.size; omega) (.int .u32 (q : Int))
      have hp9 : PartP (w8.setCell ⟨wc.heap.size, i, none⟩ (.int .u32 (q : Int))) (T % V) A8 c8 :=
        ⟨HP8.out.1, HP8.out.2.1, fun hn => by
          obtain ⟨b, off, hA, hb, ⟨cs, fz, hT⟩, hc⟩ := HP8.out.2.2 hn
          have hne := HNE8.out b off hA
          have hh := Below.heap_setCell w8 ⟨wc.heap.size, i, none⟩ (.int .u32 (q : Int)) b (Ne.symm hne)
          exact ⟨b, off, hA, by simpa [World.setCell] using hb, ⟨cs, fz, hh.trans hT⟩, fun j u hu => (World.cell?_of_block (a := ⟨b, off + j, none⟩) hh).trans (hc j u hu)⟩⟩
      have hzz := HB8.out.size
      have hz7 : w3.heap.size < W7.heap.size := BN.out.lt
      have e3 := ((BN.out.drew.below HB8.out hz7).far (p := ⟨wc.heap.size, i, none⟩) (by show w3.heap.size ≠ wc.heap.size; omega) (.int .u32 (q : Int))).far (p := ⟨gr, 0, none⟩) (by show w3.heap.size ≠ gr; omega) (.slice A8 (dg b9 (T % V)).length c8)
      have e4 := ((BQ8.out).far (p := ⟨wc.heap.size, i, none⟩) (by show gq ≠ wc.heap.size; omega) (.int .u32 (q : Int))).far (p := ⟨gr, 0, none⟩) (by show gq ≠ gr; omega) (.slice A8 (dg b9 (T % V)).length c8)
      have e5 := ((BB8.out).far (p := ⟨wc.heap.size, i, none⟩) (by show w.heap.size ≠ wc.heap.size; have := BLTW.out; omega) (.int .u32 (q : Int))).far (p := ⟨gr, 0, none⟩) (by show w.heap.size ≠ gr; have := BLTW.out; omega) (.slice A8 (dg b9 (T % V)).length c8)
      have hb8 : Below wc.heap.size W7 w8 := ((Below.refl wc.heap.size W7).drew).trans (HB8.out.mono (by have := BV.out.lt; simp; omega))
      have e6 := ((GC.out.trans hb8).setCell (p := ⟨wc.heap.size, i, none⟩) (Nat.le_refl _) (.int .u32 (q : Int))).setCell (p := ⟨gr, 0, none⟩) (by show wc.heap.size ≤ gr; omega) (.slice A8 (dg b9 (T % V)).length c8)
      have e7 := ((HN7.out.trans hb8).setCell (p := ⟨wc.heap.size, i, none⟩) (Nat.le_refl _) (.int .u32 (q : Int))).setCell (p := ⟨gr, 0, none⟩) (by show wc.heap.size ≤ gr; omega) (.slice A8 (dg b9 (T % V)).length c8)
      have e8 := ((HBW.out.trans (hb8.mono (by have := BLTW.out; omega))).setCell (p := ⟨wc.heap.size, i, none⟩) (by show w.heap.size ≤ wc.heap.size; omega) (.int .u32 (q : Int))).setCell (p := ⟨gr, 0, none⟩) (by show w.heap.size ≤ gr; omega) (.slice A8 (dg b9 (T % V)).length c8)
      have e9 := ((((HK7.out.trans (KeepsOthers.drew W7)).trans (keepsO_below HB8.out)).trans (KeepsOthers.setCell _ ⟨wc.heap.size, i, none⟩ (.int .u32 (q : Int)))).trans (KeepsOthers.setCell _ ⟨gr, 0, none⟩ (.slice A8 (dg b9 (T % V)).length c8)))
      refine ⟨e9.from _, ⟨e7, e3.trans G4.out.symm⟩, ⟨⟨P.set i q, T % V, A8, c8, HST.out, by rw [List.length_set]; exact HP.out, mem_set H3.out hTD', Nat.mod_lt _ hV0, hp9.far (p := ⟨gr, 0, none⟩) e2 (by decide) _, e2.set_ 0 _, e1.far (p := ⟨gr, 0, none⟩) (by show wc.heap.size ≠ gr; omega) _⟩, e5, e6, e4, e3⟩, e8⟩
    case done =>
      rintro D ys W hD rfl ⟨⟨⟨P, R, A, c, h1, h2, h3, h4, h5, h6, h7⟩, g1, g2, g3, g4⟩, hBW⟩ hK
      have hfin : vl b9 P = Q := by
        have := (h1 (by rw [upto_length])).2
        rw [upto_length, Nat.sub_self, List.drop_zero, List.drop_zero, HV.out, HQ2.out] at this
        exact this
      have x1 := g3.c0
      have hT := trimmed_at (some ⟨wc.heap.size, 0, none⟩) ps.length P (by omega) (by omega) (by unfold maxLen; omega) W h7.rd h3
      rw [hfin, h2] at hT
      have HT := Lib.hid hT; have HBW2 := Lib.hid hBW; have HK := Lib.hid hK
      clear hT hBW hK h1 h2 h3 h4 h5 h6 h7 g1 g2 g3 g4
      go_wp2_with (go_at_call 69; refine HT.out.mono ?_; rintro e w9 ⟨⟨c9, rfl, m1, m2, m3⟩, hB9⟩; have HM := Lib.hid (And.intro m1 (And.intro m2 m3)); have HB9 := Lib.hid hB9; clear m1 m2 m3 hB9)
      have hDW : D < W.heap.size := (Array.getElem?_eq_some_iff.1 HK.out).1
      have hK' : w9.heap[D]? = some (.deferred (some [])) := (HB9.out.block D hDW).trans HK.out
      refine ⟨by simp, .inl ⟨_, _, rfl, run_takeDeferred hK', ?_⟩⟩
      have hpp : PartP w9 Q (some ⟨wc.heap.size, 0, none⟩) c9 := ⟨HM.out.1, HM.out.2.1, HM.out.2.2⟩
      refine ⟨_, results_tmp rfl _ _ _, ⟨some ⟨wc.heap.size, 0, none⟩, c9, rfl, hpp.kept (grownBy_putObj' w9 D _) (fun r e => by cases e; exact ⟨_, hK', rfl⟩)⟩, ?_⟩
      exact (HBW2.out.trans (HB9.out.mono HBW2.out.size)).trans (belowK_b (w := w) (Nat.le_refl _) w9 D _ _ (by simp at hD; omega) hK' rfl rfl)
/-- divideParts: the quotient. -/
theorem div_parts (m n : Nat) (A B : Option Addr) (ca cb : Nat) (w : World) (hA : PartP w m A ca) (hB : PartP w n B cb) (hlm : (dg b9 m).length ≤ 800) (hln : (dg b9 n).length ≤ 800) (hn : 0 < n) :
    Calls Tryd.prog 62 #[.slice A (dg b9 m).length ca, .slice B (dg b9 n).length cb] w fun e w' => ∃ A' c', e = .returned (.slice A' (dg b9 (m / n)).length c') ∧ PartP w' (m / n) A' c' ∧ Below w.heap.size w w' :=
  (callsIn_wide.1 (divp_in m n A B ca cb w hA hB hlm hln hn)).mono fun _ _ ⟨⟨A', c', h1, h2⟩, h3⟩ => ⟨A', c', h1, h2, h3⟩
end Go.Proofs.YtcclclginhhlaaaDoor
