/- An evaluator of closed runs, proved sound (part 5 of 5). -/
import Derived.Test.YtfhjfhbfgndheaaDoorEv4
import Derived.RangeFuncLeaves
import Derived.RecoverIn
import Derived.Laws.Externs
import Derived.Lib.MakeNoZero
namespace Go.Xe
noncomputable section
set_option linter.unusedSimpArgs false
set_option linter.unusedVariables false
section
variable {P : Program} {A : Tab} {call : Ev} {all : List Oper} {st : List St} {D : DD} {CH : List Nat} {HS : List Hk} {N nx0 : Nat} {B : Bs} {tm0 : T AV} {e0 : Env} {h0 : T AO} {w0 : World} {ds : List Deferred}
  {L : Nat → Prop} {k : Nat} {x : Hk} {e : Env} {a : Act} {w : World}

theorem gV_kept {vis : Nat} {h : T AO} {j : Nat} {s : St} (hs : st[j]? = some s) (ha : s.al = true) (hb : bit vis j = false) : gV st D nx0 vis L h (nx0 + j) = (open Classical in if L j then (D[j]?).bind (·.2) else none) := by
  unfold gV
  rw [if_pos ⟨j, s, rfl, hs, ha, hb⟩, Nat.add_sub_cancel_left]
theorem gV_not {vis : Nat} {h : T AO} {id : Nat} (hK : ¬ Kept st vis nx0 id) : gV st D nx0 vis L h id = h.get id := by
  unfold gV
  rw [if_neg hK]

/-- An operation that makes a block. -/
theorem Inv.alloc (hnd : nodupT st [] = true) (hdn : ∀ (j : Nat) (s : St) (t : Tmp), st[j]? = some s → s.dst = some t → t < N) (I : Inv st all D CH HS N A.R B nx0 tm0 e0 h0 w0 ds L k x e a w) {i : Nat} {o : Oper} {s : St} {m : Mk} {ob : AO} {O : Obj}
    (ho : all[i]? = some o) (hs : st[i]? = some s) (hal : s.al = true) (hd : D[i]? = some (m.val (nx0 + i), some ob)) (hni : ¬ L i) (hch : i ∉ CH) (hedge : ∀ e ∈ o.after.toList, bnd e = true → L e.on) (hO : ∀ e' id, e.le e' → OR e' id ob O) :
    ∃ e', Inv st all D CH HS N A.R B nx0 tm0 e0 h0 w0 ds (fun j => L j ∨ j = i) k x e' (a.put s.dst (m.real w.heap.size)) (w.alloc O) := by
  have hil : i < all.length := (List.getElem?_eq_some_iff.1 ho).1
  have hn : e.blk (nx0 + i) = none := I.res i hil hni
  have hle := Env.put_le (e := e) (b := w.heap.size) (rm := 0) hn
  have hnb : (e.put (nx0 + i) w.heap.size 0).blk (nx0 + i) = some w.heap.size := by simp [Env.put]
  have hob : ∀ j, j ≠ nx0 + i → (e.put (nx0 + i) w.heap.size 0).blk j = e.blk j := fun j hj => by simp [Env.put, hj]
  have hvi : bit x.vis i = false := by
    cases hb : bit x.vis i with
    | false => rfl
    | true => exact (hni (I.vis i hb)).elim
  obtain ⟨q1, q2, q3, q4⟩ := tms_step hnd hdn I hs hd hni hle (Mk.ok m hnb)
  have gnew : gV st D nx0 x.vis (fun j => L j ∨ j = i) x.h (nx0 + i) = some ob := by
    rw [gV_kept hs hal hvi, if_pos (Or.inr rfl), hd]; rfl
  have gold : ∀ id, id ≠ nx0 + i → gV st D nx0 x.vis (fun j => L j ∨ j = i) x.h id = gV st D nx0 x.vis L x.h id := by
    intro id hid
    by_cases hK : Kept st x.vis nx0 id
    · obtain ⟨j, s', rfl, hs', ha', hb'⟩ := hK
      have hji : j ≠ i := fun hh => hid (by rw [hh])
      rw [gV_kept hs' ha' hb', gV_kept hs' ha' hb']
      by_cases hL : L j
      · rw [if_pos (Or.inl hL), if_pos hL]
      · rw [if_neg (fun hh => hh.elim hL hji), if_neg hL]
    · rw [gV_not hK, gV_not hK]
  have blt : ∀ id o b, gV st D nx0 x.vis L x.h id = some o → e.blk id = some b → b < w.heap.size := by
    intro id o b hg hb
    obtain ⟨b', O', hb', hO', _⟩ := I.obj id o hg
    obtain rfl : b' = b := by rw [hb] at hb'; exact (Option.some.inj hb').symm
    exact (Array.getElem?_eq_some_iff.1 hO').1
  refine ⟨e.put (nx0 + i) w.heap.size 0,
    { hk := I.hk, size := q3, defs := q4, t1 := q1, t2 := q2, obj := ?_, inj := ?_, fresh := ?_, res := ?_, glob := ?_, own := ?_, base := ?_, nxle := I.nxle, le := Env.le_trans I.le hle,
      os := I.os, tape := I.tape, output := I.output, grown := by rw [size_alloc]; have := I.grown; omega, blk := ?_, img := ?_, old := ?_, chain := ?_, vis := fun j hj => .inl (I.vis j hj), dc := ?_ }⟩
  · intro id p hp
    by_cases hid : id = nx0 + i
    · subst hid
      rw [gnew] at hp; cases hp
      exact ⟨w.heap.size, O, hnb, heap_alloc_at w O, hO _ _ hle⟩
    · rw [gold id hid] at hp
      obtain ⟨b, Q, hb, hQ, hr⟩ := I.obj id p hp
      exact ⟨b, Q, by rw [hob id hid]; exact hb, by rw [heap_alloc_lt w O b (blt id p b hp hb)]; exact hQ, hr.mono hle hb⟩
  · intro id id' p q b hp hq hb hb'
    by_cases hid : id = nx0 + i
    · by_cases hid' : id' = nx0 + i
      · rw [hid, hid']
      · subst hid
        rw [hnb] at hb; cases hb
        rw [gold id' hid'] at hq; rw [hob id' hid'] at hb'
        exact (Nat.lt_irrefl _ (blt id' q _ hq hb')).elim
    · rw [gold id hid] at hp; rw [hob id hid] at hb
      by_cases hid' : id' = nx0 + i
      · subst hid'
        rw [hnb] at hb'; cases hb'
        exact (Nat.lt_irrefl _ (blt id p _ hp hb)).elim
      · rw [gold id' hid'] at hq; rw [hob id' hid'] at hb'
        exact I.inj id id' p q b hp hq hb hb'
  · intro id hid
    rw [hob id (by have := I.nxle; omega)]
    exact I.fresh id hid
  · intro j hj hL
    rw [hob _ (by have : j ≠ i := fun hh => hL (.inr hh); omega)]
    exact I.res j hj fun hh => hL (.inl hh)
  · intro g hg
    rw [hob g (by have := I.base.2.2.1; omega)]
    exact I.glob g hg
  · intro id p b hR hp hb
    by_cases hid : id = nx0 + i
    · subst hid; rw [hnb] at hb; cases hb; exact I.base.1
    · rw [gold id hid] at hp; rw [hob id hid] at hb
      exact I.own id p b hR hp hb
  · exact ⟨by rw [size_alloc]; have := I.base.1; omega, I.base.2.1, I.base.2.2.1, fun k hk => (heap_alloc_lt w O k (Nat.lt_of_lt_of_le hk I.base.1)).trans (I.base.2.2.2 k hk)⟩
  · intro b hb hno
    rw [heap_alloc_lt w O b (Nat.lt_of_lt_of_le hb I.grown)]
    exact I.blk b hb hno
  · intro id p b hR hp hb hlt
    by_cases hid : id = nx0 + i
    · subst hid; rw [hnb] at hb; cases hb
      exact (Nat.lt_irrefl _ (Nat.lt_of_lt_of_le hlt I.grown)).elim
    · rw [gold id hid] at hp; rw [hob id hid] at hb
      exact I.img id p b hR hp hb hlt
  · intro j hj
    rw [hob j (by omega)]
    exact I.old j hj
  · intro p c hc
    have hci : c ≠ i := fun hh => hch (hh ▸ List.mem_of_getElem? hc)
    rw [← I.chain p c hc]
    exact ⟨fun hh => hh.resolve_right hci, .inl⟩
  · intro j o' hj hL e he hb
    rcases hL with hL | rfl
    · exact .inl (I.dc j o' hj hL e he hb)
    · rw [ho] at hj; cases hj; exact .inl (hedge e he hb)

/-- An operation that acts. -/
theorem Inv.effect (hst : sts all [] = some st) (hnd : nodupT st [] = true) (hdn : ∀ (j : Nat) (s : St) (t : Tmp), st[j]? = some s → s.dst = some t → t < N) (hnod : CH.Nodup) (I : Inv st all D CH HS N A.R B nx0 tm0 e0 h0 w0 ds L k x e a w) {i : Nat} {o : Oper} {s : St}
    {d : AV × Option AO} {V : Value} {y : Hk} {h : T AO} {e' : Env} {w' : World} (ho : all[i]? = some o) (hs : st[i]? = some s) (hal : s.al = false) (hd : D[i]? = some d) (h2 : d.2 = none) (hni : ¬ L i) (hck : CH[k]? = some i)
    (hy : HS[k + 1]? = some y) (hvy : y.vis = (x.vis ||| s.anc)) (hedge : ∀ e ∈ o.after.toList, bnd e = true → L e.on) (hv : vw s.anc x.vis nx0 st 0 D x.h = some h) (hV : VR e' d.1 V) (hsim : Sim A.R B e' y.h y.nx w') (hste : Ste A.R e h x.nx w e' y.h y.nx w') :
    Inv st all D CH HS N A.R B nx0 tm0 e0 h0 w0 ds (fun j => L j ∨ j = i) (k + 1) y e' (a.put s.dst V) w' := by
  have hanc : ∀ j, bit s.anc j = true → L j := fun j hj => anc_in hst I.dc hs (fun o' ho' => by rw [ho] at ho'; cases ho'; exact hedge) hj
  have hsub := vw_sub hst I hanc hv
  obtain ⟨g1, g2⟩ := vw_get st 0 D x.h h hv
  obtain ⟨q1, q2, q3, q4⟩ := tms_step hnd hdn I hs hd hni hste.le hV
  -- a kept name behind it was one ahead of it, and is not in the view
  have hkept : ∀ id, Kept st y.vis nx0 id → Kept st x.vis nx0 id ∧ h.get id = none ∧ gV st D nx0 y.vis (fun j => L j ∨ j = i) y.h id = gV st D nx0 x.vis L x.h id ∧ e'.blk id = e.blk id ∧ A.R ≤ id := by
    rintro id ⟨j, s', rfl, hs', ha', hb'⟩
    have hb2 := hb'
    rw [hvy, bit_or, Bool.or_eq_false_iff] at hb2
    have hji : j ≠ i := fun hh => by subst hh; rw [hs] at hs'; cases hs'; rw [hal] at ha'; cases ha'
    have hjl : j < all.length := by rw [← (sts_spec all [] st hst).1]; exact (List.getElem?_eq_some_iff.1 hs').1
    refine ⟨⟨j, s', rfl, hs', ha', hb2.1⟩, ?_, ?_, hste.old _ (by have := I.nxle; omega), by have := I.base.2.2.1; omega⟩
    · have := g2 j s' hs' ha' (by simpa using hb2.1)
      rw [Nat.zero_add, hb2.2] at this
      simpa using this
    · rw [gV_kept hs' ha' hb', gV_kept hs' ha' hb2.1]
      by_cases hL : L j
      · rw [if_pos (Or.inl hL), if_pos hL]
      · rw [if_neg (fun hh => hh.elim hL hji), if_neg hL]
  have hapart : ∀ id p b, Kept st y.vis nx0 id → gV st D nx0 x.vis L x.h id = some p → e.blk id = some b → ∀ i' o', A.R ≤ i' → h.get i' = some o' → e.blk i' ≠ some b := by
    intro id p b hK hp hb i' o' _ hi' hbi
    have := I.inj i' id o' p b (hsub i' o' hi') hp hbi hb
    rw [this, (hkept id hK).2.1] at hi'
    cases hi'
  have blt : ∀ id o b, gV st D nx0 x.vis L x.h id = some o → e.blk id = some b → b < w.heap.size := by
    intro id o b hg hb
    obtain ⟨b', O', hb', hO', _⟩ := I.obj id o hg
    obtain rfl : b' = b := by rw [hb] at hb'; exact (Option.some.inj hb').symm
    exact (Array.getElem?_eq_some_iff.1 hO').1
  have mixed : ∀ id id' p q b, Kept st y.vis nx0 id → gV st D nx0 x.vis L x.h id = some p → e.blk id = some b → y.h.get id' = some q → e'.blk id' = some b → False := by
    intro id id' p q b hK hp hb hq hb'
    have hblt := blt id p b hp hb
    by_cases hR : A.R ≤ id'
    · obtain ⟨j, p', hj, hp', hbj⟩ := hste.img id' q b hR hq hb' hblt
      exact hapart id p b hK hp hb j p' hj hp' hbj
    · have := hsim.glob id' (by omega)
      rw [hb'] at this
      have hbi : b = id' := Option.some.inj this
      have := I.own id p b (hkept id hK).2.2.2.2 hp hb
      have := I.base.2.1
      omega
  refine { hk := hy, size := q3, defs := q4, t1 := q1, t2 := q2, obj := ?_, inj := ?_, fresh := hsim.fresh, res := ?_, glob := hsim.glob, own := ?_, base := ⟨hsim.base.1, I.base.2.1, I.base.2.2.1, hsim.base.2.2.2⟩, nxle := Nat.le_trans I.nxle hste.nxle, le := Env.le_trans I.le hste.le,
           os := hste.os.trans I.os, tape := hste.tape.trans I.tape, output := hste.output.trans I.output, grown := Nat.le_trans I.grown hste.size, blk := ?_, img := ?_, old := ?_, chain := ?_, vis := ?_, dc := ?_ }
  · intro id p hp
    by_cases hK : Kept st y.vis nx0 id
    · obtain ⟨_, _, hg, hbe, _⟩ := hkept id hK
      rw [hg] at hp
      obtain ⟨b, Q, hb, hQ, hr⟩ := I.obj id p hp
      exact ⟨b, Q, by rw [hbe]; exact hb, by rw [hste.blk b (blt id p b hp hb) (hapart id p b hK hp hb)]; exact hQ, hr.mono hste.le hb⟩
    · rw [gV_not hK] at hp
      exact hsim.obj id p hp
  · intro id id' p q b hp hq hb hb'
    by_cases hK : Kept st y.vis nx0 id
    · obtain ⟨_, _, hg, hbe, _⟩ := hkept id hK
      rw [hg] at hp; rw [hbe] at hb
      by_cases hK' : Kept st y.vis nx0 id'
      · obtain ⟨_, _, hg', hbe', _⟩ := hkept id' hK'
        rw [hg'] at hq; rw [hbe'] at hb'
        exact I.inj id id' p q b hp hq hb hb'
      · rw [gV_not hK'] at hq
        exact (mixed id id' p q b hK hp hb hq hb').elim
    · rw [gV_not hK] at hp
      by_cases hK' : Kept st y.vis nx0 id'
      · obtain ⟨_, _, hg', hbe', _⟩ := hkept id' hK'
        rw [hg'] at hq; rw [hbe'] at hb'
        exact (mixed id' id q p b hK' hq hb' hp hb).elim
      · rw [gV_not hK'] at hq
        exact hsim.inj id id' p q b hp hq hb hb'
  · intro j hj hL
    rw [hste.old _ (by have := I.nxle; omega)]
    exact I.res j hj fun hh => hL (.inl hh)
  · intro id p b hR hp hb
    by_cases hK : Kept st y.vis nx0 id
    · obtain ⟨_, _, hg, hbe, _⟩ := hkept id hK
      rw [hg] at hp; rw [hbe] at hb
      exact I.own id p b hR hp hb
    · rw [gV_not hK] at hp
      exact hsim.own id p b hR hp hb
  · intro b hb hno
    rw [hste.blk b (Nat.lt_of_lt_of_le hb I.grown) fun i' o' hR hi' hbi => ?_]
    · exact I.blk b hb hno
    · obtain ⟨j, p, hj, hp, hbj⟩ := I.img i' o' b hR (hsub i' o' hi') hbi hb
      exact hno j p hj hp hbj
  · intro id p b hR hp hb hlt
    by_cases hK : Kept st y.vis nx0 id
    · obtain ⟨_, _, hg, hbe, _⟩ := hkept id hK
      rw [hg] at hp; rw [hbe] at hb
      exact I.img id p b hR hp hb hlt
    · rw [gV_not hK] at hp
      obtain ⟨j, p', hj, hp', hbj⟩ := hste.img id p b hR hp hb (Nat.lt_of_lt_of_le hlt I.grown)
      exact I.img j p' b hj (hsub j p' hp') hbj hlt
  · intro j hj
    rw [hste.old j (by have := I.nxle; omega)]
    exact I.old j hj
  · intro p c hc
    by_cases hpk : p = k
    · subst hpk
      rw [hck] at hc; cases hc
      exact ⟨fun _ => Nat.lt_succ_self _, fun _ => .inr rfl⟩
    · have hci : c ≠ i := fun hh => by
        subst hh
        exact hpk ((List.getElem?_inj (List.getElem?_eq_some_iff.1 hc).1 hnod).1 (hc.trans hck.symm))
      constructor
      · intro hh
        have := (I.chain p c hc).1 (hh.resolve_right hci)
        omega
      · intro hh
        exact .inl ((I.chain p c hc).2 (by omega))
  · intro j hj
    rw [hvy, bit_or, Bool.or_eq_true] at hj
    rcases hj with hj | hj
    · exact .inl (I.vis j hj)
    · exact .inl (hanc j hj)
  · intro j o' hj hL e he hb
    rcases hL with hL | rfl
    · exact .inl (I.dc j o' hj hL e he hb)
    · rw [ho] at hj; cases hj; exact .inl (hedge e he hb)
end
end
end Go.Xe

namespace Go.Xe
noncomputable section
set_option linter.unusedSimpArgs false
set_option linter.unusedVariables false
section
variable {R : Nat} {B : Bs} {e : Env} {h : T AO} {nx : Nat} {w : World} {P : Program}

/-- All that has been reckoned of a region. -/
structure Reck (A : Tab) (call : Ev) (all : List Oper) (st : List St) (nx0 : Nat) (tm0 : T AV) (D : DD) (CH : List Nat) (HS : List Hk) (N lim : Nat) : Prop where
  hst : sts all [] = some st
  nd : nodupT st [] = true
  dn : ∀ (j : Nat) (s : St) (t : Tmp), st[j]? = some s → s.dst = some t → t < N
  nod : CH.Nodup
  fact : ∀ (j : Nat) (o : Oper) (s : St), j < lim → all[j]? = some o → st[j]? = some s → ∃ tm b d, Fact A call all st nx0 tm0 D CH HS j o s tm b d
  re : ∀ (j : Nat) (o : Oper) (s : St) (d : AV × Option AO) (tm : T AV), j < lim → all[j]? = some o → st[j]? = some s → D[j]? = some d → clsA A o.op = .q → hdep o.op = true → tmV s.anc j st 0 D tm0 = some tm → wantA all tm o = some true →
    ∀ (k : Nat) (x : Hk), HS[k]? = some x → mayAt st s.anc j CH 0 k = true → ∃ h, vw s.anc x.vis nx0 st 0 D x.h = some h ∧ evRd A h tm o.op = some d.1

/-- One operation that may come up. -/
theorem Reck.step {A : Tab} (hA : A.Ok P) {call : Ev} (hC : COk A P B call) {ops : Array Oper} {st : List St} {nx0 : Nat} {tm0 : T AV} {D : DD} {CH : List Nat} {HS : List Hk} {N lim : Nat} (Z : Reck A call ops.toList st nx0 tm0 D CH HS N lim)
    {e0 : Env} {h0 : T AO} {w0 : World} {ds : List Deferred} {L : Nat → Prop} {k : Nat} {x : Hk} {e : Env} {a : Act} {w : World} (I : Inv st ops.toList D CH HS N A.R B nx0 tm0 e0 h0 w0 ds L k x e a w) {i : Nat} {o : Oper} (hlim : i < lim) (hoi : ops[i]? = some o) (hni : ¬ L i)
    (hedge : ∀ e ∈ o.after.toList, bnd e = true → L e.on) {r : Option Nat} {n : Nat} {Q : Exit → Act → World → Prop} {K : Act → World → Prop}
    (hK : ∀ k' x' e' a' w', Inv st ops.toList D CH HS N A.R B nx0 tm0 e0 h0 w0 ds (fun j => L j ∨ j = i) k' x' e' a' w' → K a' w') : wpOpIn (Wd r) n P ops Q i K a w := by
  have ho : ops.toList[i]? = some o := by rw [Array.getElem?_toList]; exact hoi
  obtain ⟨hlen, hsp⟩ := sts_spec ops.toList [] st Z.hst
  have hlt : i < st.length := by rw [hlen]; exact (List.getElem?_eq_some_iff.1 ho).1
  have hs : st[i]? = some st[i] := List.getElem?_eq_getElem hlt
  generalize st[i] = s at hs
  obtain ⟨o', ho', hdst, hal, _⟩ := hsp i s hs
  rw [ho] at ho'; cases ho'
  obtain ⟨tm, b, d, F⟩ := Z.fact i o s hlim ho hs
  have hanc : ∀ j, bit s.anc j = true → L j := fun j hj => anc_in Z.hst I.dc hs (fun o' ho' => by rw [ho] at ho'; cases ho'; exact hedge) hj
  have hlat : ∀ (j : Nat) (s' : St), st[j]? = some s' → (i = j ∨ bit s'.anc i = true) → ¬ L j := by
    intro j s' hs' hor hL
    rcases hor with rfl | hb
    · exact hni hL
    · exact hni (anc_in Z.hst I.dc hs' (fun o' ho' e he hbe => I.dc j o' ho' hL e he hbe) hb)
  have ht : TmR e tm a.tmps := I.tmR Z.hst Z.nd hanc hlat F.view
  have hw := wantA_ok F.want ht
  unfold wpOpIn
  simp only [hoi]
  rw [hw]
  cases b with
  | false =>
    simp only [Bool.false_eq_true, if_false]
    obtain ⟨hd, hch⟩ := F.no rfl
    refine ⟨fun _ _ => trivial, ?_⟩
    rw [← hdst]
    exact hK k x e _ w (I.quiet Z.nd Z.dn ho hs F.dat (by rw [hd]) hni hch hedge (by rw [hd]; exact .tup _ _ .nil))
  | true =>
    simp only [if_true]
    cases hcl : clsA A o.op with
    | q =>
      obtain ⟨h2, hch, kk, xx, hh, _, _, hrd⟩ := F.q rfl hcl
      have hsem : o.semAt (Wd r).round a.eval = execOp a.eval o := by
        refine Oper.semAt_eq _ _ _ fun c hc => ?_
        rw [hc] at hrd
        simp [evRd] at hrd
      refine ⟨fun _ _ => trivial, ?_⟩
      rw [hsem]
      have fin : ∀ V, (execOp a.eval o).run P w = .ok (.value V) w → VR e d.1 V → o.uponIn (Wd r) n P a K Q ((execOp a.eval o).run P w) := fun V hr hV => by
        rw [hr]
        show K (a.put o.dst V) w
        rw [← hdst]
        exact hK k x e _ w (I.quiet Z.nd Z.dn ho hs F.dat h2 hni hch hedge hV)
      cases hdp : hdep o.op with
      | false =>
        rw [evRd_any hdp hh .leaf] at hrd
        have sl : Sim A.R B e .leaf x.nx w := I.sim (fun id o h => by cases h)
        obtain ⟨V, hr, hV⟩ := rd_ok (P := P) hA sl ht hrd
        exact fin V hr hV
      | true =>
        have hmay : mayAt st s.anc i CH 0 k = true := by
          refine mayAt_ok CH 0 k (fun q c hc hlt s' hs' => ?_) (fun q c hc hle => ?_)
          · cases hb : bit s'.anc i with
            | false => rfl
            | true => exact (hlat c s' hs' (.inr hb) ((I.chain q c hc).2 (by omega))).elim
          · cases hb : bit s.anc c with
            | false => rfl
            | true => have := (I.chain q c hc).1 (hanc c hb); omega
        obtain ⟨h', hv', hrd'⟩ := Z.re i o s d tm hlim ho hs F.dat hcl hdp F.view F.want k x I.hk hmay
        obtain ⟨V, hr, hV⟩ := rd_ok (P := P) hA (I.sim (vw_sub Z.hst I hanc hv')) ht hrd'
        exact fin V hr hV
    | a =>
      obtain ⟨hch, ob, m, hev, hd⟩ := F.a rfl hcl
      have hsem : o.semAt (Wd r).round a.eval = execOp a.eval o := by
        refine Oper.semAt_eq _ _ _ fun c hc => ?_
        rw [hc] at hev
        simp [evAl] at hev
      have sl : Sim A.R B e .leaf x.nx w := I.sim (fun id o h => by cases h)
      obtain ⟨O, hr, hO⟩ := al_ok (P := P) hA sl ht hev
      refine ⟨fun _ _ => trivial, ?_⟩
      rw [hsem, hr]
      show K (a.put o.dst _) _
      rw [← hdst]
      have hsal : s.al = true := by rw [hal, ← isA_clsA A, hcl]; rfl
      obtain ⟨e', I'⟩ := I.alloc Z.nd Z.dn ho hs hsal (by rw [F.dat, hd]) hni hch hedge hO
      exact hK k x e' _ _ I'
    | e =>
      obtain ⟨h2, hnp, p, x', y, h', hcp, hxp, hyp, hv', hop, hvy, hlast⟩ := F.e rfl hcl
      have hpk : p = k := by
        rcases Nat.lt_trichotomy p k with hlt' | heq | hgt
        · exact (hni ((I.chain p i hcp).2 hlt')).elim
        · exact heq
        · exfalso
          obtain ⟨q, rfl⟩ : ∃ q, p = q + 1 := ⟨p - 1, by omega⟩
          have hq : q < CH.length := by have := (List.getElem?_eq_some_iff.1 hcp).1; omega
          have hcq := List.getElem?_eq_getElem hq
          have hb := hlast q CH[q] rfl hcq
          have := (I.chain q CH[q] hcq).1 (hanc _ hb)
          omega
      subst hpk
      have hx : x' = x := by have := I.hk; rw [hxp] at this; exact Option.some.inj this
      subst hx
      have hsim := I.sim (vw_sub Z.hst I hanc hv')
      refine evOp_ok hA hC hsim ht hop (fun e' V w' hV hs' hst' => ?_) (fun e' u U w' hu _ _ _ => by rw [hu] at hnp; cases hnp)
      rw [← hdst]
      have hsal : s.al = false := by rw [hal, ← isA_clsA A, hcl]; rfl
      exact hK (p + 1) y e' _ w' (I.effect Z.hst Z.nd Z.dn Z.nod ho hs hsal F.dat h2 hni hcp hyp hvy hedge hv' hV hs' hst')

theorem ready_iff (ops : Array Oper) : ∀ (listed : Array Bool) (i : Nat), i ∈ Region.ready .any ops listed ↔ i < ops.size ∧ listed.getD i true = false ∧ ∃ o, ops[i]? = some o ∧ ∀ e ∈ o.after.toList, bnd e = true → listed.getD e.on false = true := by
  intro listed i
  unfold Region.ready
  simp only [List.mem_filter, List.mem_range, Bool.and_eq_true, Bool.not_eq_true']
  constructor
  · rintro ⟨h1, h2, h3⟩
    refine ⟨h1, h2, ops[i], by simp [h1], fun e he hb => ?_⟩
    simp only [h1, getElem?_pos, Option.map_some, Option.getD_some] at h3
    have := Array.all_eq_true'.1 h3 e (Array.mem_toList_iff.1 he)
    rw [bnd_eq, hb] at this
    simpa using this
  · rintro ⟨h1, h2, o, ho, h3⟩
    refine ⟨h1, h2, ?_⟩
    rw [ho]
    simp only [Option.map_some, Option.getD_some]
    refine Array.all_eq_true'.2 fun e he => ?_
    rw [bnd_eq]
    cases hb : bnd e with
    | false => rfl
    | true => simpa using h3 e (Array.mem_toList_iff.2 he) hb
theorem cnt_set : ∀ (l : List Bool) (i : Nat), l[i]? = some false → ((l.set i true).filter (! ·)).length + 1 = (l.filter (! ·)).length := by
  intro l
  induction l with
  | nil => intro i h; simp at h
  | cons b l ih =>
    intro i h
    cases i with
    | zero => simp at h; subst h; simp
    | succ i =>
      have := ih i (by simpa using h)
      cases b <;> simp at this ⊢ <;> omega
theorem full_listed {ops : Array Oper} {st : List St} (hst : sts ops.toList [] = some st) : ∀ (listed : Array Bool), listed.size = ops.size → Region.ready .any ops listed = [] → ∀ i, i < ops.size → listed.getD i false = true := by
  intro listed hsz hr i
  induction i using Nat.strongRecOn with
  | _ i ih =>
    intro hi
    cases hb : listed.getD i false with
    | true => rfl
    | false =>
      exfalso
      have hmem : i ∈ Region.ready .any ops listed := by
        refine (ready_iff ops listed i).2 ⟨hi, ?_, ops[i], by simp [hi], fun e he hbe => ?_⟩
        · have hil : i < listed.size := by omega
          simp only [Array.getD_eq_getD_getElem?, getElem?_pos listed i hil, Option.getD_some] at hb ⊢
          exact hb
        · have := edge_lt hst (i := i) (o := ops[i]) (by rw [Array.getElem?_toList]; simp [hi]) he hbe
          exact ih e.on this (by omega)
      rw [hr] at hmem
      cases hmem
/-- All orders, where an operation panics. -/
theorem Reck.anyP {A : Tab} (hA : A.Ok P) {call : Ev} (hC : COk A P B call) {ops : Array Oper} {st : List St} {nx0 : Nat} {tm0 : T AV} {c : Acc} {N : Nat} {p : Pn} (Z : Reck A call ops.toList st nx0 tm0 c.ds c.chain (c.hs ++ [c.cur]) N p.i) (hlen : c.hs.length = c.chain.length)
    {o : Oper} {s : St} {hv0 : T AO} (hp : PFact A call ops.toList st nx0 tm0 c p o s hv0)
    {e0 : Env} {h0 : T AO} {w0 : World} {ds : List Deferred} {r : Option Nat} {n : Nat} {Q : Exit → Act → World → Prop}
    (hQ : ∀ e a w U, TmR e p.tm a.tmps → a.tmps.size = N → a.defers = ds → Sim A.R B e p.h p.nx w → Ste A.R e0 h0 nx0 w0 e p.h p.nx w → VR e p.u U → Q (.panic [{ v := U, recovered := false }]) a w) :
    ∀ (fuel : Nat) (listed : Array Bool) {k : Nat} {x : Hk} {e : Env} {a : Act} {w : World}, listed.size = ops.size → (listed.toList.filter (! ·)).length = fuel → listed.getD p.i false = false →
      Inv st ops.toList c.ds c.chain (c.hs ++ [c.cur]) N A.R B nx0 tm0 e0 h0 w0 ds (fun j => listed.getD j false = true) k x e a w → wpAnyIn (Wd r) n P .any ops Q fuel listed a w := by
  have hpi : p.i < ops.size := by have := (List.getElem?_eq_some_iff.1 hp.ho).1; simpa using this
  intro fuel
  induction fuel with
  | zero =>
    intro listed k x e a w hsz hf hno I
    exfalso
    have hil : p.i < listed.size := by omega
    simp only [Array.getD_eq_getD_getElem?, getElem?_pos listed p.i hil, Option.getD_some] at hno
    have := List.filter_eq_nil_iff.1 (List.length_eq_zero_iff.1 hf) listed[p.i] (by simp)
    rw [hno] at this
    simp at this
  | succ fuel ih =>
    intro listed k x e a w hsz hf hno I
    refine ⟨fun hr => ?_, fun i hm => ?_⟩
    · have := full_listed Z.hst listed hsz hr p.i hpi
      rw [hno] at this; cases this
    obtain ⟨hi, h2, o', ho', hed⟩ := (ready_iff ops listed i).1 hm
    have hil : i < listed.size := by omega
    have hli : listed[i]? = some false := by
      simp only [Array.getD_eq_getD_getElem?, getElem?_pos listed i hil, Option.getD_some] at h2
      rw [getElem?_pos listed i hil, h2]
    have hoL : ops.toList[i]? = some o' := by rw [Array.getElem?_toList]; exact ho'
    rcases Nat.lt_trichotomy i p.i with hlt | heq | hgt
    · refine Z.step hA hC I hlt ho' (by simp [Array.getD_eq_getD_getElem?, hli]) hed fun k' x' e' a' w' I' => ?_
      refine ih (listed.setIfInBounds i true) (k := k') (x := x') (e := e') (by simpa using hsz) ?_ ?_ ?_
      · have := cnt_set listed.toList i (by rw [Array.getElem?_toList]; exact hli)
        rw [hf] at this
        simpa using this
      · simp only [Array.getD_eq_getD_getElem?, Array.getElem?_setIfInBounds] at hno ⊢
        rw [if_neg (by omega)]
        exact hno
      · have hL : (fun j => (listed.setIfInBounds i true).getD j false = true) = fun j => listed.getD j false = true ∨ j = i := by
          funext j
          simp only [Array.getD_eq_getD_getElem?, Array.getElem?_setIfInBounds]
          by_cases hij : i = j
          · subst hij
            simp [hil]
          · simp [hij, Ne.symm hij]
        rw [hL]
        exact I'
    · subst heq
      have hoe : o' = o := by have := hp.ho; rw [hoL] at this; exact Option.some.inj this
      subst hoe
      have hanc : ∀ j, bit s.anc j = true → listed.getD j false = true := fun j hj => anc_in Z.hst I.dc hp.hs (fun o'' ho'' => by rw [hoL] at ho''; cases ho''; exact hed) hj
      have hlat : ∀ (j : Nat) (s' : St), st[j]? = some s' → (p.i = j ∨ bit s'.anc p.i = true) → ¬ listed.getD j false = true := by
        intro j s' hs' hor hL
        rcases hor with rfl | hb
        · rw [hno] at hL; cases hL
        · have := anc_in Z.hst I.dc hs' (fun o'' ho'' e he hbe => I.dc j o'' ho'' hL e he hbe) hb
          rw [hno] at this; cases this
      have ht : TmR e p.tm a.tmps := I.tmR Z.hst Z.nd hanc hlat hp.view
      have hw := wantA_ok hp.want ht
      have hkl : k = c.chain.length := by
        have hk := (List.getElem?_eq_some_iff.1 I.hk).1
        simp only [List.length_append, List.length_singleton, hlen] at hk
        rcases Nat.lt_or_ge k c.chain.length with hlt | hge
        · exfalso
          have hq : c.chain.length - 1 < c.chain.length := by omega
          have hcq := List.getElem?_eq_getElem hq
          have hb : bit s.anc c.chain[c.chain.length - 1] = true := by
            have hok := hp.last
            unfold lastOk at hok
            rw [List.getLast?_eq_getElem?, hcq] at hok
            exact hok
          have := (I.chain _ _ hcq).1 (hanc _ hb)
          omega
        · omega
      have hx : x = c.cur := by
        have := I.hk
        rw [hkl, ← hlen, List.getElem?_append_right (Nat.le_refl _)] at this
        simpa using this.symm
      subst hx
      have hsub := vw_sub Z.hst I hanc hp.vh
      have hsim := I.sim hsub
      unfold wpOpIn
      simp only [ho']
      rw [hw]
      simp only [if_true]
      refine evOp_ok hA hC hsim ht hp.op (fun e' V w' hV _ _ => by cases hV) (fun e' u U w' hu hU hs' hst' => ?_)
      cases hu
      refine hQ e' a w' U (ht.mono hst'.le) I.size I.defs hs' ?_ hU
      exact (⟨I.le, by have := I.nxle; omega, I.os, I.tape, I.output, I.grown, I.blk, fun i o b hR hi hb hlt => I.img i o b hR (hsub i o hi) hb hlt, I.old⟩ : Ste A.R e0 h0 nx0 w0 e hv0 c.cur.nx w).trans hst'
    · exfalso
      have hlt' : i < st.length := by rw [(sts_spec ops.toList [] st Z.hst).1]; simpa using hi
      have hs' := List.getElem?_eq_getElem hlt'
      have hb := hp.dead i st[i] hgt hs'
      have := anc_in Z.hst I.dc hs' (fun o'' ho'' => by rw [hoL] at ho''; cases ho''; exact hed) hb
      have hno' : listed.getD p.i false = true := this
      rw [hno] at hno'; cases hno'
/-- All orders. -/
theorem Reck.any {A : Tab} (hA : A.Ok P) {call : Ev} (hC : COk A P B call) {ops : Array Oper} {st : List St} {nx0 : Nat} {tm0 : T AV} {D : DD} {CH : List Nat} {HS : List Hk} {N : Nat} (Z : Reck A call ops.toList st nx0 tm0 D CH HS N ops.toList.length)
    {e0 : Env} {h0 : T AO} {w0 : World} {ds : List Deferred} {r : Option Nat} {n : Nat} {Q : Exit → Act → World → Prop}
    (hQ : ∀ k x e a w, Inv st ops.toList D CH HS N A.R B nx0 tm0 e0 h0 w0 ds (fun j => j < ops.size) k x e a w → Q .normal a w) :
    ∀ (fuel : Nat) (listed : Array Bool) {k : Nat} {x : Hk} {e : Env} {a : Act} {w : World}, listed.size = ops.size → (listed.toList.filter (! ·)).length = fuel →
      Inv st ops.toList D CH HS N A.R B nx0 tm0 e0 h0 w0 ds (fun j => listed.getD j false = true) k x e a w → wpAnyIn (Wd r) n P .any ops Q fuel listed a w := by
  have ready_iff : ∀ (listed : Array Bool) (i : Nat), i ∈ Region.ready .any ops listed ↔ i < ops.size ∧ listed.getD i true = false ∧ ∃ o, ops[i]? = some o ∧ ∀ e ∈ o.after.toList, bnd e = true → listed.getD e.on false = true := by
    intro listed i
    unfold Region.ready
    simp only [List.mem_filter, List.mem_range, Bool.and_eq_true, Bool.not_eq_true']
    constructor
    · rintro ⟨h1, h2, h3⟩
      refine ⟨h1, h2, ops[i], by simp [h1], fun e he hb => ?_⟩
      simp only [h1, getElem?_pos, Option.map_some, Option.getD_some] at h3
      have := Array.all_eq_true'.1 h3 e (Array.mem_toList_iff.1 he)
      rw [bnd_eq, hb] at this
      simpa using this
    · rintro ⟨h1, h2, o, ho, h3⟩
      refine ⟨h1, h2, ?_⟩
      rw [ho]
      simp only [Option.map_some, Option.getD_some]
      refine Array.all_eq_true'.2 fun e he => ?_
      rw [bnd_eq]
      cases hb : bnd e with
      | false => rfl
      | true => simpa using h3 e (Array.mem_toList_iff.2 he) hb
  have full : ∀ (listed : Array Bool), listed.size = ops.size → Region.ready .any ops listed = [] → ∀ i, i < ops.size → listed.getD i false = true := by
    intro listed hsz hr i
    induction i using Nat.strongRecOn with
    | _ i ih =>
      intro hi
      cases hb : listed.getD i false with
      | true => rfl
      | false =>
        exfalso
        have hmem : i ∈ Region.ready .any ops listed := by
          refine (ready_iff listed i).2 ⟨hi, ?_, ops[i], by simp [hi], fun e he hbe => ?_⟩
          · have hil : i < listed.size := by omega
            simp only [Array.getD_eq_getD_getElem?, getElem?_pos listed i hil, Option.getD_some] at hb ⊢
            exact hb
          · have := edge_lt Z.hst (i := i) (o := ops[i]) (by rw [Array.getElem?_toList]; simp [hi]) he hbe
            exact ih e.on this (by omega)
        rw [hr] at hmem
        cases hmem
  have cnt : ∀ (l : List Bool) (i : Nat), l[i]? = some false → ((l.set i true).filter (! ·)).length + 1 = (l.filter (! ·)).length := by
    intro l
    induction l with
    | nil => intro i h; simp at h
    | cons b l ih =>
      intro i h
      cases i with
      | zero => simp at h; subst h; simp
      | succ i =>
        have := ih i (by simpa using h)
        cases b <;> simp at this ⊢ <;> omega
  have endQ : ∀ (listed : Array Bool) {k : Nat} {x : Hk} {e : Env} {a : Act} {w : World}, listed.size = ops.size → (∀ i, i < ops.size → listed.getD i false = true) →
      Inv st ops.toList D CH HS N A.R B nx0 tm0 e0 h0 w0 ds (fun j => listed.getD j false = true) k x e a w → Q .normal a w := by
    intro listed k x e a w hsz hall I
    have hL : (fun j => listed.getD j false = true) = fun j => j < ops.size := by
      funext j
      refine propext ⟨fun h => ?_, hall j⟩
      rcases Nat.lt_or_ge j ops.size with hj | hj
      · exact hj
      · simp [Array.getD_eq_getD_getElem?, Array.getElem?_eq_none (show listed.size ≤ j by omega)] at h
    rw [hL] at I
    exact hQ k x e a w I
  intro fuel
  induction fuel with
  | zero =>
    intro listed k x e a w hsz hf I
    have hall : ∀ i, i < ops.size → listed.getD i false = true := by
      intro i hi
      have hil : i < listed.size := by omega
      simp only [Array.getD_eq_getD_getElem?, getElem?_pos listed i hil, Option.getD_some]
      have := List.filter_eq_nil_iff.1 (List.length_eq_zero_iff.1 hf) listed[i] (by simp)
      simpa using this
    refine ⟨?_, endQ listed hsz hall I⟩
    refine List.eq_nil_iff_forall_not_mem.2 fun i hm => ?_
    obtain ⟨hi, h2, _⟩ := (ready_iff listed i).1 hm
    have := hall i hi
    have hil : i < listed.size := by omega
    simp only [Array.getD_eq_getD_getElem?, getElem?_pos listed i hil, Option.getD_some] at this h2
    rw [this] at h2; cases h2
  | succ fuel ih =>
    intro listed k x e a w hsz hf I
    refine ⟨fun hr => endQ listed hsz (full listed hsz hr) I, fun i hm => ?_⟩
    obtain ⟨hi, h2, o, ho, hed⟩ := (ready_iff listed i).1 hm
    have hil : i < listed.size := by omega
    have hli : listed[i]? = some false := by
      simp only [Array.getD_eq_getD_getElem?, getElem?_pos listed i hil, Option.getD_some] at h2
      rw [getElem?_pos listed i hil, h2]
    refine Z.step hA hC I (by simpa using hi) ho (by simp [Array.getD_eq_getD_getElem?, hli]) hed fun k' x' e' a' w' I' => ?_
    refine ih (listed.setIfInBounds i true) (k := k') (x := x') (e := e') (by simpa using hsz) ?_ ?_
    · have := cnt listed.toList i (by rw [Array.getElem?_toList]; exact hli)
      rw [hf] at this
      simpa using this
    · have hL : (fun j => (listed.setIfInBounds i true).getD j false = true) = fun j => listed.getD j false = true ∨ j = i := by
        funext j
        simp only [Array.getD_eq_getD_getElem?, Array.getElem?_setIfInBounds]
        by_cases hij : i = j
        · subst hij
          simp [hil]
        · simp [hij, Ne.symm hij]
      rw [hL]
      exact I'

/-- What stands in the chain is an operation. -/
theorem drGo_chain {A : Tab} {call : Ev} {all : List Oper} {st : List St} {nx0 : Nat} {tm0 : T AV} {c cF : Acc} {pn : Option Pn} (h : drGo A call all st nx0 tm0 all 0 st c = some (cF, pn)) (hc : c.chain = []) : ∀ x ∈ cF.chain, x < all.length := by
  have key : ∀ (rest : List Oper) (i : Nat) (ss : List St) (c : Acc), drGo A call all st nx0 tm0 rest i ss c = some (cF, pn) → (∀ x ∈ c.chain, x < i + rest.length) → ∀ x ∈ cF.chain, x < i + rest.length := by
    intro rest
    induction rest with
    | nil => intro i ss c h hc; cases h; exact hc
    | cons o rest ih =>
      intro i ss c h hc
      cases ss with
      | nil => cases h
      | cons s sl =>
        simp only [drGo] at h
        obtain ⟨tm, htm, h⟩ := Option.bind_eq_some_iff.1 h
        have e1 : i + (o :: rest).length = i + 1 + rest.length := by simp; omega
        rw [e1] at hc ⊢
        split at h
        · cases h
        · exact ih (i + 1) sl _ h hc
        · split at h
          · obtain ⟨_, _, h⟩ := Option.bind_eq_some_iff.1 h
            obtain ⟨_, _, h⟩ := Option.bind_eq_some_iff.1 h
            exact ih (i + 1) sl _ h hc
          · obtain ⟨_, _, h⟩ := Option.bind_eq_some_iff.1 h
            exact ih (i + 1) sl _ h hc
          · split at h
            · cases h
            · obtain ⟨_, _, h⟩ := Option.bind_eq_some_iff.1 h
              obtain ⟨_, _, h⟩ := Option.bind_eq_some_iff.1 h
              split at h
              · split at h <;> (try (cases h; done))
                cases h; exact hc
              · refine ih (i + 1) sl _ h fun x hx => ?_
                rcases List.mem_append.1 hx with hx | hx
                · exact hc x hx
                · simp at hx; omega
  intro x hx
  have := key all 0 st c h (by rw [hc]; intro x hx; cases hx) x hx
  simpa using this
theorem evDr_ok {A : Tab} (hA : A.Ok P) (hm : P.follows .mixedOrders = true) {call : Ev} (hC : COk A P B call) {N : Nat} {ops : Array Oper} {id : Nat} {r : Option Nat} {n : Nat} {Q : Exit → Act → World → Prop}
    {tm : T AV} {a : Act} {x : AX} {tm' : T AV} {h' : T AO} {nx' : Nat} (s : Sim A.R B e h nx w) (ht : TmR e tm a.tmps) (hN : a.tmps.size = N) (hv : evDr A call N ops.toList tm h nx = some (x, tm', h', nx'))
    (hQ : ∀ e' a' w' E, TmR e' tm' a'.tmps → a'.tmps.size = N → a'.defers = a.defers → Sim A.R B e' h' nx' w' → Ste A.R e h nx w e' h' nx' w' → XR e' x E → Q E a' w') :
    (Code.region id ops true).wpIn (Wd r) n P Q a w := by
  obtain ⟨st, hst, hv⟩ := Option.bind_eq_some_iff.1 hv
  split at hv <;> (try (cases hv; done))
  rename_i hnd hdn
  simp only at hv
  obtain ⟨⟨c, pn⟩, hgo, hv⟩ := Option.bind_eq_some_iff.1 hv
  obtain ⟨hlen, hsp⟩ := sts_spec ops.toList [] st hst
  obtain ⟨md, mc, mh, k1, k2, k3, k4, k5, k6, k7, k8, k9⟩ := drGo_ok hst ops.toList 0 st _ c pn hgo rfl rfl rfl rfl (by simp) List.nodup_nil
  have hdn' : ∀ (j : Nat) (s : St) (t : Tmp), st[j]? = some s → s.dst = some t → t < N := fun j s t hs hd => by
    have := List.all_eq_true.1 hdn s (List.mem_of_getElem? hs)
    rw [hd] at this
    exact blt_iff.1 this
  have hchain0 : ∀ p x, c.chain[p]? = some x → (False ↔ p < 0) := fun p x _ => ⟨False.elim, fun h => by omega⟩
  have hk0 : (c.hs ++ [c.cur])[0]? = some ⟨h, nx + ops.toList.length, 0⟩ := by rw [k3]; rfl
  have gsub : ∀ id o, gV st c.ds nx 0 (fun _ => False) h id = some o → h.get id = some o := by
    intro id o hg
    unfold gV at hg
    split at hg
    · simp at hg
    · exact hg
  have I0 : Inv st ops.toList c.ds c.chain (c.hs ++ [c.cur]) N A.R B nx tm e h w.drew a.defers (fun _ => False) 0 ⟨h, nx + ops.toList.length, 0⟩ e a w.drew :=
    { hk := hk0, size := hN, defs := rfl, t1 := fun _ _ _ _ _ _ hL => hL.elim, t2 := fun t v _ htv => ht t v htv, obj := fun i o hg => s.obj i o (gsub i o hg), inj := fun i j o o' b hi hj => s.inj i j o o' b (gsub i o hi) (gsub j o' hj),
      fresh := fun i hi => s.fresh i (by have hi' : nx + ops.toList.length ≤ i := hi; omega), res := fun j _ _ => s.fresh _ (by omega), glob := s.glob, own := fun i o b hR hg => s.own i o b hR (gsub i o hg), base := s.base, nxle := Nat.le_refl _, le := e.le_refl,
      os := rfl, tape := rfl, output := rfl, grown := Nat.le_refl _, blk := fun _ _ _ => rfl, img := fun i o b hR hg hb _ => ⟨i, o, hR, gsub i o hg, hb⟩, old := fun _ _ => rfl, chain := hchain0, vis := fun j hj => (by rw [bit_zero] at hj; cases hj),
      dc := fun _ _ _ hL => hL.elim }
  have hL0 : (fun j => (Array.replicate ops.size false).getD j false = true) = fun _ => False := by
    funext j
    simp [Array.getD_eq_getD_getElem?, Array.getElem?_replicate]
    split <;> rfl
  refine wpIn_region_any hm ?_
  cases pn with
  | none =>
    simp only at hv
    split at hv <;> (try (cases hv; done))
    rename_i hre
    obtain ⟨tmF, htm, hv⟩ := Option.bind_eq_some_iff.1 hv
    obtain ⟨hF, hvw, hv⟩ := Option.bind_eq_some_iff.1 hv
    simp only [Option.some.injEq, Prod.mk.injEq] at hv
    obtain ⟨rfl, rfl, rfl, rfl⟩ := hv
    have Z : Reck A call ops.toList st nx tm c.ds c.chain (c.hs ++ [c.cur]) N ops.toList.length := by
      refine ⟨hst, hnd, hdn', k7, fun j o s hlt ho hs => k8 j o s (Nat.zero_le _) (by simpa [limOf] using hlt) ho hs, fun j o s d tm1 _ ho hs hd hcl hdp htm1 hw => ?_⟩
      have := reGo_ok ops.toList 0 st c.ds hre j o s d tm1 ho hs hd hcl hdp (by rw [Nat.zero_add]; exact htm1) hw
      rw [Nat.zero_add] at this
      exact this
    refine Z.any hA hC (n := n) (r := r) (B := B) (e0 := e) (h0 := h) (w0 := w.drew) (ds := a.defers) ?_ ops.size (Array.replicate ops.size false) (by simp) (by simp) (k := 0) (x := ⟨h, nx + ops.toList.length, 0⟩) (e := e) (by rw [hL0]; exact I0)
    -- at the end
    intro k x e1 a1 w1 I
    have hall : ∀ j, bit (2 ^ ops.toList.length - 1) j = true → j < ops.size := by
      intro j hj
      unfold bit at hj
      rw [Nat.testBit_two_pow_sub_one] at hj
      simpa using hj
    have hkl : k = c.chain.length := by
      have hk := (List.getElem?_eq_some_iff.1 I.hk).1
      simp only [List.length_append, List.length_singleton, k5] at hk
      rcases Nat.lt_or_ge k c.chain.length with hlt | hge
      · exfalso
        have := (I.chain k c.chain[k] (List.getElem?_eq_getElem hlt))
        have hmem : c.chain[k] < ops.size := by
          have hin := List.getElem_mem hlt
          have := drGo_chain hgo rfl _ hin
          simpa using this
        have := this.1 hmem
        omega
      · omega
    have hx : x = c.cur := by
      have := I.hk
      rw [hkl, ← k5, List.getElem?_append_right (Nat.le_refl _)] at this
      simpa using this.symm
    subst hx
    have hai : ∀ j, bit (2 ^ ops.toList.length - 1) j = true → (fun j => j < ops.size) j := hall
    have hsub := vw_sub hst I hai hvw
    have htr : TmR e1 tmF a1.tmps := I.tmR hst hnd hai (fun j s' hs' hor => ?_) htm
    · have hs1 := I.sim hsub
      refine hQ e1 a1 w1 .normal htr I.size I.defs hs1 ⟨I.le, by have := I.nxle; omega, I.os, I.tape, I.output, I.grown, I.blk, fun i o b hR hi hb hlt => I.img i o b hR (hsub i o hi) hb hlt, I.old⟩ rfl
    · intro hj
      have hj : j < ops.size := hj
      rcases hor with hor | hor
      · simp at hor; omega
      · have := anc_lt hst hs' hor
        simp at this; omega
  | some p =>
    simp only at hv
    split at hv <;> (try (cases hv; done))
    rename_i hre
    cases hv
    obtain ⟨_, o, s', hvw, hp⟩ := k9 p rfl
    have hpi : p.i < ops.size := by have := (List.getElem?_eq_some_iff.1 hp.ho).1; simpa using this
    have Z : Reck A call ops.toList st nx tm c.ds c.chain (c.hs ++ [c.cur]) N p.i := by
      refine ⟨hst, hnd, hdn', k7, fun j o s hlt ho hs => k8 j o s (Nat.zero_le _) (by simpa [limOf] using hlt) ho hs, fun j o s d tm1 hlt ho hs hd hcl hdp htm1 hw => ?_⟩
      have := reGo_ok (ops.toList.take p.i) 0 st c.ds hre j o s d tm1 (by rw [List.getElem?_take_of_lt hlt]; exact ho) hs hd hcl hdp (by rw [Nat.zero_add]; exact htm1) hw
      rw [Nat.zero_add] at this
      exact this
    refine Z.anyP hA hC (n := n) (r := r) (B := B) (e0 := e) (h0 := h) (w0 := w.drew) (ds := a.defers) k5 hp (fun e1 a1 w1 U g1 g2 g3 g4 g5 g6 => ?_) ops.size (Array.replicate ops.size false) (by simp) (by simp) (by simp [Array.getD_eq_getD_getElem?, Array.getElem?_replicate, hpi]) (k := 0) (x := ⟨h, nx + ops.toList.length, 0⟩) (e := e) (by rw [hL0]; exact I0)
    exact hQ e1 a1 w1 _ g1 g2 g3 g4 (Ste.drew.trans g5) ⟨U, g6, rfl⟩
end
end
end Go.Xe

namespace Go.Xe
noncomputable section
set_option linter.unusedSimpArgs false

def iter (f : T AV → T AO → NX → Option Got) : Nat → T AV → T AO → NX → Option Got
  | 0, _, _, _ => none
  | k + 1, tm, h, z => match f tm h z with
    | some (.norm, tm', h', z') => iter f k tm' h' z'
    | r => r
def gotN (z : NX) (r : Option (AX × T AV × T AO × Nat)) : Option Got :=
  Option.rec (motive := fun _ => Option Got) none (fun q => Prod.rec (motive := fun _ => Option Got) (fun x r => Prod.rec (motive := fun _ => Option Got) (fun tm r => Prod.rec (motive := fun _ => Option Got) (fun h nx => some (x, tm, h, ⟨nx, z.ds, z.ok⟩)) r) r) q) r
theorem gotN_eq (z : NX) (r : Option (AX × T AV × T AO × Nat)) : gotN z r = r.bind fun q => some (q.1, q.2.1, q.2.2.1, ⟨q.2.2.2, z.ds, z.ok⟩) := by
  cases r <;> rfl
def loopThere (h : T AO) : Option Nat → Bool
  | none => true
  | some l => match h.get l with
    | some (.loop ..) => true
    | _ => false
def pendGot (pend : Option AX) (tm : T AV) (h3 : T AO) (z : NX) : Option Got := match pend with
  | none => some (.norm, tm, h3, z)
  | some (.exit i) => some (.exit i, tm, h3, z)
  | some .ret => some (.ret, tm, h3, z)
  | some _ => none
/-- What stands behind a range over a function, by the record that its rounds left. -/
def rfEnd (nx : Nat) (tm : T AV) (h2 : T AO) (z : NX) : Option Got := match h2.get nx with
  | some (.loop st pend ..) => match st with
    | .busy => none
    | _ => (h2.put 60 nx none).bind fun h3 => pendGot pend tm h3 z
  | _ => none
def rfDs (rd : Option Nat) (ds : List AV) : List AV := match rd with
  | none => .nilp :: ds
  | some _ => ds
/-- A range over a function. -/
def evRF (A : Tab) (call : Ev) (N : Nat) (rd : Option Nat) (g : Operand) (ps : Array Tmp) (asg body : Code) (tm : T AV) (h : T AO) (z : NX) : Option Got :=
  match loopThere h rd with
  | false => none
  | true => (opd A.R tm g).bind fun v => match v with
    | .func (.func fid) first cap => match Nat.beq fid YB with
      | true => none
      | false => (h.put 60 z.n (some (.loop .ready none tm N ps.toList asg body))).bind fun h1 =>
        (call fid (first ++ [.yld z.n] ++ cap) h1 (z.n + 1)).bind fun q => match isPan q.1 with
          | some u => (q.2.1.put 60 z.n none).bind fun h3 => some (.pan u, tm, h3, ⟨q.2.2, rfDs rd z.ds, z.ok⟩)
          | none => rfEnd z.n tm q.2.1 ⟨q.2.2, rfDs rd z.ds, z.ok⟩
    | _ => none
def evC0 (A : Tab) (call : Ev) (N lp : Nat) (rd : Option Nat) : Code → T AV → T AO → NX → Option Got
  | .skip, tm, h, nx => some (.norm, tm, h, nx)
  | .label _, tm, h, nx => some (.norm, tm, h, nx)
  | .region _ ops draw, tm, h, nx => match draw with
    | true => gotN nx (evDr A call N ops.toList tm h nx.n)
    | false => evOps A call N ops.toList ops.toList tm h nx
  | .seq a b, tm, h, nx => match evC0 A call N lp rd a tm h nx with
    | some (.norm, tm', h', nx') => evC0 A call N lp rd b tm' h' nx'
    | r => r
  | .cond c a b, tm, h, nx => match opd A.R tm c with
    | some (.bool true) => evC0 A call N lp rd a tm h nx
    | some (.bool false) => evC0 A call N lp rd b tm h nx
    | _ => none
  | .block id b, tm, h, nx => match evC0 A call N lp rd b tm h nx with
    | some (.exit i, tm', h', nx') => match Nat.beq i id with
      | true => some (.norm, tm', h', nx')
      | false => some (.exit i, tm', h', nx')
    | r => r
  | .loop b, tm, h, nx => iter (evC0 A call N lp rd b) lp tm h nx
  | .rangeFunc g ps asg body, tm, h, nx => evRF A call N rd g ps asg body tm h nx
  | .exit id, tm, h, nx => some (.exit id, tm, h, nx)
  | .ret, tm, h, nx => some (.ret, tm, h, nx)
  | _, _, _, _ => none

/-! The same, in few steps. -/
def seqK (r : Option Got) (k : T AV → T AO → NX → Option Got) : Option Got :=
  Option.rec (motive := fun _ => Option Got) none (fun q => Prod.rec (motive := fun _ => Option Got) (fun x r => Prod.rec (motive := fun _ => Option Got) (fun tm r => Prod.rec (motive := fun _ => Option Got) (fun h nx =>
    AX.rec (motive := fun _ => Option Got) (k tm h nx) (fun i => some (.exit i, tm, h, nx)) (some (.ret, tm, h, nx)) (fun u => some (.pan u, tm, h, nx)) x) r) r) q) r
theorem seqK_eq (r : Option Got) (k : T AV → T AO → NX → Option Got) : seqK r k = match r with
    | some (.norm, tm', h', nx') => k tm' h' nx'
    | r => r := by
  rcases r with _ | ⟨x, tm, h, nx⟩
  · rfl
  · cases x <;> rfl
def iterR (f : T AV → T AO → NX → Option Got) (k : Nat) : T AV → T AO → NX → Option Got :=
  Nat.rec (motive := fun _ => T AV → T AO → NX → Option Got) (fun _ _ _ => none) (fun _ ih tm h nx => seqK (f tm h nx) ih) k
theorem iterR_eq (f : T AV → T AO → NX → Option Got) : ∀ (k : Nat) (tm : T AV) (h : T AO) (nx : NX), iterR f k tm h nx = iter f k tm h nx
  | 0, _, _, _ => rfl
  | k + 1, tm, h, nx => by
    show seqK (f tm h nx) (iterR f k) = _
    rw [seqK_eq, iter]
    split
    · exact iterR_eq f k _ _ _
    · rfl
def blockK (id : Nat) (r : Option Got) : Option Got :=
  Option.rec (motive := fun _ => Option Got) none (fun q => Prod.rec (motive := fun _ => Option Got) (fun x r =>
    AX.rec (motive := fun _ => Option Got) (some (.norm, r)) (fun i => Bool.rec (motive := fun _ => Option Got) (some (.exit i, r)) (some (.norm, r)) (Nat.beq i id)) (some (.ret, r)) (fun u => some (.pan u, r)) x) q) r
theorem blockK_eq (id : Nat) (r : Option Got) : blockK id r = match r with
    | some (.exit i, tm', h', nx') => match Nat.beq i id with
      | true => some (.norm, tm', h', nx')
      | false => some (.exit i, tm', h', nx')
    | r => r := by
  rcases r with _ | ⟨x, tm, h, nx⟩
  · rfl
  · cases x with
    | norm => rfl
    | ret => rfl
    | pan u => rfl
    | exit i =>
      show Bool.rec (motive := fun _ => Option Got) (some (.exit i, tm, h, nx)) (some (.norm, tm, h, nx)) (Nat.beq i id) = match Nat.beq i id with
        | true => some (.norm, tm, h, nx)
        | false => some (.exit i, tm, h, nx)
      cases Nat.beq i id <;> rfl
def condK (c : Option AV) (k l : T AV → T AO → NX → Option Got) (tm : T AV) (h : T AO) (nx : NX) : Option Got :=
  Option.rec (motive := fun _ => Option Got) none (fun v => AV.casesOn (motive_1 := fun _ => Option Got) v (fun b => Bool.rec (motive := fun _ => Option Got) (l tm h nx) (k tm h nx) b)
    (fun _ _ => none) (fun _ => none) none (fun _ _ => none) none (fun _ _ _ _ => none) (fun _ _ _ _ => none) none (fun _ => none) (fun _ _ _ => none) none (fun _ _ => none) none (fun _ => none) (fun _ => none) (fun _ => none) (fun _ => none)) c
theorem condK_eq (c : Option AV) (k l : T AV → T AO → NX → Option Got) (tm : T AV) (h : T AO) (nx : NX) : condK c k l tm h nx = match c with
    | some (.bool true) => k tm h nx
    | some (.bool false) => l tm h nx
    | _ => none := by
  rcases c with _ | v
  · rfl
  · cases v <;> (try rfl)
    rename_i b
    cases b <;> rfl
def evC' (c : Code) : Tab → Ev → Nat → Nat → Option Nat → T AV → T AO → NX → Option Got :=
  Code.rec (motive := fun _ => Tab → Ev → Nat → Nat → Option Nat → T AV → T AO → NX → Option Got)
    (fun _ _ _ _ _ tm h nx => some (.norm, tm, h, nx))
    (fun _ ops draw A call N _ _ tm h nx => Bool.rec (motive := fun _ => Option Got) (evOps A call N ops.toList ops.toList tm h nx) (gotN nx (evDr A call N ops.toList tm h nx.n)) draw)
    (fun _ _ ia ib A call N lp rd tm h nx => seqK (ia A call N lp rd tm h nx) (ib A call N lp rd))
    (fun c _ _ ia ib A call N lp rd tm h nx => condK (opd A.R tm c) (ia A call N lp rd) (ib A call N lp rd) tm h nx)
    (fun id _ ib A call N lp rd tm h nx => blockK id (ib A call N lp rd tm h nx))
    (fun _ ib A call N lp rd tm h nx => iterR (ib A call N lp rd) lp tm h nx)
    (fun g ps asg body _ _ A call N _ rd tm h nx => evRF A call N rd g ps asg body tm h nx)
    (fun id _ _ _ _ _ tm h nx => some (.exit id, tm, h, nx))
    (fun _ _ _ _ _ _ _ _ _ _ => none)
    (fun _ _ _ _ _ _ tm h nx => some (.norm, tm, h, nx))
    (fun _ _ _ _ _ _ _ _ _ => none)
    (fun _ _ _ _ _ tm h nx => some (.ret, tm, h, nx))
    (fun _ _ _ _ _ _ _ _ _ => none)
    c
def evC (A : Tab) (call : Ev) (N lp : Nat) (rd : Option Nat) (c : Code) (tm : T AV) (h : T AO) (nx : NX) : Option Got := evC' c A call N lp rd tm h nx
theorem evC_eq (A : Tab) (call : Ev) (N lp : Nat) (rd : Option Nat) (c : Code) : ∀ (tm : T AV) (h : T AO) (nx : NX), evC A call N lp rd c tm h nx = evC0 A call N lp rd c tm h nx := by
  induction c with
  | region id ops draw => intro tm h nx; cases draw <;> rfl
  | seq a b iha ihb =>
    intro tm h nx
    have hb : evC' b A call N lp rd = evC0 A call N lp rd b := by funext x y z; exact ihb x y z
    have ha : evC' a A call N lp rd tm h nx = evC0 A call N lp rd a tm h nx := iha tm h nx
    show seqK (evC' a A call N lp rd tm h nx) (evC' b A call N lp rd) = _
    rw [ha, hb, seqK_eq]
    rfl
  | cond c a b iha ihb =>
    intro tm h nx
    have hb : evC' b A call N lp rd = evC0 A call N lp rd b := by funext x y z; exact ihb x y z
    have ha : evC' a A call N lp rd = evC0 A call N lp rd a := by funext x y z; exact iha x y z
    show condK (opd A.R tm c) (evC' a A call N lp rd) (evC' b A call N lp rd) tm h nx = _
    rw [ha, hb, condK_eq]
    rfl
  | block id b ih =>
    intro tm h nx
    have hb : evC' b A call N lp rd tm h nx = evC0 A call N lp rd b tm h nx := ih tm h nx
    show blockK id (evC' b A call N lp rd tm h nx) = _
    rw [hb, blockK_eq]
    rfl
  | loop b ih =>
    intro tm h nx
    have hb : evC' b A call N lp rd = evC0 A call N lp rd b := by funext x y z; exact ih x y z
    show iterR (evC' b A call N lp rd) lp tm h nx = _
    rw [hb, iterR_eq]
    rfl
  | _ => intro tm h nx; rfl

def evRes (A : Tab) (tm : T AV) (h : T AO) : List ResultVar → Option (List AV)
  | [] => some []
  | .tmp t :: l => (tm.get t).bind fun v => (evRes A tm h l).bind fun r => some (v :: r)
  | .cell a t :: l => (tm.get a).bind fun p => match p with
    | .ptr id off => (ldVar A h t id off).bind fun v => (evRes A tm h l).bind fun r => some (v :: r)
    | _ => none
def tmInit : List AV → Nat → T AV → Option (T AV)
  | [], _, tm => some tm
  | v :: l, i, tm => (tm.put 60 i (some v)).bind fun tm' => tmInit l (i + 1) tm'
def packA : List AV → AV
  | [v] => v
  | vs => .tup vs
/-- The temporaries of a round. -/
def setPs (N : Nat) : List Tmp → List AV → T AV → Option (T AV)
  | [], [], tm => some tm
  | p :: ps, v :: vs, tm => (tmPut N tm (some p) v).bind fun tm' => setPs N ps vs tm'
  | _, _, _ => none
def rdEnd (h : T AO) (id : Nat) (pend : Option AX) (n : Nat) (b : Bool) : Option (AV × T AO × Nat) := match h.get id with
  | some (.loop _ _ tm N ps asg body) => (h.put 60 id (some (.loop (match b with | true => .ready | false => .done) pend tm N ps asg body))).bind fun h' => some (.bool b, h', n)
  | _ => none
def rdMid (R : Nat) (h : T AO) (id : Nat) : Option (T AO) := match Nat.ble R id with
  | true => match h.get id with
    | some (.loop .ready p tm N ps asg body) => h.put 60 id (some (.loop .busy p tm N ps asg body))
    | _ => none
  | false => none
/-- A round of a range over a function. -/
def evRd2 (A : Tab) (call : Ev) (lp : Nat) (id N : Nat) (body : Code) (tm : T AV) (h : T AO) (nx : Nat) : Option (AV × T AO × Nat) :=
  (rdMid A.R h id).bind fun h3 => match evC A call N lp (some id) body tm h3 ⟨nx, [], false⟩ with
    | some (.norm, _, h4, n4) => rdEnd h4 id none n4.n true
    | some (.exit i, _, h4, n4) => rdEnd h4 id (some (.exit i)) n4.n false
    | some (.ret, _, h4, n4) => rdEnd h4 id (some .ret) n4.n false
    | _ => none
def evRnd (A : Tab) (call : Ev) (lp : Nat) (args : List AV) (h : T AO) (nx : Nat) : Option (AV × T AO × Nat) := match args with
  | .ptr id 0 :: ays => match h.get id with
    | some (.loop _ _ tm N ps asg body) => (setPs N ps ays tm).bind fun tm1 => match evC A call N lp (some id) asg tm1 h ⟨nx, [], false⟩ with
      | some (.norm, tm2, h2, ⟨n2, [], _⟩) => evRd2 A call lp id N body tm2 h2 n2
      | _ => none
    | _ => none
  | _ => none
/-! ### Deferred calls, and what they recover -/
abbrev GotS := AX × T AV × T AO × NX × Option AV
def isRec : Op → Bool
  | .call { callee := .builtin .recover, args := ⟨[]⟩, argTypes := _ } => true
  | _ => false
def evOpsS (A : Tab) (N : Nat) (all : List Oper) : List Oper → T AV → T AO → NX → Option AV → Option GotS
  | [], tm, h, z, m => some (.norm, tm, h, z, m)
  | o :: rest, tm, h, z, m => match wantA all tm o with
    | none => none
    | some false => (tmPut N tm o.dst (.tup [])).bind fun tm' => evOpsS A N all rest tm' h z m
    | some true => match isRec o.op with
      | true => (tmPut N tm o.dst (m.getD .nili)).bind fun tm' => evOpsS A N all rest tm' h z none
      | false => (evS A h z.n tm o.op).bind fun q => (tmPut N tm o.dst q.1).bind fun tm' => evOpsS A N all rest tm' q.2.1 ⟨q.2.2, z.ds, z.ok⟩ m
def evCS (A : Tab) (call : Ev) (N lp : Nat) : Code → T AV → T AO → NX → Option AV → Option GotS
  | .seq a b, tm, h, z, m => match evCS A call N lp a tm h z m with
    | some (.norm, tm', h', z', m') => evCS A call N lp b tm' h' z' m'
    | r => r
  | .cond c a b, tm, h, z, m => match opd A.R tm c with
    | some (.bool true) => evCS A call N lp a tm h z m
    | some (.bool false) => evCS A call N lp b tm h z m
    | _ => none
  | .region id ops false, tm, h, z, m => match ops.toList.any fun o => isRec o.op with
    | true => evOpsS A N ops.toList ops.toList tm h z m
    | false => (evC A call N lp none (.region id ops false) tm h z).bind fun q => some (q.1, q.2.1, q.2.2.1, q.2.2.2, m)
  | c, tm, h, z, m => (evC A call N lp none c tm h z).bind fun q => some (q.1, q.2.1, q.2.2.1, q.2.2.2, m)
/-- A deferred call; what panics is recovered, or goes on. -/
def evDef (A : Tab) (call : Ev) (lp : Nat) (f : Nat) (args : List AV) (m : Option AV) (h : T AO) (nx : Nat) : Option (Option AV × T AO × Nat) :=
  (A.fn.get f).bind fun fn => fn.body.bind fun c => match Nat.ble args.length fn.ntmps with
    | true => (tmInit args 0 .leaf).bind fun tm => match evCS A call fn.ntmps lp c tm h ⟨nx, [], true⟩ m with
      | some (.norm, tm', h', ⟨n', [], _⟩, m') => (evRes A tm' h' fn.results.toList).bind fun _ => some (m', h', n')
      | some (.ret, tm', h', ⟨n', [], _⟩, m') => (evRes A tm' h' fn.results.toList).bind fun _ => some (m', h', n')
      | _ => none
    | false => none
def leaveE (A : Tab) (call : Ev) (lp : Nat) : List AV → Option AV → T AO → Nat → Option (Option AV × T AO × Nat)
  | [], m, h, nx => some (m, h, nx)
  | .nilp :: ds, m, h, nx => leaveE A call lp ds m h nx
  | .func (.func f) args cap :: ds, m, h, nx => (evDef A call lp f (args ++ cap) m h nx).bind fun q => leaveE A call lp ds q.1 q.2.1 q.2.2
  | _ :: _, _, _, _ => none
def evEnd (A : Tab) (call : Ev) (lp : Nat) (fn : Func) (m : Option AV) (tm : T AV) (h : T AO) (z : NX) : Option (AV × T AO × Nat) :=
  (leaveE A call lp z.ds m h z.n).bind fun q => match q.1 with
    | none => (evRes A tm q.2.1 fn.results.toList).bind fun vs => some (packA vs, q.2.1, q.2.2)
    | some u => some (.pan u, q.2.1, q.2.2)
def evFn0 (A : Tab) (call : Ev) (lp : Nat) : Ev := fun f args h nx =>
  (A.fn.get f).bind fun fn => fn.body.bind fun c =>
    match Nat.ble args.length fn.ntmps with
    | true => (tmInit args 0 .leaf).bind fun tm =>
      match evC A call fn.ntmps lp none c tm h ⟨nx, [], true⟩ with
      | some (.norm, tm', h', z') => evEnd A call lp fn none tm' h' z'
      | some (.ret, tm', h', z') => evEnd A call lp fn none tm' h' z'
      | some (.pan u, tm', h', z') => evEnd A call lp fn (some u) tm' h' z'
      | _ => none
    | false => none
def evFn (A : Tab) (call : Ev) (lp : Nat) : Ev := fun f args h nx => match Nat.beq f YB with
  | true => evRnd A call lp args h nx
  | false => evFn0 A call lp f args h nx
def evCall (A : Tab) (lp : Nat) : Nat → Ev
  | 0 => fun _ _ _ _ => none
  | d + 1 => evFn A (evCall A lp d) lp

/-- The same, where some calls are answered by what is known of them. -/
def evCallS (A : Tab) (S : Ev) (lp : Nat) : Nat → Ev
  | 0 => S
  | d + 1 => fun f args h nx => match S f args h nx with
    | some r => some r
    | none => evFn A (evCallS A S lp d) lp f args h nx

section
variable {R : Nat} {B : Bs} {e : Env} {h : T AO} {nx : Nat} {w : World} {P : Program}

/-- A round of a loop, and the rounds behind it. -/
def LW (F : Fence) (n : Nat) (P : Program) (c : Code) (Q : Exit → Act → World → Prop) (a : Act) (w : World) : Prop :=
  ∀ (b : Frame) (k : List Item) (cs : List Frame), b.roundOf = F.round → F.fn b.fn → F.room (cs.length + 1 + n) →
    ∃ e a' w', Q e a' w' ∧ ArrivesIn (Machine.fenced P F) P (lone (b.atR a (.code c :: .inLoop c :: k)) cs w) b k cs e a' w'
theorem LW.round {F : Fence} {n : Nat} {c : Code} {Q : Exit → Act → World → Prop} {a : Act} {w : World} (hr : c.wpIn F n P (Exit.then (LW F n P c Q) Q) a w) : LW F n P c Q a w := by
  intro b k cs hro hb hroom
  obtain ⟨e, a₁, w₁, hq, harr⟩ := hr b (.inLoop c :: k) cs hro hb hroom
  cases e with
  | normal =>
    obtain ⟨e₂, a₂, w₂, hq₂, harr₂⟩ := hq b k cs hro hb hroom
    exact ⟨e₂, a₂, w₂, hq₂, .of_steps (StepsIn.trans harr (.one (fenced_calm hb hroom rfl) stepR_inLoop)) harr₂⟩
  | exit id => exact ⟨_, a₁, w₁, hq, .pass (x := .inLoop c) rfl (fun _ _ => .inl (by simp)) harr⟩
  | goto l => exact ⟨_, a₁, w₁, hq, .pass (x := .inLoop c) rfl (fun _ _ => .inl (by simp)) harr⟩
  | ret => exact ⟨_, a₁, w₁, hq, .pass (x := .inLoop c) rfl (fun _ _ => .inl (by simp)) harr⟩
  | panic ch => exact ⟨_, a₁, w₁, hq, .pass (x := .inLoop c) rfl (fun _ _ => .inl (by simp)) harr⟩
  | outgrown => exact ⟨_, a₁, w₁, hq, .pass (x := .inLoop c) rfl (fun _ _ => .inl (by simp)) harr⟩
theorem LW.loop {F : Fence} {n : Nat} {c : Code} {Q : Exit → Act → World → Prop} {a : Act} {w : World} (hl : LW F n P c Q a w) : (Code.loop c).wpIn F n P Q a w := by
  intro b k cs hro hb hroom
  obtain ⟨e, a', w', hq, harr⟩ := hl b k cs hro hb hroom
  exact ⟨e, a', w', hq, .of_steps (.one (fenced_calm hb hroom rfl) stepR_loop) harr⟩

/-- Is this the loop in one of whose rounds the code stands? -/
def RdR (e : Env) : Option Nat → Option Nat → Prop
  | none, none => True
  | some l, some b => e.blk l = some b
  | _, _ => False
theorem RdR.mono {e e' : Env} (hle : e.le e') {rd r : Option Nat} (hr : RdR e rd r) : RdR e' rd r := by
  cases rd <;> cases r <;> first | exact hr | exact (hle _ _ hr).1
def Goal (A : Tab) (B : Bs) (N : Nat) (rd r : Option Nat) (f : T AV → T AO → NX → Option Got) (W : (Exit → Act → World → Prop) → Act → World → Prop) : Prop :=
  ∀ {n0 : Nat} {e : Env} {h : T AO} {z : NX} {w : World} {tm : T AV} {a : Act} {x : AX} {tm' : T AV} {h' : T AO} {z' : NX} {Q : Exit → Act → World → Prop},
    Sim A.R B e h z.n w → TmR e tm a.tmps → a.tmps.size = N → RdR e rd r → (z.ok = true → r = none) → n0 ≤ w.heap.size → DR A.R e h w n0 z.ds a.defers → f tm h z = some (x, tm', h', z') →
    (∀ e' a' w' E, TmR e' tm' a'.tmps → a'.tmps.size = N → z'.ok = z.ok → DR A.R e' h' w' n0 z'.ds a'.defers → Sim A.R B e' h' z'.n w' → Ste A.R e h z.n w e' h' z'.n w' → XR e' x E → Q E a' w') → W Q a w

theorem iter_ok {A : Tab} {N : Nat} {F : Fence} {n : Nat} {c : Code} {f : T AV → T AO → NX → Option Got} {rd r : Option Nat} (hf : Goal A B N rd r f (fun Q => c.wpIn F n P Q)) : ∀ k, Goal A B N rd r (iter f k) (fun Q => LW F n P c Q) := by
  intro k
  induction k with
  | zero => intro n0 e h z w tm a x tm' h' z' Q _ _ _ _ _ _ _ hv _; cases hv
  | succ k ih =>
    intro n0 e h z w tm a x tm' h' z' Q s ht hN hr hz hn hd hv hQ
    refine LW.round ?_
    rw [iter] at hv
    split at hv
    · rename_i tm1 h1 n1 hfv
      refine hf s ht hN hr hz hn hd hfv fun e1 a1 w1 E1 g1 g2 g3 g4 g5 g6 g7 => ?_
      obtain rfl : E1 = .normal := g7
      exact ih g5 g1 g2 (hr.mono g6.le) (g3 ▸ hz) (Nat.le_trans hn g6.size) g4 hv fun e2 a2 w2 E2 k1 k2 k3 k4 k5 k6 k7 => hQ e2 a2 w2 E2 k1 k2 (k3.trans g3) k4 k5 (g6.trans k6) k7
    · rename_i hno
      refine hf s ht hN hr hz hn hd hv fun e1 a1 w1 E1 g1 g2 g3 g4 g5 g6 g7 => ?_
      have hq := hQ e1 a1 w1 E1 g1 g2 g3 g4 g5 g6 g7
      cases x with
      | norm => exact (hno _ _ _ hv).elim
      | exit id => obtain rfl : E1 = .exit id := g7; exact hq
      | ret => obtain rfl : E1 = .ret := g7; exact hq
      | pan u => obtain ⟨U, _, rfl⟩ := g7; exact hq
/-- A block of which nothing is known. -/
theorem Sim.skip (s : Sim R B e h nx w) (O : Obj) : Sim R B e h nx (w.alloc O) ∧ Ste R e h nx w e h nx (w.alloc O) :=
  ⟨⟨fun i o hi => by
      obtain ⟨b, Q, h1, h2, h3⟩ := s.obj i o hi
      exact ⟨b, Q, h1, (heap_alloc_lt w O b (Array.getElem?_eq_some_iff.1 h2).1).trans h2, h3⟩, s.inj, s.fresh, s.glob, s.own,
    ⟨by have := s.base.1; rw [size_alloc]; omega, s.base.2.1, s.base.2.2.1, fun k hk => (heap_alloc_lt w O k (Nat.lt_of_lt_of_le hk s.base.1)).trans (s.base.2.2.2 k hk)⟩⟩,
   ⟨e.le_refl, Nat.le_refl _, rfl, rfl, rfl, by rw [size_alloc]; omega, fun k hk _ => heap_alloc_lt w O k hk, fun i o _ hi ho hib _ => ⟨i, o, hi, ho, hib⟩, fun _ _ => rfl⟩⟩
theorem run_getLoop {b : Nat} {rc : Loop} (hO : w.heap[b]? = some (.loop rc)) : (Instr.getLoop b).run P w = .ok rc w := by
  simp [Instr.getLoop, getObj, Sem.run, hO, Result.andThen]
/-- A block of which nothing is known may change. -/
theorem Sim.off (s : Sim R B e h nx w) {D : Nat} (O : Obj) (hD : ∀ i o, R ≤ i → h.get i = some o → e.blk i ≠ some D) (hn : B.n ≤ D) : Sim R B e h nx { w with heap := w.heap.setIfInBounds D O } := by
  have key : ∀ k, k ≠ D → (w.heap.setIfInBounds D O)[k]? = w.heap[k]? := fun k hk => by simp [Array.getElem?_setIfInBounds, Ne.symm hk]
  refine ⟨fun i o hi => ?_, s.inj, s.fresh, s.glob, s.own, ⟨by simpa using s.base.1, s.base.2.1, s.base.2.2.1, fun k hk => (key k (by omega)).trans (s.base.2.2.2 k hk)⟩⟩
  obtain ⟨b, Q, h1, h2, h3⟩ := s.obj i o hi
  refine ⟨b, Q, h1, (key b fun hh => ?_).trans h2, h3⟩
  subst hh
  by_cases hR : R ≤ i
  · exact hD i o hR hi h1
  · have := s.glob i (by omega)
    rw [h1] at this
    have h5 := Option.some.inj this
    have := s.base.2.1
    omega
theorem DR.tgt {n0 : Nat} : ∀ {l : List AV} {L : List Deferred}, DR R e h w n0 l L → ∀ d ∈ L, ∀ D, d.target = .collected D → D < w.heap.size
  | _, _, .nil, d, hd, _, _ => by cases hd
  | _, _, .mark D l L hl q1 q2 q3 q4, d, hd, D', ht => by
    cases hd with
    | head => cases ht; exact (Array.getElem?_eq_some_iff.1 q2).1
    | tail _ hd => exact hl.tgt d hd D' ht
  | _, _, .call f args cap ARGS CAP l L ha hc hf hl, d, hd, D', ht => by
    cases hd with
    | head => cases ht
    | tail _ hd => exact hl.tgt d hd D' ht
theorem evRF_ok {A : Tab} {call : Ev} (hC : COk A P B call) {N : Nat} {rd r : Option Nat} {n : Nat} {g : Operand} {ps : Array Tmp} {asg body : Code} : Goal A B N rd r (evRF A call N rd g ps asg body) (fun Q => (Code.rangeFunc g ps asg body).wpIn (Wd r) n P Q) := by
  intro n0 e h z w tm a x tm' h' z' Q s ht hN hr hz hn0 hd hv hQ
  unfold evRF at hv
  split at hv <;> (try (cases hv; done))
  rename_i hth
  obtain ⟨v, hg, hv1⟩ := Option.bind_eq_some_iff.1 hv
  clear hv
  have hG := opd_ok s ht hg
  generalize hGe : a.eval g = G at hG
  split at hv1 <;> (try (cases hv1; done))
  rename_i fid first cap
  split at hv1 <;> (try (cases hv1; done))
  rename_i hne
  have hne : fid ≠ YB := fun hh => by rw [hh, Nat.beq_refl] at hne; cases hne
  obtain ⟨h1, hp, hv⟩ := Option.bind_eq_some_iff.1 hv1
  clear hv1
  obtain ⟨⟨v2, h2, n2⟩, hcall, hv1⟩ := Option.bind_eq_some_iff.1 hv
  clear hv
  simp only at hv1
  cases hG with
  | func _ _ _ F C hF hCc =>
    have hj := (hC fid _ _ _ _ _ _ hcall).2 hne
    have core : ∀ (w0 : World) (mark : List Deferred) (dfr : Nat) (fn : FuncId), Sim A.R B e h z.n w0 → Ste A.R e h z.n w e h z.n w0 → DR A.R e h w0 n0 (rfDs rd z.ds) (mark ++ a.defers) →
        (Instr.enterLoop fn a.tmps ps asg body r).run P w = .ok (w0.heap.size, mark) (w0.alloc (.loop { state := .ready, pending := none, fn := fn, tmps := a.tmps, params := ps, assign := asg, body := body, defers := dfr })) →
        ∃ (l : Nat) (mark : List Deferred) (w₁ : World) (d : Deferred) (w₁' : World) (f : FuncId) (args : Array Value) (w₂ : World),
          (Instr.enterLoop fn a.tmps ps asg body (Wd r).round).run P w = .ok (l, mark) w₁ ∧ (resolve a.eval (rangeCall g l) 0).run P w₁ = .ok d w₁' ∧
          (∀ f', Target.leads P w₁' d.target d.args = some f' → (Wd r).fn f') ∧ (invoke d.target d.args).run P w₁' = .ok (.enter f args) w₂ ∧
          ((Wd r).depth.isSome = true → 1 ≤ n) ∧ CallsIn (Wd r) (n - 1) P f args w₂ (rangePost (Wd r) n P l Q { a with defers := mark ++ a.defers }) := by
      intro w0 mark dfr fn s0 st0 df0 hent
      obtain ⟨hb, _, hs1, hst1⟩ := s0.push (O := .loop { state := .ready, pending := none, fn := fn, tmps := a.tmps, params := ps, assign := asg, body := body, defers := dfr }) hp 0
        (fun e' hle _ => ⟨_, rfl, rfl, rfl, rfl, rfl, rfl, hN, ht.mono hle⟩)
      have hargs : VRs (e.put z.n w0.heap.size 0) (first ++ [.yld z.n] ++ cap) (F ++ [.func (.yield w0.heap.size) ⟨[]⟩ ⟨[]⟩] ++ C) := ((hF.mono hst1.le).append (VRs.one (.yld _ _ hb))).append (hCc.mono hst1.le)
      obtain ⟨wl, hwl⟩ : ∃ wl, wl = w0.alloc (.loop { state := .ready, pending := none, fn := fn, tmps := a.tmps, params := ps, assign := asg, body := body, defers := dfr }) := ⟨_, rfl⟩
      rw [← hwl] at hent hs1 hst1
      refine ⟨w0.heap.size, mark, wl, ⟨.fn (.func fid) ⟨C⟩, ⟨F ++ [.func (.yield w0.heap.size) ⟨[]⟩ ⟨[]⟩]⟩⟩, wl, fid, ⟨F ++ [.func (.yield w0.heap.size) ⟨[]⟩ ⟨[]⟩] ++ C⟩, wl, hent, ?_, fun _ _ => trivial, ?_, fun hd => by simp [Wd, Fence.wide] at hd, ?_⟩
      · have hres : resolve a.eval (rangeCall g w0.heap.size) 0 = pure ⟨.fn (.func fid) ⟨C⟩, ⟨F ++ [.func (.yield w0.heap.size) ⟨[]⟩ ⟨[]⟩]⟩⟩ := by
          simp only [resolve, rangeCall, hGe, Deferred.ofValue]
          congr 2
          apply Array.ext'
          simp [Act.eval]
        rw [hres]; rfl
      · have := hj.1 ⟨F ++ [.func (.yield w0.heap.size) ⟨[]⟩ ⟨[]⟩] ++ C⟩ wl
        simp only [invoke]
        rw [← this]
        congr 2
        apply Array.ext'
        simp
      · have hc := hj.2 _ _ _ (n - 1) hs1 hargs
        have hc' : CallsIn (Wd r) (n - 1) P fid _ _ _ := hc
        refine hc'.mono ?_
        rintro E w3 ⟨e2, hER, hs2, hst2⟩
        have hb2 : e2.blk z.n = some w0.heap.size := (hst2.le z.n _ hb).1
        rcases hER with ⟨V, rfl, hV⟩ | ⟨u, U, hu, rfl, hU⟩
        · have hnp : isPan v2 = none := by cases hV <;> rfl
          rw [hnp] at hv1
          have hv : rfEnd z.n tm h2 ⟨n2, rfDs rd z.ds, z.ok⟩ = some (x, tm', h', z') := hv1
          unfold rfEnd at hv
          split at hv <;> (try (cases hv; done))
          rename_i st pend tmL NL psL asgL bodyL hlo
          obtain ⟨b', O, hb', hO, rc, rfl, q1, q2, q3, q4, q5, q6, q7⟩ := hs2.obj z.n _ hlo
          obtain rfl : b' = w0.heap.size := by rw [hb2] at hb'; exact (Option.some.inj hb').symm
          have hbusy : st ≠ .busy ∧ ∃ h3, h2.put 60 z.n none = some h3 ∧ pendGot pend tm h3 ⟨n2, rfDs rd z.ds, z.ok⟩ = some (x, tm', h', z') := by
            split at hv
            · cases hv
            · rename_i hnb
              obtain ⟨h3, hp3, hv⟩ := Option.bind_eq_some_iff.1 hv
              exact ⟨hnb, h3, hp3, hv⟩
          obtain ⟨hnb, h3, hp3, hv⟩ := hbusy
          have hrun : (Instr.endLoop w0.heap.size).run P w3 = .ok (pendC pend) { w3 with heap := w3.heap.setIfInBounds w0.heap.size (.loop { rc with state := .exhausted }) } := by
            have hst : ¬ rc.state = LoopState.busy := by rw [q1]; exact hnb
            simp [Instr.endLoop, run_getLoop hO, Result.andThen, hst, setObj, Sem.run, hO, q2]
          obtain ⟨hs4, hst4⟩ := hs2.gone hlo s.base.2.2.1 hb2 hp3 (w' := { w3 with heap := w3.heap.setIfInBounds w0.heap.size (.loop { rc with state := .exhausted }) }) (fun k hk => by simp [Array.getElem?_setIfInBounds, Ne.symm hk]) (by simp) rfl rfl rfl
          have hall := hst1.trans (hst2.trans hst4)
          have hfin := fun E => hQ e2 { a with defers := mark ++ a.defers } { w3 with heap := w3.heap.setIfInBounds w0.heap.size (.loop { rc with state := .exhausted }) } E
          refine ⟨pendC pend, _, hrun, ?_⟩
          unfold pendGot at hv
          split at hv
          · cases hv; exact hfin .normal (ht.mono hall.le) hN rfl (df0.mono hall) hs4 (st0.trans hall) rfl
          · cases hv; exact wpIn_exit (hfin (.exit _) (ht.mono hall.le) hN rfl (df0.mono hall) hs4 (st0.trans hall) rfl)
          · cases hv; exact wpIn_ret (hfin .ret (ht.mono hall.le) hN rfl (df0.mono hall) hs4 (st0.trans hall) rfl)
          · cases hv
        · rw [hu] at hv1
          have hv : ((h2.put 60 z.n none).bind fun h3 => some (.pan u, tm, h3, ⟨n2, rfDs rd z.ds, z.ok⟩) : Option Got) = some (x, tm', h', z') := hv1
          obtain ⟨h3, hp3, hv⟩ := Option.bind_eq_some_iff.1 hv
          cases hv
          obtain ⟨hs4, hst4⟩ := hs2.drop hp3
          have hall := hst1.trans (hst2.trans hst4)
          exact hQ e2 { a with defers := mark ++ a.defers } w3 _ (ht.mono hall.le) hN rfl (df0.mono hall) hs4 (st0.trans hall) ⟨U, hU, rfl⟩
    refine wpIn_rangeFunc fun fn _ => ?_
    cases rd with
    | none =>
      cases r with
      | some b => exact hr.elim
      | none =>
        obtain ⟨s0, st0⟩ := s.skip (.deferred (some []))
        refine core (w.alloc (.deferred (some []))) [markOf w.heap.size] w.heap.size fn s0 st0 (.mark _ _ _ (hd.mono st0) hn0 (heap_alloc_at _ _) (fun i o hi ho hb => Nat.lt_irrefl _ (s.lt ho hb)) (fun d hdm hdt => Nat.lt_irrefl _ (hd.tgt d hdm _ hdt))) ?_
        rfl
    | some l' =>
      cases r with
      | none => exact hr.elim
      | some b =>
        have hr' : e.blk l' = some b := hr
        unfold loopThere at hth
        simp only at hth
        split at hth <;> (try (cases hth; done))
        rename_i hlo
        obtain ⟨b', O, hb', hO, rc, rfl, _⟩ := s.obj l' _ hlo
        obtain rfl : b' = b := by rw [hr'] at hb'; exact (Option.some.inj hb').symm
        refine core w [] rc.defers fn s Ste.refl hd ?_
        simp only [Instr.enterLoop, Sem.run_bind, run_getLoop hO, Result.andThen, Sem.run_pure]
        rfl

theorem evC_ok {A : Tab} (hA : A.Ok P) (hm : P.follows .mixedOrders = true) {call : Ev} (hC : COk A P B call) {N lp : Nat} {rd r : Option Nat} {n : Nat} : ∀ c : Code, Goal A B N rd r (evC0 A call N lp rd c) (fun Q => c.wpIn (Wd r) n P Q) := by
  intro c
  induction c with
  | skip => intro n0 e h z w tm a x tm' h' z' Q s ht hN hr hz hn hd hv hQ; cases hv; exact wpIn_skip (hQ e a w _ ht hN rfl hd s Ste.refl rfl)
  | label l => intro n0 e h z w tm a x tm' h' z' Q s ht hN hr hz hn hd hv hQ; cases hv; exact wpIn_label (hQ e a w _ ht hN rfl hd s Ste.refl rfl)
  | exit id => intro n0 e h z w tm a x tm' h' z' Q s ht hN hr hz hn hd hv hQ; cases hv; exact wpIn_exit (hQ e a w _ ht hN rfl hd s Ste.refl rfl)
  | ret => intro n0 e h z w tm a x tm' h' z' Q s ht hN hr hz hn hd hv hQ; cases hv; exact wpIn_ret (hQ e a w _ ht hN rfl hd s Ste.refl rfl)
  | goto l => intro n0 e h z w tm a x tm' h' z' Q s ht hN hr hz hn hd hv hQ; cases hv
  | refuse y => intro n0 e h z w tm a x tm' h' z' Q s ht hN hr hz hn hd hv hQ; cases hv
  | scope b ih => intro n0 e h z w tm a x tm' h' z' Q s ht hN hr hz hn hd hv hQ; cases hv
  | rangeFunc g ps asg b ih1 ih2 => intro n0 e h z w tm a x tm' h' z' Q s ht hN hr hz hn hd hv hQ; exact evRF_ok hC s ht hN hr hz hn hd hv hQ
  | region id ops draw =>
    intro n0 e h z w tm a x tm' h' z' Q s ht hN hr hz hn hd hv hQ
    cases draw with
    | true =>
      simp only [evC0] at hv
      rw [gotN_eq] at hv
      obtain ⟨⟨x1, t1, h1, n1⟩, hdr, hv⟩ := Option.bind_eq_some_iff.1 hv
      cases hv
      exact evDr_ok hA hm hC s ht hN hdr fun e1 a1 w1 E1 g1 g2 g3 g4 g5 g6 => hQ e1 a1 w1 E1 g1 g2 rfl (by rw [g3]; exact hd.mono g5) g4 g5 g6
    | false =>
      simp only [evC0] at hv
      refine wpIn_region ?_
      have := evOps_ok (r := r) (n := n) (n0 := n0) (Q := Q) hA hC ops.toList 0 rfl s ht hN hz hd hv hQ
      simpa [List.range_eq_range'] using this
  | seq c1 c2 ih1 ih2 =>
    intro n0 e h z w tm a x tm' h' z' Q s ht hN hr hz hn hd hv hQ
    refine wpIn_seq ?_
    simp only [evC0] at hv
    split at hv
    · rename_i t1 h1 n1 hv1
      refine ih1 s ht hN hr hz hn hd hv1 fun e1 a1 w1 E1 g1 g2 g3 g4 g5 g6 g7 => ?_
      obtain rfl : E1 = .normal := g7
      exact ih2 g5 g1 g2 (hr.mono g6.le) (g3 ▸ hz) (Nat.le_trans hn g6.size) g4 hv fun e2 a2 w2 E2 k1 k2 k3 k4 k5 k6 k7 => hQ e2 a2 w2 E2 k1 k2 (k3.trans g3) k4 k5 (g6.trans k6) k7
    · rename_i hno
      refine ih1 s ht hN hr hz hn hd hv fun e1 a1 w1 E1 g1 g2 g3 g4 g5 g6 g7 => ?_
      have hq := hQ e1 a1 w1 E1 g1 g2 g3 g4 g5 g6 g7
      cases x with
      | norm => exact (hno _ _ _ hv).elim
      | exit id => obtain rfl : E1 = .exit id := g7; exact hq
      | ret => obtain rfl : E1 = .ret := g7; exact hq
      | pan u => obtain ⟨U, _, rfl⟩ := g7; exact hq
  | cond cd c1 c2 ih1 ih2 =>
    intro n0 e h z w tm a x tm' h' z' Q s ht hN hr hz hn hd hv hQ
    simp only [evC0] at hv
    split at hv
    · rename_i hc
      have hcv := opd_ok s ht hc
      generalize hce : a.eval cd = C at hcv
      cases hcv
      exact wpIn_cond_true hce (ih1 s ht hN hr hz hn hd hv hQ)
    · rename_i hc
      have hcv := opd_ok s ht hc
      generalize hce : a.eval cd = C at hcv
      cases hcv
      exact wpIn_cond_false hce (ih2 s ht hN hr hz hn hd hv hQ)
    · cases hv
  | block id b ih =>
    intro n0 e h z w tm a x tm' h' z' Q s ht hN hr hz hn hd hv hQ
    refine wpIn_block ?_
    simp only [evC0] at hv
    split at hv
    · rename_i i t1 h1 n1 hv1
      refine ih s ht hN hr hz hn hd hv1 fun e1 a1 w1 E1 g1 g2 g3 g4 g5 g6 g7 => ?_
      obtain rfl : E1 = .exit i := g7
      split at hv
      · rename_i hb
        have hb := Nat.eq_of_beq_eq_true hb
        cases hv
        have hq := hQ e1 a1 w1 .normal g1 g2 g3 g4 g5 g6 rfl
        simp only [Exit.inBlock, hb, if_true]
        exact hq
      · rename_i hb
        have hb : i ≠ id := fun hh => by rw [hh, Nat.beq_refl] at hb; cases hb
        cases hv
        have hq := hQ e1 a1 w1 (.exit i) g1 g2 g3 g4 g5 g6 rfl
        simp only [Exit.inBlock, if_neg hb]
        exact hq
    · rename_i hno
      refine ih s ht hN hr hz hn hd hv fun e1 a1 w1 E1 g1 g2 g3 g4 g5 g6 g7 => ?_
      have hq := hQ e1 a1 w1 E1 g1 g2 g3 g4 g5 g6 g7
      cases x with
      | norm => obtain rfl : E1 = .normal := g7; exact hq
      | exit id => exact (hno _ _ _ _ hv).elim
      | ret => obtain rfl : E1 = .ret := g7; exact hq
      | pan u => obtain ⟨U, _, rfl⟩ := g7; exact hq
  | loop b ih =>
    intro n0 e h z w tm a x tm' h' z' Q s ht hN hr hz hn hd hv hQ
    exact LW.loop (iter_ok ih lp s ht hN hr hz hn hd hv hQ)

def resF (tmps : Array Value) : ResultVar → Sem Value
  | .tmp t => pure (tmps.getD t undef)
  | .cell a t => do loadVar t (← asAddr (tmps.getD a undef))
theorem results_eq (fn : Func) (tmps : Array Value) : results fn tmps = (do
    let vs ← fn.results.mapM (resF tmps)
    pure (if h : vs.size = 1 then vs[0] else .tuple vs)) := by
  unfold results
  congr 1
theorem evRes_ok {A : Tab} (hA : A.Ok P) (s : Sim A.R B e h nx w) {tm : T AV} {tmps : Array Value} (ht : TmR e tm tmps) : ∀ {l : List ResultVar} {vs : List AV}, evRes A tm h l = some vs →
    ∃ VS, (l.mapM (resF tmps)).run P w = .ok VS w ∧ VRs e vs VS
  | [], _, h => by cases h; exact ⟨[], by simp, .nil⟩
  | .tmp t :: l, _, h => by
    obtain ⟨v, hv, h⟩ := Option.bind_eq_some_iff.1 h
    obtain ⟨r, hr, h⟩ := Option.bind_eq_some_iff.1 h
    cases h
    obtain ⟨V, h1, h2⟩ := ht t v hv
    obtain ⟨VS, h3, h4⟩ := evRes_ok hA s ht hr
    refine ⟨V :: VS, ?_, .cons _ _ _ _ h2 h4⟩
    have hget : tmps.getD t undef = V := by simp [Array.getD_eq_getD_getElem?, h1]
    simp only [List.mapM_cons, resF, Sem.run_bind, Sem.run_pure, hget, Result.andThen, h3]
  | .cell a t :: l, _, h => by
    obtain ⟨p, hp, h⟩ := Option.bind_eq_some_iff.1 h
    split at h <;> (try (cases h; done))
    rename_i id off
    obtain ⟨v, hv, h⟩ := Option.bind_eq_some_iff.1 h
    obtain ⟨r, hr, h⟩ := Option.bind_eq_some_iff.1 h
    cases h
    obtain ⟨PV, h1, h2⟩ := ht a _ hp
    cases h2 with
    | ptr _ _ b hb =>
      obtain ⟨V, h5, h6⟩ := ldVar_ok (P := P) hA s hv hb
      obtain ⟨VS, h3, h4⟩ := evRes_ok hA s ht hr
      refine ⟨V :: VS, ?_, .cons _ _ _ _ h6 h4⟩
      have hget : tmps.getD a undef = .pointer (some ⟨b, off, none⟩) := by rw [Array.getD_eq_getD_getElem?, h1]; rfl
      simp only [List.mapM_cons, resF, Sem.run_bind, Sem.run_pure, hget, asAddr, h5, Result.andThen, h3]

theorem tmInit_ok : ∀ {l : List AV} {L : List Value} {i : Nat} {tm tm' : T AV} {tmps : Array Value}, tmInit l i tm = some tm' → VRs e l L → TmR e tm tmps →
    (∀ (j : Nat) (V : Value), L[j]? = some V → tmps[i + j]? = some V) → TmR e tm' tmps
  | [], _, _, _, _, _, h, .nil, ht, _ => by cases h; exact ht
  | v :: l, _, i, tm, _, tmps, h, .cons _ V _ L hv hs, ht, hg => by
    obtain ⟨t1, hp, h⟩ := Option.bind_eq_some_iff.1 h
    have hput := T.put_get 60 tm i (some v) t1 hp
    refine tmInit_ok h hs (fun k u hk => ?_) (fun j W hj => ?_)
    · rw [hput] at hk
      by_cases hki : k = i
      · subst hki
        rw [if_pos rfl] at hk
        cases hk
        exact ⟨V, by simpa using hg 0 V rfl, hv⟩
      · rw [if_neg hki] at hk
        exact ht k u hk
    · have := hg (j + 1) W (by simpa using hj)
      rw [show i + 1 + j = i + (j + 1) by omega]
      exact this
theorem results_ok {A : Tab} (hA : A.Ok P) (s : Sim A.R B e h nx w) {tm : T AV} {tmps : Array Value} (ht : TmR e tm tmps) {fn : Func} {vs : List AV} (hv : evRes A tm h fn.results.toList = some vs) :
    ∃ V, (results fn tmps).run P w = .ok V w ∧ VR e (packA vs) V := by
  obtain ⟨VS, h1, h2⟩ := evRes_ok (P := P) hA s ht hv
  rw [results_eq]
  simp only [Array.mapM_eq_mapM_toList, Sem.run_bind, Sem.run_map]
  rw [h1]
  simp only [Result.andThen, Sem.run_pure]
  refine ⟨_, rfl, ?_⟩
  cases h2 with
  | nil => exact .tup _ _ .nil
  | cons v V l L hvv hs =>
    cases hs with
    | nil => exact hvv
    | cons v2 V2 l2 L2 hv2 hs2 =>
      have : ¬ (V :: V2 :: L2).toArray.size = 1 := by simp
      rw [dif_neg this]
      exact .tup _ _ (.cons _ _ _ _ hvv (.cons _ _ _ _ hv2 hs2))

/-! What is left behind: modes of a frame that goes. -/
/-- The mode, settled. -/
def SM (e : Env) : Option AV → FrameMode → Prop
  | none, md => md = .returning
  | some u, md => ∃ U, VR e u U ∧ md = .panicking [{ v := U, recovered := false }]
/-- The mode while a deferred call runs. -/
def MR (e : Env) : Option AV → FrameMode → Prop
  | none, md => md = .returning ∨ ∃ U, md = .panicking [{ v := U, recovered := true }]
  | some u, md => ∃ U, VR e u U ∧ md = .panicking [{ v := U, recovered := false }]
theorem SM.mr {m : Option AV} {md : FrameMode} (hs : SM e m md) : MR e m md := by
  cases m with
  | none => exact .inl hs
  | some u => exact hs
theorem MR.settle {m : Option AV} {md : FrameMode} (hs : MR e m md) : SM e m (settle md) := by
  cases m with
  | none =>
    rcases hs with rfl | ⟨U, rfl⟩
    · rfl
    · rfl
  | some u =>
    obtain ⟨U, h1, rfl⟩ := hs
    exact ⟨U, h1, rfl⟩
theorem SM.mono {e' : Env} (hle : e.le e') {m : Option AV} {md : FrameMode} (hs : SM e m md) : SM e' m md := by
  cases m with
  | none => exact hs
  | some u => obtain ⟨U, h1, h2⟩ := hs; exact ⟨U, h1.mono hle, h2⟩
theorem MR.mono {e' : Env} (hle : e.le e') {m : Option AV} {md : FrameMode} (hs : MR e m md) : MR e' m md := by
  cases m with
  | none => exact hs
  | some u => obtain ⟨U, h1, h2⟩ := hs; exact ⟨U, h1.mono hle, h2⟩
theorem SM.run {m : Option AV} {md : FrameMode} (hs : SM e m md) : md ≠ .run := by
  cases m with
  | none => rw [hs]; simp
  | some u => obtain ⟨U, _, rfl⟩ := hs; simp
def GoalS (A : Tab) (B : Bs) (N : Nat) (c0 : Frame) (cs0 : List Frame) (f : T AV → T AO → NX → Option AV → Option GotS) (W : (Exit → Act → List Frame → World → Prop) → Act → List Frame → World → Prop) : Prop :=
  ∀ {n0 : Nat} {e : Env} {h : T AO} {z : NX} {w : World} {tm : T AV} {a : Act} {m : Option AV} {md : FrameMode} {x : AX} {tm' : T AV} {h' : T AO} {z' : NX} {m' : Option AV} {Q : Exit → Act → List Frame → World → Prop},
    Sim A.R B e h z.n w → TmR e tm a.tmps → a.tmps.size = N → n0 ≤ w.heap.size → DR A.R e h w n0 z.ds a.defers → MR e m md → f tm h z m = some (x, tm', h', z', m') →
    (∀ e' a' w' E md', TmR e' tm' a'.tmps → a'.tmps.size = N → DR A.R e' h' w' n0 z'.ds a'.defers → Sim A.R B e' h' z'.n w' → Ste A.R e h z.n w e' h' z'.n w' → MR e' m' md' → XR e' x E → Q E a' ({ c0 with mode := md' } :: cs0) w') → W Q a ({ c0 with mode := md } :: cs0) w
theorem evOpsS_ok {A : Tab} (hA : A.Ok P) {N : Nat} {ops : Array Oper} {n : Nat} {c0 : Frame} {cs0 : List Frame} : ∀ (l : List Oper) (i : Nat), ops.toList.drop i = l →
    GoalS A B N c0 cs0 (evOpsS A N ops.toList l) (fun Q a cs w => wpOpsSIn (Wd none) n P ops Q (List.range' i l.length) a cs w) := by
  intro l
  induction l with
  | nil =>
    intro i hl n0 e h z w tm a m md x tm' h' z' m' Q s ht hN hn hd hM hv hQ
    cases hv
    exact hQ e a w .normal md ht hN hd s Ste.refl hM rfl
  | cons o l ih =>
    intro i hl n0 e h z w tm a m md x tm' h' z' m' Q s ht hN hn hd hM hv hQ
    have hi : ops[i]? = some o := by
      rw [← Array.getElem?_toList]
      have := congrArg (·[0]?) hl
      simpa [List.getElem?_drop] using this
    have hl' : ops.toList.drop (i + 1) = l := by
      have := congrArg List.tail hl
      simpa [List.tail_drop] using this
    show wpOpsSIn (Wd none) n P ops Q (List.range' i (o :: l).length) a _ w
    rw [List.length_cons, List.range'_succ]
    simp only [wpOpsSIn, hi]
    refine ⟨fun _ _ => trivial, ?_⟩
    rw [evOpsS] at hv
    split at hv
    · cases hv
    · rename_i hw
      rw [wantA_ok hw ht]
      simp only [Bool.false_eq_true, if_false]
      obtain ⟨tm1, htm, hv⟩ := Option.bind_eq_some_iff.1 hv
      obtain ⟨k1, k2, k3⟩ := tmPut_ok (V := undef) htm ht hN (.tup _ _ .nil)
      exact ih (i + 1) hl' s k1 k2 hn (by rw [k3]; exact hd) hM hv hQ
    · rename_i hw
      rw [wantA_ok hw ht]
      simp only [if_true]
      split at hv
      · rename_i hrec
        obtain ⟨tm1, htm, hv2⟩ := Option.bind_eq_some_iff.1 hv
        clear hv
        have hex : (execOp a.eval o).run P w = .ok .recover w := by
          unfold isRec at hrec
          split at hrec <;> (try (cases hrec; done))
          rename_i ts hop
          simp [execOp, hop, resolve, invoke, builtin]
        rw [hex]
        cases m with
        | none =>
          have hrd : recoverD ({ c0 with mode := md } :: cs0) = none := by
            rcases hM with rfl | ⟨U, rfl⟩ <;> rfl
          simp only [hrd]
          obtain ⟨k1, k2, k3⟩ := tmPut_ok (V := .nilIface) htm ht hN .nili
          exact ih (i + 1) hl' s k1 k2 hn (by rw [k3]; exact hd) hM hv2 hQ
        | some u =>
          obtain ⟨U, hU, rfl⟩ := hM
          have hrd : recoverD ({ c0 with mode := .panicking [{ v := U, recovered := false }] } :: cs0) = some (U, { c0 with mode := .panicking [{ v := U, recovered := true }] } :: cs0) := rfl
          simp only [hrd]
          obtain ⟨k1, k2, k3⟩ := tmPut_ok (V := U) htm ht hN hU
          exact ih (i + 1) hl' s k1 k2 hn (by rw [k3]; exact hd) (m := none) (md := .panicking [{ v := U, recovered := true }]) (.inr ⟨U, rfl⟩) hv2 hQ
      · obtain ⟨⟨v, h1, n1⟩, hop, hv⟩ := Option.bind_eq_some_iff.1 hv
        obtain ⟨tm1, htm, hv⟩ := Option.bind_eq_some_iff.1 hv
        obtain ⟨X, e1, w1, hr, hX, hs1, hst1⟩ := evS_ok (P := P) hA s ht hop
        rw [hr]
        rcases hX with ⟨V, rfl, hV⟩ | ⟨rfl, rfl⟩
        · obtain ⟨k1, k2, k3⟩ := tmPut_ok htm (ht.mono hst1.le) hN hV
          exact ih (i + 1) hl' (z := ⟨n1, z.ds, z.ok⟩) hs1 k1 k2 (Nat.le_trans hn hst1.size) (by rw [k3]; exact hd.mono hst1) (hM.mono hst1.le) hv (fun e' a' w' E md' q1 q2 q3 q4 q5 q6 q7 => hQ e' a' w' E md' q1 q2 q3 q4 (hst1.trans q5) q6 q7)
        · obtain ⟨k1, k2, k3⟩ := tmPut_ok (V := undef) htm (ht.mono hst1.le) hN (.tup _ _ .nil)
          exact ih (i + 1) hl' (z := ⟨n1, z.ds, z.ok⟩) hs1 k1 k2 (Nat.le_trans hn hst1.size) (by rw [k3]; exact hd.mono hst1) (hM.mono hst1.le) hv (fun e' a' w' E md' q1 q2 q3 q4 q5 q6 q7 => hQ e' a' w' E md' q1 q2 q3 q4 (hst1.trans q5) q6 q7)
theorem evCS_ok {A : Tab} (hA : A.Ok P) (hm : P.follows .mixedOrders = true) {call : Ev} (hC : COk A P B call) {N lp : Nat} {n : Nat} {c0 : Frame} {cs0 : List Frame} : ∀ c : Code, GoalS A B N c0 cs0 (evCS A call N lp c) (fun Q a cs w => c.wpSIn (Wd none) n P Q a cs w) := by
  have lift : ∀ c : Code, GoalS A B N c0 cs0 (fun tm h z m => (evC A call N lp none c tm h z).bind fun q => some (q.1, q.2.1, q.2.2.1, q.2.2.2, m)) (fun Q a cs w => c.wpSIn (Wd none) n P Q a cs w) := by
    intro c n0 e h z w tm a m md x tm' h' z' m' Q s ht hN hn hd hM hv hQ
    obtain ⟨⟨x1, t1, h1, z1⟩, hc, hv⟩ := Option.bind_eq_some_iff.1 hv
    cases hv
    refine wpSIn_of_wpIn rfl ?_
    exact evC_ok hA hm hC (rd := none) (r := none) (n := n) c s ht hN trivial (fun _ => rfl) hn hd ((evC_eq _ _ _ _ _ _ _ _ _).symm.trans hc) fun e' a' w' E g1 g2 g3 g4 g5 g6 g7 => hQ e' a' w' E md g1 g2 g4 g5 g6 (hM.mono g6.le) g7
  intro c
  induction c with
  | seq c1 c2 ih1 ih2 =>
    intro n0 e h z w tm a m md x tm' h' z' m' Q s ht hN hn hd hM hv hQ
    refine wpSIn_seq ?_
    simp only [evCS] at hv
    split at hv
    · rename_i t1 h1 n1 m1 hv1
      refine ih1 s ht hN hn hd hM hv1 fun e1 a1 w1 E1 md1 g1 g2 g3 g4 g5 g6 g7 => ?_
      obtain rfl : E1 = .normal := g7
      exact ih2 g4 g1 g2 (Nat.le_trans hn g5.size) g3 g6 hv fun e2 a2 w2 E2 md2 k1 k2 k3 k4 k5 k6 k7 => hQ e2 a2 w2 E2 md2 k1 k2 k3 k4 (g5.trans k5) k6 k7
    · rename_i hno
      refine ih1 s ht hN hn hd hM hv fun e1 a1 w1 E1 md1 g1 g2 g3 g4 g5 g6 g7 => ?_
      have hq := hQ e1 a1 w1 E1 md1 g1 g2 g3 g4 g5 g6 g7
      cases x with
      | norm => exact (hno _ _ _ _ hv).elim
      | exit id => obtain rfl : E1 = .exit id := g7; exact hq
      | ret => obtain rfl : E1 = .ret := g7; exact hq
      | pan u => obtain ⟨U, _, rfl⟩ := g7; exact hq
  | cond cd c1 c2 ih1 ih2 =>
    intro n0 e h z w tm a m md x tm' h' z' m' Q s ht hN hn hd hM hv hQ
    simp only [evCS] at hv
    split at hv
    · rename_i hc
      have hcv := opd_ok s ht hc
      generalize hce : a.eval cd = C at hcv
      cases hcv
      exact wpSIn_cond (t := true) hce (ih1 s ht hN hn hd hM hv hQ)
    · rename_i hc
      have hcv := opd_ok s ht hc
      generalize hce : a.eval cd = C at hcv
      cases hcv
      exact wpSIn_cond (t := false) hce (ih2 s ht hN hn hd hM hv hQ)
    · cases hv
  | region id ops draw =>
    cases draw with
    | true => exact lift (.region id ops true)
    | false =>
      intro n0 e h z w tm a m md x tm' h' z' m' Q s ht hN hn hd hM hv hQ
      simp only [evCS] at hv
      split at hv
      · refine wpSIn_region ?_
        have := evOpsS_ok (n := n) hA ops.toList 0 rfl s ht hN hn hd hM hv hQ
        simpa [List.range_eq_range'] using this
      · exact lift (.region id ops false) s ht hN hn hd hM hv hQ
  | skip => exact lift _
  | label l => exact lift _
  | exit id => exact lift _
  | ret => exact lift _
  | goto l => exact lift _
  | refuse y => exact lift _
  | scope b ih => exact lift _
  | rangeFunc g ps asg b ih1 ih2 => exact lift _
  | block id b ih => exact lift _
  | loop b ih => exact lift _
theorem act_ok {args : List AV} {ARGS : List Value} {tm : T AV} {N : Nat} (htm : tmInit args 0 .leaf = some tm) (hargs : VRs e args ARGS) (hle : args.length ≤ N) :
    TmR e tm ((⟨ARGS⟩ : Array Value) ++ Array.replicate (N - (⟨ARGS⟩ : Array Value).size) undef) ∧ ((⟨ARGS⟩ : Array Value) ++ Array.replicate (N - (⟨ARGS⟩ : Array Value).size) undef).size = N := by
  have hAl := hargs.length
  refine ⟨tmInit_ok htm hargs (fun i v hi => by cases hi) (fun j V hj => ?_), by simp; omega⟩
  have hlt : j < ARGS.length := (List.getElem?_eq_some_iff.1 hj).1
  rw [Nat.zero_add, Array.getElem?_append_left (by simpa using hlt)]
  simpa using hj
theorem evDef_ok {A : Tab} (hA : A.Ok P) (hm : P.follows .mixedOrders = true) {call : Ev} (hC : COk A P B call) {lp n f : Nat} {args : List AV} {m m' : Option AV} {h' : T AO} {nx' : Nat} (s : Sim A.R B e h nx w)
    (hv : evDef A call lp f args m h nx = some (m', h', nx')) {ARGS : List Value} (ha : VRs e args ARGS) {md : FrameMode} (hM : SM e m md) :
    (∀ ays w, (callFunc f ays).run P w = .ok (.enter f ays) w) ∧
    CallsDIn (Wd none) n P f ⟨ARGS⟩ md w fun E u' w' => ∃ V e', E = .returned V ∧ SM e' m' (settle u') ∧ Sim A.R B e' h' nx' w' ∧ Ste A.R e h nx w e' h' nx' w' := by
  obtain ⟨fn, hfn, hv1⟩ := Option.bind_eq_some_iff.1 hv
  clear hv
  obtain ⟨c, hc, hv⟩ := Option.bind_eq_some_iff.1 hv1
  clear hv1
  obtain ⟨hf, hcall⟩ := hA.fn f fn hfn
  refine ⟨hcall, ?_⟩
  split at hv <;> (try (cases hv; done))
  rename_i hle
  have hle := Nat.le_of_ble_eq_true hle
  obtain ⟨tm, htm, hv1⟩ := Option.bind_eq_some_iff.1 hv
  clear hv
  obtain ⟨ht, hN⟩ := act_ok htm ha hle
  refine callsDIn_of_wpSIn hf hc trivial fun c0 cs hc0 => ?_
  have hc1 : c0 = { c0 with mode := md } := by subst hc0; rfl
  have fin : ∀ (x : AX) (tm' : T AV) (h1 : T AO) (n1 : Nat) (ok1 : Bool) (m1 : Option AV), (x = .norm ∨ x = .ret) → evCS A call fn.ntmps lp c tm h ⟨nx, [], true⟩ m = some (x, tm', h1, ⟨n1, [], ok1⟩, m1) →
      ((evRes A tm' h1 fn.results.toList).bind fun _ => some (m1, h1, n1)) = some (m', h', nx') →
      c.wpSIn (Wd none) n P (bodyPostS P fn c0 cs fun E u' w' => ∃ V e', E = .returned V ∧ SM e' m' (settle u') ∧ Sim A.R B e' h' nx' w' ∧ Ste A.R e h nx w e' h' nx' w')
        { tmps := (⟨ARGS⟩ : Array Value) ++ Array.replicate (fn.ntmps - (⟨ARGS⟩ : Array Value).size) undef, defers := [] } (c0 :: cs) w := by
    intro x tm' h1 n1 ok1 m1 hx hcs hr
    obtain ⟨vs, hvs, hr⟩ := Option.bind_eq_some_iff.1 hr
    cases hr
    rw [hc1]
    refine evCS_ok hA hm hC (n := n) c (n0 := 0) (a := { tmps := (⟨ARGS⟩ : Array Value) ++ Array.replicate (fn.ntmps - (⟨ARGS⟩ : Array Value).size) undef, defers := [] }) s ht hN (Nat.zero_le _) .nil hM.mr hcs fun e1 a1 w1 E1 md1 g1 g2 g3 g4 g5 g6 g7 => ?_
    obtain ⟨V, r1, _⟩ := results_ok (P := P) hA g4 g1 hvs
    have hd : a1.defers = [] := by
      have g3' : DR A.R e1 h' w1 0 [] a1.defers := g3
      cases hL : a1.defers with
      | nil => rfl
      | cons d L => rw [hL] at g3'; cases g3'
    have hpost : a1.defers = [] ∧ ∃ u', ({ ({ c0 with mode := md } : Frame) with mode := md1 } :: cs) = { ({ c0 with mode := md } : Frame) with mode := u' } :: cs ∧ ∃ v, (results fn a1.tmps).run P w1 = .ok v w1 ∧ ∃ V e', Ending.returned v = .returned V ∧ SM e' m' (settle u') ∧ Sim A.R B e' h' nx' w1 ∧ Ste A.R e h nx w e' h' nx' w1 :=
      ⟨hd, md1, rfl, V, r1, V, e1, rfl, g6.settle, g4, g5⟩
    rcases hx with rfl | rfl
    · obtain rfl : E1 = .normal := g7
      exact hpost
    · obtain rfl : E1 = .ret := g7
      exact hpost
  split at hv1 <;> (try (cases hv1; done))
  · rename_i tm' h1 n1 ok1 m1 hcs
    exact fin .norm tm' h1 n1 ok1 m1 (.inl rfl) hcs hv1
  · rename_i tm' h1 n1 ok1 m1 hcs
    exact fin .ret tm' h1 n1 ok1 m1 (.inr rfl) hcs hv1
theorem leaveE_ok {A : Tab} (hA : A.Ok P) (hm : P.follows .mixedOrders = true) {call : Ev} (hC : COk A P B call) {lp n : Nat} {fn : Func} {tmps : Array Value} {tm : T AV} {R' : Ending → World → Prop} {e0 : Env} {h0 : T AO} {nx0 : Nat} {w0 : World} (hB : B.n ≤ w0.heap.size) {m' : Option AV} {h' : T AO} {nx' : Nat} :
    ∀ (ds : List AV) {L : List Deferred} {e : Env} {h : T AO} {nx : Nat} {w : World} {m : Option AV} {md : FrameMode}, DR A.R e h w w0.heap.size ds L → SM e m md → Sim A.R B e h nx w → Ste A.R e0 h0 nx0 w0 e h nx w → TmR e tm tmps → leaveE A call lp ds m h nx = some (m', h', nx') →
    (∀ e' w' md', SM e' m' md' → Sim A.R B e' h' nx' w' → Ste A.R e0 h0 nx0 w0 e' h' nx' w' → TmR e' tm tmps → LeavesIn (Wd none) n P fn tmps R' [] md' w') → LeavesInM (Wd none) n P fn tmps R' L md w
  | [], L, e, h, nx, w, m, md, hd, hM, s, st, ht, hv, hK => by
    cases hd
    cases hv
    exact hK e w md hM s st ht
  | v :: ds, L, e, h, nx, w, m, md, hd, hM, s, st, ht, hv, hK => by
    cases hd with
    | mark D l L hl q1 q2 q3 q4 =>
      have key : ∀ k, k ≠ D → (w.heap.setIfInBounds D (.deferred none))[k]? = w.heap[k]? := fun k hk => by simp [Array.getElem?_setIfInBounds, Ne.symm hk]
      refine ⟨hM.run, .inl ⟨D, { w with heap := w.heap.setIfInBounds D (.deferred none) }, rfl, ?_, ?_⟩⟩
      · simp [Instr.takeDeferred, getObj, setObj, Sem.run, q2, Result.andThen]
      · have hdr : ∀ {l : List AV} {L : List Deferred}, DR A.R e h w w0.heap.size l L → (∀ d ∈ L, d.target ≠ .collected D) → DR A.R e h { w with heap := w.heap.setIfInBounds D (.deferred none) } w0.heap.size l L := by
          intro l L hl
          induction hl with
          | nil => intro _; exact .nil
          | mark D' l L _ p1 p2 p3 p4 ih =>
            intro hno
            have hne : D' ≠ D := fun hh => hno _ (List.mem_cons_self ..) (by rw [hh]; rfl)
            exact .mark D' l L (ih fun d hd => hno d (List.mem_cons_of_mem _ hd)) p1 ((key D' hne).trans p2) p3 p4
          | call f args cap ARGS CAP l L ha hc hf _ ih =>
            intro hno
            exact .call f args cap ARGS CAP l L ha hc hf (ih fun d hd => hno d (List.mem_cons_of_mem _ hd))
        refine leaveE_ok hA hm hC hB ds (hdr hl q4) hM (s.off (.deferred none) q3 (Nat.le_trans hB q1)) ?_ ht hv hK
        exact ⟨st.le, st.nxle, st.os, st.tape, st.output, by simpa using st.size, fun k hk hno => (key k (by omega)).trans (st.blk k hk hno), st.img, st.old⟩
    | call f args cap ARGS CAP l L ha hc hf hl =>
      obtain ⟨⟨m1, h1, n1⟩, hdef, hv⟩ := Option.bind_eq_some_iff.1 hv
      have hac := ha.append hc
      obtain ⟨hent, hcd⟩ := evDef_ok (P := P) hA hm hC (n := n - 1) s hdef hac hM
      refine ⟨hM.run, .inr ⟨fun hd => by simp [Wd, Fence.wide] at hd, .func f, ⟨CAP⟩, f, ⟨ARGS ++ CAP⟩, rfl, ?_, fun _ _ => trivial, ?_⟩⟩
      · have := hent ⟨ARGS ++ CAP⟩ w
        simp only [invoke]
        rw [← this]
        congr 2
        apply Array.ext'
        simp
      · refine hcd.mono ?_
        rintro E u' w1 ⟨V, e1, rfl, hM1, s1, st1⟩
        exact leaveE_ok hA hm hC hB ds (hl.mono st1) hM1 s1 (st.trans st1) (ht.mono st1.le) hv hK
theorem evFn0_ok {A : Tab} (hA : A.Ok P) (hm : P.follows .mixedOrders = true) {call : Ev} (hC : COk A P B call) (lp : Nat) {f : FuncId} {args : List AV} {v : AV} {h' : T AO} {nx' : Nat} (hv : evFn0 A call lp f args h nx = some (v, h', nx')) : FJ A P B f args h nx v h' nx' := by
  obtain ⟨fn, hfn, hv⟩ := Option.bind_eq_some_iff.1 hv
  obtain ⟨c, hc, hv⟩ := Option.bind_eq_some_iff.1 hv
  obtain ⟨hf, hcall⟩ := hA.fn f fn hfn
  refine ⟨hcall, fun e w ARGS n s hargs => ?_⟩
  split at hv <;> (try (cases hv; done))
  rename_i hle
  have hle := Nat.le_of_ble_eq_true hle
  obtain ⟨tm, htm, hv⟩ := Option.bind_eq_some_iff.1 hv
  obtain ⟨ht, hN⟩ := act_ok htm hargs hle
  refine callsIn_of_wp_marks (F := Wd none) hf hc trivial ?_
  have fin : ∀ (x : AX) (m : Option AV) (tm' : T AV) (h1 : T AO) (z1 : NX), (m = none ∧ (x = .norm ∨ x = .ret) ∨ ∃ u, m = some u ∧ x = .pan u) → evEnd A call lp fn m tm' h1 z1 = some (v, h', nx') →
      ∀ e' a' w' E, TmR e' tm' a'.tmps → a'.tmps.size = fn.ntmps → DR A.R e' h1 w' w.heap.size z1.ds a'.defers → Sim A.R B e' h1 z1.n w' → Ste A.R e h nx w e' h1 z1.n w' → XR e' x E →
      bodyPostM (Wd none) n P fn (fun E w' => ∃ e', ER e' v E ∧ Sim A.R B e' h' nx' w' ∧ Ste A.R e h nx w e' h' nx' w') E a' w' := by
    intro x m tm' h1 z1 hx hend e' a' w' E g1 g2 g3 g4 g5 g6
    obtain ⟨⟨m2, h2, n2⟩, hlv, hend⟩ := Option.bind_eq_some_iff.1 hend
    have hl : ∀ md, SM e' m md → LeavesInM (Wd none) n P fn a'.tmps (fun E w' => ∃ e', ER e' v E ∧ Sim A.R B e' h' nx' w' ∧ Ste A.R e h nx w e' h' nx' w') a'.defers md w' := by
      intro md hM
      refine leaveE_ok hA hm hC s.base.1 z1.ds g3 hM g4 g5 g1 hlv fun e3 w3 md3 hM3 s3 st3 ht3 => ?_
      simp only at hend
      cases m2 with
      | none =>
        obtain rfl : md3 = .returning := hM3
        obtain ⟨vs, hr, hend⟩ := Option.bind_eq_some_iff.1 hend
        cases hend
        obtain ⟨V, r1, r2⟩ := results_ok (P := P) hA s3 ht3 hr
        exact ⟨V, r1, e3, .inl ⟨V, rfl, r2⟩, s3, st3⟩
      | some u =>
        obtain ⟨U, hU, rfl⟩ := hM3
        cases hend
        exact ⟨e3, .inr ⟨u, U, rfl, rfl, hU⟩, s3, st3⟩
    rcases hx with ⟨rfl, rfl | rfl⟩ | ⟨u, rfl, rfl⟩
    · obtain rfl : E = .normal := g6
      exact hl .returning rfl
    · obtain rfl : E = .ret := g6
      exact hl .returning rfl
    · obtain ⟨U, hU, rfl⟩ := g6
      exact hl _ ⟨U, hU, rfl⟩
  split at hv
  · rename_i tm' h1 z1 hcv
    exact evC_ok hA hm hC (rd := none) (r := none) c (z := ⟨nx, [], true⟩) (a := { tmps := (⟨ARGS⟩ : Array Value) ++ Array.replicate (fn.ntmps - (⟨ARGS⟩ : Array Value).size) undef, defers := [] }) s ht hN trivial (fun _ => rfl) (Nat.le_refl _) .nil ((evC_eq _ _ _ _ _ _ _ _ _).symm.trans hcv) fun e' a' w' E g1 g2 _ g4 g5 g6 g7 => fin .norm none tm' h1 z1 (.inl ⟨rfl, .inl rfl⟩) hv e' a' w' E g1 g2 g4 g5 g6 g7
  · rename_i tm' h1 z1 hcv
    exact evC_ok hA hm hC (rd := none) (r := none) c (z := ⟨nx, [], true⟩) (a := { tmps := (⟨ARGS⟩ : Array Value) ++ Array.replicate (fn.ntmps - (⟨ARGS⟩ : Array Value).size) undef, defers := [] }) s ht hN trivial (fun _ => rfl) (Nat.le_refl _) .nil ((evC_eq _ _ _ _ _ _ _ _ _).symm.trans hcv) fun e' a' w' E g1 g2 _ g4 g5 g6 g7 => fin .ret none tm' h1 z1 (.inl ⟨rfl, .inr rfl⟩) hv e' a' w' E g1 g2 g4 g5 g6 g7
  · rename_i u tm' h1 z1 hcv
    exact evC_ok hA hm hC (rd := none) (r := none) c (z := ⟨nx, [], true⟩) (a := { tmps := (⟨ARGS⟩ : Array Value) ++ Array.replicate (fn.ntmps - (⟨ARGS⟩ : Array Value).size) undef, defers := [] }) s ht hN trivial (fun _ => rfl) (Nat.le_refl _) .nil ((evC_eq _ _ _ _ _ _ _ _ _).symm.trans hcv) fun e' a' w' E g1 g2 _ g4 g5 g6 g7 => fin (.pan u) (some u) tm' h1 z1 (.inr ⟨u, rfl, rfl⟩) hv e' a' w' E g1 g2 g4 g5 g6 g7
  · cases hv
theorem setPs_ok {N : Nat} : ∀ {ps : List Tmp} {vs : List AV} {tm tm' : T AV} {VS : List Value} {tmps : Array Value}, setPs N ps vs tm = some tm' → VRs e vs VS → TmR e tm tmps → tmps.size = N →
    ps.length = VS.length ∧ TmR e tm' ((ps.zip VS).foldl (fun tmps (x : Tmp × Value) => tmps.setIfInBounds x.1 x.2) tmps) ∧ ((ps.zip VS).foldl (fun tmps (x : Tmp × Value) => tmps.setIfInBounds x.1 x.2) tmps).size = N
  | [], [], tm, tm', _, tmps, h, .nil, ht, hN => by cases h; exact ⟨rfl, ht, hN⟩
  | p :: ps, v :: vs, tm, tm', _, tmps, h, .cons _ V _ VS hv hs, ht, hN => by
    obtain ⟨t1, hp, h⟩ := Option.bind_eq_some_iff.1 h
    obtain ⟨k1, k2, _⟩ := tmPut_ok (a := { tmps := tmps, defers := [] }) (V := V) hp ht hN hv
    obtain ⟨q1, q2, q3⟩ := setPs_ok h hs k1 k2
    exact ⟨by simp [q1], q2, q3⟩
  | [], v :: vs, tm, tm', _, tmps, h, _, ht, hN => by cases h
  | p :: ps, [], tm, tm', _, tmps, h, _, ht, hN => by cases h
theorem rdEnd_ok (s : Sim R B e h nx w) {id b : Nat} {pend : Option AX} {bb : Bool} {v : AV} {h' : T AO} {nx' : Nat} (hv : rdEnd h id pend nx bb = some (v, h', nx')) (hR : R ≤ id) (hb : e.blk id = some b) (hp : (pendC pend).isNone = bb) :
    ∃ V w', (Instr.endRound b (pendC pend)).run P w = .ok V w' ∧ VR e v V ∧ Sim R B e h' nx' w' ∧ Ste R e h nx w e h' nx' w' := by
  unfold rdEnd at hv
  split at hv <;> (try (cases hv; done))
  rename_i st p tm N ps asg body hlo
  obtain ⟨h2, hput, hv⟩ := Option.bind_eq_some_iff.1 hv
  cases hv
  obtain ⟨b', O, hb', hO, rc, rfl, q1, q2, q3, q4, q5, q6, q7⟩ := s.obj id _ hlo
  obtain rfl : b' = b := by rw [hb] at hb'; exact (Option.some.inj hb').symm
  obtain ⟨w', hrun, hs, hst⟩ := putObj_ok (P := P) (O' := .loop { rc with state := if (pendC pend).isNone then .ready else .done, pending := pendC pend }) s hlo hR hb hput
    ⟨_, rfl, by rw [hp]; cases bb <;> rfl, rfl, q3, q4, q5, q6, q7⟩ (fun O hO2 _ c t f hh => by rw [hO] at hO2; cases hO2; cases hh)
  refine ⟨.bool (pendC pend).isNone, w', ?_, by rw [hp]; exact .bool _, hs, hst⟩
  simp only [Instr.endRound, Sem.run_bind, run_getLoop hO, Result.andThen, hrun, Sem.run_pure]
theorem evRnd_ok {A : Tab} (hA : A.Ok P) (hm : P.follows .mixedOrders = true) {call : Ev} (hC : COk A P B call) (lp : Nat) {args : List AV} {v : AV} {h' : T AO} {nx' : Nat} (hv : evRnd A call lp args h nx = some (v, h', nx')) : RJ A P B args h nx v h' nx' := by
  unfold evRnd at hv
  split at hv <;> (try (cases hv; done))
  rename_i id ays
  split at hv <;> (try (cases hv; done))
  rename_i st pend tm N ps asg body hlo
  obtain ⟨tm1, htm1, hv1⟩ := Option.bind_eq_some_iff.1 hv
  clear hv
  split at hv1 <;> (try (cases hv1; done))
  rename_i tm2 h2 n2 okk hasg
  have hv := hv1
  clear hv1
  refine ⟨id, ays, rfl, fun e w ARGS n b s ha hb => ?_⟩
  obtain ⟨b', O, hb', hO, rc, rfl, q1, q2, q3, q4, q5, q6, q7⟩ := s.obj id _ hlo
  obtain rfl : b' = b := by rw [hb] at hb'; exact (Option.some.inj hb').symm
  obtain ⟨z1, z2, z3⟩ := setPs_ok htm1 ha q7 q6
  refine ⟨rc.fn, (ps.zip ARGS).foldl (fun tmps (x : Tmp × Value) => tmps.setIfInBounds x.1 x.2) rc.tmps, rc.assign, rc.body, ?_, ?_⟩
  · have hsz : ARGS.length = rc.params.size := by rw [← z1, ← q3]; simp
    have hz : (rc.params.zip (⟨ARGS⟩ : Array Value)).toList = ps.zip ARGS := by rw [← q3]; simp
    have hfold : (rc.params.zip (⟨ARGS⟩ : Array Value)).foldl (fun tmps (x : Tmp × Value) => tmps.setIfInBounds x.1 x.2) rc.tmps = (ps.zip ARGS).foldl (fun tmps (x : Tmp × Value) => tmps.setIfInBounds x.1 x.2) rc.tmps := by
      rw [← Array.foldl_toList, hz]
    simp only [Instr.yield, Sem.run_bind, run_getLoop hO, Result.andThen]
    rw [if_neg (by simpa using hsz)]
    rw [← hfold]
    rfl
  · refine roundIn_of_wpIn (F := Wd none) trivial ?_
    have hgoal : rc.assign.wpIn (Wd (some b')) n P (Exit.then (fun a₁ w₁ => ∃ w₂, (Instr.beginRound b').run P w₁ = .ok () w₂ ∧ rc.body.wpIn (Wd (some b')) n P (roundPost P b' (fun E w' => ∃ V e', E = .returned V ∧ VR e' v V ∧ Sim A.R B e' h' nx' w' ∧ Ste A.R e h nx w e' h' nx' w')) a₁ w₂) (fun _ _ _ => False))
        { tmps := (ps.zip ARGS).foldl (fun tmps (x : Tmp × Value) => tmps.setIfInBounds x.1 x.2) rc.tmps, defers := [] } w := by
      rw [q4, q5]
      refine evC_ok hA hm hC (rd := some id) (r := some b') asg (n0 := 0) (z := ⟨nx, [], false⟩) (a := { tmps := (ps.zip ARGS).foldl (fun tmps (x : Tmp × Value) => tmps.setIfInBounds x.1 x.2) rc.tmps, defers := [] }) s z2 z3 hb (fun h => by cases h) (Nat.zero_le _) .nil ((evC_eq _ _ _ _ _ _ _ _ _).symm.trans hasg) fun e1 a1 w1 E1 g1 g2 _ g3 g4 g5 g7 => ?_
      obtain rfl : E1 = .normal := g7
      have hdr : ∀ {e' : Env} {h' : T AO} {w' : World} {L : List Deferred}, DR A.R e1 h2 w1 0 [] L → DR A.R e' h' w' 0 [] L := fun hd => by cases hd; exact .nil
      unfold evRd2 at hv
      obtain ⟨h3, hmid, hv1⟩ := Option.bind_eq_some_iff.1 hv
      clear hv
      unfold rdMid at hmid
      split at hmid <;> (try (cases hmid; done))
      rename_i hR
      have hR := Nat.le_of_ble_eq_true hR
      split at hmid <;> (try (cases hmid; done))
      rename_i p2 tmL NL psL asgL bodyL hlo2
      have hb1 : e1.blk id = some b' := (g5.le id _ hb).1
      obtain ⟨b2, O2, hb2, hO2, rc2, rfl, u1, u2, u3, u4, u5, u6, u7⟩ := g4.obj id _ hlo2
      obtain rfl : b2 = b' := by rw [hb1] at hb2; exact (Option.some.inj hb2).symm
      obtain ⟨w2, hrun, hs2, hst2⟩ := putObj_ok (P := P) (O' := .loop { rc2 with state := .busy }) g4 hlo2 hR hb1 hmid
        ⟨_, rfl, rfl, u2, u3, u4, u5, u6, u7⟩ (fun O hO2' _ c t f hh => by rw [hO2] at hO2'; cases hO2'; cases hh)
      refine ⟨w2, ?_, ?_⟩
      · simp only [Instr.beginRound, Sem.run_bind, run_getLoop hO2, Result.andThen, hrun, u1]
        rfl
      · have fin : ∀ (x : AX) (pe : Option AX) (bb : Bool) (tm4 : T AV) (h4 : T AO) (n4 : Nat), (match x with | .norm => none | x => some x) = pe → (∀ u, x ≠ .pan u) → (pendC pe).isNone = bb → rdEnd h4 id pe n4 bb = some (v, h', nx') →
            ∀ e4 a4 w4 E4, TmR e4 tm4 a4.tmps → a4.tmps.size = N → Sim A.R B e4 h4 n4 w4 → Ste A.R e1 h3 n2 w2 e4 h4 n4 w4 → XR e4 x E4 →
            roundPost P b2 (fun E w' => ∃ V e', E = .returned V ∧ VR e' v V ∧ Sim A.R B e' h' nx' w' ∧ Ste A.R e h nx w e' h' nx' w') E4 a4 w4 := by
          intro x pe bb tm4 h4 n4 hx hnp hpe hend e4 a4 w4 E4 k1 k2 k4 k5 k7
          obtain ⟨V, w5, hr5, hV, hs5, hst5⟩ := rdEnd_ok (P := P) k4 hend hR (k5.le id _ hb1).1 hpe
          have hall := g5.trans (hst2.trans (k5.trans hst5))
          subst hx
          cases x with
          | norm => obtain rfl : E4 = .normal := k7; exact ⟨V, w5, hr5, V, e4, rfl, hV, hs5, hall⟩
          | exit i => obtain rfl : E4 = .exit i := k7; exact ⟨V, w5, hr5, V, e4, rfl, hV, hs5, hall⟩
          | ret => obtain rfl : E4 = .ret := k7; exact ⟨V, w5, hr5, V, e4, rfl, hV, hs5, hall⟩
          | pan u => exact (hnp u rfl).elim
        split at hv1
        · rename_i tm4 h4 n4 hbody
          exact evC_ok hA hm hC (rd := some id) (r := some b2) body (n0 := 0) (z := ⟨n2, [], false⟩) hs2 g1 g2 hb1 (fun h => by cases h) (Nat.zero_le _) (hdr g3) ((evC_eq _ _ _ _ _ _ _ _ _).symm.trans hbody) fun e4 a4 w4 E4 k1 k2 _ _ k4 k5 k7 => fin .norm none true tm4 h4 n4.n rfl (fun u hu => by cases hu) rfl hv1 e4 a4 w4 E4 k1 k2 k4 k5 k7
        · rename_i i tm4 h4 n4 hbody
          exact evC_ok hA hm hC (rd := some id) (r := some b2) body (n0 := 0) (z := ⟨n2, [], false⟩) hs2 g1 g2 hb1 (fun h => by cases h) (Nat.zero_le _) (hdr g3) ((evC_eq _ _ _ _ _ _ _ _ _).symm.trans hbody) fun e4 a4 w4 E4 k1 k2 _ _ k4 k5 k7 => fin (.exit i) (some (.exit i)) false tm4 h4 n4.n rfl (fun u hu => by cases hu) rfl hv1 e4 a4 w4 E4 k1 k2 k4 k5 k7
        · rename_i tm4 h4 n4 hbody
          exact evC_ok hA hm hC (rd := some id) (r := some b2) body (n0 := 0) (z := ⟨n2, [], false⟩) hs2 g1 g2 hb1 (fun h => by cases h) (Nat.zero_le _) (hdr g3) ((evC_eq _ _ _ _ _ _ _ _ _).symm.trans hbody) fun e4 a4 w4 E4 k1 k2 _ _ k4 k5 k7 => fin .ret (some .ret) false tm4 h4 n4.n rfl (fun u hu => by cases hu) rfl hv1 e4 a4 w4 E4 k1 k2 k4 k5 k7
        · cases hv1
    exact hgoal
theorem evFn_ok {A : Tab} (hA : A.Ok P) (hm : P.follows .mixedOrders = true) {call : Ev} (hC : COk A P B call) (lp : Nat) : COk A P B (evFn A call lp) := by
  intro f args h nx v h' nx' hv
  unfold evFn at hv
  split at hv
  · rename_i hf
    exact ⟨fun _ => evRnd_ok hA hm hC lp hv, fun hne => (hne (Nat.eq_of_beq_eq_true hf)).elim⟩
  · rename_i hf
    exact ⟨fun he => (by rw [he, Nat.beq_refl] at hf; cases hf), fun _ => evFn0_ok hA hm hC lp hv⟩
theorem evCall_ok {A : Tab} (hA : A.Ok P) (hm : P.follows .mixedOrders = true) (lp : Nat) : ∀ d, COk A P B (evCall A lp d)
  | 0 => fun _ _ _ _ _ _ _ hv => by cases hv
  | d + 1 => evFn_ok hA hm (evCall_ok hA hm lp d) lp
theorem evCallS_ok {A : Tab} (hA : A.Ok P) (hm : P.follows .mixedOrders = true) {S : Ev} (hS : COk A P B S) (lp : Nat) : ∀ d, COk A P B (evCallS A S lp d)
  | 0 => hS
  | d + 1 => fun f args h nx v h' nx' hv => by
    have hv2 : (match S f args h nx with | some r => some r | none => evFn A (evCallS A S lp d) lp f args h nx) = some (v, h', nx') := hv
    split at hv2
    · rename_i r hr
      cases hv2
      exact hS f args h nx v h' nx' hr
    · exact evFn_ok hA hm (evCallS_ok hA hm hS lp d) lp f args h nx v h' nx' hv2
end
end
end Go.Xe

namespace Go.Xe
noncomputable section
variable {P : Program}
def ofTI (i : TypeInfo) (d : TypeDesc) : TI := ⟨d, i.size, i.bytes, i.zero.bind (ofC 600)⟩
theorem ofTI_ok {t : TypeId} {i : TypeInfo} {d : TypeDesc} (h1 : P.underlying t = some d) (h2 : P.info? t = some i) : TI.Ok P t (ofTI i d) :=
  ⟨h1, i, h2, rfl, rfl, fun z hz => by
    obtain ⟨Z, hZ, hz⟩ := Option.bind_eq_some_iff.1 hz
    exact ⟨Z, hZ, fun e => ofC_ok 600 Z z hz e⟩⟩
abbrev TE (P : Program) (t : TypeId) := { i : TI // TI.Ok P t i }
theorem info_of {n t : Nat} {i : TypeInfo} (hs : P.types.size = n) (ht : t < n) (h : P.types[t]? = some i) : P.info? t = some i := by
  unfold Tables.info?
  rw [if_pos (by rw [hs]; exact ht)]
  exact h
def AllT {α : Type} (p : Nat → α → Prop) (t : T α) : Prop := ∀ n v, t.get n = some v → p n v
theorem allT_leaf {α : Type} {p : Nat → α → Prop} : AllT p .leaf := fun n v h => by cases h
theorem allT_node {α : Type} {p : Nat → α → Prop} {l r : T α} {x : Option α} (hx : ∀ v, x = some v → p 0 v) (hl : AllT (fun n => p (2 * n + 1)) l) (hr : AllT (fun n => p (2 * n + 2)) r) : AllT p (.node l x r) := by
  intro n v h
  rw [T.get_node] at h
  split at h
  · rename_i h0; subst h0; exact hx v h
  · split at h
    · have : p (2 * (n / 2) + 1) v := hl _ v h
      rwa [show 2 * (n / 2) + 1 = n by omega] at this
    · have : p (2 * (n / 2 - 1) + 2) v := hr _ v h
      rwa [show 2 * (n / 2 - 1) + 2 = n by omega] at this
def FnOk (P : Program) (f : Nat) (x : Func) : Prop := P.funcs[f]? = some x ∧ ∀ args w, (callFunc f args).run P w = .ok (.enter f args) w
theorem some_ok {α : Type} {p : Nat → α → Prop} {n : Nat} {x : α} (h : p n x) : ∀ v, some x = some v → p n v := fun v hv => by cases hv; exact h
theorem none_ok {α : Type} {p : Nat → α → Prop} {n : Nat} : ∀ v, (none : Option α) = some v → p n v := fun v hv => by cases hv

theorem forall_nil {α : Type} {p : α → Prop} : ∀ x ∈ ([] : List α), p x := fun x h => by cases h
theorem forall_cons {α : Type} {p : α → Prop} {a : α} {l : List α} (h : p a) (hs : ∀ x ∈ l, p x) : ∀ x ∈ a :: l, p x := fun x hx => by
  cases hx with
  | head => exact h
  | tail _ hm => exact hs x hm
theorem ext_ok {f : FuncId} {fn : Func} (k : Nat) (hf : P.funcs[f]? = some fn) (hname : (fn.name == "runtime.NumGoroutine") = false) (hb : fn.body.isNone = true) (hn : Extern.findNext fn = none) (he : Extern.find fn = some (entry k)) (hk : Nat.ble 16 k = false := by rfl) : ExtOk P f k := by
  refine ⟨fun h => (by rw [Nat.ble_eq_true_of_le h] at hk; cases hk), ?_⟩
  intro e args ARGS v hv hargs w
  rw [run_callFunc_extern hf hname hb hn he]
  unfold evExt at hv
  split at hv <;> (try (cases hv; done)) <;> cases hv
  · cases hargs with
    | cons _ _ _ _ h1 hs1 => cases hs1 with
      | cons _ _ _ _ h2 hs2 =>
        cases hs2; cases h1; cases h2
        exact ⟨_, by rw [show entry 0 = Extern.BytealgIndexByte.indexByte from rfl, Lib.run_indexByteString]; rfl, .int _ _⟩
  · cases hargs with
    | cons _ _ _ _ h1 hs1 => cases hs1 with
      | cons _ _ _ _ h2 hs2 =>
        cases hs2; cases h1; cases h2
        exact ⟨_, by rw [show entry 1 = Extern.BytealgCompare.compare from rfl, Lib.run_compareString]; rfl, .int _ _⟩
  · cases hargs with
    | cons _ _ _ _ h1 hs1 => cases hs1 with
      | cons _ _ _ _ h2 hs2 =>
        cases hs2; cases h1; cases h2
        exact ⟨_, by rw [show entry 2 = Extern.BytealgCount.count from rfl, Lib.run_countString]; rfl, .int _ _⟩
  · cases hargs with
    | cons _ _ _ _ h1 hs1 =>
      cases hs1
      exact ⟨_, rfl, h1⟩
theorem ne_YB {f : FuncId} (hf : Nat.beq f YB = false) : f ≠ YB := fun hh => by rw [hh, Nat.beq_refl] at hf; cases hf
theorem mnz_ok {f : FuncId} {fn : Func} (t el : TypeId) (hf : P.funcs[f]? = some fn) (hname : (fn.name == "runtime.NumGoroutine") = false) (hb : fn.body.isNone = true) (hn : Extern.findNext fn = none)
    (he : Extern.find fn = some (Extern.BytealgMakeNoZero.makeNoZero fn.params #[t])) (ht : P.underlying t = some (.slice el)) : ExtOk P f (16 + el) := by
  refine ⟨fun _ n w hle => ?_, fun e args ARGS v hv _ w => ?_⟩
  · rw [run_callFunc_extern hf hname hb hn he]
    obtain ⟨cs, hr, h1, _⟩ := Lib.run_makeNoZero (P := P) w fn.params t el ht n (by omega)
    obtain ⟨C⟩ := cs
    exact ⟨C, by rw [hr, Nat.add_sub_cancel_left]; rfl, by simpa using h1⟩
  · exfalso
    unfold evExt at hv
    split at hv <;> first | (cases hv; done) | omega
/-- A world's old memory. -/
def baseOf (w : World) : Bs := ⟨w.heap.size, fun k => w.heap[k]?⟩
/-- The call of a function on nothing, some calls being answered by what is known of them, where the old memory is so. -/
theorem run_closedS {A : Tab} (hA : A.Ok P) (hm : P.follows .mixedOrders = true) (hR : A.R = 0) {S : Ev} {lp d : Nat} {f : FuncId} {p : AV → Bool} (hv : (match evCallS A S lp d f [] .leaf 0 with | some (v, _, _) => p v | none => false) = true) (w : World) (hS : COk A P (baseOf w) S) (hf : Nat.beq f YB = false := by rfl) (hp : ∀ u, p (.pan u) = false := by intro u; rfl) :
    Calls P f #[] w fun E w' => ∃ v V e', E = .returned V ∧ p v = true ∧ VR e' v V ∧ Go.RowKit.Below w.heap.size w w' := by
  split at hv
  · rename_i v h' nx' hcall
    have s0 : Sim A.R (baseOf w) ⟨fun _ => none, fun _ => 0⟩ .leaf 0 w := ⟨fun i o h => (by cases h), fun i j o o' b h => (by cases h), fun _ _ => rfl, fun g hg => by omega, fun i o b _ h => (by cases h), ⟨Nat.le_refl _, by rw [hR]; exact Nat.zero_le _, by omega, fun _ _ => rfl⟩⟩
    have := ((evCallS_ok hA hm hS lp d f [] .leaf 0 v h' nx' hcall).2 (ne_YB hf)).2 _ w [] 0 s0 .nil
    have hw : CallsIn Fence.wide 0 P f #[] w _ := this
    refine (callsIn_wide.1 hw).mono ?_
    rintro E w' ⟨e', hE, hs, hst⟩
    obtain ⟨V, rfl, hV⟩ : ∃ V, E = .returned V ∧ VR e' v V := by
      rcases hE with h | ⟨u, U, hu, _⟩
      · exact h
      · rw [hu, hp u] at hv; cases hv
    exact ⟨v, V, e', rfl, hv, hV, ⟨hst.os, hst.tape, hst.output, hst.size, fun k hk => hst.blk k hk (fun i o _ h => by cases h)⟩⟩
  · cases hv
/-- What is known where the first blocks are package variables. -/
def envG (R : Nat) : Env := ⟨fun i => if i < R then some i else none, fun _ => 0⟩
/-- A call in a world in which some package variables are known. -/
theorem run_glob {A : Tab} (hA : A.Ok P) (hm : P.follows .mixedOrders = true) {lp d : Nat} {f : FuncId} {args : List AV} {h0 : T AO} {v : AV} {h' : T AO} {nx' : Nat} (hv : evCall A lp d f args h0 A.R = some (v, h', nx')) (w : World)
    (hg : ∀ i o, h0.get i = some o → i < A.R ∧ ∃ O, w.heap[i]? = some O ∧ OR (envG A.R) i o O) (hR : A.R ≤ w.heap.size) {ARGS : List Value} (ha : VRs (envG A.R) args ARGS) (hf : Nat.beq f YB = false := by rfl) (hnp : isPan v = none := by rfl) :
    Calls P f ⟨ARGS⟩ w fun E w' => ∃ V e', E = .returned V ∧ VR e' v V ∧ Go.RowKit.Below w.heap.size w w' := by
  have hb : ∀ i, i < A.R → (envG A.R).blk i = some i := fun i hi => by simp [envG, hi]
  have s0 : Sim A.R (baseOf w) (envG A.R) h0 A.R w := ⟨fun i o ho => by
      obtain ⟨hi, O, hO, hr⟩ := hg i o ho
      exact ⟨i, O, hb i hi, hO, hr⟩, fun i j o o' b hi hj hib hjb => by
      rw [hb i (hg i o hi).1] at hib
      rw [hb j (hg j o' hj).1] at hjb
      cases hib; cases hjb; rfl, fun i hi => by simp [envG]; omega, fun g hgR => hb g hgR, fun i o b hi ho _ => by have := (hg i o ho).1; omega, ⟨Nat.le_refl _, hR, Nat.le_refl _, fun _ _ => rfl⟩⟩
  have := ((evCall_ok hA hm lp d f args h0 A.R v h' nx' hv).2 (ne_YB hf)).2 _ w ARGS 0 s0 ha
  have hw : CallsIn Fence.wide 0 P f ⟨ARGS⟩ w _ := this
  refine (callsIn_wide.1 hw).mono ?_
  rintro E w' ⟨e', hE, hs, hst⟩
  obtain ⟨V, rfl, hV⟩ : ∃ V, E = .returned V ∧ VR e' v V := by
    rcases hE with h | ⟨u, U, hu, _⟩
    · exact h
    · rw [hu] at hnp; cases hnp
  exact ⟨V, e', rfl, hV, ⟨hst.os, hst.tape, hst.output, hst.size, fun k hk => hst.blk k hk (fun i o hi ho => by have := (hg i o ho).1; omega)⟩⟩
/-- The call of a function on nothing, in a world of which nothing is known. -/
theorem run_closed {A : Tab} (hA : A.Ok P) (hm : P.follows .mixedOrders = true) (hR : A.R = 0) {lp d : Nat} {f : FuncId} {p : AV → Bool} (hv : (match evCall A lp d f [] .leaf 0 with | some (v, _, _) => p v | none => false) = true) (w : World) (hf : Nat.beq f YB = false := by rfl) (hp : ∀ u, p (.pan u) = false := by intro u; rfl) :
    Calls P f #[] w fun E w' => ∃ v V e', E = .returned V ∧ p v = true ∧ VR e' v V ∧ Go.RowKit.Below w.heap.size w w' := by
  split at hv
  · rename_i v h' nx' hcall
    have s0 : Sim A.R (baseOf w) ⟨fun _ => none, fun _ => 0⟩ .leaf 0 w := ⟨fun i o h => (by cases h), fun i j o o' b h => (by cases h), fun _ _ => rfl, fun g hg => by omega, fun i o b _ h => (by cases h), ⟨Nat.le_refl _, by rw [hR]; exact Nat.zero_le _, by omega, fun _ _ => rfl⟩⟩
    have := ((evCall_ok hA hm lp d f [] .leaf 0 v h' nx' hcall).2 (ne_YB hf)).2 _ w [] 0 s0 .nil
    have hw : CallsIn Fence.wide 0 P f #[] w _ := this
    refine (callsIn_wide.1 hw).mono ?_
    rintro E w' ⟨e', hE, hs, hst⟩
    obtain ⟨V, rfl, hV⟩ : ∃ V, E = .returned V ∧ VR e' v V := by
      rcases hE with h | ⟨u, U, hu, _⟩
      · exact h
      · rw [hu, hp u] at hv; cases hv
    exact ⟨v, V, e', rfl, hv, hV, ⟨hst.os, hst.tape, hst.output, hst.size, fun k hk => hst.blk k hk (fun i o _ h => by cases h)⟩⟩
  · cases hv
end
end Go.Xe

namespace Go.Xe
noncomputable section
set_option linter.unusedSimpArgs false
section
variable {R : Nat} {B : Bs} {e : Env} {h : T AO} {nx : Nat} {w : World} {P : Program}

/-- What leaves all that lay there as it was. -/
theorem Sim.belowW (s : Sim R B e h nx w) {w' : World} (hb : Go.RowKit.Below w.heap.size w w') : Sim R B e h nx w' ∧ Ste R e h nx w e h nx w' :=
  ⟨⟨fun i o hi => by
      obtain ⟨b, O, h1, h2, h3⟩ := s.obj i o hi
      exact ⟨b, O, h1, (hb.block b (Array.getElem?_eq_some_iff.1 h2).1).trans h2, h3⟩, s.inj, s.fresh, s.glob, s.own,
    ⟨Nat.le_trans s.base.1 hb.size, s.base.2.1, s.base.2.2.1, fun k hk => (hb.block k (Nat.lt_of_lt_of_le hk s.base.1)).trans (s.base.2.2.2 k hk)⟩⟩,
   ⟨e.le_refl, Nat.le_refl _, hb.os, hb.tape, hb.output, hb.size, fun k hk _ => hb.block k hk, fun i o _ hi ho hib _ => ⟨i, o, hi, ho, hib⟩, fun _ _ => rfl⟩⟩
/-- A block of which nothing is known but its place. -/
theorem Sim.phantom (s : Sim R B e h nx w) (b : Nat) : Sim R B (e.put nx b 0) h (nx + 1) w ∧ Ste R e h nx w (e.put nx b 0) h (nx + 1) w := by
  have hn : e.blk nx = none := s.fresh nx (Nat.le_refl _)
  have hle : e.le (e.put nx b 0) := Env.put_le hn
  have hob : ∀ i, i ≠ nx → (e.put nx b 0).blk i = e.blk i := fun i hi => by simp [Env.put, hi]
  have hno : ∀ i o, h.get i = some o → i ≠ nx := fun i o ho hi => by
    subst hi
    obtain ⟨c, O, h1, _⟩ := s.obj _ o ho
    rw [hn] at h1; cases h1
  refine ⟨⟨fun i o ho => ?_, fun i j o o' c hi hj hib hjb => ?_, fun i hi => ?_, fun g hg => ?_, fun i o c hi ho hib => ?_, ⟨s.base.1, s.base.2.1, by have := s.base.2.2.1; omega, s.base.2.2.2⟩⟩,
    ⟨hle, by omega, rfl, rfl, rfl, Nat.le_refl _, fun _ _ _ => rfl, fun i o c hi ho hib _ => ?_, fun i hi => hob i (by omega)⟩⟩
  · obtain ⟨c, O, h1, h2, h3⟩ := s.obj i o ho
    exact ⟨c, O, (hle i c h1).1, h2, h3.mono hle h1⟩
  · rw [hob i (hno i o hi)] at hib
    rw [hob j (hno j o' hj)] at hjb
    exact s.inj i j o o' c hi hj hib hjb
  · rw [hob i (by omega)]; exact s.fresh i (by omega)
  · rw [hob g (by have := s.base.2.2.1; omega)]; exact s.glob g hg
  · rw [hob i (hno i o ho)] at hib; exact s.own i o c hi ho hib
  · rw [hob i (hno i o ho)] at hib; exact ⟨i, o, hi, ho, hib⟩
/-- Nothing is known of any call. -/
def noS : Ev := fun _ _ _ _ => none
theorem noS_ok {A : Tab} : COk A P B noS := fun _ _ _ _ _ _ _ h => by cases h
/-- A function's calls are answered by S1, others by S2. -/
def orS (F : Nat) (S1 : List AV → T AO → Nat → Option (AV × T AO × Nat)) (S2 : Ev) : Ev := fun f args h nx => Bool.rec (S2 f args h nx) (S1 args h nx) (Nat.beq f F)
/-- What is known of a function. -/
def FOk (A : Tab) (P : Program) (B : Bs) (f : FuncId) (S : List AV → T AO → Nat → Option (AV × T AO × Nat)) : Prop :=
  ∀ (args : List AV) (h : T AO) (nx : Nat) (v : AV) (h' : T AO) (nx' : Nat), S args h nx = some (v, h', nx') →
    ∀ (e : Env) (w : World) (ARGS : List Value), Sim A.R B e h nx w → VRs e args ARGS →
      Calls P f ⟨ARGS⟩ w fun E w' => ∃ V e', E = .returned V ∧ VR e' v V ∧ Sim A.R B e' h' nx' w' ∧ Ste A.R e h nx w e' h' nx' w'
theorem orS_ok {A : Tab} {F : Nat} {S1 : List AV → T AO → Nat → Option (AV × T AO × Nat)} {S2 : Ev} (he : ∀ ays w, (callFunc F ays).run P w = .ok (.enter F ays) w) (h1 : FOk A P B F S1) (h2 : COk A P B S2) (hF : Nat.beq F YB = false := by rfl) : COk A P B (orS F S1 S2) := fun f args h nx v h' nx' hv => by
  unfold orS at hv
  cases hf : Nat.beq f F with
  | false => rw [hf] at hv; exact h2 f args h nx v h' nx' hv
  | true =>
    rw [hf] at hv
    obtain rfl : f = F := Nat.eq_of_beq_eq_true hf
    exact ⟨fun hh => (ne_YB hF hh).elim, fun _ => ⟨he, fun e w ARGS n s ha => callsIn_wide.2 ((h1 args h nx v h' nx' hv e w ARGS s ha).mono fun E w' ⟨V, e', hE, hV, hs, hst⟩ => ⟨e', .inl ⟨V, hE, hV⟩, hs, hst⟩)⟩⟩
end
end
end Go.Xe

