/- An evaluator of closed runs, proved sound (part 6 of 5). -/
import Derived.Test.YtecmncaomlcanaaGreatEv5
namespace Go.Xe
noncomputable section
set_option linter.unusedSimpArgs false
set_option linter.unusedVariables false

/-! ### A stretch of a run known by itself: a call at a place of the run, its result written out. -/
def eqB : List UInt8 → List UInt8 → Bool
  | [], [] => true
  | a :: l, b :: m => Nat.beq a.toNat b.toNat && eqB l m
  | _, _ => false
theorem eqB_eq : ∀ l m, eqB l m = true → l = m
  | [], [], _ => rfl
  | [], _ :: _, h => by simp [eqB] at h
  | _ :: _, [], h => by simp [eqB] at h
  | a :: l, b :: m, h => by
    simp only [eqB, Bool.and_eq_true] at h
    rw [eqB_eq l m h.2, UInt8.toNat_inj.1 (Nat.eq_of_beq_eq_true h.1)]
mutual
def eqAV : AV → AV → Bool
  | .bool b, .bool c => decide (b = c)
  | .int k n, .int l m => decide (k = l) && decide (n = m)
  | .str s, .str t => eqB s t
  | .nilp, .nilp => true
  | .ptr i o, .ptr j p => Nat.beq i j && Nat.beq o p
  | .nils, .nils => true
  | .slice a b c d, .slice a' b' c' d' => Nat.beq a a' && (Nat.beq b b' && (Nat.beq c c' && Nat.beq d d'))
  | .grow a b c d, .grow a' b' c' d' => Nat.beq a a' && (Nat.beq b b' && (Nat.beq c c' && Nat.beq d d'))
  | .nilm, .nilm => true
  | .map i, .map j => Nat.beq i j
  | .func (.func f) l m, .func (.func g) l' m' => Nat.beq f g && (eqAVs l l' && eqAVs m m')
  | .nilf, .nilf => true
  | .iface t v, .iface u x => Nat.beq t u && eqAV v x
  | .nili, .nili => true
  | .agg l, .agg m => eqAVs l m
  | .tup l, .tup m => eqAVs l m
  | .yld i, .yld j => Nat.beq i j
  | .pan a, .pan b => eqAV a b
  | _, _ => false
termination_by structural a => a
def eqAVs : List AV → List AV → Bool
  | [], [] => true
  | a :: l, b :: m => eqAV a b && eqAVs l m
  | _, _ => false
termination_by structural l => l
end
mutual
theorem eqAV_eq : ∀ a b, eqAV a b = true → a = b
  | .bool b, x, h => by cases x <;> simp_all [eqAV]
  | .int k n, x, h => by cases x <;> simp_all [eqAV]
  | .str s, x, h => by
    cases x <;> simp only [eqAV] at h
    all_goals first | (cases h; done) | rw [eqB_eq _ _ h]
  | .nilp, x, h => by cases x <;> simp_all [eqAV]
  | .ptr i o, x, h => by cases x <;> simp_all [eqAV]
  | .nils, x, h => by cases x <;> simp_all [eqAV]
  | .slice a b c d, x, h => by cases x <;> simp_all [eqAV]
  | .grow a b c d, x, h => by cases x <;> simp_all [eqAV]
  | .nilm, x, h => by cases x <;> simp_all [eqAV]
  | .map i, x, h => by cases x <;> simp_all [eqAV]
  | .func f l m, x, h => by
    cases x with
    | func g l' m' =>
      cases f <;> cases g <;> simp only [eqAV, Bool.and_eq_true] at h <;> first | (cases h; done) | skip
      rw [eqAVs_eq _ _ h.2.1, eqAVs_eq _ _ h.2.2, Nat.eq_of_beq_eq_true h.1]
    | _ => cases f <;> simp [eqAV] at h
  | .nilf, x, h => by cases x <;> simp_all [eqAV]
  | .iface t v, x, h => by
    cases x <;> simp only [eqAV, Bool.and_eq_true] at h
    all_goals first | (cases h; done) | rw [Nat.eq_of_beq_eq_true h.1, eqAV_eq _ _ h.2]
  | .nili, x, h => by cases x <;> simp_all [eqAV]
  | .agg l, x, h => by
    cases x <;> simp only [eqAV] at h
    all_goals first | (cases h; done) | rw [eqAVs_eq _ _ h]
  | .tup l, x, h => by
    cases x <;> simp only [eqAV] at h
    all_goals first | (cases h; done) | rw [eqAVs_eq _ _ h]
  | .yld i, x, h => by cases x <;> simp_all [eqAV]
  | .pan v, x, h => by
    cases x <;> simp only [eqAV] at h
    all_goals first | (cases h; done) | rw [eqAV_eq _ _ h]
theorem eqAVs_eq : ∀ l m, eqAVs l m = true → l = m
  | [], [], _ => rfl
  | [], _ :: _, h => by simp [eqAVs] at h
  | _ :: _, [], h => by simp [eqAVs] at h
  | a :: l, b :: m, h => by
    simp only [eqAVs, Bool.and_eq_true] at h
    rw [eqAV_eq _ _ h.1, eqAVs_eq _ _ h.2]
end
def eqEs : List (AV × AV × Nat) → List (AV × AV × Nat) → Bool
  | [], [] => true
  | (a, b, n) :: l, (a', b', n') :: m => eqAV a a' && (eqAV b b' && (Nat.beq n n' && eqEs l m))
  | _, _ => false
theorem eqEs_eq : ∀ l m, eqEs l m = true → l = m
  | [], [], _ => rfl
  | [], _ :: _, h => by simp [eqEs] at h
  | _ :: _, [], h => by simp [eqEs] at h
  | (a, b, n) :: l, (a', b', n') :: m, h => by
    simp only [eqEs, Bool.and_eq_true] at h
    rw [eqAV_eq _ _ h.1, eqAV_eq _ _ h.2.1, Nat.eq_of_beq_eq_true h.2.2.1, eqEs_eq _ _ h.2.2.2]
def eqAO : AO → AO → Bool
  | .row c t, .row d u => Nat.beq t u && eqAVs c d
  | .opn c t n, .opn d u m => Nat.beq t u && (Nat.beq n m && eqAVs c d)
  | .map l n, .map k m => Nat.beq n m && eqEs l k
  | .iter s n, .iter t m => Nat.beq n m && eqB s t
  | _, _ => false
theorem eqAO_eq : ∀ a b, eqAO a b = true → a = b
  | .row c t, x, h => by
    cases x <;> simp only [eqAO, Bool.and_eq_true] at h
    all_goals first | (cases h; done) | rw [Nat.eq_of_beq_eq_true h.1, eqAVs_eq _ _ h.2]
  | .opn c t n, x, h => by
    cases x <;> simp only [eqAO, Bool.and_eq_true] at h
    all_goals first | (cases h; done) | rw [Nat.eq_of_beq_eq_true h.1, Nat.eq_of_beq_eq_true h.2.1, eqAVs_eq _ _ h.2.2]
  | .map l n, x, h => by
    cases x <;> simp only [eqAO, Bool.and_eq_true] at h
    all_goals first | (cases h; done) | rw [Nat.eq_of_beq_eq_true h.1, eqEs_eq _ _ h.2]
  | .iter s n, x, h => by
    cases x <;> simp only [eqAO, Bool.and_eq_true] at h
    all_goals first | (cases h; done) | rw [Nat.eq_of_beq_eq_true h.1, eqB_eq _ _ h.2]
  | .loop .., x, h => by cases x <;> simp [eqAO] at h
  | .rom _, x, h => by cases x <;> simp [eqAO] at h

/-- What lies at so many places. -/
abbrev Pl := List (Nat × AO)
def hasL (h : T AO) : Pl → Bool
  | [] => true
  | (i, o) :: l => (match h.get i with | some p => eqAO p o | none => false) && hasL h l
theorem hasL_of (h : T AO) : ∀ l, hasL h l = true → ∀ x ∈ l, h.get x.1 = some x.2
  | [], _, x, hx => by cases hx
  | (i, o) :: l, hh, x, hx => by
    simp only [hasL, Bool.and_eq_true] at hh
    cases hx with
    | head => 
      have h1 := hh.1
      split at h1
      · rename_i p hp
        rw [hp, eqAO_eq _ _ h1]
      · cases h1
    | tail _ hx => exact hasL_of h l hh.2 x hx
def ofL : Pl → T AO → Option (T AO)
  | [], h => some h
  | (i, o) :: l, h => (h.put 60 i (some o)).bind (ofL l)
def offL : Pl → T AO → Option (T AO)
  | [], h => some h
  | (i, _) :: l, h => (h.put 60 i none).bind (offL l)
theorem ofL_get : ∀ l h h', ofL l h = some h' → ∀ i o, h'.get i = some o → (i, o) ∈ l ∨ (h.get i = some o)
  | [], h, h', hh, i, o, hi => by cases hh; exact .inr hi
  | (j, p) :: l, h, h', hh, i, o, hi => by
    obtain ⟨h1, hp, hl⟩ := Option.bind_eq_some_iff.1 hh
    rcases ofL_get l h1 h' hl i o hi with hm | hg
    · exact .inl (.tail _ hm)
    · rw [T.put_get 60 h j (some p) h1 hp] at hg
      split at hg
      · cases hg; rename_i hij; subst hij; exact .inl (.head _)
      · exact .inr hg
theorem offL_get : ∀ l h h', offL l h = some h' → ∀ i o, h'.get i = some o → h.get i = some o ∧ ∀ x ∈ l, x.1 ≠ i
  | [], h, h', hh, i, o, hi => by cases hh; exact ⟨hi, fun x hx => by cases hx⟩
  | (j, p) :: l, h, h', hh, i, o, hi => by
    obtain ⟨h1, hp, hl⟩ := Option.bind_eq_some_iff.1 hh
    obtain ⟨hg, hn⟩ := offL_get l h1 h' hl i o hi
    rw [T.put_get 60 h j none h1 hp] at hg
    split at hg
    · cases hg
    · rename_i hij
      exact ⟨hg, fun x hx => by cases hx with | head => exact fun hh => hij hh.symm | tail _ hx => exact hn x hx⟩
/-- A call at a place of the run. -/
structure Cut where
  f : FuncId
  nx : Nat
  args : List AV
  pre : Pl
  v : AV
  post : Pl
  nx' : Nat
def Cut.good (A : Tab) (S : Ev) (lp d : Nat) (c : Cut) : Bool :=
  match ofL c.pre .leaf with
  | some h => match evCallS A S lp d c.f c.args h c.nx with
    | some (v, h', nx') => not (Nat.beq c.f YB) && (Nat.beq nx' c.nx' && (eqAV v c.v && hasL h' c.post))
    | none => false
  | none => false
def cutE (c : Cut) (S : Ev) : Ev := fun f args h nx =>
  match Nat.beq nx c.nx && Nat.beq f c.f with
  | true => match eqAVs args c.args && hasL h c.pre with
    | true => ((offL c.pre h).bind (ofL c.post)).map fun h' => (c.v, h', c.nx')
    | false => S f args h nx
  | false => S f args h nx
section
variable {B : Bs} {P : Program}
theorem cut_ok {A : Tab} (hA : A.Ok P) (hm : P.follows .mixedOrders = true) (hR : A.R = 0) {S : Ev} (hS : COk A P B S) {lp d : Nat} {c : Cut} (hc : c.good A S lp d = true) {S2 : Ev} (h2 : COk A P B S2) : COk A P B (cutE c S2) := by
  intro f args h nx v h' nx' hv
  unfold cutE at hv
  split at hv
  · rename_i hk
    split at hv
    · rename_i hk2
      simp only [Bool.and_eq_true] at hk hk2
      obtain rfl := Nat.eq_of_beq_eq_true hk.1
      obtain rfl := Nat.eq_of_beq_eq_true hk.2
      obtain rfl := eqAVs_eq _ _ hk2.1
      have hpre := hasL_of h c.pre hk2.2
      obtain ⟨h3, hof, hz⟩ := Option.map_eq_some_iff.1 hv
      obtain ⟨hm1, hoff, hput⟩ := Option.bind_eq_some_iff.1 hof
      cases hz
      unfold Cut.good at hc
      split at hc
      · rename_i h0 hh0
        split at hc
        · rename_i v1 h1 n1 hev
          simp only [Bool.and_eq_true, Bool.not_eq_true'] at hc
          have hne := ne_YB hc.1
          replace hc := hc.2
          obtain rfl := Nat.eq_of_beq_eq_true hc.1
          obtain rfl := eqAV_eq _ _ hc.2.1
          have hpost := hasL_of h1 c.post hc.2.2
          have mem0 : ∀ i o, h0.get i = some o → (i, o) ∈ c.pre := fun i o hi => by
            rcases ofL_get c.pre .leaf h0 hh0 i o hi with hm | hg
            · exact hm
            · cases hg
          have key0 : ∀ i o, h0.get i = some o → h.get i = some o := fun i o hi => hpre _ (mem0 i o hi)
          have key : ∀ i o, h'.get i = some o → h1.get i = some o ∨ (h.get i = some o ∧ ∀ x ∈ c.pre, x.1 ≠ i) := fun i o hi => by
            rcases ofL_get c.post hm1 h' hput i o hi with hm | hg
            · exact .inl (hpost _ hm)
            · exact .inr (offL_get c.pre h hm1 hoff i o hg)
          have hok := (evCallS_ok hA hm hS lp d c.f c.args h0 c.nx c.v h1 c.nx' hev).2 hne
          refine ⟨fun hh => (hne hh).elim, fun _ => ⟨hok.1, fun e w ARGS n s ha => ?_⟩⟩
          have s0 : Sim A.R B e h0 c.nx w := ⟨fun i o hi => s.obj i o (key0 i o hi), fun i j o o' b hi hj => s.inj i j o o' b (key0 _ _ hi) (key0 _ _ hj), s.fresh, s.glob, fun i o b hr hi => s.own i o b hr (key0 _ _ hi), s.base⟩
          refine (hok.2 e w ARGS n s0 ha).mono ?_
          rintro E w' ⟨e', hE, s1, st⟩
          have z : ∀ i, A.R ≤ i := fun i => by omega
          have far : ∀ i o, h.get i = some o → (∀ x ∈ c.pre, x.1 ≠ i) → ∃ b O, e.blk i = some b ∧ e'.blk i = some b ∧ b < w.heap.size ∧ w'.heap[b]? = some O ∧ OR e' i o O := fun i o hi hn => by
            obtain ⟨b, O, hb, hO, hr⟩ := s.obj i o hi
            have hlt : b < w.heap.size := (Array.getElem?_eq_some_iff.1 hO).1
            refine ⟨b, O, hb, (st.le i b hb).1, hlt, ?_, hr.mono st.le hb⟩
            rw [st.blk b hlt (fun j p _ hj hjb => hn _ (mem0 j p hj) (s.inj j i p o b (key0 j p hj) hi hjb hb)), hO]
          have mixed : ∀ i j o o' b, h1.get i = some o → h.get j = some o' → (∀ x ∈ c.pre, x.1 ≠ j) → e'.blk i = some b → e'.blk j = some b → False := fun i j o o' b hi hj hn hib hjb => by
            obtain ⟨b', O, hb1, hb2, hlt, _, _⟩ := far j o' hj hn
            obtain rfl : b' = b := by rw [hjb] at hb2; exact (Option.some.inj hb2).symm
            obtain ⟨k, p, _, hk, hkb⟩ := st.img i o b' (z i) hi hib hlt
            exact hn _ (mem0 k p hk) (s.inj k j p o' b' (key0 k p hk) hj hkb hb1)
          refine ⟨e', hE, ⟨fun i o hi => ?_, fun i j o o' b hi hj hib hjb => ?_, s1.fresh, s1.glob, fun i o b hr hi hib => ?_, s1.base⟩, ⟨st.le, st.nxle, st.os, st.tape, st.output, st.size, fun k hk hn => st.blk k hk (fun i o hr hi => hn i o hr (key0 i o hi)), fun i o b hr hi hib hlt => ?_, st.old⟩⟩
          · rcases key i o hi with hi | ⟨hi, hn⟩
            · exact s1.obj i o hi
            · obtain ⟨b, O, _, hb2, _, hO, hr⟩ := far i o hi hn
              exact ⟨b, O, hb2, hO, hr⟩
          · rcases key i o hi with hi | ⟨hi, hn⟩ <;> rcases key j o' hj with hj | ⟨hj, hn'⟩
            · exact s1.inj i j o o' b hi hj hib hjb
            · exact (mixed i j o o' b hi hj hn' hib hjb).elim
            · exact (mixed j i o' o b hj hi hn hjb hib).elim
            · obtain ⟨b1, _, hb1, hb1', _⟩ := far i o hi hn
              obtain ⟨b2, _, hb2, hb2', _⟩ := far j o' hj hn'
              rw [hib] at hb1'; rw [hjb] at hb2'
              cases hb1'; cases hb2'
              exact s.inj i j o o' b hi hj hb1 hb2
          · rcases key i o hi with hi | ⟨hi, hn⟩
            · exact s1.own i o b hr hi hib
            · obtain ⟨b1, _, hb1, hb1', _⟩ := far i o hi hn
              rw [hib] at hb1'; cases hb1'
              exact s.own i o b hr hi hb1
          · rcases key i o hi with hi | ⟨hi, hn⟩
            · obtain ⟨k, p, hr, hk, hkb⟩ := st.img i o b hr hi hib hlt
              exact ⟨k, p, hr, key0 k p hk, hkb⟩
            · obtain ⟨b1, _, hb1, hb1', _⟩ := far i o hi hn
              rw [hib] at hb1'; cases hb1'
              exact ⟨i, o, hr, hi, hb1⟩
        · cases hc
      · cases hc
    · exact h2 f args h nx v h' nx' hv
  · exact h2 f args h nx v h' nx' hv
def AllC (p : Cut → Prop) (t : T Cut) : Prop := ∀ n c, t.get n = some c → p c
theorem allC_leaf {p : Cut → Prop} : AllC p .leaf := fun n v h => by cases h
theorem allC_node {p : Cut → Prop} {l r : T Cut} {x : Option Cut} (hx : ∀ v, x = some v → p v) (hl : AllC p l) (hr : AllC p r) : AllC p (.node l x r) :=
  show AllT (fun _ c => p c) (.node l x r) from allT_node (p := fun _ c => p c) hx hl hr
theorem someC {p : Cut → Prop} {x : Cut} (h : p x) : ∀ v, some x = some v → p v := fun v hv => by cases hv; exact h
theorem noneC {p : Cut → Prop} : ∀ v, (none : Option Cut) = some v → p v := fun v hv => by cases hv
/-- What is known of a call at a place of the run. -/
def CutOk (A : Tab) (P : Program) (B : Bs) (c : Cut) : Prop := ∀ S2, COk A P B S2 → COk A P B (cutE c S2)
def cutsE (t : T Cut) (S : Ev) : Ev := fun f args h nx => match t.get nx with
  | some c => cutE c S f args h nx
  | none => S f args h nx
theorem cutsE_ok {A : Tab} {t : T Cut} (ht : AllC (CutOk A P B) t) {S : Ev} (hS : COk A P B S) : COk A P B (cutsE t S) := fun f args h nx v h' nx' hv => by
  unfold cutsE at hv
  split at hv
  · rename_i c hc
    exact ht _ c hc S hS f args h nx v h' nx' hv
  · exact hS f args h nx v h' nx' hv
end
end
end Go.Xe

