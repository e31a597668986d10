/- An evaluator of closed runs, proved sound (part 2 of 5). -/
import Derived.Test.YtfhjfhbfgndheaaDoorEv1
import Derived.Laws.Small
import Derived.Lib.Builder
import Derived.Lib.UnsafeStr
import Derived.Laws.BytesString
import Derived.Laws.MakeOwn
import Derived.Laws.AppendOwn
namespace Go.Xe
noncomputable section
set_option linter.unusedSimpArgs false
section
variable {R : Nat} {B : Bs} {e : Env} {h : T AO} {nx : Nat} {w : World} {P : Program}

/-! ### Structs and arrays out of parts -/
def AV.cells : AV → List AV
  | .agg l => l
  | v => [v]
theorem VR.cells {v : AV} {V : Value} (hv : VR e v V) : VRs e v.cells V.cells.toList := by
  cases hv <;> first
    | (rename_i hl; simpa [AV.cells, Value.cells] using hl)
    | exact VRs.one (by constructor <;> assumption)
    | exact VRs.one (by constructor)
def aFill (place : Nat → Option (Nat × Nat)) : List AV → List (Nat × AV) → Option (List AV)
  | cells, [] => some cells
  | cells, (i, v) :: rest =>
    match place i with
    | none => none
    | some (off, size) =>
      match Nat.beq v.cells.length size, Nat.ble (off + v.cells.length) cells.length with
      | true, true => aFill place (cells.take off ++ v.cells ++ cells.drop (off + v.cells.length)) rest
      | _, _ => none
inductive PRs (e : Env) : List (Nat × AV) → List (Nat × Value) → Prop
  | nil : PRs e [] []
  | cons (i : Nat) (v : AV) (V : Value) (l : List (Nat × AV)) (L : List (Nat × Value)) (h : VR e v V) (hs : PRs e l L) : PRs e ((i, v) :: l) ((i, V) :: L)
theorem fold_seg (off : Nat) : ∀ (vs : List Value) (k : Nat) (C : Array Value), off + k + vs.length ≤ C.size →
    ((vs.zipIdx k).foldl (fun cs (x : Value × Nat) => cs.setIfInBounds (off + x.2) x.1) C).toList = C.toList.take (off + k) ++ vs ++ C.toList.drop (off + k + vs.length)
  | [], k, C, _ => by simp
  | v :: vs, k, C, hl => by
    simp only [List.zipIdx_cons, List.foldl_cons]
    simp only [List.length_cons] at hl
    rw [fold_seg off vs (k + 1) (C.setIfInBounds (off + k) v) (by simp; omega)]
    have := list_seg_step C.toList (off + k) v vs (by simp; omega)
    simpa [Array.toList_setIfInBounds, Nat.add_assoc, Nat.add_comm, Nat.add_left_comm] using this
theorem aFill_ok {place : Nat → Option (Nat × Nat)} : ∀ {parts : List (Nat × AV)} {Parts : List (Nat × Value)} {cells r : List AV} {C : Array Value}, aFill place cells parts = some r → PRs e parts Parts → VRs e cells C.toList →
    ∃ C', Instr.fill place C Parts = some C' ∧ VRs e r C'.toList
  | [], _, cells, r, C, h, .nil, hc => by cases h; exact ⟨C, rfl, hc⟩
  | (i, v) :: rest, _, cells, r, C, h, .cons _ _ V _ L hv hs, hc => by
    rw [aFill] at h
    cases hp : place i with
    | none => simp [hp] at h
    | some os =>
      obtain ⟨off, size⟩ := os
      simp only [hp] at h
      split at h
      · rename_i h1 h2
        have h1 := Nat.eq_of_beq_eq_true h1
        have h2 := Nat.le_of_ble_eq_true h2
        have hvc := hv.cells
        have hlen : V.cells.size = v.cells.length := by rw [← hvc.length]; simp
        have hCl : C.size = cells.length := by rw [← hc.length]; simp
        have hfold : (V.cells.zipIdx.foldl (fun cs (x : Value × Nat) => cs.setIfInBounds (off + x.2) x.1) C).toList = C.toList.take off ++ V.cells.toList ++ C.toList.drop (off + V.cells.size) := by
          rw [← Array.foldl_toList, Array.toList_zipIdx]
          have := fold_seg off V.cells.toList 0 C (by simp; omega)
          simpa using this
        obtain ⟨C', hC', hr⟩ := aFill_ok (place := place) (C := V.cells.zipIdx.foldl (fun cs (x : Value × Nat) => cs.setIfInBounds (off + x.2) x.1) C) h hs (by
          rw [hfold, hlen]
          exact ((hc.take off).append hvc).append (hc.drop _))
        refine ⟨C', ?_, hr⟩
        rw [Instr.fill]
        simp only [hp]
        rw [if_neg (by simp; omega)]
        exact hC'
      · cases h
def aPlace (A : Tab) (d : TypeDesc) (i : Nat) : Option (Nat × Nat) :=
  match d with
  | .struct fs => (fs.toList[i]?).bind fun f => (A.ty.get f.type).bind fun j => some (f.offset, j.size)
  | .array _ el => (A.ty.get el).bind fun j => some (i * j.size, j.size)
  | _ => none
def allTy (A : Tab) : List Field → Bool
  | [] => true
  | f :: l => match A.ty.get f.type with
    | some _ => allTy A l
    | none => false
def aBuild (A : Tab) (t : TypeId) (parts : List (Nat × AV)) : Option AV :=
  (A.ty.get t).bind fun i => i.zero.bind fun z =>
  match i.desc with
  | .struct fs => match allTy A fs.toList with
    | true => (aFill (aPlace A i.desc) z.cells parts).bind fun r => some (.agg r)
    | false => none
  | .array _ el => (A.ty.get el).bind fun _ => (aFill (aPlace A i.desc) z.cells parts).bind fun r => some (.agg r)
  | _ => none
theorem places_ok {A : Tab} (hA : A.Ok P) : ∀ (fs : List Field), allTy A fs = true → ∃ places : List (Nat × Nat), fs.mapM (fun f => (P.info? f.type).map fun i => (f.offset, i.size)) = some places ∧
    ∀ i : Nat, (fs[i]?).bind (fun f : Field => (A.ty.get f.type).bind fun j => some (f.offset, j.size)) = places[i]?
  | [], _ => ⟨[], by simp, by simp⟩
  | f :: fs, h => by
    rw [allTy] at h
    split at h
    · rename_i j hj
      obtain ⟨places, h1, h2⟩ := places_ok hA fs h
      obtain ⟨_, I, hI, hs, _⟩ := hA.ty _ j hj
      refine ⟨(f.offset, I.size) :: places, by simp [h1, hI], fun i => ?_⟩
      cases i with
      | zero => simp [hj, hs]
      | succ i => simpa using h2 i
    · cases h
theorem aBuild_ok {A : Tab} (hA : A.Ok P) {t : TypeId} {parts : List (Nat × AV)} {Parts : Array (Nat × Value)} {v : AV} (hv : aBuild A t parts = some v) (hp : PRs e parts Parts.toList) :
    ∃ V, (Instr.build t Parts).run P w = .ok V w ∧ VR e v V := by
  obtain ⟨i, hi, hv⟩ := Option.bind_eq_some_iff.1 hv
  obtain ⟨z, hz, hv⟩ := Option.bind_eq_some_iff.1 hv
  obtain ⟨hu, I, hI, hs, _, hzz⟩ := hA.ty _ i hi
  obtain ⟨Z, hZ, hzr⟩ := hzz z hz
  have hzc : VRs e z.cells Z.cells.toList := (hzr e).cells
  split at hv
  · rename_i fs hd
    split at hv
    · rename_i hall
      obtain ⟨r, hr, hv⟩ := Option.bind_eq_some_iff.1 hv
      cases hv
      obtain ⟨places, hp1, hp2⟩ := places_ok hA _ hall
      obtain ⟨C', hC', hr'⟩ := aFill_ok hr hp hzc
      refine ⟨.agg C', run_build w t Parts C' ?_, ?_⟩
      · unfold Program.built
        rw [hI, hu, hd]
        simp only [hZ, hp1]
        have : aPlace A i.desc = fun k => places.toArray[k]? := by
          funext k
          rw [hd, aPlace, hp2]
          simp
        rw [← this]; exact hC'
      · cases C' with | mk l => exact .agg _ _ hr'
    · cases hv
  · rename_i n el hd
    obtain ⟨j, hj, hv⟩ := Option.bind_eq_some_iff.1 hv
    obtain ⟨r, hr, hv⟩ := Option.bind_eq_some_iff.1 hv
    cases hv
    obtain ⟨_, J, hJ, hjs, _⟩ := hA.ty _ j hj
    obtain ⟨C', hC', hr'⟩ := aFill_ok hr hp hzc
    refine ⟨.agg C', run_build w t Parts C' ?_, ?_⟩
    · unfold Program.built
      rw [hI, hu, hd]
      simp only [hZ, hJ]
      have : aPlace A i.desc = fun k => some (k * J.size, J.size) := by
        funext k
        rw [hd, aPlace, hj, hjs]
        rfl
      rw [← this]; exact hC'
    · cases C' with | mk l => exact .agg _ _ hr'
  · cases hv

/-! ### Maps -/
def sameA (d : TypeDesc) (x y : AV) : Option Bool :=
  match d, x, y with
  | .int _, .int k a, .int k' b => if k = k' then some (a == b) else none
  | .string, .str a, .str b => some (a == b)
  | .bool, .bool a, .bool b => some (a == b)
  | _, _, _ => none
theorem sameA_ok {d : TypeDesc} {x y : AV} {X Y : Value} {b : Bool} (hs : sameA d x y = some b) (hx : VR e x X) (hy : VR e y Y) : Instr.sameNow d X Y = some b := by
  unfold sameA at hs
  split at hs <;> (try (cases hs; done)) <;> cases hx <;> cases hy
  · split at hs
    · cases hs; simp [Instr.sameNow, *]
    · cases hs
  · rename_i a b'
    cases hs
    simp only [Instr.sameNow, Option.some.injEq]
    have hbe : ∀ x y : ByteArray, (x == y) = (x.data == y.data) := fun _ _ => rfl
    rw [hbe]
    by_cases hab : a = b'
    · subst hab; simp
    · rw [show (a == b') = false by simpa using hab]
      simpa using hab
  · cases hs; rfl
def aFind (d : TypeDesc) (k : AV) : List (AV × AV × Nat) → Nat → Option (Option (Nat × AV))
  | [], _ => some none
  | x :: es, i =>
    match sameA d k x.1 with
    | some true => some (some (i, x.2.1))
    | some false => aFind d k es (i + 1)
    | none => none
theorem aFind_ok {d : TypeDesc} {k : AV} {K : Value} (hk : VR e k K) : ∀ {es : List (AV × AV × Nat)} {E : List MapEntry} {i : Nat} {r : Option (Nat × AV)}, aFind d k es i = some r →
    VRs e (es.map (·.1)) (E.map (·.key)) → VRs e (es.map (·.2.1)) (E.map (·.val)) → ∃ r', Instr.findNow d K E i = some r' ∧ (match r, r' with
      | none, none => True
      | some (j, v), some (j', V) => j = j' ∧ VR e v V
      | _, _ => False)
  | [], E, i, r, h, h1, _ => by
    cases h
    cases E with
    | nil => exact ⟨none, rfl, trivial⟩
    | cons _ _ => cases h1
  | x :: es, E, i, r, h, h1, h2 => by
    cases E with
    | nil => cases h1
    | cons y E =>
      simp only [List.map_cons] at h1 h2
      cases h1 with
      | cons _ _ _ _ hk1 hs1 =>
        cases h2 with
        | cons _ _ _ _ hv1 hs2 =>
          rw [aFind] at h
          cases hsame : sameA d k x.1 with
          | none => simp [hsame] at h
          | some b =>
            have hb := sameA_ok hsame hk hk1
            cases b with
            | true =>
              simp only [hsame] at h
              cases h
              exact ⟨some (i, y.val), by simp [Instr.findNow, hb], rfl, hv1⟩
            | false =>
              simp only [hsame] at h
              obtain ⟨r', hr', hrel⟩ := aFind_ok hk h hs1 hs2
              exact ⟨r', by simp [Instr.findNow, hb, hr'], hrel⟩
def aFindS (A : Tab) (kt : TypeId) (k : AV) : List (AV × AV × Nat) → Nat → Option (Option (Nat × AV))
  | [], _ => some none
  | x :: es, i =>
    match aEqv A 20 kt k x.1 with
    | some true => some (some (i, x.2.1))
    | some false => aFindS A kt k es (i + 1)
    | none => none
theorem aFindS_ok {A : Tab} (hA : A.Ok P) {kt : TypeId} {k : AV} {K : Value} (hk : VR e k K) : ∀ {es : List (AV × AV × Nat)} {E : List MapEntry} {i : Nat} {r : Option (Nat × AV)}, aFindS A kt k es i = some r →
    VRs e (es.map (·.1)) (E.map (·.key)) → VRs e (es.map (·.2.1)) (E.map (·.val)) → ∃ r', (Instr.findAsking kt K E i).run P w = .ok r' w ∧ (match r, r' with
      | none, none => True
      | some (j, v), some (j', V) => j = j' ∧ VR e v V
      | _, _ => False) ∧ ∀ j V, r' = some (j, V) → i ≤ j
  | [], E, i, r, h, h1, _ => by
    cases h
    cases E with
    | nil => exact ⟨none, rfl, trivial, fun j V hh => by cases hh⟩
    | cons _ _ => cases h1
  | x :: es, E, i, r, h, h1, h2 => by
    cases E with
    | nil => cases h1
    | cons y E =>
      simp only [List.map_cons] at h1 h2
      cases h1 with
      | cons _ _ _ _ hk1 hs1 =>
        cases h2 with
        | cons _ _ _ _ hv1 hs2 =>
          rw [aFindS] at h
          cases hsame : aEqv A 20 kt k x.1 with
          | none => simp [hsame] at h
          | some b =>
            have hb : (Op.equal kt K y.key).run P w = .ok b w := aEqv_ok (P := P) (w := w) hA 20 hsame hk hk1 10000 (by omega)
            cases b with
            | true =>
              simp only [hsame] at h
              cases h
              exact ⟨some (i, y.val), by simp [Instr.findAsking, hb, Result.andThen], ⟨rfl, hv1⟩, fun j V hh => by cases hh; exact Nat.le_refl _⟩
            | false =>
              simp only [hsame] at h
              obtain ⟨r', hr', hrel, hle⟩ := aFindS_ok hA hk h hs1 hs2
              exact ⟨r', by simp [Instr.findAsking, hb, hr', Result.andThen], hrel, fun j V hh => by have := hle j V hh; omega⟩
/-- The search for a key. -/
def aFindK (A : Tab) (kt : TypeId) (d : TypeDesc) (k : AV) (es : List (AV × AV × Nat)) : Option (Option (Nat × AV)) := match d with
  | .struct _ => aFindS A kt k es 0
  | d => aFind d k es 0
def isStruct : TypeDesc → Bool
  | .struct _ => true
  | _ => false
theorem aFindK_ok {A : Tab} (hA : A.Ok P) {kt : TypeId} {j : TI} (hj : A.ty.get kt = some j) {k : AV} {K : Value} (hk : VR e k K) {es : List (AV × AV × Nat)} {E : List MapEntry} {r : Option (Nat × AV)} (h : aFindK A kt j.desc k es = some r)
    (h1 : VRs e (es.map (·.1)) (E.map (·.key))) (h2 : VRs e (es.map (·.2.1)) (E.map (·.val))) : ∃ r', (Instr.findKey kt K E).run P w = .ok r' w ∧ (match r, r' with
      | none, none => True
      | some (j, v), some (j', V) => j = j' ∧ VR e v V
      | _, _ => False) ∧ (isStruct j.desc = false → Instr.findNow j.desc K E 0 = some r') := by
  have hK : (underlying kt).run P w = .ok j.desc w := run_und (hA.ty _ j hj)
  unfold aFindK at h
  split at h
  · rename_i fs hd
    obtain ⟨r', hr', hrel, _⟩ := aFindS_ok (P := P) (w := w) hA hk h h1 h2
    refine ⟨r', ?_, hrel, fun hh => by rw [hd] at hh; cases hh⟩
    rw [hd] at hK
    unfold Instr.findKey
    simp only [Sem.run_bind, hK, Result.andThen]
    cases E with
    | nil => exact hr'
    | cons y E =>
      have : Instr.findNow (.struct fs) K (y :: E) 0 = none := by simp [Instr.findNow, Instr.sameNow]
      rw [this]
      exact hr'
  · obtain ⟨r', hr', hrel⟩ := aFind_ok hk h h1 h2
    refine ⟨r', ?_, hrel, fun _ => hr'⟩
    unfold Instr.findKey
    simp only [Sem.run_bind, hK, Result.andThen, hr', Sem.run_pure]
def keyTy (d : TypeDesc) : Bool := match d with
  | .int _ | .string | .bool => true
  | _ => false
theorem run_checkKey (b : Bool) (n : Nat) {A : Tab} (hA : A.Ok P) {kt : TypeId} {j : TI} (hj : A.ty.get kt = some j) (hk : keyTy j.desc = true) (K : Value) : (Instr.checkKey b (n + 1) kt K).run P w = .ok () w := by
  have hU : (underlying kt).run P w = .ok j.desc w := run_und (hA.ty _ j hj)
  unfold keyTy at hk
  split at hk <;> (try (cases hk; done)) <;> (rename j.desc = _ => hd; rw [hd] at hU)
  all_goals (unfold Instr.checkKey; simp only [Sem.run_bind, hU, Result.andThen]; cases K <;> rfl)
def aKeyFs (A : Tab) (ck : TypeId → AV → Bool) (xs : List AV) : List Field → Bool
  | [] => true
  | f :: fs => match aPart A f.type xs f.offset with
    | some x => match ck f.type x with
      | true => aKeyFs A ck xs fs
      | false => false
    | none => false
def aKey (A : Tab) : Nat → TypeId → AV → Bool
  | 0, _, _ => false
  | d + 1, t, x => match A.ty.get t with
    | some i => match keyTy i.desc with
      | true => true
      | false => match i.desc, x with
        | .struct fs, .agg xs => match memN t A.cmp with
          | true => aKeyFs A (aKey A d) xs fs.toList
          | false => false
        | _, _ => false
    | none => false
theorem aKey_ok {A : Tab} (hA : A.Ok P) (b : Bool) : ∀ (n : Nat) {t : TypeId} {x : AV} {X : Value}, aKey A n t x = true → VR e x X → ∀ d, n ≤ d → (Instr.checkKey b d t X).run P w = .ok () w
  | 0, _, _, _, h, _, _, _ => by cases h
  | n + 1, t, x, X, h, hx, d, hd => by
    obtain ⟨d, rfl⟩ : ∃ k, d = k + 1 := ⟨d - 1, by omega⟩
    rw [aKey] at h
    split at h <;> (try (cases h; done))
    rename_i i hi
    split at h
    · rename_i hk; exact run_checkKey b d hA hi hk X
    · split at h <;> (try (cases h; done))
      rename_i fs xs hdd
      split at h <;> (try (cases h; done))
      rename_i hm
      have hu := (hA.ty _ i hi).1
      rw [hdd] at hu
      obtain ⟨_, _, c3⟩ := cmpOk_spec (hA.cmp _ (memN_ok hm)) hu
      cases hx with
      | agg _ XS hxs =>
        have hU : (underlying t).run P w = .ok (.struct fs) w := by rw [← hdd]; exact run_und (hA.ty _ i hi)
        unfold Instr.checkKey
        simp only [Sem.run_bind, hU, Result.andThen]
        rw [← Array.forIn_toList]
        have key : ∀ l : List Field, aKeyFs A (aKey A n) xs l = true → (∀ f ∈ l, f.name ≠ "_") → (forIn l PUnit.unit (fun f _ => do
            if f.name ≠ "_" then do
              Instr.checkKey b d f.type (← part f.type ⟨XS⟩ f.offset)
              pure (ForInStep.yield PUnit.unit)
            else pure (ForInStep.yield PUnit.unit) : Field → PUnit → Sem (ForInStep PUnit))).run P w = .ok PUnit.unit w := by
          intro l
          induction l with
          | nil => intro _ _; simp
          | cons f l ih =>
            intro hl hn
            rw [aKeyFs] at hl
            split at hl <;> (try (cases hl; done))
            rename_i y hy
            split at hl <;> (try (cases hl; done))
            rename_i hc
            obtain ⟨Y, r1, v1⟩ := aPart_ok (P := P) (w := w) hA hy hxs
            have r2 := aKey_ok hA b n hc v1 d (by omega)
            simp only [List.forIn_cons, Sem.run_bind]
            rw [if_pos (hn f (List.mem_cons_self ..))]
            simp only [Sem.run_bind, r1, r2, Result.andThen, Sem.run_pure]
            exact ih hl fun g hg => hn g (List.mem_cons_of_mem _ hg)
        have := key fs.toList h c3
        simp at this ⊢
        rw [this]
/-- May this be a key? -/
def keyOk (A : Tab) (d : TypeDesc) (kt : TypeId) (k : AV) : Bool := match keyTy d with
  | true => true
  | false => aKey A 20 kt k
theorem keyOk_ok {A : Tab} (hA : A.Ok P) {kt : TypeId} {j : TI} (hj : A.ty.get kt = some j) {k : AV} {K : Value} (h : keyOk A j.desc kt k = true) (hk : VR e k K) (b : Bool) : (Instr.checkKey b 10000 kt K).run P w = .ok () w := by
  unfold keyOk at h
  split at h
  · rename_i hkt; exact run_checkKey b 9999 hA hj hkt K
  · exact aKey_ok hA b 20 h hk 10000 (by omega)
end
end
end Go.Xe

namespace Go.Xe
noncomputable section
set_option linter.unusedSimpArgs false
section
variable {R : Nat} {B : Bs} {e : Env} {h : T AO} {nx : Nat} {w : World} {P : Program}

def aLookRes (A : Tab) (et : TypeId) (ok : Bool) (r : Option (Nat × AV)) : Option AV :=
  match r with
  | some (_, v) => some (match ok with | true => .tup [v, .bool true] | false => v)
  | none => (A.ty.get et).bind fun i => i.zero.bind fun z => some (match ok with | true => .tup [z, .bool false] | false => z)
def aLook (A : Tab) (h : T AO) (t : TypeId) (x k : AV) (ok : Bool) : Option AV :=
  (A.ty.get t).bind fun i =>
  match i.desc with
  | .map kt et => (A.ty.get kt).bind fun j => match keyOk A j.desc kt k with
    | true => match x with
      | .nilm => aLookRes A et ok none
      | .map id => match h.get id with
        | some (.map es _) => (aFindK A kt j.desc k es).bind fun r => aLookRes A et ok r
        | _ => none
      | _ => none
    | false => none
  | _ => none
theorem aLook_ok {A : Tab} (hA : A.Ok P) (s : Sim R B e h nx w) {t : TypeId} {x k v : AV} {ok : Bool} {X K : Value} (hv : aLook A h t x k ok = some v) (hx : VR e x X) (hk : VR e k K) :
    ∃ V, (Instr.lookup t X K ok).run P w = .ok V w ∧ VR e v V := by
  obtain ⟨i, hi, hv⟩ := Option.bind_eq_some_iff.1 hv
  have hU : (underlying t).run P w = .ok i.desc w := run_und (hA.ty _ i hi)
  cases hd : i.desc <;> simp only [hd] at hv <;> try (cases hv; done)
  rename_i kt et
  rw [hd] at hU
  obtain ⟨j, hj, hv⟩ := Option.bind_eq_some_iff.1 hv
  have hK : (underlying kt).run P w = .ok j.desc w := run_und (hA.ty _ j hj)
  split at hv
  case h_2 => cases hv
  rename keyOk _ _ _ _ = true => hkt
  have hck : ∀ b, (Instr.checkKey b 10000 kt K).run P w = .ok () w := fun b => keyOk_ok hA hj hkt hk b
  have hres : ∀ (r : Option (Nat × AV)) (r' : Option (Nat × Value)) (v : AV), aLookRes A et ok r = some v → (match r, r' with
      | none, none => True
      | some (j, v), some (j', V) => j = j' ∧ VR e v V
      | _, _ => False) → ∃ V, (do
        let (v, ok') ← (match r' with
          | some (_, v) => pure (v, true)
          | none => do pure (← zeroValue et, false) : Sem (Value × Bool))
        pure (if ok then Value.tuple #[v, .bool ok'] else v) : Sem Value).run P w = .ok V w ∧ VR e v V := by
    intro r r' v hv hr
    unfold aLookRes at hv
    split at hv
    · cases r' with
      | none => exact hr.elim
      | some q =>
        cases hv
        refine ⟨if ok then Value.tuple #[q.2, .bool true] else q.2, by simp, ?_⟩
        cases ok
        · exact hr.2
        · exact .tup _ _ (.cons _ _ _ _ hr.2 (VRs.one (.bool true)))
    · cases r' with
      | some q => exact hr.elim
      | none =>
        obtain ⟨I, hI, hv⟩ := Option.bind_eq_some_iff.1 hv
        obtain ⟨z, hz, hv⟩ := Option.bind_eq_some_iff.1 hv
        cases hv
        obtain ⟨Z, hZ, hzr⟩ := run_zero (P := P) (w := w) (hA.ty _ I hI) hz
        refine ⟨if ok then Value.tuple #[Z, .bool false] else Z, by simp [hZ, Result.andThen], ?_⟩
        cases ok
        · exact hzr e
        · exact .tup _ _ (.cons _ _ _ _ (hzr e) (VRs.one (.bool false)))
  split at hv <;> (try (cases hv; done))
  · cases hx
    obtain ⟨V, h1, h2⟩ := hres none none v hv trivial
    refine ⟨V, ?_, h2⟩
    simpa [Instr.lookup, hU, hck, Instr.findKey, hK, Instr.findNow, Result.andThen] using h1
  · cases hx with
    | map id b hb =>
      split at hv <;> (try (cases hv; done))
      rename_i es clk ho
      obtain ⟨r, hr, hv⟩ := Option.bind_eq_some_iff.1 hv
      obtain ⟨b', O, hb', hO, hor⟩ := s.obj _ _ ho
      obtain rfl : b' = b := by rw [hb] at hb'; exact (Option.some.inj hb').symm
      obtain ⟨E, rfl, hE1, hE2, _⟩ := hor
      obtain ⟨r', hr', hrel, _⟩ := aFindK_ok (P := P) (w := w) hA hj hk hr hE1 hE2
      obtain ⟨V, h1, h2⟩ := hres r r' v hv hrel
      refine ⟨V, ?_, h2⟩
      have hg : (getObj b').run P w = .ok (.map ⟨E⟩ clk) w := by simp [getObj, Sem.run, hO]
      cases r' with
      | none => simpa [Instr.lookup, hU, hg, hck, hr', Result.andThen] using h1
      | some q => simpa [Instr.lookup, hU, hg, hck, hr', Result.andThen] using h1

def aTA (A : Tab) (x : AV) (as_ : TypeId) (ok : Bool) : Option AV :=
  (A.ty.get as_).bind fun i =>
  match i.desc, x with
  | .interface _, _ => none
  | _, .nili => match ok with
    | true => i.zero.bind fun z => some (.tup [z, .bool false])
    | false => none
  | _, .iface t v => match Nat.beq t as_, ok with
    | true, true => some (.tup [v, .bool true])
    | true, false => some v
    | false, true => i.zero.bind fun z => some (.tup [z, .bool false])
    | false, false => none
  | _, _ => none
theorem aTA_ok {A : Tab} (hA : A.Ok P) {x v : AV} {X : Value} {xt as_ : TypeId} {ok : Bool} (hv : aTA A x as_ ok = some v) (hx : VR e x X) : ∃ V, (Instr.typeAssert X xt as_ ok).run P w = .ok V w ∧ VR e v V := by
  have hv0 := hv
  clear hv
  obtain ⟨i, hi, hv⟩ := Option.bind_eq_some_iff.1 hv0
  clear hv0
  have hU : (underlying as_).run P w = .ok i.desc w := run_und (hA.ty _ i hi)
  have hni : ∀ ms, i.desc ≠ .interface ms := by
    intro ms hh
    rw [hh] at hv
    simp at hv
  split at hv
  · cases hv
  · cases hx
    split at hv <;> try (cases hv; done)
    obtain ⟨z, hz, hv⟩ := Option.bind_eq_some_iff.1 hv
    cases hv
    obtain ⟨Z, hZ, hzr⟩ := run_zero (P := P) (w := w) (hA.ty _ i hi) hz
    refine ⟨.tuple ⟨[Z, .bool false]⟩, ?_, .tup _ _ (.cons _ _ _ _ (hzr e) (VRs.one (.bool false)))⟩
    cases hd : i.desc <;> simp only [hd] at hU <;> first
      | exact (hni _ hd).elim
      | simp [Instr.typeAssert, hU, hZ, Result.andThen]
  · cases hx with
    | iface t v' V hV =>
      split at hv
      · rename Nat.beq _ _ = true => hb
        have := Nat.eq_of_beq_eq_true hb
        subst this
        cases hv
        refine ⟨.tuple ⟨[V, .bool true]⟩, ?_, .tup _ _ (.cons _ _ _ _ hV (VRs.one (.bool true)))⟩
        cases hd : i.desc <;> simp only [hd] at hU <;> first
          | exact (hni _ hd).elim
          | simp [Instr.typeAssert, hU, Result.andThen]
      · rename Nat.beq _ _ = true => hb
        have := Nat.eq_of_beq_eq_true hb
        subst this
        cases hv
        refine ⟨V, ?_, hV⟩
        cases hd : i.desc <;> simp only [hd] at hU <;> first
          | exact (hni _ hd).elim
          | simp [Instr.typeAssert, hU, Result.andThen]
      · rename Nat.beq _ _ = false => hb
        rename TypeId => t
        have hne : ¬ t = as_ := fun hh => by rw [hh, Nat.beq_refl] at hb; cases hb
        obtain ⟨z, hz, hv⟩ := Option.bind_eq_some_iff.1 hv
        cases hv
        obtain ⟨Z, hZ, hzr⟩ := run_zero (P := P) (w := w) (hA.ty _ i hi) hz
        refine ⟨.tuple ⟨[Z, .bool false]⟩, ?_, .tup _ _ (.cons _ _ _ _ (hzr e) (VRs.one (.bool false)))⟩
        cases hd : i.desc <;> simp only [hd] at hU <;> first
          | exact (hni _ hd).elim
          | simp [Instr.typeAssert, hU, hne, hZ, Result.andThen]
      · cases hv
  · cases hv

/-! ### Builtins that only read -/
def aLen (A : Tab) (h : T AO) (t : TypeId) (x : AV) : Option AV :=
  (A.ty.get t).bind fun i =>
  match i.desc, x with
  | .string, .str s => some (.int .i64 s.length)
  | .array n _, _ => some (.int .i64 n)
  | .slice _, .nils => some (.int .i64 0)
  | .slice _, .slice _ _ n _ => some (.int .i64 n)
  | .slice _, .grow _ _ n _ => some (.int .i64 n)
  | .map _ _, .nilm => some (.int .i64 0)
  | .map _ _, .map id => match h.get id with
    | some (.map es _) => some (.int .i64 es.length)
    | _ => none
  | _, _ => none
theorem aLen_ok {A : Tab} (hA : A.Ok P) (s : Sim R B e h nx w) {t : TypeId} {x v : AV} {X : Value} {ts : Array TypeId} {ty : TypeId} (hv : aLen A h t x = some v) (hx : VR e x X) (ht : ts[0]? = some t) :
    ∃ V, (Builtin.len_ ts ty #[X]).run P w = .ok V w ∧ VR e v V := by
  obtain ⟨i, hi, hv⟩ := Option.bind_eq_some_iff.1 hv
  have hU : (underlying t).run P w = .ok i.desc w := run_und (hA.ty _ i hi)
  split at hv <;> (try (cases hv; done)) <;> (rename i.desc = _ => hd; rw [hd] at hU)
  · cases hv; cases hx
    refine ⟨_, ?_, .int _ _⟩
    unfold Builtin.len_
    simp only [ht]
    simp [hU, Result.andThen, goInt]
    rfl
  · cases hv; exact ⟨_, by simp [Builtin.len_, ht, hU, Result.andThen, goInt], .int _ _⟩
  · cases hv; cases hx; exact ⟨_, by simp [Builtin.len_, ht, hU, Result.andThen, goInt], .int _ _⟩
  · cases hv; cases hx; exact ⟨_, by simp [Builtin.len_, ht, hU, Result.andThen, goInt], .int _ _⟩
  · cases hv; cases hx; exact ⟨_, by simp [Builtin.len_, ht, hU, Result.andThen, goInt], .int _ _⟩
  · cases hv; cases hx; exact ⟨_, by simp [Builtin.len_, ht, hU, Result.andThen, goInt], .int _ _⟩
  · cases hx with
    | map id b hb =>
      split at hv <;> (try (cases hv; done))
      rename_i es clk ho
      cases hv
      obtain ⟨b', O, hb', hO, hor⟩ := s.obj _ _ ho
      obtain rfl : b' = b := by rw [hb] at hb'; exact (Option.some.inj hb').symm
      obtain ⟨E, rfl, hE1, _, _⟩ := hor
      have hg : (getObj b').run P w = .ok (.map ⟨E⟩ clk) w := by simp [getObj, Sem.run, hO]
      have hl : E.length = es.length := by have := hE1.length; simpa using this
      exact ⟨_, by simp [Builtin.len_, ht, hU, hg, Result.andThen, goInt, hl], .int _ _⟩
def aCap (A : Tab) (t : TypeId) (x : AV) : Option AV :=
  (A.ty.get t).bind fun i =>
  match i.desc, x with
  | .slice _, .nils => some (.int .i64 0)
  | .slice _, .slice _ _ _ c => some (.int .i64 c)
  | _, _ => none
theorem aCap_ok {A : Tab} (hA : A.Ok P) {t : TypeId} {x v : AV} {X : Value} {ts : Array TypeId} {ty : TypeId} (hv : aCap A t x = some v) (hx : VR e x X) (ht : ts[0]? = some t) :
    ∃ V, (Builtin.cap_ ts ty #[X]).run P w = .ok V w ∧ VR e v V := by
  obtain ⟨i, hi, hv⟩ := Option.bind_eq_some_iff.1 hv
  have hU : (underlying t).run P w = .ok i.desc w := run_und (hA.ty _ i hi)
  split at hv <;> (try (cases hv; done)) <;> (rename i.desc = _ => hd; rw [hd] at hU) <;> cases hv <;> cases hx
  · exact ⟨_, by simp [Builtin.cap_, ht, hU, Result.andThen, goInt], .int _ _⟩
  · exact ⟨_, by simp [Builtin.cap_, ht, hU, Result.andThen, goInt], .int _ _⟩
def aMin (x y : AV) : Option AV := match x, y with
  | .int k a, .int _ b => some (.int k (if b < a then b else a))
  | _, _ => none
def aMax (x y : AV) : Option AV := match x, y with
  | .int k a, .int _ b => some (.int k (if b > a then b else a))
  | _, _ => none
theorem aMin_ok {x y v : AV} {X Y : Value} (ts : Array TypeId) (ty : TypeId) (hv : aMin x y = some v) (hx : VR e x X) (hy : VR e y Y) : ∃ V, (Builtin.min_ ts ty #[X, Y]).run P w = .ok V w ∧ VR e v V := by
  unfold aMin at hv
  split at hv <;> cases hv
  cases hx; cases hy
  exact ⟨_, run_min_int2 _ _ _ _ _ _ _, .int _ _⟩
theorem aMax_ok {x y v : AV} {X Y : Value} (ts : Array TypeId) (ty : TypeId) (hv : aMax x y = some v) (hx : VR e x X) (hy : VR e y Y) : ∃ V, (Builtin.max_ ts ty #[X, Y]).run P w = .ok V w ∧ VR e v V := by
  unfold aMax at hv
  split at hv <;> cases hv
  cases hx; cases hy
  exact ⟨_, run_max_int2 _ _ _ _ _ _ _, .int _ _⟩
end
end
end Go.Xe

namespace Go.Xe
noncomputable section
set_option linter.unusedSimpArgs false
section
variable {R : Nat} {B : Bs} {e : Env} {h : T AO} {nx : Nat} {w : World} {P : Program}

/-! ### Unsafe pointers, as strings.Builder makes them -/
def hasLies (e c off u : Nat) : List (Nat × Nat × Nat × Nat) → Bool
  | [] => false
  | x :: l => match Nat.beq x.1 e, Nat.beq x.2.1 c, Nat.beq x.2.2.1 off, Nat.beq x.2.2.2 u with
    | true, true, true, true => true
    | _, _, _, _ => hasLies e c off u l
theorem hasLies_ok : ∀ {e c off u : Nat} {l : List (Nat × Nat × Nat × Nat)}, hasLies e c off u l = true → (e, c, off, u) ∈ l
  | e, c, off, u, x :: l, h => by
    unfold hasLies at h
    split at h
    · rename_i h1 h2 h3 h4
      have h1 := Nat.eq_of_beq_eq_true h1
      have h2 := Nat.eq_of_beq_eq_true h2
      have h3 := Nat.eq_of_beq_eq_true h3
      have h4 := Nat.eq_of_beq_eq_true h4
      obtain ⟨a, b, c', d⟩ := x
      simp only at h1 h2 h3 h4
      subst h1; subst h2; subst h3; subst h4
      exact List.mem_cons_self ..
    · exact List.mem_cons_of_mem _ (hasLies_ok h)
def aUns (A : Tab) (h : T AO) (src dst : TypeId) (x : AV) : Option AV :=
  (A.ty.get src).bind fun i => (A.ty.get dst).bind fun j =>
  match i.desc, j.desc, x with
  | .pointer t, .unsafePointer, .ptr id off => (A.ty.get t).bind fun k => match Nat.beq k.size 0, h.get id with
    | false, some (.row c _) => match Nat.blt off c.length with
      | true => some (.ptr id off)
      | false => none
    | _, _ => none
  | .unsafePointer, .pointer u, .ptr id off => (A.ty.get u).bind fun _ => match h.get id with
    | some (.row c t) => (A.ty.get t).bind fun k => match hasLies t (Nat.div c.length k.size) off u A.lies with
      | true => some (.ptr id off)
      | false => none
    | _ => none
  | _, _, _ => none
theorem aUns_ok {A : Tab} (hA : A.Ok P) (s : Sim A.R B e h nx w) {src dst : TypeId} {x v : AV} {X : Value} (hv : aUns A h src dst x = some v) (hx : VR e x X) : ∃ V, (convert src dst X).run P w = .ok V w ∧ VR e v V := by
  obtain ⟨i, hi, hv1⟩ := Option.bind_eq_some_iff.1 hv
  clear hv
  obtain ⟨j, hj, hv⟩ := Option.bind_eq_some_iff.1 hv1
  clear hv1
  have hU := (hA.ty _ i hi).1
  have hV := (hA.ty _ j hj).1
  split at hv <;> (try (cases hv; done))
  · rename_i t id off hd hd'
    rw [hd] at hU
    rw [hd'] at hV
    obtain ⟨k, hk, hv1⟩ := Option.bind_eq_some_iff.1 hv
    clear hv
    have hv := hv1
    clear hv1
    obtain ⟨_, K, hK, hKs, _⟩ := hA.ty _ k hk
    split at hv <;> (try (cases hv; done))
    rename_i c ty hz hg
    split at hv <;> (try (cases hv; done))
    rename_i hlt
    have hlt := blt_iff.1 hlt
    cases hv
    have hz : K.size ≠ 0 := by rw [hKs]; intro h0; rw [h0] at hz; cases hz
    cases hx with
    | ptr _ _ b hb =>
      obtain ⟨b', O, hb', hO, C, fz, rfl, hC, _⟩ := s.obj id _ hg
      obtain rfl : b' = b := by rw [hb] at hb'; exact (Option.some.inj hb').symm
      exact ⟨_, Lib.run_to_unsafe w ⟨b', off, none⟩ hU hV hK hz (e := ty) (cells := C.length) (by simp [World.shape?, hO]) (by have := hC.length; show off < C.length; omega), .ptr _ _ _ hb⟩
  · rename_i u id off hd hd'
    rw [hd] at hU
    rw [hd'] at hV
    obtain ⟨k, hk, hv1⟩ := Option.bind_eq_some_iff.1 hv
    clear hv
    have hv := hv1
    clear hv1
    obtain ⟨_, K, hK, hKs, _⟩ := hA.ty _ k hk
    split at hv <;> (try (cases hv; done))
    rename_i c ty hg
    obtain ⟨q, hq, hv1⟩ := Option.bind_eq_some_iff.1 hv
    clear hv
    split at hv1 <;> (try (cases hv1; done))
    rename_i hl
    cases hv1
    obtain ⟨_, Q, hQ, hQs, _⟩ := hA.ty _ q hq
    have hcell : P.cellsOf ty = q.size := by simp [Program.cellsOf, hQ, hQs]
    have hlies := hA.lies _ (hasLies_ok hl)
    cases hx with
    | ptr _ _ b hb =>
      obtain ⟨b', O, hb', hO, C, fz, rfl, hC, _⟩ := s.obj id _ hg
      obtain rfl : b' = b := by rw [hb] at hb'; exact (Option.some.inj hb').symm
      refine ⟨_, Lib.run_from_unsafe w ⟨b', off, none⟩ hU hV hK (e := ty) (cells := C.length) (by simp [World.shape?, hO]) ?_, .ptr _ _ _ hb⟩
      rw [hcell, hC.length]
      exact hlies
/-- A slice of bytes as a text. -/
def octets : List AV → Option (List Int)
  | [] => some []
  | .int .u8 n :: l => (octets l).bind fun r => some (n :: r)
  | _ => none
theorem octets_ok : ∀ {c : List AV} {C : List Value} {ns : List Int}, octets c = some ns → VRs e c C → C = ns.map (Value.int .u8)
  | [], C, ns, h, hc => by cases h; cases hc; rfl
  | x :: c, C, ns, h, hc => by
    unfold octets at h
    split at h <;> (try (cases h; done))
    · rename_i heq; cases heq
    · rename_i n l heq
      cases heq
      obtain ⟨r, hr, h1⟩ := Option.bind_eq_some_iff.1 h
      cases h1
      cases hc with
      | cons _ X _ C' hX hC =>
        cases hX
        rw [octets_ok hr hC]
        rfl
theorem push_all : ∀ (ns : List Int) (s : ByteArray), ns.foldl (fun r n => r.push (UInt8.ofNat n.toNat)) s = ⟨s.data ++ (ns.map fun n => UInt8.ofNat n.toNat).toArray⟩
  | [], s => by simp
  | n :: ns, s => by
    rw [List.foldl_cons, push_all ns]
    apply ByteArray.ext
    simp [ByteArray.push]
def aText (A : Tab) (h : T AO) (src dst : TypeId) (x : AV) : Option AV :=
  (A.ty.get src).bind fun i => (A.ty.get dst).bind fun j =>
  match i.desc, j.desc with
  | .slice el, .string => (A.ty.get el).bind fun k => match k.desc, x with
    | .int .u8, .slice id off len _ => (h.get id).bind fun o => o.cells.bind fun c => (ldCells c off len).bind fun r => (octets r).bind fun ns => some (.str (ns.map fun n => UInt8.ofNat n.toNat))
    | .int .u8, .grow id off len _ => match Nat.beq len 0 with
      | true => none
      | false => (h.get id).bind fun o => o.cells.bind fun c => (ldCells c off len).bind fun r => (octets r).bind fun ns => some (.str (ns.map fun n => UInt8.ofNat n.toNat))
    | .int .u8, .nils => some (.str [])
    | _, _ => none
  | _, _ => none
theorem aText_at {src dst el : TypeId} (hS : P.underlying src = some (.slice el)) (hE : P.underlying el = some (.int .u8)) (hD : P.underlying dst = some .string) (s : Sim R B e h nx w) {id b off len cap : Nat} {o : AO} {c r : List AV} {ns : List Int}
    (ho : h.get id = some o) (hc : o.cells = some c) (hb : e.blk id = some b) (hl : ldCells c off len = some r) (hn : octets r = some ns) :
    ∃ V, (convert src dst (.slice (some ⟨b, off, none⟩) len cap)).run P w = .ok V w ∧ VR e (.str (ns.map fun n => UInt8.ofNat n.toNat)) V := by
  obtain ⟨L, h1, h2⟩ := s.cells (P := P) ho hc hb hl
  have hL := octets_ok hn h2
  subst hL
  rw [run_convert_bytes_string w src dst el _ _ _ hS hE hD, run_bytesToString w ⟨b, off, none⟩ len cap ns (h1 w rfl), push_all]
  refine ⟨_, rfl, ?_⟩
  have : (ByteArray.mk ((ByteArray.empty).data ++ (ns.map fun n => UInt8.ofNat n.toNat).toArray)) = ⟨⟨ns.map fun n => UInt8.ofNat n.toNat⟩⟩ := by
    apply ByteArray.ext
    simp
  rw [this]
  exact .str _
theorem aText_ok {A : Tab} (hA : A.Ok P) (s : Sim A.R B e h nx w) {src dst : TypeId} {x v : AV} {X : Value} (hv : aText A h src dst x = some v) (hx : VR e x X) : ∃ V, (convert src dst X).run P w = .ok V w ∧ VR e v V := by
  obtain ⟨i, hi, hv1⟩ := Option.bind_eq_some_iff.1 hv
  clear hv
  obtain ⟨j, hj, hv⟩ := Option.bind_eq_some_iff.1 hv1
  clear hv1
  have hU := (hA.ty _ i hi).1
  have hV := (hA.ty _ j hj).1
  split at hv <;> (try (cases hv; done))
  rename_i el hd hd'
  rw [hd] at hU
  rw [hd'] at hV
  obtain ⟨k, hk, hv1⟩ := Option.bind_eq_some_iff.1 hv
  clear hv
  have hE := (hA.ty _ k hk).1
  split at hv1 <;> (try (cases hv1; done))
  · rename_i id off len cap hdd
    rw [hdd] at hE
    obtain ⟨o, ho, hv⟩ := Option.bind_eq_some_iff.1 hv1
    clear hv1
    obtain ⟨c, hc, hv1⟩ := Option.bind_eq_some_iff.1 hv
    clear hv
    obtain ⟨r, hr, hv⟩ := Option.bind_eq_some_iff.1 hv1
    clear hv1
    obtain ⟨ns, hn, hv1⟩ := Option.bind_eq_some_iff.1 hv
    clear hv
    cases hv1
    cases hx with
    | slice _ _ _ _ b hb => exact aText_at hU hE hV s ho hc hb hr hn
  · rename_i id off len skip hdd
    rw [hdd] at hE
    split at hv1 <;> (try (cases hv1; done))
    rename_i h0
    have h0 : len ≠ 0 := by intro h; rw [h] at h0; cases h0
    obtain ⟨o, ho, hv⟩ := Option.bind_eq_some_iff.1 hv1
    clear hv1
    obtain ⟨c, hc, hv1⟩ := Option.bind_eq_some_iff.1 hv
    clear hv
    obtain ⟨r, hr, hv⟩ := Option.bind_eq_some_iff.1 hv1
    clear hv1
    obtain ⟨ns, hn, hv1⟩ := Option.bind_eq_some_iff.1 hv
    clear hv
    cases hv1
    cases hx with
    | grow _ _ _ _ b o' hb hl ho' =>
      obtain rfl : o' = off := by omega
      exact aText_at hU hE hV s ho hc hb hr hn
  · rename_i hdd
    rw [hdd] at hE
    cases hv1
    cases hx
    exact ⟨_, by rw [run_convert_bytes_string w src dst el _ _ _ hU hE hV]; rfl, .str []⟩
/-- Two pointers to one place. -/
def aEqP (A : Tab) (t : TypeId) (x y : AV) : Bool := match x, y with
  | .ptr i o, .ptr i' o' => match A.ty.get t with
    | some d => match d.desc with
      | .pointer te => match A.ty.get te, Nat.beq i i', Nat.beq o o' with
        | some _, true, true => true
        | _, _, _ => false
      | _ => false
    | none => false
  | _, _ => false
theorem aEqP_ok {A : Tab} (hA : A.Ok P) {t : TypeId} {x y : AV} {X Y : Value} (hv : aEqP A t x y = true) (hx : VR e x X) (hy : VR e y Y) {ox oy : Operand} :
    (do eqGuard .eql t ox oy X Y; binOp .eql t X Y : Sem Value).run P w = .ok (.bool true) w ∧ (do eqGuard .neq t ox oy X Y; binOp .neq t X Y : Sem Value).run P w = .ok (.bool false) w := by
  unfold aEqP at hv
  split at hv <;> (try (cases hv; done))
  rename_i i o i' o'
  split at hv <;> (try (cases hv; done))
  rename_i d hd
  split at hv <;> (try (cases hv; done))
  rename_i te hdd
  split at hv <;> (try (cases hv; done))
  rename_i k hk h1 h2
  have h1 := Nat.eq_of_beq_eq_true h1
  have h2 := Nat.eq_of_beq_eq_true h2
  subst h1
  subst h2
  have hU := (hA.ty _ d hd).1
  rw [hdd] at hU
  obtain ⟨_, K, hK, _⟩ := hA.ty _ k hk
  cases hx with
  | ptr _ _ b hb => cases hy with
    | ptr _ _ b' hb' =>
      obtain rfl : b' = b := by rw [hb] at hb'; exact (Option.some.inj hb').symm
      have h : ∀ q : Nat, (Op.equalIn (q + 1) t (.pointer (some ⟨b', o, none⟩)) (.pointer (some ⟨b', o, none⟩))).run P w = .ok true w := fun q => by
        simp [Op.equalIn, run_underlying hU, sizeOf, typeInfo, hK, run_sameAddr_same]
      have hq : (Op.equal t (.pointer (some ⟨b', o, none⟩)) (.pointer (some ⟨b', o, none⟩))).run P w = .ok true w := h 9999
      constructor <;> simp [eqGuard, binOp, hq, Result.andThen]
/-- unsafe.SliceData. -/
def aSlData : AV → Option AV
  | .nils => some .nilp
  | .slice id off _ cap => match Nat.beq cap 0 with
    | true => none
    | false => some (.ptr id off)
  | .grow id off len _ => match Nat.beq len 0 with
    | true => none
    | false => some (.ptr id off)
  | _ => none
theorem aSlData_ok {x v : AV} {X : Value} (hv : aSlData x = some v) (hx : VR e x X) (ts : Array TypeId) (ty : TypeId) : ∃ V, (Builtin.unsafeSliceData_ ts ty #[X]).run P w = .ok V w ∧ VR e v V := by
  cases x <;> simp only [aSlData] at hv <;> (try (cases hv; done))
  case nils => cases hv; cases hx; exact ⟨_, rfl, .nilp⟩
  case slice id off len cap =>
    split at hv <;> cases hv
    rename_i h0
    have h0 : cap ≠ 0 := by intro h; rw [h] at h0; cases h0
    cases hx with
    | slice _ _ _ _ b hb => exact ⟨_, Lib.run_unsafeSliceData_row w ts ty _ _ _ h0, .ptr _ _ _ hb⟩
  case grow id off len skip =>
    split at hv <;> cases hv
    rename_i h0
    have h0 : len ≠ 0 := by intro h; rw [h] at h0; cases h0
    cases hx with
    | grow _ _ _ _ b o hb hl ho =>
      obtain rfl : o = off := by omega
      exact ⟨_, Lib.run_unsafeSliceData_row w ts ty _ _ _ (by omega), .ptr _ _ _ hb⟩
end
end
end Go.Xe

namespace Go.Xe
noncomputable section
set_option linter.unusedSimpArgs false
section
variable {R : Nat} {B : Bs} {e : Env} {h : T AO} {nx : Nat} {w : World} {P : Program}

/-! ### An operation that only reads -/
def aBin (A : Tab) (op : BinOp) (t : TypeId) (x y : AV) (lit : Bool) : Option AV :=
  match x, y with
  | .int k a, .int k' b =>
    match op with
    | .shl | .shr => aShift op k a b
    | _ => if k = k' then aBinI op k a b else none
  | .str a, .str b => aBinS op a b
  | .agg a, .agg b => match op with
    | .eql => (aEqv A 20 t (.agg a) (.agg b)).bind fun r => some (.bool r)
    | .neq => (aEqv A 20 t (.agg a) (.agg b)).bind fun r => some (.bool !r)
    | _ => none
  | x, y =>
    match op with
    | .eql => match aEqP A t x y with
      | true => some (.bool true)
      | false => (aEq A t x y lit).bind fun b => some (.bool b)
    | .neq => match aEqP A t x y with
      | true => some (.bool false)
      | false => (aEq A t x y lit).bind fun b => some (.bool !b)
    | _ => none
theorem eqGuard_int (op : BinOp) (t : TypeId) (ox oy : Operand) (k k' : IntKind) (a b : Int) : (eqGuard op t ox oy (.int k a) (.int k' b)).run P w = .ok () w := by
  cases op <;> simp [eqGuard]
theorem eqGuard_str (op : BinOp) (t : TypeId) (ox oy : Operand) (a b : ByteArray) : (eqGuard op t ox oy (.string a) (.string b)).run P w = .ok () w := by
  cases op <;> simp [eqGuard]
theorem aEqv_agg {A : Tab} (hA : A.Ok P) {n : Nat} {t : TypeId} {a b : List AV} {r : Bool} (h : aEqv A n t (.agg a) (.agg b) = some r) : P.eqGuardType P.depth t = false := by
  cases n with
  | zero => cases h
  | succ n =>
    obtain ⟨i, hi, h1⟩ := Option.bind_eq_some_iff.1 h
    clear h
    split at h1 <;> (try (cases h1; done)) <;> (try contradiction)
    split at h1 <;> (try (cases h1; done))
    rename_i hm
    have hu := (hA.ty _ i hi).1
    rename i.desc = _ => hdd
    rw [hdd] at hu
    exact (cmpOk_spec (hA.cmp _ (memN_ok hm)) hu).2.1
theorem aBin_ok {A : Tab} (hA : A.Ok P) {op : BinOp} {t : TypeId} {x y v : AV} {X Y : Value} {ox oy : Operand} (hv : aBin A op t x y (isConst ox || isConst oy) = some v) (hx : VR e x X) (hy : VR e y Y) :
    ∃ V, (do eqGuard op t ox oy X Y; binOp op t X Y : Sem Value).run P w = .ok V w ∧ VR e v V := by
  unfold aBin at hv
  split at hv
  · cases hx; cases hy
    split at hv
    · obtain ⟨V, h1, h2⟩ := aShift_ok (P := P) (w := w) (e := e) hv t
      exact ⟨V, by simp only [Sem.run_bind, eqGuard_int, Result.andThen]; exact h1, h2⟩
    · obtain ⟨V, h1, h2⟩ := aShift_ok (P := P) (w := w) (e := e) hv t
      exact ⟨V, by simp only [Sem.run_bind, eqGuard_int, Result.andThen]; exact h1, h2⟩
    · split at hv
      · rename_i hk
        subst hk
        obtain ⟨V, h1, h2⟩ := aBinI_ok (P := P) (w := w) (e := e) hv t
        exact ⟨V, by simp only [Sem.run_bind, eqGuard_int, Result.andThen]; exact h1, h2⟩
      · cases hv
  · cases hx; cases hy
    obtain ⟨V, h1, h2⟩ := aBinS_ok (P := P) (w := w) (e := e) hv t
    exact ⟨V, by simp only [Sem.run_bind, eqGuard_str, Result.andThen]; exact h1, h2⟩
  · rename_i a b
    cases hx with
    | agg _ XS hxs => cases hy with
      | agg _ YS hys =>
        split at hv <;> (try (cases hv; done))
        · obtain ⟨r, hr, hv⟩ := Option.bind_eq_some_iff.1 hv
          cases hv
          have h2 := aEqv_ok (P := P) (w := w) hA 20 hr (.agg _ _ hxs) (.agg _ _ hys) 10000 (by omega)
          exact ⟨.bool r, by rw [Sem.run_bind, run_eqGuard_agg w _ _ _ _ _ _ (aEqv_agg hA hr)]; simp only [Result.andThen]; rw [run_eql_struct, h2]; rfl, .bool _⟩
        · obtain ⟨r, hr, hv⟩ := Option.bind_eq_some_iff.1 hv
          cases hv
          have h2 := aEqv_ok (P := P) (w := w) hA 20 hr (.agg _ _ hxs) (.agg _ _ hys) 10000 (by omega)
          exact ⟨.bool !r, by rw [Sem.run_bind, run_eqGuard_agg w _ _ _ _ _ _ (aEqv_agg hA hr)]; simp only [Result.andThen]; rw [run_neq_struct, h2]; rfl, .bool _⟩
  · split at hv
    · split at hv
      · rename_i hq
        cases hv
        exact ⟨_, (aEqP_ok hA hq hx hy).1, .bool _⟩
      · obtain ⟨b, hb, hv⟩ := Option.bind_eq_some_iff.1 hv
        cases hv
        exact ⟨_, (aEq_ok hA hb hx hy id).1, .bool _⟩
    · split at hv
      · rename_i hq
        cases hv
        exact ⟨_, (aEqP_ok hA hq hx hy).2, .bool _⟩
      · obtain ⟨b, hb, hv⟩ := Option.bind_eq_some_iff.1 hv
        cases hv
        exact ⟨_, (aEq_ok hA hb hx hy id).2, .bool _⟩
    · cases hv

def aParts (R : Nat) (tm : T AV) : List (Nat × Operand) → Option (List (Nat × AV))
  | [] => some []
  | (i, x) :: l => (opd R tm x).bind fun v => (aParts R tm l).bind fun r => some ((i, v) :: r)
theorem aParts_ok (s : Sim R B e h nx w) {tm : T AV} {a : Act} (ht : TmR e tm a.tmps) : ∀ {l : List (Nat × Operand)} {r : List (Nat × AV)}, aParts R tm l = some r → PRs e r (l.map fun (i, x) => (i, a.eval x))
  | [], _, h => by cases h; exact .nil
  | (i, x) :: l, _, h => by
    obtain ⟨v, hv, h⟩ := Option.bind_eq_some_iff.1 h
    obtain ⟨r, hr, h⟩ := Option.bind_eq_some_iff.1 h
    cases h
    exact .cons _ _ _ _ _ (opd_ok s ht hv) (aParts_ok s ht hr)
def aOpt (R : Nat) (tm : T AV) : Option Operand → Option (Option AV)
  | none => some none
  | some x => (opd R tm x).bind fun v => some (some v)
theorem aOpt_ok (s : Sim R B e h nx w) {tm : T AV} {a : Act} (ht : TmR e tm a.tmps) {x : Option Operand} {r : Option AV} (hr : aOpt R tm x = some r) : OVR e r (x.map a.eval) := by
  cases x with
  | none => cases hr; trivial
  | some x =>
    obtain ⟨v, hv, hr⟩ := Option.bind_eq_some_iff.1 hr
    cases hr
    exact opd_ok s ht hv
def nilOk : AV → Bool
  | .ptr _ _ | .iface _ _ | .map _ | .slice _ _ _ _ | .grow _ _ _ _ => true
  | .func (.func _) _ _ => true
  | _ => false
def plainFn : Fn → Bool
  | .func _ => true
  | .method _ => true
  | _ => false

def rPick (A : Tab) (tm : T AV) (c a b : Operand) : Option AV := (opd A.R tm c).bind fun v => match v with
    | .bool true => opd A.R tm a
    | .bool false => opd A.R tm b
    | _ => none
def rLoad (A : Tab) (h : T AO) (tm : T AV) (t : TypeId) (a : Operand) : Option AV := (opd A.R tm a).bind fun v => match v with
    | .ptr id off => ldVar A h t id off
    | _ => none
def rNil (A : Tab) (tm : T AV) (x : Operand) : Option AV := (opd A.R tm x).bind fun v => match nilOk v with
    | true => some v
    | false => none
def rBin (A : Tab) (tm : T AV) (op : BinOp) (t : TypeId) (x y : Operand) : Option AV := (opd A.R tm x).bind fun u => (opd A.R tm y).bind fun v => aBin A op t u v (isConst x || isConst y)
def rMkF (A : Tab) (tm : T AV) (fn : Fn) (f c : Array Operand) : Option AV := match plainFn fn with
    | true => (opds A.R tm f.toList).bind fun a => (opds A.R tm c.toList).bind fun b => some (.func fn a b)
    | false => none
def rSlice (A : Tab) (tm : T AV) (t : TypeId) (x : Operand) (lo hi mx : Option Operand) : Option AV :=
  (opd A.R tm x).bind fun u => (aOpt A.R tm lo).bind fun a => (aOpt A.R tm hi).bind fun b => (aOpt A.R tm mx).bind fun c => aSl A t u a b c
def rIdxA (A : Tab) (tm : T AV) (t : TypeId) (x i : Operand) : Option AV := (opd A.R tm x).bind fun u => (opd A.R tm i).bind fun v => match v with
    | .int _ n => aIdxA A t u n
    | _ => none
def rIdx (A : Tab) (tm : T AV) (t : TypeId) (x i : Operand) : Option AV := (opd A.R tm x).bind fun u => (opd A.R tm i).bind fun v => match v with
    | .int _ n => aIdx A t u n
    | _ => none
def rLook (A : Tab) (h : T AO) (tm : T AV) (t : TypeId) (x k : Operand) (ok : Bool) : Option AV := (opd A.R tm x).bind fun u => (opd A.R tm k).bind fun v => aLook A h t u v ok
def rUn (A : Tab) (tm : T AV) (op : UnOp) (x : Operand) : Option AV := (opd A.R tm x).bind fun u => aUn op u
def rConv (A : Tab) (h : T AO) (tm : T AV) (s d : TypeId) (x : Operand) : Option AV := (opd A.R tm x).bind fun u => match aConv A s d u with
  | some v => some v
  | none => match aUns A h s d u with
    | some v => some v
    | none => aText A h s d u
def rMkI (A : Tab) (tm : T AV) (t : TypeId) (x : Operand) : Option AV := (opd A.R tm x).bind fun u => aMkI A t u
def rFldA (A : Tab) (tm : T AV) (t : TypeId) (x : Operand) (f : Nat) : Option AV := (opd A.R tm x).bind fun u => aFldA A t u f
def rFld (A : Tab) (tm : T AV) (t : TypeId) (x : Operand) (f : Nat) : Option AV := (opd A.R tm x).bind fun u => aFld A t u f
def rTA (A : Tab) (tm : T AV) (x : Operand) (as_ : TypeId) (ok : Bool) : Option AV := (opd A.R tm x).bind fun u => aTA A u as_ ok
def rExt (A : Tab) (tm : T AV) (x : Operand) (i : Nat) : Option AV := (opd A.R tm x).bind fun u => aExt u i
def rBuild (A : Tab) (tm : T AV) (t : TypeId) (ps : Array (Nat × Operand)) : Option AV := (aParts A.R tm ps.toList).bind fun r => aBuild A t r
def rBuiltin (A : Tab) (h : T AO) (tm : T AV) (b : Builtin) (args : List Operand) (ts : Array TypeId) : Option AV :=
    match b, args with
    | .len, [x] => (ts[0]?).bind fun t => (opd A.R tm x).bind fun u => aLen A h t u
    | .cap, [x] => (ts[0]?).bind fun t => (opd A.R tm x).bind fun u => aCap A t u
    | .min, [x, y] => (opd A.R tm x).bind fun u => (opd A.R tm y).bind fun v => aMin u v
    | .unsafeSliceData, [x] => (opd A.R tm x).bind aSlData
    | .max, [x, y] => (opd A.R tm x).bind fun u => (opd A.R tm y).bind fun v => aMax u v
    | _, _ => none
def evRd (A : Tab) (h : T AO) (tm : T AV) (op : Op) : Option AV :=
  match op with
  | .move x => opd A.R tm x
  | .assign x => opd A.R tm x
  | .pick c a b => rPick A tm c a b
  | .load t a => rLoad A h tm t a
  | .nilCheck x => rNil A tm x
  | .binOp op t x y _ => rBin A tm op t x y
  | .unOp op _ x => rUn A tm op x
  | .convert s d x => rConv A h tm s d x
  | .makeInterface t x => rMkI A tm t x
  | .makeFunc fn f c => rMkF A tm fn f c
  | .slice t x lo hi mx => rSlice A tm t x lo hi mx
  | .fieldAddr t x f => rFldA A tm t x f
  | .field t x f => rFld A tm t x f
  | .indexAddr t x i => rIdxA A tm t x i
  | .index t x i => rIdx A tm t x i
  | .lookup t x k ok => rLook A h tm t x k ok
  | .typeAssert x _ as_ ok => rTA A tm x as_ ok
  | .extract x i => rExt A tm x i
  | .build t ps => rBuild A tm t ps
  | .call { callee := .builtin b, args := args, argTypes := ts } => rBuiltin A h tm b args.toList ts
  | _ => none

theorem rd_ok {A : Tab} (hA : A.Ok P) (s : Sim A.R B e h nx w) {tm : T AV} {a : Act} (ht : TmR e tm a.tmps) {o : Oper} {v : AV} (hv : evRd A h tm o.op = some v) :
    ∃ V, (execOp a.eval o).run P w = .ok (.value V) w ∧ VR e v V := by
  have lift : ∀ {S : Sem Value} {V : Value}, S.run P w = .ok V w → (do pure (.value (← S)) : Sem Next).run P w = .ok (.value V) w := fun hS => by simp [hS, Result.andThen]
  cases hop : o.op <;> rw [hop] at hv <;> simp only [evRd, rPick, rLoad, rNil, rBin, rUn, rConv, rMkI, rMkF, rSlice, rFldA, rFld, rIdxA, rIdx, rLook, rTA, rExt, rBuild] at hv <;> try (cases hv; done)
  case move x => exact ⟨_, by simp [execOp, hop], opd_ok s ht hv⟩
  case assign x => exact ⟨_, by simp [execOp, hop], opd_ok s ht hv⟩
  case pick c x y =>
    obtain ⟨u, hu, hv⟩ := Option.bind_eq_some_iff.1 hv
    have hc := opd_ok s ht hu
    generalize hC : a.eval c = C at hc
    split at hv <;> (try (cases hv; done)) <;> cases hc
    · exact ⟨a.eval x, by simp [execOp, hop, hC, asBool], opd_ok s ht hv⟩
    · exact ⟨a.eval y, by simp [execOp, hop, hC, asBool], opd_ok s ht hv⟩
  case build t ps =>
    obtain ⟨r, hr, hv⟩ := Option.bind_eq_some_iff.1 hv
    have hp := aParts_ok s ht hr
    obtain ⟨V, h1, h2⟩ := aBuild_ok (P := P) (w := w) (Parts := ps.map fun (i, x) => (i, a.eval x)) hA hv (by simpa using hp)
    exact ⟨V, by simp only [execOp, hop]; exact lift h1, h2⟩
  case load t x =>
    obtain ⟨u, hu, hv⟩ := Option.bind_eq_some_iff.1 hv
    have hc := opd_ok s ht hu
    generalize hC : a.eval x = C at hc
    split at hv <;> (try (cases hv; done))
    cases hc with
    | ptr id off b hb =>
      obtain ⟨V, h1, h2⟩ := ldVar_ok (P := P) hA s hv hb
      exact ⟨V, by simp only [execOp, hop, hC]; exact lift (by simpa [Instr.loadAt, Instr.sureAddr] using h1), h2⟩
  case nilCheck x =>
    obtain ⟨u, hu, hv⟩ := Option.bind_eq_some_iff.1 hv
    have hc := opd_ok s ht hu
    generalize hC : a.eval x = C at hc
    split at hv <;> (try (cases hv; done))
    rename nilOk _ = true => hn
    cases hv
    refine ⟨C, ?_, hc⟩
    unfold nilOk at hn
    split at hn <;> (try (cases hn; done)) <;> cases hc <;> simp [execOp, hop, hC]
  case binOp op t x y yt =>
    obtain ⟨u, hu, hv⟩ := Option.bind_eq_some_iff.1 hv
    obtain ⟨u', hu', hv⟩ := Option.bind_eq_some_iff.1 hv
    obtain ⟨V, h1, h2⟩ := aBin_ok (P := P) (w := w) hA hv (opd_ok s ht hu) (opd_ok s ht hu')
    exact ⟨V, by simp only [execOp, hop]; exact lift h1, h2⟩
  case unOp op t x =>
    obtain ⟨u, hu, hv⟩ := Option.bind_eq_some_iff.1 hv
    obtain ⟨V, h1, h2⟩ := aUn_ok (P := P) (w := w) hv (opd_ok s ht hu)
    exact ⟨V, by simp only [execOp, hop]; exact lift h1, h2⟩
  case convert sr ds x =>
    obtain ⟨u, hu, hv⟩ := Option.bind_eq_some_iff.1 hv
    split at hv
    · rename_i v' hc
      cases hv
      obtain ⟨V, h1, h2⟩ := aConv_ok (P := P) (w := w) hA hc (opd_ok s ht hu)
      exact ⟨V, by simp only [execOp, hop]; exact lift h1, h2⟩
    · split at hv
      · rename_i v' hc
        cases hv
        obtain ⟨V, h1, h2⟩ := aUns_ok (P := P) (w := w) hA s hc (opd_ok s ht hu)
        exact ⟨V, by simp only [execOp, hop]; exact lift h1, h2⟩
      · obtain ⟨V, h1, h2⟩ := aText_ok (P := P) (w := w) hA s hv (opd_ok s ht hu)
        exact ⟨V, by simp only [execOp, hop]; exact lift h1, h2⟩
  case makeInterface t x =>
    obtain ⟨u, hu, hv⟩ := Option.bind_eq_some_iff.1 hv
    obtain ⟨V, h1, h2⟩ := aMkI_ok (P := P) (w := w) hA hv (opd_ok s ht hu)
    exact ⟨V, by simp only [execOp, hop]; exact lift h1, h2⟩
  case makeFunc fn f c =>
    split at hv <;> (try (cases hv; done))
    obtain ⟨x, hx, hv⟩ := Option.bind_eq_some_iff.1 hv
    obtain ⟨y, hy, hv⟩ := Option.bind_eq_some_iff.1 hv
    cases hv
    refine ⟨.func fn ⟨f.toList.map a.eval⟩ ⟨c.toList.map a.eval⟩, ?_, .func _ _ _ _ _ (opds_ok s ht hx) (opds_ok s ht hy)⟩
    simp only [execOp, hop]
    refine lift ?_
    simp only [Instr.makeFunc, Sem.run_pure, Result.ok.injEq, Value.func.injEq, true_and, and_true]
    exact ⟨Array.ext' (by simp), Array.ext' (by simp)⟩
  case slice t x lo hi mx =>
    obtain ⟨u, hu, hv⟩ := Option.bind_eq_some_iff.1 hv
    obtain ⟨x1, hx1, hv⟩ := Option.bind_eq_some_iff.1 hv
    obtain ⟨x2, hx2, hv⟩ := Option.bind_eq_some_iff.1 hv
    obtain ⟨x3, hx3, hv⟩ := Option.bind_eq_some_iff.1 hv
    obtain ⟨V, h1, h2⟩ := aSl_ok (P := P) (w := w) hA hv (opd_ok s ht hu) (aOpt_ok s ht hx1) (aOpt_ok s ht hx2) (aOpt_ok s ht hx3)
    exact ⟨V, by simp only [execOp, hop]; exact lift h1, h2⟩
  case fieldAddr t x f =>
    obtain ⟨u, hu, hv⟩ := Option.bind_eq_some_iff.1 hv
    obtain ⟨V, h1, h2⟩ := aFldA_ok (P := P) (w := w) hA hv (opd_ok s ht hu)
    exact ⟨V, by simp only [execOp, hop]; exact lift h1, h2⟩
  case field t x f =>
    obtain ⟨u, hu, hv⟩ := Option.bind_eq_some_iff.1 hv
    obtain ⟨V, h1, h2⟩ := aFld_ok (P := P) (w := w) hA hv (opd_ok s ht hu)
    exact ⟨V, by simp only [execOp, hop]; exact lift h1, h2⟩
  case indexAddr t x i =>
    obtain ⟨u, hu, hv⟩ := Option.bind_eq_some_iff.1 hv
    obtain ⟨u', hu', hv⟩ := Option.bind_eq_some_iff.1 hv
    have hc := opd_ok s ht hu'
    generalize hC : a.eval i = C at hc
    split at hv <;> (try (cases hv; done))
    cases hc
    obtain ⟨V, h1, h2⟩ := aIdxA_ok (P := P) (w := w) hA hv (opd_ok s ht hu)
    exact ⟨V, by simp only [execOp, hop, hC]; exact lift h1, h2⟩
  case index t x i =>
    obtain ⟨u, hu, hv⟩ := Option.bind_eq_some_iff.1 hv
    obtain ⟨u', hu', hv⟩ := Option.bind_eq_some_iff.1 hv
    have hc := opd_ok s ht hu'
    generalize hC : a.eval i = C at hc
    split at hv <;> (try (cases hv; done))
    cases hc
    obtain ⟨V, h1, h2⟩ := aIdx_ok (P := P) (w := w) hA hv (opd_ok s ht hu)
    exact ⟨V, by simp only [execOp, hop, hC]; exact lift h1, h2⟩
  case lookup t x k ok =>
    obtain ⟨u, hu, hv⟩ := Option.bind_eq_some_iff.1 hv
    obtain ⟨u', hu', hv⟩ := Option.bind_eq_some_iff.1 hv
    obtain ⟨V, h1, h2⟩ := aLook_ok (P := P) (w := w) hA s hv (opd_ok s ht hu) (opd_ok s ht hu')
    exact ⟨V, by simp only [execOp, hop]; exact lift h1, h2⟩
  case typeAssert x xt as_ ok =>
    obtain ⟨u, hu, hv⟩ := Option.bind_eq_some_iff.1 hv
    obtain ⟨V, h1, h2⟩ := aTA_ok (P := P) (w := w) hA hv (opd_ok s ht hu)
    exact ⟨V, by simp only [execOp, hop]; exact lift h1, h2⟩
  case extract x i =>
    obtain ⟨u, hu, hv⟩ := Option.bind_eq_some_iff.1 hv
    obtain ⟨V, h1, h2⟩ := aExt_ok (P := P) (w := w) hv (opd_ok s ht hu)
    exact ⟨V, by simp only [execOp, hop]; exact lift h1, h2⟩
  case call c =>
    obtain ⟨cl, args, ts⟩ := c
    cases cl <;> (try simp only at hv) <;> try (cases hv; done)
    rename_i b
    obtain ⟨args⟩ := args
    rcases args with _ | ⟨x, _ | ⟨y, _ | ⟨z, r⟩⟩⟩ <;> cases b <;> simp only [rBuiltin] at hv <;> try (cases hv; done)
    · obtain ⟨t, hT, hv⟩ := Option.bind_eq_some_iff.1 hv
      obtain ⟨u, hu, hv⟩ := Option.bind_eq_some_iff.1 hv
      obtain ⟨V, h1, h2⟩ := aCap_ok (P := P) (w := w) (ty := o.type) hA hv (opd_ok s ht hu) hT
      exact ⟨V, by simp [execOp, hop, resolve, invoke, builtin, h1, Result.andThen], h2⟩
    · obtain ⟨t, hT, hv⟩ := Option.bind_eq_some_iff.1 hv
      obtain ⟨u, hu, hv⟩ := Option.bind_eq_some_iff.1 hv
      obtain ⟨V, h1, h2⟩ := aLen_ok (P := P) (w := w) (ty := o.type) hA s hv (opd_ok s ht hu) hT
      exact ⟨V, by simp [execOp, hop, resolve, invoke, builtin, h1, Result.andThen], h2⟩
    · obtain ⟨u, hu, hv⟩ := Option.bind_eq_some_iff.1 hv
      obtain ⟨V, h1, h2⟩ := aSlData_ok (P := P) (w := w) hv (opd_ok s ht hu) ts o.type
      exact ⟨V, by simp [execOp, hop, resolve, invoke, builtin, h1, Result.andThen], h2⟩
    · obtain ⟨u, hu, hv⟩ := Option.bind_eq_some_iff.1 hv
      obtain ⟨u', hu', hv⟩ := Option.bind_eq_some_iff.1 hv
      obtain ⟨V, h1, h2⟩ := aMax_ok (P := P) (w := w) ts o.type hv (opd_ok s ht hu) (opd_ok s ht hu')
      exact ⟨V, by simp [execOp, hop, resolve, invoke, builtin, h1, Result.andThen], h2⟩
    · obtain ⟨u, hu, hv⟩ := Option.bind_eq_some_iff.1 hv
      obtain ⟨u', hu', hv⟩ := Option.bind_eq_some_iff.1 hv
      obtain ⟨V, h1, h2⟩ := aMin_ok (P := P) (w := w) ts o.type hv (opd_ok s ht hu) (opd_ok s ht hu')
      exact ⟨V, by simp [execOp, hop, resolve, invoke, builtin, h1, Result.andThen], h2⟩
end
end
end Go.Xe

namespace Go.Xe
noncomputable section
set_option linter.unusedSimpArgs false
section
variable {R : Nat} {B : Bs} {e : Env} {h : T AO} {nx : Nat} {w : World} {P : Program}

theorem VRs.of_get : ∀ {l : List AV} {L : List Value}, l.length = L.length → (∀ (i : Nat) (v : AV) (V : Value), l[i]? = some v → L[i]? = some V → VR e v V) → VRs e l L
  | [], [], _, _ => .nil
  | [], _ :: _, hl, _ => by simp at hl
  | _ :: _, [], hl, _ => by simp at hl
  | v :: l, V :: L, hl, hg => .cons _ _ _ _ (hg 0 v V rfl rfl) (VRs.of_get (by simpa using hl) fun i v V h1 h2 => hg (i + 1) v V (by simpa using h1) (by simpa using h2))
def aTile (z : List AV) (n : Nat) : List AV := (List.range n).map fun i => z.getD (i % z.length) .nili
theorem aTile_ok {z : List AV} {Z : Array Value} (hz : VRs e z Z.toList) (hpos : 0 < z.length) (n : Nat) : VRs e (aTile z n) ((Array.range n).map (Z[· % Z.size]!)).toList := by
  have hlen : Z.size = z.length := by have := hz.length; simpa using this
  refine VRs.of_get (by simp [aTile]) fun i v V h1 h2 => ?_
  have hi : i < n := by
    have := (List.getElem?_eq_some_iff.1 h1).1
    simpa [aTile] using this
  have hlt : i % z.length < z.length := Nat.mod_lt _ hpos
  simp only [aTile, List.getElem?_map, List.getElem?_range hi, Option.map_some, Option.some.injEq] at h1
  simp only [Array.toList_map, Array.toList_range, List.getElem?_map, List.getElem?_range hi, Option.map_some, Option.some.injEq] at h2
  subst h1; subst h2
  obtain ⟨V, hV1, hV2⟩ := hz.get (i % z.length) (z[i % z.length]) (by simp [hlt])
  rw [hlen]
  have hlt' : i % z.length < Z.size := by omega
  rw [List.getD_eq_getElem?_getD, List.getElem?_eq_getElem hlt, Option.getD_some]
  rw [getElem!_pos Z _ hlt']
  have : Z[i % z.length] = V := by
    have := hV1
    simp [hlt'] at this
    exact this
  rw [this]; exact hV2

theorem cast_le (a b : Nat) (h : a * b ≤ 281474976710656) : (a : Int) * (b : Int) ≤ 281474976710656 := by
  rw [← Int.natCast_mul]
  generalize a * b = x at *
  omega
/-! ### Operations that make a block -/
inductive Mk where
  | ptr
  | slice (len cap : Nat)
  | map
def Mk.val (id : Nat) : Mk → AV
  | .ptr => .ptr id 0
  | .slice l c => .slice id 0 l c
  | .map => .map id
def Mk.real (b : Nat) : Mk → Value
  | .ptr => .pointer (some ⟨b, 0, none⟩)
  | .slice l c => .slice (some ⟨b, 0, none⟩) l c
  | .map => .map (some b)
theorem Mk.ok {id b : Nat} (k : Mk) (hb : e.blk id = some b) : VR e (k.val id) (k.real b) := by
  cases k
  · exact .ptr _ _ _ hb
  · exact .slice _ _ _ _ _ hb
  · exact .map _ _ hb

def evAl (A : Tab) (tm : T AV) (op : Op) : Option (AO × Mk) :=
  match op with
  | .alloc t => (A.ty.get t).bind fun i => i.zero.bind fun z => some (.row z.cells t, .ptr)
  | .box t x => (opd A.R tm x).bind fun v => some (.row v.cells t, .ptr)
  | .buildSlice t len ps => (A.ty.get t).bind fun i =>
    match i.desc with
    | .slice el => (A.ty.get el).bind fun j => j.zero.bind fun z => (aParts A.R tm ps.toList).bind fun r =>
      match Nat.ble (len * j.size) 1048576, Nat.blt 0 z.cells.length with
      | true, true => (aFill (fun i => some (i * j.size, j.size)) (aTile z.cells (len * j.size)) r).bind fun c => some (.row c el, .slice len len)
      | _, _ => none
    | _ => none
  | .makeMap _ none => some (.map [] 0, .map)
  | .range t x => (A.ty.get t).bind fun i => (opd A.R tm x).bind fun v => match i.desc, v with
    | .string, .str s => some (.iter s 0, .ptr)
    | _, _ => none
  | .makeSlice t l c => (A.ty.get t).bind fun i =>
    match i.desc with
    | .slice el => (A.ty.get el).bind fun j => j.zero.bind fun z => (opd A.R tm l).bind fun x => (opd A.R tm c).bind fun y =>
      match x, y with
      | .int _ (.ofNat m), .int _ (.ofNat n) =>
        match Nat.ble m n, Nat.ble (j.bytes * n) 281474976710656, Nat.ble n 1048576, Nat.blt 0 z.cells.length with
        | true, true, true, true => some (.row (aTile z.cells (n * j.size)) el, .slice m n)
        | _, _, _, _ => none
      | _, _ => none
    | _ => none
  | _ => none
theorem al_ok {A : Tab} (hA : A.Ok P) (s : Sim A.R B e h nx w) {tm : T AV} {a : Act} (ht : TmR e tm a.tmps) {o : Oper} {ob : AO} {k : Mk} (hv : evAl A tm o.op = some (ob, k)) :
    ∃ O, (execOp a.eval o).run P w = .ok (.value (k.real w.heap.size)) (w.alloc O) ∧ ∀ e' id, e.le e' → OR e' id ob O := by
  cases hop : o.op <;> rw [hop] at hv <;> simp only [evAl] at hv <;> try (cases hv; done)
  case alloc t =>
    obtain ⟨i, hi, hv⟩ := Option.bind_eq_some_iff.1 hv
    obtain ⟨z, hz, hv⟩ := Option.bind_eq_some_iff.1 hv
    cases hv
    obtain ⟨Z, hZ, hzr⟩ := run_zero (P := P) (w := w) (hA.ty _ i hi) hz
    refine ⟨.cells Z.cells t, by simp [execOp, hop, Instr.alloc, hZ, newVar, newRow, Result.andThen, Mk.real], fun e' id _ => ⟨Z.cells.toList, (0, 0), rfl, (hzr e').cells, .inl rfl⟩⟩
  case box t x =>
    obtain ⟨u, hu, hv⟩ := Option.bind_eq_some_iff.1 hv
    cases hv
    have hc := opd_ok s ht hu
    exact ⟨.cells (a.eval x).cells t, by simp [execOp, hop, Instr.box, newVar, newRow, Result.andThen, Mk.real], fun e' id hle => ⟨(a.eval x).cells.toList, (0, 0), rfl, (hc.mono hle).cells, .inl rfl⟩⟩
  case buildSlice t len ps =>
    obtain ⟨i, hi, hv⟩ := Option.bind_eq_some_iff.1 hv
    have hU : (underlying t).run P w = .ok i.desc w := run_und (hA.ty _ i hi)
    split at hv <;> (try (cases hv; done))
    rename_i el hd
    rw [hd] at hU
    obtain ⟨j, hj, hv⟩ := Option.bind_eq_some_iff.1 hv
    obtain ⟨z, hz, hv⟩ := Option.bind_eq_some_iff.1 hv
    obtain ⟨r, hr, hv⟩ := Option.bind_eq_some_iff.1 hv
    have hS := run_sizeOf (P := P) (w := w) (hA.ty _ j hj)
    obtain ⟨Z, hZ, hzr⟩ := run_zero (P := P) (w := w) (hA.ty _ j hj) hz
    split at hv <;> (try (cases hv; done))
    rename_i hb1 hb2
    have hb1 := Nat.le_of_ble_eq_true hb1
    have hb2 := blt_iff.1 hb2
    obtain ⟨c, hc, hv⟩ := Option.bind_eq_some_iff.1 hv
    cases hv
    have hp := aParts_ok s ht hr
    have hp' : PRs e r (ps.map fun (i, x) => (i, a.eval x)).toList := by simpa using hp
    have htile := aTile_ok (hzr e).cells hb2 (len * j.size)
    obtain ⟨C', hC', hr'⟩ := aFill_ok (C := (Array.range (len * j.size)).map (Z.cells[· % Z.cells.size]!)) hc hp' htile
    refine ⟨.cells C' el, ?_, fun e' id hle => ⟨C'.toList, (0, 0), rfl, hr'.mono hle, .inl rfl⟩⟩
    simp only [execOp, hop, Instr.buildSlice, Sem.run_bind, hU, Result.andThen, hS]
    rw [if_neg (by omega)]
    by_cases h0 : len * j.size = 0
    · rw [if_pos h0]
      have hC0 : Instr.fill (fun i => some (i * j.size, j.size)) ((Array.range (len * j.size)).map ((#[] : Array Value)[· % (#[] : Array Value).size]!)) (ps.map fun (i, x) => (i, a.eval x)).toList = some C' := by
        have h1 : Array.range (len * j.size) = #[] := by rw [h0]; rfl
        rw [h1] at hC' ⊢
        simp only [Array.map_empty] at hC' ⊢
        exact hC'
      simp only [Sem.run_bind, Sem.run_pure, Result.andThen, hC0, newRow, run_newObj, Mk.real, World.alloc_eq]
    · rw [if_neg h0]
      simp only [Sem.run_bind, Sem.run_pure, hZ, Result.andThen, hC', newRow, run_newObj, Mk.real, World.alloc_eq]
  case range t x =>
    obtain ⟨i, hi, hv⟩ := Option.bind_eq_some_iff.1 hv
    obtain ⟨u, hu, hv⟩ := Option.bind_eq_some_iff.1 hv
    have hU : (underlying t).run P w = .ok i.desc w := run_und (hA.ty _ i hi)
    have hX := opd_ok s ht hu
    generalize hXe : a.eval x = X at hX
    split at hv <;> (try (cases hv; done))
    rename i.desc = _ => hd
    rw [hd] at hU
    cases hv
    cases hX
    exact ⟨.stringIter ⟨⟨_⟩⟩ 0, by simp [execOp, hop, hXe, Instr.range, hU, Result.andThen, Mk.real], fun e' id _ => rfl⟩
  case makeMap t r =>
    cases r with
    | some r => cases hv
    | none =>
      cases hv
      exact ⟨.map #[] 0, by simp [execOp, hop, Instr.makeMap, Result.andThen, Mk.real], fun e' id _ => ⟨[], rfl, .nil, .nil, rfl⟩⟩
  case makeSlice t l c =>
    obtain ⟨i, hi, hv⟩ := Option.bind_eq_some_iff.1 hv
    have hu := (hA.ty _ i hi).1
    split at hv <;> (try (cases hv; done))
    rename_i el hd
    rw [hd] at hu
    obtain ⟨j, hj, hv⟩ := Option.bind_eq_some_iff.1 hv
    obtain ⟨z, hz, hv⟩ := Option.bind_eq_some_iff.1 hv
    obtain ⟨x, hx, hv⟩ := Option.bind_eq_some_iff.1 hv
    obtain ⟨y, hy, hv⟩ := Option.bind_eq_some_iff.1 hv
    have hX := opd_ok s ht hx
    have hY := opd_ok s ht hy
    generalize hXe : a.eval l = X at hX
    generalize hYe : a.eval c = Y at hY
    split at hv <;> (try (cases hv; done))
    rename_i m k2 n _
    cases hX; cases hY
    split at hv <;> (try (cases hv; done))
    rename_i hb1 hb2 hb3 hb4
    have hb1 := Nat.le_of_ble_eq_true hb1
    have hb2 := Nat.le_of_ble_eq_true hb2
    have hb3 := Nat.le_of_ble_eq_true hb3
    have hb4 := blt_iff.1 hb4
    cases hv
    obtain ⟨_, J, hJ, hjs, hjb, hzz⟩ := hA.ty _ j hj
    obtain ⟨Z, hZ, hzr⟩ := hzz z hz
    refine ⟨_, ?_, fun e' id _ => ⟨_, (0, 0), rfl, aTile_ok (hzr e').cells hb4 _, .inl rfl⟩⟩
    simp only [execOp, hop, hXe, hYe, Sem.run_bind, Int.ofNat_eq_natCast]
    rw [run_make w t el J Z hu hJ hZ _ _ m n (Int.natCast_nonneg _) (Int.ofNat_le.2 hb1) (by rw [hjb]; exact cast_le _ _ hb2) (by omega)]
    simp [Result.andThen, Mk.real, hjs, madeCells]
    congr 2
    apply Array.ext'
    simp
end
end
end Go.Xe

namespace Go.Xe
noncomputable section
set_option linter.unusedSimpArgs false
section
variable {R : Nat} {B : Bs} {e : Env} {h : T AO} {nx : Nat} {w : World} {P : Program}

theorem size_alloc (w : World) (O : Obj) : (w.alloc O).heap.size = w.heap.size + 1 := Array.size_push ..
theorem heap_alloc_at (w : World) (O : Obj) : (w.alloc O).heap[w.heap.size]? = some O := by
  show (w.heap.push O)[w.heap.size]? = some O
  simp
theorem heap_alloc_lt (w : World) (O : Obj) (k : Nat) (hk : k < w.heap.size) : (w.alloc O).heap[k]? = w.heap[k]? := by
  show (w.heap.push O)[k]? = w.heap[k]?
  rw [Array.getElem?_push]
  simp [Nat.ne_of_lt hk]
/-! ### From one state to a later one -/
structure Ste (R : Nat) (e : Env) (h : T AO) (nx : Nat) (w : World) (e' : Env) (h' : T AO) (nx' : Nat) (w' : World) : Prop where
  le : e.le e'
  nxle : nx ≤ nx'
  os : w'.os = w.os
  tape : w'.tape = w.tape
  output : w'.output = w.output
  size : w.heap.size ≤ w'.heap.size
  blk : ∀ k, k < w.heap.size → (∀ i o, R ≤ i → h.get i = some o → e.blk i ≠ some k) → w'.heap[k]? = w.heap[k]?
  img : ∀ i o b, R ≤ i → h'.get i = some o → e'.blk i = some b → b < w.heap.size → ∃ j p, R ≤ j ∧ h.get j = some p ∧ e.blk j = some b
  old : ∀ i, i < nx → e'.blk i = e.blk i
theorem Ste.refl : Ste R e h nx w e h nx w := ⟨e.le_refl, Nat.le_refl _, rfl, rfl, rfl, Nat.le_refl _, fun _ _ _ => rfl, fun i o _ hi ho hb _ => ⟨i, o, hi, ho, hb⟩, fun _ _ => rfl⟩
theorem Ste.drew : Ste R e h nx w e h nx w.drew := ⟨e.le_refl, Nat.le_refl _, rfl, rfl, rfl, Nat.le_refl _, fun _ _ _ => rfl, fun i o _ hi ho hb _ => ⟨i, o, hi, ho, hb⟩, fun _ _ => rfl⟩
theorem Ste.trans {e1 e2 : Env} {h1 h2 : T AO} {n1 n2 : Nat} {w1 w2 : World} (a : Ste R e h nx w e1 h1 n1 w1) (b : Ste R e1 h1 n1 w1 e2 h2 n2 w2) : Ste R e h nx w e2 h2 n2 w2 where
  le := Env.le_trans a.le b.le
  nxle := Nat.le_trans a.nxle b.nxle
  os := b.os.trans a.os
  tape := b.tape.trans a.tape
  output := b.output.trans a.output
  size := Nat.le_trans a.size b.size
  blk := fun k hk hn => by
    rw [b.blk k (Nat.lt_of_lt_of_le hk a.size) ?_, a.blk k hk hn]
    intro i o hi ho hb
    obtain ⟨j, p, hj, hp, hb'⟩ := a.img i o k hi ho hb hk
    exact hn j p hj hp hb'
  img := fun i o x hi ho hb hx => by
    obtain ⟨j, p, hj, hp, hb'⟩ := b.img i o x hi ho hb (Nat.lt_of_lt_of_le hx a.size)
    exact a.img j p x hj hp hb' hx
  old := fun i hi => (b.old i (Nat.lt_of_lt_of_le hi a.nxle)).trans (a.old i hi)
theorem Sim.drew (s : Sim R B e h nx w) : Sim R B e h nx w.drew := ⟨s.obj, s.inj, s.fresh, s.glob, s.own, s.base⟩
theorem Sim.lt (s : Sim R B e h nx w) {i b : Nat} {o : AO} (ho : h.get i = some o) (hb : e.blk i = some b) : b < w.heap.size := by
  obtain ⟨b', O, hb', hO, _⟩ := s.obj i o ho
  obtain rfl : b' = b := by rw [hb] at hb'; exact (Option.some.inj hb').symm
  exact (Array.getElem?_eq_some_iff.1 hO).1

def Env.put (e : Env) (id b rm : Nat) : Env := ⟨fun i => if i = id then some b else e.blk i, fun i => if i = id then rm else e.room i⟩
theorem Env.put_le {id b rm : Nat} (hn : e.blk id = none) : e.le (e.put id b rm) := fun i x hx => by
  have : i ≠ id := fun hh => by rw [hh, hn] at hx; cases hx
  simp [Env.put, this, hx]
theorem Sim.push (s : Sim R B e h nx w) {o : AO} {O : Obj} {h' : T AO} (hp : h.put 60 nx (some o) = some h') (rm : Nat) (hO : ∀ e', e.le e' → e'.room nx = rm → OR e' nx o O) :
    (e.put nx w.heap.size rm).blk nx = some w.heap.size ∧ (e.put nx w.heap.size rm).room nx = rm ∧ Sim R B (e.put nx w.heap.size rm) h' (nx + 1) (w.alloc O) ∧
      Ste R e h nx w (e.put nx w.heap.size rm) h' (nx + 1) (w.alloc O) := by
  have hn : e.blk nx = none := s.fresh nx (Nat.le_refl _)
  have hle := Env.put_le (e := e) (b := w.heap.size) (rm := rm) hn
  have hg := T.put_get 60 h nx (some o) h' hp
  have hnb : (e.put nx w.heap.size rm).blk nx = some w.heap.size := by simp [Env.put]
  have hnr : (e.put nx w.heap.size rm).room nx = rm := by simp [Env.put]
  have hob : ∀ i, i ≠ nx → (e.put nx w.heap.size rm).blk i = e.blk i := fun i hi => by simp [Env.put, hi]
  refine ⟨hnb, hnr, ⟨?_, ?_, ?_, ?_, ?_, ?_⟩, ⟨hle, by omega, rfl, rfl, rfl, by rw [size_alloc]; omega, ?_, ?_, fun i hi => hob i (by omega)⟩⟩
  · intro i p hip
    rw [hg] at hip
    by_cases hi : i = nx
    · subst hi
      rw [if_pos rfl] at hip
      cases hip
      exact ⟨w.heap.size, O, hnb, heap_alloc_at w O, hO _ hle hnr⟩
    · rw [if_neg hi] at hip
      obtain ⟨b, Q, hb, hQ, hr⟩ := s.obj i p hip
      exact ⟨b, Q, by rw [hob i hi]; exact hb, by rw [heap_alloc_lt w O b (s.lt hip hb)]; exact hQ, hr.mono hle hb⟩
  · intro i j p q b hip hjq hib hjb
    rw [hg] at hip hjq
    by_cases hi : i = nx
    · by_cases hj : j = nx
      · rw [hi, hj]
      · subst hi
        rw [if_neg hj] at hjq
        rw [hnb] at hib
        rw [hob j hj] at hjb
        cases hib
        exact (Nat.lt_irrefl _ (s.lt hjq hjb)).elim
    · rw [if_neg hi] at hip
      rw [hob i hi] at hib
      by_cases hj : j = nx
      · subst hj
        rw [hnb] at hjb
        cases hjb
        exact (Nat.lt_irrefl _ (s.lt hip hib)).elim
      · rw [if_neg hj] at hjq
        rw [hob j hj] at hjb
        exact s.inj i j p q b hip hjq hib hjb
  · intro i hi
    rw [hob i (by omega)]
    exact s.fresh i (by omega)
  · intro g hgR
    rw [hob g (by have := s.base.2.2.1; omega)]
    exact s.glob g hgR
  · intro i p b hi hip hib
    rw [hg] at hip
    by_cases hin : i = nx
    · subst hin
      rw [hnb] at hib
      cases hib
      exact s.base.1
    · rw [if_neg hin] at hip
      rw [hob i hin] at hib
      exact s.own i p b hi hip hib
  · exact ⟨by have := s.base.1; rw [size_alloc]; omega, s.base.2.1, by have := s.base.2.2.1; omega, fun k hk => (heap_alloc_lt w O k (Nat.lt_of_lt_of_le hk s.base.1)).trans (s.base.2.2.2 k hk)⟩
  · intro k hk _
    exact heap_alloc_lt w O k hk
  · intro i p b hi hip hib hlt
    rw [hg] at hip
    by_cases hin : i = nx
    · subst hin
      rw [hnb] at hib
      cases hib
      exact (Nat.lt_irrefl _ hlt).elim
    · rw [if_neg hin] at hip
      rw [hob i hin] at hib
      exact ⟨i, p, hi, hip, hib⟩

/-- Another object in the place of one. -/
theorem Sim.swap (s : Sim R B e h nx w) {id b : Nat} {o o' : AO} {O' : Obj} {h' : T AO} (ho : h.get id = some o) (hid : R ≤ id) (hb : e.blk id = some b) (hp : h.put 60 id (some o') = some h') {w' : World}
    (hw : w'.heap[b]? = some O') (hother : ∀ k, k ≠ b → w'.heap[k]? = w.heap[k]?) (hsz : w'.heap.size = w.heap.size) (hos : w'.os = w.os) (htape : w'.tape = w.tape) (hout : w'.output = w.output)
    (hO : OR e id o' O') : Sim R B e h' nx w' ∧ Ste R e h nx w e h' nx w' := by
  have hg := T.put_get 60 h id (some o') h' hp
  refine ⟨⟨?_, ?_, s.fresh, s.glob, ?_, ?_⟩, ⟨e.le_refl, Nat.le_refl _, hos, htape, hout, by omega, ?_, ?_, fun _ _ => rfl⟩⟩
  · intro i p hip
    rw [hg] at hip
    by_cases hi : i = id
    · subst hi
      rw [if_pos rfl] at hip
      cases hip
      exact ⟨b, O', hb, hw, hO⟩
    · rw [if_neg hi] at hip
      obtain ⟨c, Q, hc, hQ, hr⟩ := s.obj i p hip
      have hne : c ≠ b := fun hh => hi (s.inj i id p o b hip ho (hh ▸ hc) hb)
      exact ⟨c, Q, hc, by rw [hother c hne]; exact hQ, hr⟩
  · intro i j p q c hip hjq hib hjb
    rw [hg] at hip hjq
    have key : ∀ x y, (if x = id then some o' else h.get x) = some y → ∃ z, h.get x = some z := by
      intro x y hxy
      by_cases hx : x = id
      · exact ⟨o, hx ▸ ho⟩
      · rw [if_neg hx] at hxy; exact ⟨y, hxy⟩
    obtain ⟨p', hp'⟩ := key i p hip
    obtain ⟨q', hq'⟩ := key j q hjq
    exact s.inj i j p' q' c hp' hq' hib hjb
  · intro i p c hi hip hic
    rw [hg] at hip
    by_cases hin : i = id
    · subst hin; exact s.own i o c hi ho hic
    · rw [if_neg hin] at hip; exact s.own i p c hi hip hic
  · exact ⟨by rw [hsz]; exact s.base.1, s.base.2.1, s.base.2.2.1, fun k hk => (hother k fun hkb => by have := s.own id o b hid ho hb; omega).trans (s.base.2.2.2 k hk)⟩
  · intro k hk hn
    exact hother k fun hkb => hn id o hid ho (hkb ▸ hb)
  · intro i p c hi hip hic _
    rw [hg] at hip
    by_cases hin : i = id
    · subst hin; exact ⟨i, o, hi, ho, hic⟩
    · rw [if_neg hin] at hip; exact ⟨i, p, hi, hip, hic⟩

/-- One object is changed, and nothing is known of it any more. -/
theorem Sim.gone (s : Sim R B e h nx w) {id b : Nat} {o : AO} {h' : T AO} (ho : h.get id = some o) (hid : R ≤ id) (hb : e.blk id = some b) (hp : h.put 60 id none = some h') {w' : World}
    (hother : ∀ k, k ≠ b → w'.heap[k]? = w.heap[k]?) (hsz : w'.heap.size = w.heap.size) (hos : w'.os = w.os) (htape : w'.tape = w.tape) (hout : w'.output = w.output) : Sim R B e h' nx w' ∧ Ste R e h nx w e h' nx w' := by
  have hg := T.put_get 60 h id none h' hp
  have key : ∀ i p, h'.get i = some p → i ≠ id ∧ h.get i = some p := fun i p hip => by
    rw [hg] at hip
    by_cases hi : i = id
    · rw [if_pos hi] at hip; cases hip
    · rw [if_neg hi] at hip; exact ⟨hi, hip⟩
  refine ⟨⟨?_, ?_, s.fresh, s.glob, ?_, ?_⟩, ⟨e.le_refl, Nat.le_refl _, hos, htape, hout, by omega, ?_, ?_, fun _ _ => rfl⟩⟩
  · intro i p hip
    obtain ⟨hi, hip⟩ := key i p hip
    obtain ⟨c, Q, hc, hQ, hr⟩ := s.obj i p hip
    have hne : c ≠ b := fun hh => hi (s.inj i id p o b hip ho (hh ▸ hc) hb)
    exact ⟨c, Q, hc, by rw [hother c hne]; exact hQ, hr⟩
  · intro i j p q c hip hjq hib hjb
    exact s.inj i j p q c (key i p hip).2 (key j q hjq).2 hib hjb
  · intro i p c hi hip hic
    exact s.own i p c hi (key i p hip).2 hic
  · exact ⟨by rw [hsz]; exact s.base.1, s.base.2.1, s.base.2.2.1, fun k hk => (hother k fun hkb => by have := s.own id o b hid ho hb; omega).trans (s.base.2.2.2 k hk)⟩
  · intro k hk hn
    exact hother k fun hkb => hn id o hid ho (hkb ▸ hb)
  · intro i p c hi hip hic _
    exact ⟨i, p, hi, (key i p hip).2, hic⟩

/-! ### Stores -/
def AV.one : AV → Bool
  | .agg _ | .tup _ => false
  | _ => true
def ones : List AV → Bool
  | [] => true
  | v :: l => match v.one with
    | true => ones l
    | false => false
theorem one_ok {v : AV} {V : Value} (hv : VR e v V) (h1 : v.one = true) : V.oneCell' = true := by
  cases hv <;> first | rfl | cases h1
theorem ones_ok : ∀ {l : List AV} {L : List Value}, VRs e l L → ones l = true → ∀ v ∈ L, v.oneCell' = true
  | _, _, .nil, _, v, hv => by cases hv
  | _, _, .cons x X l L hx hs, h1, v, hv => by
    rw [ones] at h1
    split at h1
    · rename_i hx1
      cases hv with
      | head => exact one_ok hx hx1
      | tail _ hm => exact ones_ok hs h1 v hm
    · cases h1
def putAt (c vs : List AV) (off : Nat) : Option (List AV) :=
  match fits c (off + vs.length), ones vs with
  | true, true => some (appF (takeF c off) (appF vs (dropF c (off + vs.length))))
  | _, _ => none
theorem putAt_eq (c vs : List AV) (off : Nat) : putAt c vs off = match Nat.ble (off + vs.length) c.length, ones vs with
    | true, true => some (c.take off ++ vs ++ c.drop (off + vs.length))
    | _, _ => none := by
  unfold putAt
  rw [fits_eq, appF_eq, appF_eq, takeF_eq, dropF_eq, List.append_assoc]
def aStore (R : Nat) (h : T AO) (id off : Nat) (vs : List AV) : Option (T AO) :=
  match Nat.ble R id, h.get id with
  | true, some (.row c t) => (putAt c vs off).bind fun c' => h.put 60 id (some (.row c' t))
  | true, some (.opn c t sz) => (putAt c vs off).bind fun c' => h.put 60 id (some (.opn c' t sz))
  | _, _ => none
theorem putAt_ok {c vs c' : List AV} {off : Nat} {C VS : List Value} (hp : putAt c vs off = some c') (hc : VRs e c C) (hv : VRs e vs VS) :
    VRs e c' (C.take off ++ VS ++ C.drop (off + VS.length)) ∧ off + VS.length ≤ C.length ∧ ∀ v ∈ VS, v.oneCell' = true := by
  rw [putAt_eq] at hp
  split at hp <;> (try (cases hp; done))
  rename_i h1 h2
  have h1 := Nat.le_of_ble_eq_true h1
  cases hp
  have l1 := hc.length
  have l2 := hv.length
  exact ⟨by rw [l2]; exact ((hc.take off).append hv).append (hc.drop _), by omega, ones_ok hv h2⟩
/-- Cells are written to a row whose frozen range, if it has one, lies behind its last cell. -/
theorem run_storeCells_up (g o : Nat) (t : TypeId) (fz : Nat × Nat) (n : Nat) (hfz : FzOk fz n) : ∀ (vs : List Value) (i : Nat) (cur : Array Value) (w : World), cur.size = n → w.heap[g]? = some (.cells cur t fz) → o + i + vs.length ≤ cur.size → (∀ v ∈ vs, v.oneCell' = true) →
    (storeCells ⟨g, o, none⟩ vs i).run P w = .ok () (w.setRow g (cur.toList.take (o + i) ++ vs ++ cur.toList.drop (o + i + vs.length)).toArray)
  | [], i, cur, w, _, hg, _, _ => by
    simp only [storeCells, List.append_nil, List.length_nil, Nat.add_zero, List.take_append_drop, Array.toArray_toList]
    rw [setRow_self w g cur t fz hg]
    rfl
  | v :: rest, i, cur, w, hn, hg, hl, h1 => by
    have hi : o + i < cur.size := by simp at hl; omega
    have hadd : (⟨g, o, none⟩ : Addr).add i = ⟨g, o + i, none⟩ := by unfold Addr.add; split <;> simp_all
    have hcell : w.cell? ⟨g, o + i, none⟩ = some cur[o + i] := by simp [World.cell?, hg, hi]
    have hfro : w.frozen? ⟨g, o + i, none⟩ = false := by
      rcases hfz with h | h <;> subst h <;> simp [World.frozen?, hg]
      intro h2; omega
    have hst : (store ((⟨g, o, none⟩ : Addr).add i) v).run P w = .ok () (w.setRow g (cur.setIfInBounds (o + i) v)) := by
      rw [hadd, run_store P w _ v _ (h1 v (by simp)), hcell]
      simp [hfro, setCell_eq_setRow w g (o + i) cur t fz v hg]
    have ih := run_storeCells_up g o t fz n hfz rest (i + 1) (cur.setIfInBounds (o + i) v) (w.setRow g (cur.setIfInBounds (o + i) v)) (by simpa using hn) (setRow_heap w g cur _ t _ hg) (by simp at hl ⊢; omega) (fun x hx => h1 x (by simp [hx]))
    simp only [storeCells, Sem.run_bind, hst, Result.andThen_ok, ih, setRow_setRow]
    congr 3
    have e := list_seg_step cur.toList (o + i) v rest (by simp at hl ⊢; omega)
    simpa [Array.toList_setIfInBounds, Nat.add_assoc] using e
theorem aStore_ok (s : Sim R B e h nx w) {id off b : Nat} {vs : List AV} {VS : List Value} {h' : T AO} (hs : aStore R h id off vs = some h') (hb : e.blk id = some b) (hv : VRs e vs VS) :
    ∃ w', (storeCells ⟨b, off, none⟩ VS).run P w = .ok () w' ∧ Sim R B e h' nx w' ∧ Ste R e h nx w e h' nx w' := by
  unfold aStore at hs
  split at hs <;> (try (cases hs; done))
  · rename_i c t hR hg
    have hR := Nat.le_of_ble_eq_true hR
    obtain ⟨c', hc', hs⟩ := Option.bind_eq_some_iff.1 hs
    obtain ⟨b', O, hb', hO, C, fz, rfl, hC, hfz⟩ := s.obj id _ hg
    obtain rfl : b' = b := by rw [hb] at hb'; exact (Option.some.inj hb').symm
    obtain ⟨hr, hle, h1⟩ := putAt_ok hc' hC hv
    have hrun := run_storeCells_up (P := P) b' off t fz C.length hfz VS 0 ⟨C⟩ w rfl hO (by simpa using hle) h1
    refine ⟨_, hrun, s.swap hg hR hb hs (setRow_heap w b' _ _ t _ hO) (fun k hk => setRow_other w b' k _ hk) (setRow_size _ _ _) rfl rfl rfl ⟨_, fz, rfl, ?_, ?_⟩⟩
    · simpa using hr
    · have : (C.take (off + 0) ++ VS ++ C.drop (off + 0 + VS.length)).length = C.length := by simp; omega
      rw [this]; exact hfz
  · rename_i c t sz hR hg
    have hR := Nat.le_of_ble_eq_true hR
    obtain ⟨c', hc', hs⟩ := Option.bind_eq_some_iff.1 hs
    obtain ⟨b', O, hb', hO, C, rest, fz, rfl, hC, hsz, hfz⟩ := s.obj id _ hg
    obtain rfl : b' = b := by rw [hb] at hb'; exact (Option.some.inj hb').symm
    obtain ⟨hr, hle, h1⟩ := putAt_ok hc' hC hv
    have hrun := run_storeCells_up (P := P) b' off t fz (C ++ rest).length hfz VS 0 ⟨C ++ rest⟩ w rfl hO (by simp; omega) h1
    have hlen : (C.take off ++ VS ++ C.drop (off + VS.length) ++ rest).length = (C ++ rest).length := by simp; omega
    refine ⟨_, hrun, s.swap hg hR hb hs (setRow_heap w b' _ _ t _ hO) (fun k hk => setRow_other w b' k _ hk) (setRow_size _ _ _) rfl rfl rfl ⟨C.take off ++ VS ++ C.drop (off + VS.length), rest, fz, ?_, hr, ?_, by rw [hlen]; exact hfz⟩⟩
    · congr 2
      simp only [Nat.add_zero]
      rw [List.take_append_of_le_length (by omega), List.drop_append_of_le_length (by omega)]
      simp
    · rw [← hsz]
      simp only [List.length_append, List.length_take, List.length_drop]
      omega
end
end
end Go.Xe

