/- Package unify: other variables in the place of variables: plain facts (names each once, Fresh, Canon, numbers that are not taken). -/
import Derived.Test.YtfhjfhbfgndheaaDoorNc
namespace Go.Proofs.YtfhjfhbfgndheaaDoor
open Go
/-! ### Names, each once -/
def ddS (acc : List ByteArray) (x : ByteArray) : List ByteArray := bif inB x acc then acc else acc ++ [x]
def dd (acc xs : List ByteArray) : List ByteArray := xs.foldl ddS acc
def occ (ps : List Ty) : List ByteArray := (ps.filter isVarT).map Ty.name
theorem inB_false {s : ByteArray} {l : List ByteArray} : inB s l = false ↔ s ∉ l := by
  rw [← Bool.not_eq_true, inB_iff]
theorem dd_app (acc xs ys : List ByteArray) : dd acc (xs ++ ys) = dd (dd acc xs) ys := List.foldl_append
theorem mem_ddS {x y : ByteArray} {acc : List ByteArray} : x ∈ ddS acc y ↔ x ∈ acc ∨ x = y := by
  unfold ddS
  cases h : inB y acc with
  | true => rw [inB_iff] at h; exact ⟨.inl, fun h' => h'.elim id fun e => e ▸ h⟩
  | false => simp
theorem mem_dd {x : ByteArray} : ∀ {xs acc : List ByteArray}, x ∈ dd acc xs ↔ x ∈ acc ∨ x ∈ xs
  | [], acc => by simp [dd]
  | y :: xs, acc => by
    show x ∈ dd (ddS acc y) xs ↔ _
    rw [mem_dd, mem_ddS, List.mem_cons, or_assoc]
theorem dd_nodup : ∀ {xs acc : List ByteArray}, acc.Nodup → (dd acc xs).Nodup
  | [], acc, h => h
  | y :: xs, acc, h => by
    show (dd (ddS acc y) xs).Nodup
    refine dd_nodup ?_
    unfold ddS
    cases hb : inB y acc with
    | true => exact h
    | false =>
      rw [inB_false] at hb
      show (acc ++ [y]).Nodup
      rw [List.nodup_append]
      exact ⟨h, by simp, fun a ha b hb' e => by rw [List.mem_singleton] at hb'; exact hb (hb' ▸ e ▸ ha)⟩
theorem dd_map (g : ByteArray → ByteArray) : ∀ {xs acc : List ByteArray}, (∀ x ∈ acc ++ xs, ∀ y ∈ acc ++ xs, g x = g y → x = y) → dd (acc.map g) (xs.map g) = (dd acc xs).map g
  | [], acc, _ => rfl
  | y :: xs, acc, h => by
    show dd (ddS (acc.map g) (g y)) (xs.map g) = (dd (ddS acc y) xs).map g
    have e : ddS (acc.map g) (g y) = (ddS acc y).map g := by
      unfold ddS
      cases hb : inB y acc with
      | true =>
        rw [inB_iff] at hb
        rw [inB_iff.2 (List.mem_map_of_mem hb)]
        rfl
      | false =>
        rw [inB_false] at hb
        rw [inB_false.2 fun hm => ?_]
        · simp
        · obtain ⟨z, hz, e⟩ := List.mem_map.1 hm
          exact hb (h z (by simp [hz]) y (by simp) e ▸ hz)
    rw [e]
    refine dd_map g fun x hx z hz => h x ?_ z ?_
    · rcases List.mem_append.1 hx with hx | hx
      · rcases mem_ddS.1 hx with hx | hx <;> simp [hx]
      · simp [hx]
    · rcases List.mem_append.1 hz with hx | hx
      · rcases mem_ddS.1 hx with hx | hx <;> simp [hx]
      · simp [hx]
theorem dd_apart : ∀ {xs pre acc : List ByteArray}, (∀ x ∈ xs, x ∉ pre) → dd (pre ++ acc) xs = pre ++ dd acc xs
  | [], pre, acc, _ => rfl
  | y :: xs, pre, acc, h => by
    show dd (ddS (pre ++ acc) y) xs = pre ++ dd (ddS acc y) xs
    have e : ddS (pre ++ acc) y = pre ++ ddS acc y := by
      unfold ddS
      have hy := h y (by simp)
      cases hb : inB y acc with
      | true => rw [inB_iff] at hb; rw [inB_iff.2 (by simp [hb])]; rfl
      | false =>
        rw [inB_false] at hb
        rw [inB_false.2 (by simp [hb, hy])]
        simp
    rw [e]
    exact dd_apart fun x hx => h x (by simp [hx])
/-! ### Vars, as the names of all parts, each once -/
theorem occ_cons (t : Ty) (ps : List Ty) : occ (t :: ps) = (bif isVarT t then [t.name] else []) ++ occ ps := by
  unfold occ
  cases h : isVarT t <;> simp [h]
theorem occ_app (a b : List Ty) : occ (a ++ b) = occ a ++ occ b := by unfold occ; simp
theorem dd_varsF (s : List ByteArray) (t : Ty) (ps : List Ty) : dd s (occ (t :: ps)) = dd (varsF s t).2 (occ ps) := by
  rw [occ_cons]
  unfold varsF
  cases h : isVarT t with
  | false => rfl
  | true =>
    show dd (ddS s t.name) (occ ps) = dd (bif true && !inB t.name s then s ++ [t.name] else s) (occ ps)
    unfold ddS
    cases inB t.name s <;> rfl
theorem allPM_dd : ∀ (k : Nat) (t : Ty) (s : List ByteArray), deepLe k t → (allPM varsF k s t).2 = dd s (occ t.parts)
  | 0, t, s, h => h.elim
  | k + 1, t, s, h => by
    have key : ∀ (l : List Ty) (s : List ByteArray), (∀ t ∈ l, deepLe k t) → (scan (allPM varsF k) s l).2 = dd s (occ (Ty.partsL l)) := fun l => by
      induction l with
      | nil => exact fun s _ => rfl
      | cons t l ih =>
        intro s hl
        rw [scan]
        have h1 := allPM_dd k t s (hl t (by simp))
        have h2 := allP_vars k s t
        obtain ⟨⟨q, s'⟩, hq⟩ : ∃ q, allPM varsF k s t = q := ⟨_, rfl⟩
        rw [hq] at h1 h2 ⊢
        simp at h1 h2
        subst h2 h1
        show (scan (allPM varsF k) (dd s (occ t.parts)) l).2 = _
        rw [ih _ fun t ht => hl t (by simp [ht]), Ty.partsL, occ_app, dd_app]
    rw [allPM, Ty.parts_eq, dd_varsF]
    show (scan (allPM varsF k) (varsF s t).2 t.args).2 = _
    exact key _ _ h
theorem varsL_dd : ∀ (l : List Ty) (s : List ByteArray), (∀ t ∈ l, deepLe 64 t) → varsL l s = dd s (occ (Ty.partsL l))
  | [], s, _ => rfl
  | t :: l, s, h => by
    show varsL l (allPM varsF 64 s t).2 = _
    rw [allPM_dd 64 t s (h t (by simp)), varsL_dd l _ fun t ht => h t (by simp [ht]), Ty.partsL, occ_app, dd_app]
theorem varsT_dd {l : List Ty} (h : l.all mayT = true) : varsT l = dd [] (occ (Ty.partsL l)) := by
  unfold varsT
  rw [if_pos h]
  exact varsL_dd l [] fun t ht => may_deep (List.all_eq_true.1 h t ht)
theorem varsT_nodup (l : List Ty) : (varsT l).Nodup := by
  by_cases h : l.all mayT = true
  · rw [varsT_dd h]; exact dd_nodup (by simp)
  · unfold varsT; rw [if_neg h]; simp
/-! ### Other variables in the place of variables -/
mutual
def substV (f : ByteArray → Option ByteArray) : Ty → Ty
  | .mk n a => match (bif isVarT (.mk n a) then f n else none) with
    | some s => .mk s []
    | none => .mk n (substVL f a)
def substVL (f : ByteArray → Option ByteArray) : List Ty → List Ty
  | [] => []
  | t :: l => substV f t :: substVL f l
end
theorem substVL_map (f : ByteArray → Option ByteArray) : ∀ l : List Ty, substVL f l = l.map (substV f)
  | [] => rfl
  | t :: l => by rw [substVL, substVL_map f l]; rfl
theorem isVarT_args {n : ByteArray} {a : List Ty} (h : isVarT (.mk n a) = true) : a = [] := by
  simp only [isVarT, Ty.args, Bool.and_eq_true] at h
  exact List.eq_nil_of_length_eq_zero (of_decide_eq_true h.2)
theorem isVarT_len {n : ByteArray} {a b : List Ty} (h : a.length = b.length) : isVarT (.mk n a) = isVarT (.mk n b) := by
  unfold isVarT
  show (_ && _ && decide (a.length = 0)) = (_ && _ && decide (b.length = 0))
  rw [h]
  rfl
theorem substV_var {f : ByteArray → Option ByteArray} {n s : ByteArray} {a : List Ty} (h : isVarT (.mk n a) = true) (hf : f n = some s) : substV f (.mk n a) = .mk s [] := by
  rw [substV, h, cond_true, hf]
theorem substV_not {f : ByteArray → Option ByteArray} {n : ByteArray} {a : List Ty} (h : isVarT (.mk n a) = false ∨ f n = none) : substV f (.mk n a) = .mk n (a.map (substV f)) := by
  rw [substV, substVL_map]
  rcases h with h | h
  · rw [h]; rfl
  · rw [h]; cases isVarT (.mk n a) <;> rfl
theorem substV_args (f : ByteArray → Option ByteArray) (t : Ty) : (substV f t).args = t.args.map (substV f) := by
  cases t with
  | mk n a =>
    cases h : isVarT (.mk n a) with
    | false => rw [substV_not (.inl h)]; rfl
    | true =>
      cases hf : f n with
      | none => rw [substV_not (.inr hf)]; rfl
      | some s => rw [substV_var h hf, isVarT_args h]; rfl
theorem occ_subst (f : ByteArray → Option ByteArray) (g : ByteArray → ByteArray) (t : Ty) : (∀ n ∈ occ t.parts, f n = some (g n) ∧ isVarT (.mk (g n) []) = true) → occ (substV f t).parts = (occ t.parts).map g := by
  induction t using Ty.ind with
  | h n a ih =>
    intro hv
    cases h : isVarT (.mk n a) with
    | true =>
      have ha := isVarT_args h
      subst ha
      have hn := hv n (by rw [Ty.parts, occ_cons, h]; simp [Ty.name])
      rw [substV_var h hn.1, Ty.parts, Ty.parts, occ_cons, occ_cons, h, hn.2]
      rfl
    | false =>
      rw [substV_not (.inl h), Ty.parts, Ty.parts, occ_cons, occ_cons, h, (isVarT_len (by simp)).trans h]
      simp only [cond_false, List.nil_append]
      rw [Ty.parts, occ_cons, h] at hv
      simp only [cond_false, List.nil_append] at hv
      clear h
      induction a with
      | nil => rfl
      | cons t l ihl =>
        rw [Ty.partsL, occ_app] at hv
        rw [List.map_cons, Ty.partsL, Ty.partsL, occ_app, occ_app, List.map_append, ih t (by simp) fun n hn => hv n (by simp [hn]), ihl (fun t ht => ih t (by simp [ht])) fun n hn => hv n (by simp [hn])]
theorem occ_substL (f : ByteArray → Option ByteArray) (g : ByteArray → ByteArray) : ∀ l : List Ty, (∀ n ∈ occ (Ty.partsL l), f n = some (g n) ∧ isVarT (.mk (g n) []) = true) → occ (Ty.partsL (l.map (substV f))) = (occ (Ty.partsL l)).map g
  | [], _ => rfl
  | t :: l, hv => by
    rw [Ty.partsL, occ_app] at hv
    rw [List.map_cons, Ty.partsL, Ty.partsL, occ_app, occ_app, List.map_append, occ_subst f g t fun n hn => hv n (by simp [hn]), occ_substL f g l fun n hn => hv n (by simp [hn])]
theorem subst_subst (f g h : ByteArray → Option ByteArray) (t : Ty) : (∀ n ∈ occ t.parts, ∃ s r, f n = some s ∧ isVarT (.mk s []) = true ∧ g s = some r ∧ h n = some r) → substV g (substV f t) = substV h t := by
  induction t using Ty.ind with
  | h n a ih =>
    intro hv
    cases hvar : isVarT (.mk n a) with
    | true =>
      obtain ⟨s, r, h1, h2, h3, h4⟩ := hv n (by rw [Ty.parts, occ_cons, hvar]; simp [Ty.name])
      rw [substV_var hvar h1, substV_var hvar h4, substV_var h2 h3]
    | false =>
      rw [substV_not (.inl hvar), substV_not (f := h) (.inl hvar), substV_not (.inl ((isVarT_len (by simp)).trans hvar)), List.map_map]
      congr 1
      rw [Ty.parts, occ_cons, hvar] at hv
      simp only [cond_false, List.nil_append] at hv
      refine List.map_congr_left fun t ht => ih t ht fun n hn => hv n ?_
      obtain ⟨x, hx, e⟩ := List.mem_map.1 hn
      exact List.mem_map.2 ⟨x, List.mem_filter.2 ⟨Ty.mem_partsL.2 ⟨t, ht, (List.mem_filter.1 hx).1⟩, (List.mem_filter.1 hx).2⟩, e⟩
theorem subst_substL (f g h : ByteArray → Option ByteArray) (l : List Ty) (hv : ∀ n ∈ occ (Ty.partsL l), ∃ s r, f n = some s ∧ isVarT (.mk s []) = true ∧ g s = some r ∧ h n = some r) : (l.map (substV f)).map (substV g) = l.map (substV h) := by
  rw [List.map_map]
  refine List.map_congr_left fun t ht => subst_subst f g h t fun n hn => hv n ?_
  obtain ⟨x, hx, e⟩ := List.mem_map.1 hn
  exact List.mem_map.2 ⟨x, List.mem_filter.2 ⟨Ty.mem_partsL.2 ⟨t, ht, (List.mem_filter.1 hx).1⟩, (List.mem_filter.1 hx).2⟩, e⟩
theorem fitsM_subst (f : ByteArray → Option ByteArray) : ∀ (lv : Nat) (p : Int) (t : Ty), fitsM lv p (substV f t) = fitsM lv p t
  | 0, p, t => rfl
  | lv + 1, p, t => by
    have key : ∀ (l : List Ty) (p : Int), scan (fitsM lv) p (l.map (substV f)) = scan (fitsM lv) p l := fun l => by
      induction l with
      | nil => exact fun _ => rfl
      | cons t l ih =>
        intro p
        rw [List.map_cons, scan, scan, fitsM_subst f lv p t]
        split
        · exact ih _
        · rfl
    rw [fitsM, fitsM, substV_args, key]
def GoodF (f : ByteArray → Option ByteArray) : Prop := ∀ n s, f n = some s → isVarT (.mk s []) = true
theorem isType_subst {f : ByteArray → Option ByteArray} (hf : GoodF f) (t : Ty) : isTypeT (substV f t) = isTypeT t := by
  cases t with
  | mk n a =>
    cases h : isVarT (.mk n a) with
    | false =>
      rw [substV_not (.inl h)]
      unfold isTypeT
      rw [h, (isVarT_len (by simp)).trans h]
      rfl
    | true =>
      cases hn : f n with
      | none =>
        rw [substV_not (.inr hn)]
        unfold isTypeT
        rw [h, (isVarT_len (by simp)).trans h]
        rfl
      | some s =>
        rw [substV_var h hn]
        unfold isTypeT
        rw [h, hf n s hn]
        rfl
theorem allPM_subst {f : ByteArray → Option ByteArray} (hf : GoodF f) : ∀ (k : Nat) (t : Ty), allPM (pureF isTypeT) k () (substV f t) = allPM (pureF isTypeT) k () t
  | 0, t => rfl
  | k + 1, t => by
    have key : ∀ (l : List Ty), scan (allPM (pureF isTypeT) k) () (l.map (substV f)) = scan (allPM (pureF isTypeT) k) () l := fun l => by
      induction l with
      | nil => rfl
      | cons t l ih =>
        rw [List.map_cons, scan, scan, allPM_subst hf k t]
        split
        · exact ih
        · rfl
    rw [allPM, allPM, substV_args]
    unfold pureF
    rw [isType_subst hf]
    cases isTypeT t with
    | false => rfl
    | true => exact key _
theorem may_subst {f : ByteArray → Option ByteArray} (hf : GoodF f) (t : Ty) : mayT (substV f t) = mayT t := by
  unfold mayT
  rw [fitsM_subst, allPM_subst hf]
theorem may_substL {f : ByteArray → Option ByteArray} (hf : GoodF f) (l : List Ty) : (l.map (substV f)).all mayT = l.all mayT := by
  rw [List.all_map]
  congr 1
  funext t
  exact may_subst hf t
/-! ### A map as a list of what was put -/
def putF (f : ByteArray → Option ByteArray) (k a : ByteArray) : ByteArray → Option ByteArray := fun k' => if k' = k then some a else f k'
def tabF (ps : List (ByteArray × ByteArray)) : ByteArray → Option ByteArray := ps.foldl (fun f p => putF f p.1 p.2) fun _ => none
theorem tabF_snoc (ps : List (ByteArray × ByteArray)) (p : ByteArray × ByteArray) : tabF (ps ++ [p]) = putF (tabF ps) p.1 p.2 := by
  unfold tabF; rw [List.foldl_append]; rfl
theorem foldl_put {n r : ByteArray} : ∀ {ps : List (ByteArray × ByteArray)} {f : ByteArray → Option ByteArray}, (ps.foldl (fun f p => putF f p.1 p.2) f) n = some r → f n = some r ∨ (n, r) ∈ ps
  | [], f, h => .inl h
  | p :: ps, f, h => by
    rcases foldl_put (ps := ps) h with h | h
    · have h : (if n = p.1 then some p.2 else f n) = some r := h
      split at h
      · rename_i e
        cases h
        exact .inr (by rw [e]; exact List.mem_cons_self)
      · exact .inl h
    · exact .inr (List.mem_cons_of_mem _ h)
theorem tabF_mem {n r : ByteArray} {ps : List (ByteArray × ByteArray)} (h : tabF ps n = some r) : (n, r) ∈ ps := by
  rcases foldl_put h with h | h
  · cases h
  · exact h
theorem foldl_some {n : ByteArray} : ∀ {ps : List (ByteArray × ByteArray)} {f : ByteArray → Option ByteArray}, ((f n).isSome = true ∨ n ∈ ps.map Prod.fst) → ((ps.foldl (fun f p => putF f p.1 p.2) f) n).isSome = true
  | [], f, h => h.elim id fun h => by simp at h
  | p :: ps, f, h => by
    refine foldl_some (ps := ps) ?_
    by_cases e : n = p.1
    · left; show (if n = p.1 then some p.2 else f n).isSome = true; rw [if_pos e]; rfl
    · rcases h with h | h
      · left; show (if n = p.1 then some p.2 else f n).isSome = true; rw [if_neg e]; exact h
      · right
        rw [List.map_cons, List.mem_cons] at h
        exact h.resolve_left e
theorem tabF_some {n : ByteArray} {V N : List ByteArray} (hl : V.length ≤ N.length) (h : n ∈ V) : ∃ i, ∃ (h1 : i < V.length) (h2 : i < N.length), V[i] = n ∧ tabF (V.zip N) n = some N[i] := by
  have h1 : (tabF (V.zip N) n).isSome = true := foldl_some (.inr (by rw [List.map_fst_zip hl]; exact h))
  obtain ⟨r, hr⟩ := Option.isSome_iff_exists.1 h1
  obtain ⟨i, hi, e⟩ := List.mem_iff_getElem.1 (tabF_mem hr)
  rw [List.length_zip] at hi
  rw [List.getElem_zip] at e
  injection e with e1 e2
  exact ⟨i, by omega, by omega, e1, by rw [hr, e2]⟩
theorem nodup_inj {l : List ByteArray} (h : l.Nodup) {i j : Nat} (hi : i < l.length) (hj : j < l.length) (e : l[i] = l[j]) : i = j := by
  have hp := List.pairwise_iff_getElem.1 h
  rcases Nat.lt_trichotomy i j with h1 | h1 | h1
  · exact absurd e (hp i j hi hj h1)
  · exact h1
  · exact absurd e.symm (hp j i hj hi h1)
theorem tabF_at {V N : List ByteArray} (hl : V.length ≤ N.length) (hn : V.Nodup) {i : Nat} (hi : i < V.length) : tabF (V.zip N) V[i] = some (N[i]'(by omega)) := by
  obtain ⟨j, h1, h2, h3, h4⟩ := tabF_some hl (List.getElem_mem hi)
  have := nodup_inj hn h1 hi h3
  subst this
  exact h4
/-! ### Fresh names -/
section
variable {l : List Ty} {N : List ByteArray}
/-- The types with the names N in the place of their variables. -/
def freshL (l : List Ty) (N : List ByteArray) : List Ty := l.map (substV (tabF ((varsT l).zip N)))
theorem fresh_good (hv : ∀ s ∈ N, isVarT (.mk s []) = true) : GoodF (tabF ((varsT l).zip N)) := fun _ s h => hv s (List.of_mem_zip (tabF_mem h)).2
theorem fresh_all (hv : ∀ s ∈ N, isVarT (.mk s []) = true) : (freshL l N).all mayT = l.all mayT := may_substL (fresh_good hv) l
theorem mem_varsT (h : l.all mayT = true) {n : ByteArray} : n ∈ varsT l ↔ n ∈ occ (Ty.partsL l) := by rw [varsT_dd h, mem_dd]; simp
theorem fresh_occ (h : l.all mayT = true) (hv : ∀ s ∈ N, isVarT (.mk s []) = true) (hl : N.length = (varsT l).length) : occ (Ty.partsL (freshL l N)) = (occ (Ty.partsL l)).map fun n => (tabF ((varsT l).zip N) n).getD n :=
  occ_substL _ _ l fun n hn => by
    obtain ⟨i, h1, h2, h3, h4⟩ := tabF_some (Nat.le_of_eq hl.symm) ((mem_varsT h).2 hn)
    rw [h4]
    exact ⟨rfl, hv _ (List.getElem_mem h2)⟩
theorem map_getD (V N : List ByteArray) (hl : N.length = V.length) (hn : V.Nodup) : (V.map fun n => (tabF (V.zip N) n).getD n) = N := by
  refine List.ext_getElem (by simp [hl]) fun i h1 h2 => ?_
  rw [List.getElem_map]
  have h3 : i < V.length := by omega
  rw [tabF_at (Nat.le_of_eq hl.symm) hn h3]
  rfl
theorem fresh_vars (h : l.all mayT = true) (hv : ∀ s ∈ N, isVarT (.mk s []) = true) (hl : N.length = (varsT l).length) (hn : N.Nodup) : varsT (freshL l N) = N := by
  have hm := map_getD (varsT l) N hl (varsT_nodup l)
  rw [varsT_dd (by rw [fresh_all hv]; exact h), fresh_occ h hv hl]
  have hd := dd_map (fun n => (tabF ((varsT l).zip N) n).getD n) (xs := occ (Ty.partsL l)) (acc := []) fun x hx y hy e => by
    obtain ⟨i, h1, h2, h3, h4⟩ := tabF_some (Nat.le_of_eq hl.symm) ((mem_varsT h).2 (by simpa using hx))
    obtain ⟨j, k1, k2, k3, k4⟩ := tabF_some (Nat.le_of_eq hl.symm) ((mem_varsT h).2 (by simpa using hy))
    simp only [h4, k4, Option.getD_some] at e
    have := nodup_inj hn h2 k2 e
    subst this
    rw [← h3, ← k3]
  rw [List.map_nil] at hd
  rw [hd, ← varsT_dd h, hm]
/-- What Canon makes. -/
def canonL (l : List Ty) (C : List ByteArray) : List Ty := l.map (substV (tabF ((varsT l).zip C)))
theorem canon_fresh (h : l.all mayT = true) (hv : ∀ s ∈ N, isVarT (.mk s []) = true) (hl : N.length = (varsT l).length) (hn : N.Nodup) (C : List ByteArray) (hc : C.length = (varsT l).length) : canonL (freshL l N) C = canonL l C := by
  unfold canonL
  rw [fresh_vars h hv hl hn]
  unfold freshL
  refine subst_substL _ _ _ l fun n hm => ?_
  obtain ⟨i, h1, h2, h3, h4⟩ := tabF_some (N := N) (Nat.le_of_eq hl.symm) ((mem_varsT h).2 hm)
  refine ⟨N[i], C[i]'(by omega), h4, hv _ (List.getElem_mem h2), tabF_at (by omega) hn h2, ?_⟩
  have := tabF_at (N := C) (Nat.le_of_eq hc.symm) (varsT_nodup l) h1
  rw [h3] at this
  exact this
theorem partsL_app : ∀ a b : List Ty, Ty.partsL (a ++ b) = Ty.partsL a ++ Ty.partsL b
  | [], b => rfl
  | t :: a, b => by rw [List.cons_append, Ty.partsL, Ty.partsL, partsL_app a b, List.append_assoc]
theorem varsT_app {a b : List Ty} (ha : a.all mayT = true) (hb : b.all mayT = true) : varsT (a ++ b) = dd (varsT a) (occ (Ty.partsL b)) := by
  rw [varsT_dd (by rw [List.all_append, ha, hb]; rfl), partsL_app, occ_app, dd_app, ← varsT_dd ha]
theorem varsT_apart {a b : List Ty} (ha : a.all mayT = true) (hb : b.all mayT = true) (hd : ∀ s ∈ varsT b, s ∉ varsT a) : varsT (a ++ b) = varsT a ++ varsT b := by
  rw [varsT_app ha hb]
  have := dd_apart (xs := occ (Ty.partsL b)) (pre := varsT a) (acc := []) fun s hs => hd s ((mem_varsT hb).2 hs)
  rw [List.append_nil] at this
  rw [this, varsT_dd hb]
/-- Three times as many variables. -/
theorem fresh_three {N2 : List ByteArray} (h : l.all mayT = true) (hv : ∀ s ∈ N, isVarT (.mk s []) = true) (hv2 : ∀ s ∈ N2, isVarT (.mk s []) = true) (hl : N.length = (varsT l).length) (hl2 : N2.length = (varsT l).length) (hn : N.Nodup) (hn2 : N2.Nodup)
    (d1 : ∀ s ∈ N, s ∉ varsT l) (d2 : ∀ s ∈ N2, s ∉ varsT l) (d3 : ∀ s ∈ N2, s ∉ N) : (varsT (l ++ freshL l N ++ freshL l N2)).length = 3 * (varsT l).length := by
  have ha : (freshL l N).all mayT = true := by rw [fresh_all hv]; exact h
  have hb : (freshL l N2).all mayT = true := by rw [fresh_all hv2]; exact h
  have h1 : varsT (l ++ freshL l N) = varsT l ++ N := by
    rw [varsT_apart h ha (by rw [fresh_vars h hv hl hn]; exact d1), fresh_vars h hv hl hn]
  have h2 : varsT (l ++ freshL l N ++ freshL l N2) = varsT l ++ N ++ N2 := by
    rw [varsT_apart (by rw [List.all_append, h, ha]; rfl) hb, h1, fresh_vars h hv2 hl2 hn2]
    rw [fresh_vars h hv2 hl2 hn2, h1]
    intro s hs hm
    rcases List.mem_append.1 hm with hm | hm
    · exact d2 s hs hm
    · exact d3 s hs hm
  rw [h2]
  simp only [List.length_append]
  omega
end
/-! ### Numbers that are not taken -/
theorem exists_nx (tk : Int → Bool) : ∀ (m : Nat) (L : List Int) (last : Int), L.length ≤ m → (∀ k, last < k → tk k = true → k ∈ L) → ∃ nx, last < nx ∧ tk nx = false ∧ (∀ j, last < j → j < nx → tk j = true) ∧ nx + ((L.filter fun k => decide (nx < k)).length : Nat) ≤ last + 1 + (L.length : Nat) := by
  intro m
  induction m with
  | zero =>
    intro L last hL h
    refine ⟨last + 1, by omega, ?_, fun j h1 h2 => by omega, ?_⟩
    · cases ht : tk (last + 1) with
      | false => rfl
      | true =>
        have := h _ (by omega) ht
        cases L with
        | nil => cases this
        | cons => simp at hL
    · have := List.length_filter_le (fun k => decide (last + 1 < k)) L
      omega
  | succ m ih =>
    intro L last hL h
    cases ht : tk (last + 1) with
    | false =>
      refine ⟨last + 1, by omega, ht, fun j h1 h2 => by omega, ?_⟩
      have := List.length_filter_le (fun k => decide (last + 1 < k)) L
      omega
    | true =>
      have hm := h _ (by omega) ht
      have hlt : (L.filter fun k => decide (last + 1 < k)).length < L.length := by
        exact List.length_filter_lt_length_iff_exists.2 ⟨last + 1, hm, by simp⟩
      obtain ⟨nx, q1, q2, q3, q4⟩ := ih (L.filter fun k => decide (last + 1 < k)) (last + 1) (by omega) fun k hk hk2 => List.mem_filter.2 ⟨h k (by omega) hk2, by simpa using hk⟩
      refine ⟨nx, by omega, q2, fun j h1 h2 => ?_, ?_⟩
      · by_cases e : j = last + 1
        · rw [e]; exact ht
        · exact q3 j (by omega) h2
      · have e : (L.filter fun k => decide (nx < k)) = ((L.filter fun k => decide (last + 1 < k)).filter fun k => decide (nx < k)) := by
          rw [List.filter_filter]
          refine List.filter_congr fun k _ => ?_
          by_cases hk : nx < k
          · simp [hk]; omega
          · simp [hk]
        rw [e]
        omega
end Go.Proofs.YtfhjfhbfgndheaaDoor
