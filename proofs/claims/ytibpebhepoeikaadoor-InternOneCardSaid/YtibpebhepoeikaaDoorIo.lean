/- InternOne: what its loops keep. -/
import Derived.Test.YtibpebhepoeikaaDoorIm
import Derived.Test.YtibpebhepoeikaaDoorIxd
namespace Go.Proofs.YtibpebhepoeikaaDoor
open Go.RowKit Go.Shelf Vp Tx
open Go
attribute [local go_sem] Oper.semAt_some

/-! ### Plain -/
theorem slim_valid {t : V} (h : chkV t = 0) : slim t := by
  obtain ⟨_, h2, h3⟩ := valid_parts h
  unfold slim
  cases hb : some_ (fun v => decide (100000000 < v.lst.length)) t with
  | false => rfl
  | true =>
    have hm := some_mono (p := fun v => decide (100000000 < v.lst.length)) (q := fun v => bad Pl.chk v || long Pl.chk v) (fun v hv => by
      obtain ⟨k, n, s, l⟩ := v
      have hv' : 100000000 < l.length := of_decide_eq_true hv
      have h16 : 16 < l.length := by omega
      have h8 : 8 < l.length := by omega
      have h1 : ¬ l = [] := by intro e; rw [e] at h8; simp at h8
      have h2 : l.isEmpty = false := by cases l <;> simp_all
      rw [Bool.or_eq_true]
      match k with
      | 0 => exact .inl rfl
      | 1 => exact .inl (by simp [bad, h2])
      | 2 => exact .inl (by simp [bad, h2])
      | 3 => exact .inl (by simp [bad, h2])
      | 4 => exact .inl (by simp [bad, h2])
      | 5 => exact .inr (by simp [long, h16])
      | 6 => exact .inr (by simp [long, h8])
      | k + 7 => exact .inl rfl) t hb
    rw [some_or, h2, h3] at hm
    cases hm
structure Inv (ts ms : List V) (ns : List Int) : Prop where
  len : ns.length = ms.length
  at_ : ∀ j (h1 : j < ms.length) (h2 : j < ns.length), ∃ m : Nat, ns[j] = (m : Int) ∧ ts[m]? = some ms[j]
  ok : ∀ t ∈ ms, chkV t = 0
theorem Inv.nil : Inv [] [] [] := ⟨rfl, fun j h => by simp at h, fun t h => by cases h⟩
theorem pos_at {ts : List V} (hap : Apart ts) {m : Nat} {t : V} (h : ts[m]? = some t) : pos ts (txtV t) = some m := by
  obtain ⟨hm, he⟩ := List.getElem?_eq_some_iff.1 h
  unfold pos
  rw [List.findIdx?_eq_some_iff_getElem]
  refine ⟨hm, by simp [he], fun j hj => ?_⟩
  have := List.pairwise_iff_getElem.1 hap j m (by omega) hm hj
  rw [he] at this
  simpa using this
theorem put_at {ts : List V} {t : V} (hok : ∀ x ∈ ts, chkV x = 0) (ht : chkV t = 0) : (putL ts t)[putN ts t]? = some t := by
  unfold putL putN
  cases hp : pos ts (txtV t) with
  | none => simp
  | some i =>
    obtain ⟨hi, he, _⟩ := List.findIdx?_eq_some_iff_getElem.1 hp
    have he' : txtV ts[i] = txtV t := by simpa using he
    have := txt_only (valid_fine (hok _ (List.getElem_mem hi))) (valid_fine ht) he'
    simp [hi, this]
theorem put_old {ts : List V} {t x : V} {m : Nat} (h : ts[m]? = some x) : (putL ts t)[m]? = some x := by
  unfold putL
  split
  · exact h
  · obtain ⟨hm, _⟩ := List.getElem?_eq_some_iff.1 h
    rw [List.getElem?_append_left hm]; exact h
theorem Inv.put {ts ms : List V} {ns : List Int} {t : V} (h : Inv ts ms ns) (hok : ∀ x ∈ ts, chkV x = 0) (ht : chkV t = 0) : Inv (putL ts t) (ms ++ [t]) (ns ++ [(putN ts t : Int)]) := by
  refine ⟨by simp [h.len], fun j h1 h2 => ?_, fun x hx => ?_⟩
  · rcases Nat.lt_or_ge j ms.length with hlt | hge
    · obtain ⟨m, e1, e2⟩ := h.at_ j hlt (by rw [h.len]; exact hlt)
      refine ⟨m, ?_, ?_⟩
      · rw [List.getElem_append_left (by rw [h.len]; exact hlt)]; exact e1
      · rw [List.getElem_append_left hlt]; exact put_old e2
    · have hj : j = ms.length := by simp at h1; omega
      subst hj
      refine ⟨putN ts t, ?_, ?_⟩
      · rw [List.getElem_append_right (by rw [h.len]; exact Nat.le_refl _)]; simp [h.len]
      · rw [List.getElem_append_right (Nat.le_refl _)]; simpa using put_at hok ht
  · rcases List.mem_append.1 hx with hx | hx
    · exact h.ok x hx
    · rw [List.mem_singleton.1 hx]; exact ht
theorem Inv.atN {ts ms : List V} {ns : List Int} (h : Inv ts ms ns) {j : Nat} (h1 : j < ms.length) (h2 : j < ns.length) : atN ts ns[j] = some ms[j] := by
  obtain ⟨m, e1, e2⟩ := h.at_ j h1 h2
  unfold Go.Proofs.YtibpebhepoeikaaDoor.atN
  rw [e1, if_pos (by omega)]
  simpa using e2
theorem Inv.find {ts ms : List V} {ns : List Int} (h : Inv ts ms ns) (hap : Apart ts) {j : Nat} (h1 : j < ms.length) (h2 : j < ns.length) : ∃ m : Nat, ns[j] = (m : Int) ∧ findV ts ms[j] = some m := by
  obtain ⟨m, e1, e2⟩ := h.at_ j h1 h2
  refine ⟨m, e1, ?_⟩
  unfold findV
  rw [if_pos (h.ok _ (List.getElem_mem h1))]
  exact pos_at hap e2
theorem Inv.one {ts ms : List V} {ns : List Int} (h : Inv ts ms ns) (hap : Apart ts) {i j : Nat} (h1 : i < ms.length) (h2 : i < ns.length) (g1 : j < ms.length) (g2 : j < ns.length) : ns[i] = ns[j] ↔ ms[i] = ms[j] := by
  obtain ⟨m, e1, e2⟩ := h.at_ i h1 h2
  obtain ⟨k, f1, f2⟩ := h.at_ j g1 g2
  constructor
  · intro e
    rw [e1, f1] at e
    have : m = k := by omega
    subst this
    rw [e2] at f2
    injection f2
  · intro e
    have p1 := pos_at hap e2
    have p2 := pos_at hap f2
    rw [e, p2] at p1
    injection p1 with p1
    rw [e1, f1, p1]
theorem Inv.row {ts ms : List V} {ns : List Int} (h : Inv ts ms ns) : rowL ts ns = some ms := rowL_some h.len.symm fun _ h1 h2 => h.atN h2 h1

/-! ### In memory -/
theorem lies_old {w w2 : World} {t : V} {u : Value} (hv : VRep w w.heap.size t u) (hb : Below w.heap.size w w2) : Lies (fun b => b < w.heap.size) w2 t u := fun w' hw => by
  have h := hv.off (w' := w') (p := w.heap.size) (fun o => by
    unfold World.cell?
    simp) fun b hb' _ => (hw b hb' (Nat.lt_of_lt_of_le hb' hb.size)).trans (hb.block b hb')
  exact h.more hb.size
/-- A list of ints that grows, in a block that meets R. -/
def IOwn (R : Nat → Prop) (ns : List Int) (w : World) (v : Value) : Prop := w.ownsRow 0 3 1 v ns.length (ns.map (Value.int .i64)) ∧ (∀ k, v.ownBlock = some k → R k) ∧ ∀ n ∈ ns, -9223372036854775808 ≤ n ∧ n ≤ 9223372036854775807
theorem IOwn.nil (R : Nat → Prop) (w : World) : IOwn R [] w (.slice none 0 0) := ⟨⟨rfl, .inl ⟨rfl, rfl⟩⟩, fun k h => (by cases h), fun n h => (by cases h)⟩
theorem IOwn.keep {R : Nat → Prop} {ns : List Int} {w w' : World} {v : Value} (h : IOwn R ns w v) (hR : ∀ b, R b → b < w.heap.size → w'.heap[b]? = w.heap[b]?) : IOwn R ns w' v :=
  ⟨ownsRow_same h.1 fun k hk => hR k (h.2.1 k hk) (h.1.lt k hk).2, h.2⟩
theorem IOwn.mono {R R' : Nat → Prop} {ns : List Int} {w : World} {v : Value} (h : IOwn R ns w v) (hR : ∀ b, b < w.heap.size → R b → R' b) : IOwn R' ns w v := ⟨h.1, fun k hk => hR k (h.1.lt k hk).2 (h.2.1 k hk), h.2.2⟩
theorem IOwn.rep {R : Nat → Prop} {ns : List Int} {w : World} {v : Value} (h : IOwn R ns w v) : ∃ A c, v = .slice A ns.length c ∧ IRep w w.heap.size ns A c := by
  obtain ⟨⟨h1, h2⟩, h3, h4⟩ := h
  rcases h2 with ⟨rfl, h0⟩ | ⟨g, cap, cur, rfl, hB, hg, hc, hm, hcs, htk⟩
  · have : ns = [] := List.eq_nil_of_length_eq_zero h0
    subst this
    exact ⟨none, 0, rfl, Nat.le_refl _, by decide, fun n h => (by cases h), fun j hj => absurd hj (Nat.not_lt_zero _)⟩
  · refine ⟨some ⟨g, 0, none⟩, cap, rfl, hc, hm, h4, fun j hj => ⟨g, 0, rfl, (Array.getElem?_eq_some_iff.1 hg).1, ?_⟩⟩
    rw [cell_of_row w g _ cur 3 (0, 0) hg, Nat.zero_add, ← Array.getElem?_toList]
    have : (cur.toList.take (ns.length * 1))[j]? = some (.int .i64 ns[j]) := by rw [htk]; simp [hj]
    rw [List.getElem?_take] at this
    split at this
    · exact this
    · cases this
theorem append_I (w : World) {o : Oper} {a : Act} {K : Act → World → Prop} {Q : Exit → Act → World → Prop} (s x : Operand)
    (ho : o.op = .call { callee := .builtin .append, args := #[s, x], argTypes := #[31, 31] })
    (R : Nat → Prop) (ns : List Int) (n : Int) (hn : -9223372036854775808 ≤ n ∧ n ≤ 9223372036854775807) (v : Value) (hs : a.eval s = v) (h : IOwn R ns w v) (g c : Nat) (hx : a.eval x = .slice (some ⟨g, 0, none⟩) 1 c) (hc : w.cell? ⟨g, 0, none⟩ = some (.int .i64 n))
    (hl : ns.length ≤ 100000000)
    (hK : ∀ v' w', IOwn (fun b => R b ∨ w.heap.size ≤ b) (ns ++ [n]) w' v' → w.grownBy w' v.ownBlock → K (a.put o.dst v') w') : o.wp Tryd.prog a w K Q := by
  obtain ⟨i0, hi, hz0, hz1, hz2⟩ := info_parts info_i64
  refine wp_append_own w s x 31 ho 0 3 i0 _ 1 8 Tryd.underlying31 hi hz0 hz1 hz2 rfl (by decide) v ns.length _ hs h.1 ⟨g, 0, none⟩ 1 c [.int .i64 n] hx rfl (fun j u hj => ?_) (fun u hu => by simp at hu; subst hu; rfl) (by unfold maxLen; omega) (by omega) (Nat.zero_le _) ?_
  · match j, hj with
    | 0, hj => simp at hj; subst hj; simpa [Addr.add] using hc
  · intro v' w' q2 q3 q4
    refine hK v' w' ⟨by simpa using q2, fun b hb => ?_, fun m hm => ?_⟩ q3
    · rcases q4 with q4 | q4
      · exact .inl (h.2.1 b (q4 ▸ hb))
      · rw [q4] at hb; injection hb with hb; exact .inr (Nat.le_of_eq hb)
    · rcases List.mem_append.1 hm with hm | hm
      · exact h.2.2 m hm
      · rw [List.mem_singleton.1 hm]; exact hn
/-- Rows of two types lie in two blocks. -/
theorem own_apart {w : World} {e e' : TypeId} {s s' n n' : Nat} {v v' : Value} {xs ys : List Value} (h : w.ownsRow 0 e s v n xs) (h' : w.ownsRow 0 e' s' v' n' ys) (hne : e ≠ e') : ∀ k, v.ownBlock = some k → v'.ownBlock ≠ some k := fun k hk hk' => by
  rcases h.2 with ⟨rfl, _⟩ | ⟨g, cap, cur, rfl, _, hg, _⟩
  · cases hk
  · rcases h'.2 with ⟨rfl, _⟩ | ⟨g', cap', cur', rfl, _, hg', _⟩
    · cases hk'
    · injection hk with hk
      injection hk' with hk'
      subst hk
      have hk2 : g' = g := hk'
      subst hk2
      have := hg.symm.trans hg'
      injection this with this
      injection this with _ this
      exact hne this
/-- What the second loop has done with a row's first values: a table, their numbers, those that may be. -/
structure Sofar (w : World) (g : Nat) (F : Nat → Prop) (ts ms : List V) (ns : List Int) (av mv : Value) (wr : World) : Prop where
  tab : TabR F ts wr g
  fr : ∀ b, F b → w.heap.size ≤ b ∧ b < wr.heap.size
  all : IOwn (fun b => w.heap.size ≤ b ∧ ¬ F b) ns wr av
  may : OwnG (fun b => w.heap.size ≤ b ∧ ¬ F b) (fun b => b < w.heap.size) ms wr mv
  bel : Below w.heap.size w wr
/-- A call that keeps what was there. -/
theorem Sofar.below {w : World} {g : Nat} {F : Nat → Prop} {ts ms : List V} {ns : List Int} {av mv : Value} {wr w' : World} (h : Sofar w g F ts ms ns av mv wr) (hb : Below wr.heap.size wr w') : Sofar w g F ts ms ns av mv w' :=
  ⟨h.tab.below hb, fun b hf => ⟨(h.fr b hf).1, Nat.lt_of_lt_of_le (h.fr b hf).2 hb.size⟩, h.all.keep fun b _ hl => hb.block b hl, h.may.keep (fun b _ hl => hb.block b hl) (fun b _ hl => hb.block b hl) hb.size, h.bel.trans (hb.mono h.bel.size)⟩
/-- A call that may write to the table. -/
theorem Sofar.put {w : World} {g : Nat} {F : Nat → Prop} {ts ts' ms : List V} {ns : List Int} {av mv : Value} {wr w' : World} (h : Sofar w g F ts ms ns av mv wr) (hk : Keep F wr w') (ht : TabR (fun b => F b ∨ wr.heap.size ≤ b) ts' w' g) :
    Sofar w g (fun b => (F b ∨ wr.heap.size ≤ b) ∧ b < w'.heap.size) ts' ms ns av mv w' := by
  have hn : ∀ b, (w.heap.size ≤ b ∧ ¬ F b) → b < wr.heap.size → (w.heap.size ≤ b ∧ ¬ ((F b ∨ wr.heap.size ≤ b) ∧ b < w'.heap.size)) := fun b hb hl => ⟨hb.1, fun e => by
    rcases e.1 with e | e
    · exact hb.2 e
    · omega⟩
  refine ⟨ht.trim, fun b hb => ⟨?_, hb.2⟩, ?_, ?_, ?_⟩
  · rcases hb.1 with hb | hb
    · exact (h.fr b hb).1
    · exact Nat.le_trans h.bel.size hb
  · exact ((h.all.mono (R' := fun b => (w.heap.size ≤ b ∧ ¬ F b) ∧ b < wr.heap.size) fun b hl hb => ⟨hb, hl⟩).keep fun b hb hl => hk.block b hl hb.1.2).mono fun b _ hb => hn b hb.1 hb.2
  · refine OwnG.mono ((h.may.mono (R' := fun b => (w.heap.size ≤ b ∧ ¬ F b) ∧ b < wr.heap.size) (S' := fun b => b < w.heap.size) (fun b hl hb => ⟨hb, hl⟩) fun _ _ h => h).keep (fun b hb hl => hk.block b hl hb.1.2) (fun b hb hl => hk.block b hl fun e => ?_) hk.size) (fun b _ hb => hn b hb.1 hb.2) fun _ _ h => h
    have := (h.fr b e).1
    omega
  · exact h.bel.trans (hk.below (fun b hb e => by have := (h.fr b e).1; omega) h.bel.size)
theorem Sofar.same {w : World} {g : Nat} {F : Nat → Prop} {ts ms : List V} {ns : List Int} {av mv : Value} {wr w' : World} (h : Sofar w g F ts ms ns av mv wr) (hk : Keep F wr w') (ht : TabR F ts w' g) : ∃ F', Sofar w g F' ts ms ns av mv w' :=
  ⟨_, h.put hk (ht.mono fun _ _ h => .inl h)⟩
theorem Sofar.int {w : World} {g : Nat} {F : Nat → Prop} {ts ms : List V} {ns ns' : List Int} {av av' mv : Value} {wr w' : World} (h : Sofar w g F ts ms ns av mv wr) (h1 : IOwn (fun b => (w.heap.size ≤ b ∧ ¬ F b) ∨ wr.heap.size ≤ b) ns' w' av') (hg : wr.grownBy w' av.ownBlock) : Sofar w g F ts ms ns' av' mv w' := by
  have hav : ∀ k, av.ownBlock = some k → w.heap.size ≤ k ∧ ¬ F k := h.all.2.1
  refine ⟨h.tab.keep (fun b hb hl => hg.block b hl fun e => (hav b e.symm).2 hb) hg.size, fun b hb => ⟨(h.fr b hb).1, Nat.lt_of_lt_of_le (h.fr b hb).2 hg.size⟩, h1.mono fun b _ hb => ?_, ?_, h.bel.grown hg h.bel.size fun k hk => (hav k hk).1⟩
  · rcases hb with hb | hb
    · exact hb
    · exact ⟨Nat.le_trans h.bel.size hb, fun e => by have := (h.fr b e).2; omega⟩
  · obtain ⟨us, m1, m2, m3, m4, m5⟩ := h.may
    exact ⟨us, m1, m2, ownsRow_same m3 fun k hk => hg.block k (m3.lt k hk).2 fun e => own_apart h.all.1 m3 (by decide) k e.symm hk, m4, fun j a b => (m5 j a b).keep (fun x hx hl => hg.block x hl fun e => by have := (hav x e.symm).1; have := hx.1; omega) hg.size⟩
theorem Sofar.val {w : World} {g : Nat} {F : Nat → Prop} {ts ms ms' : List V} {ns : List Int} {av mv mv' : Value} {wr w' : World} (h : Sofar w g F ts ms ns av mv wr) (h1 : OwnG (fun b => (w.heap.size ≤ b ∧ ¬ F b) ∨ wr.heap.size ≤ b) (fun b => b < w.heap.size) ms' w' mv') (hg : wr.grownBy w' mv.ownBlock) : Sofar w g F ts ms' ns av mv' w' := by
  obtain ⟨us, m1, m2, m3, m4, m5⟩ := h.may
  refine ⟨h.tab.keep (fun b hb hl => hg.block b hl fun e => (m4 b e.symm).2 hb) hg.size, fun b hb => ⟨(h.fr b hb).1, Nat.lt_of_lt_of_le (h.fr b hb).2 hg.size⟩, ?_, h1.mono (fun b _ hb => ?_) (fun _ _ h => h), h.bel.grown hg h.bel.size fun k hk => (m4 k hk).1⟩
  · exact ⟨ownsRow_same h.all.1 fun k hk => hg.block k (h.all.1.lt k hk).2 fun e => own_apart h.all.1 m3 (by decide) k hk e.symm, h.all.2⟩
  · rcases hb with hb | hb
    · exact hb
    · exact ⟨Nat.le_trans h.bel.size hb, fun e => by have := (h.fr b e).2; omega⟩
theorem Inv.more {ts ms : List V} {ns : List Int} {t : V} (h : Inv ts ms ns) : Inv (putL ts t) ms ns := ⟨h.len, fun j h1 h2 => by
  obtain ⟨m, e1, e2⟩ := h.at_ j h1 h2
  exact ⟨m, e1, put_old e2⟩, h.ok⟩
end Go.Proofs.YtibpebhepoeikaaDoor
