/- Append of a row of types to one that the call owns. -/
import Derived.Test.YtfhjfhbfgndheaaDoorNr
import Derived.Laws.OwnMore
namespace Go.Proofs.YtfhjfhbfgndheaaDoor
open Go.RowKit Go.Shelf
open Go

theorem run_append_none0 {P : Program} {w : World} (base : Nat) (t ty e : TypeId) (i : TypeInfo) (size : Nat) (ht : P.underlying t = some (.slice e)) (hi : P.info? e = some i)
    (v : Value) (n : Nat) (xs : List Value) (hown : w.ownsRow base e size v n xs) (c : Nat) :
    (Builtin.append_ #[t, t] ty #[v, .slice none 0 c]).run P w = .ok v w := by
  rcases hown.2 with ⟨rfl, rfl⟩ | ⟨g, cap, cur, rfl, _, _, hnc, _⟩
  · simp [Builtin.append_, run_underlying ht, sizeOf, typeInfo, hi, Builtin.lenOf, Builtin.firstCells]
  · simp [Builtin.append_, run_underlying ht, sizeOf, typeInfo, hi, Builtin.lenOf, Builtin.firstCells, hnc, storeCells]
theorem Ty.dL_app (a b : List Ty) : Ty.dL (a ++ b) = Ty.dL a ++ Ty.dL b := by rw [Ty.dL_map, Ty.dL_map, Ty.dL_map, List.map_append]
theorem LN.now {N : Nat → Prop} {w : World} {l : List Ty} {A : Option Addr} {c : Nat} (h : LN N w l A c) : LN (fun b => N b ∧ b < w.heap.size) w l A c := by
  induction h with
  | @mk l A c b off A' c' hc hm hA hr ih =>
    refine .mk b off A' c' hc hm (fun j hj => ?_) fun j hj => ih j hj
    obtain ⟨h1, h2, h3, h4, h5⟩ := hA j hj
    exact ⟨h1, ⟨h2, block_lt_of_cell h4⟩, h3, h4, h5⟩
theorem flat_len (css : List (List Value)) (h : ∀ cs ∈ css, cs.length = 2) : css.flatten.length = css.length * 2 := by
  induction css with
  | nil => rfl
  | cons cs css ih =>
    rw [List.flatten_cons, List.length_append, h cs (by simp), ih fun c hc => h c (by simp [hc]), List.length_cons]
    omega
/-- The cells of a row of types. -/
theorem LN.cells {N : Nat → Prop} {w : World} {l : List Ty} {A : Option Addr} {c : Nat} (h : LN N w l A c) : ∃ css : List (List Value), css.length = l.length ∧ (∀ cs ∈ css, cs.length = 2 ∧ ∀ u ∈ cs, u.oneCell' = true) ∧
    (∀ (j : Nat) (h1 : j < l.length) (h2 : j < css.length), Gd.Lies N w (Ty.d l[j]) css[j] ∧ ∃ b off, A = some ⟨b, off, none⟩ ∧ ∀ i x, (css[j])[i]? = some x → w.cell? ⟨b, off + j * 2 + i, none⟩ = some x) := by
  have hx : ∀ j, ∃ cs : List Value, j < l.length → (cs.length = 2 ∧ ∀ u ∈ cs, u.oneCell' = true) ∧ (∀ h1 : j < l.length, Gd.Lies N w (Ty.d l[j]) cs) ∧ ∃ b off, A = some ⟨b, off, none⟩ ∧ ∀ i x, cs[i]? = some x → w.cell? ⟨b, off + j * 2 + i, none⟩ = some x := fun j => by
    by_cases hj : j < l.length
    · obtain ⟨b, off, hA, hb, A', c', hn, hr, c0, c1⟩ := h.at_ hj
      refine ⟨[.string l[j].name, .slice A' l[j].args.length c'], fun _ => ⟨⟨rfl, fun u hu => ?_⟩, fun _ w' hw => ?_, b, off, hA, fun i x hx => ?_⟩⟩
      · rcases List.mem_cons.1 hu with rfl | hu
        · rfl
        · rw [List.mem_singleton] at hu; subst hu; rfl
      · have h1 := hr.now.keep (N' := fun b => b < w.heap.size) (w' := w') (fun b hb hl => hw b hb.1 hl) fun b hb => hb.2
        have : TyRep w' w.heap.size l[j] (.agg #[.string l[j].name, .slice A' l[j].args.length c']) := ⟨_, _, rfl, hn, h1.rep fun b hb _ => hb⟩
        exact this.rep
      · match i, hx with
        | 0, hx => injection hx with hx; rw [← hx]; exact c0
        | 1, hx => injection hx with hx; rw [← hx]; exact c1
    · exact ⟨[], fun h => absurd h hj⟩
  obtain ⟨f, hf⟩ := Classical.axiomOfChoice hx
  refine ⟨(List.range l.length).map f, by simp, fun cs hcs => ?_, fun j h1 h2 => ?_⟩
  · obtain ⟨j, hj, rfl⟩ := List.mem_map.1 hcs
    exact (hf j (List.mem_range.1 hj)).1
  · simp only [List.getElem_map, List.getElem_range]
    exact ⟨(hf j h1).2.1 h1, (hf j h1).2.2⟩
theorem flat_at (css : List (List Value)) (h : ∀ cs ∈ css, cs.length = 2) : ∀ i x, css.flatten[i]? = some x → ∃ (j : Nat) (h2 : j < css.length), (css[j])[i - j * 2]? = some x ∧ j * 2 ≤ i := by
  induction css with
  | nil => intro i x hx; simp at hx
  | cons cs css ih =>
    intro i x hx
    rw [List.flatten_cons] at hx
    have hl := h cs (by simp)
    by_cases hi : i < 2
    · rw [List.getElem?_append_left (by omega)] at hx
      exact ⟨0, by simp, by simpa using hx, by omega⟩
    · rw [List.getElem?_append_right (by omega), hl] at hx
      obtain ⟨j, h2, h3, h4⟩ := ih (fun c hc => h c (by simp [hc])) (i - 2) x hx
      refine ⟨j + 1, by simp; omega, ?_, by omega⟩
      rw [List.getElem_cons_succ, show i - (j + 1) * 2 = i - 2 - j * 2 by omega]
      exact h3
theorem wpList_appT {w : World} {ops : Array Oper} {rest : List Oper} {o : Oper} {a : Act} {Q : Exit → Act → World → Prop} (hgd : o.guard = none) (s x : Operand)
    (ho : o.op = .call { callee := .builtin .append, args := #[s, x], argTypes := #[22, 22] })
    (R S : Nat → Prop) (ds : List Ty) (v : Value) (hs : a.eval s = v) (h : Gd.Own R S 36 2 (Ty.dL ds) w v) (l : List Ty) (A : Option Addr) (c : Nat) (hx : a.eval x = .slice A l.length c) (hl : LN (fun b => S b ∧ v.ownBlock ≠ some b) w l A c)
    (hlen : ds.length + l.length ≤ 100000000)
    (hK : ∀ v' w', Gd.Own (fun b => R b ∨ w.heap.size ≤ b) S 36 2 (Ty.dL (ds ++ l)) w' v' → w.grownBy w' v.ownBlock → wpList Tryd.prog ops Q rest (a.put o.dst v') w') : wpList Tryd.prog ops Q (o :: rest) a w := by
  obtain ⟨i0, hi, hz0, hz1, hz2⟩ := info_parts info_ty
  obtain ⟨us, h1, h2, h3, h6, h4⟩ := h
  rw [Ty.dL_len] at h1 h3
  have key : ∀ (v' : Value) (w' : World), w.grownBy w' v.ownBlock → (v'.ownBlock = v.ownBlock ∨ v'.ownBlock = some w.heap.size) → ∀ (d : Gd.D) (u : List Value), Gd.Lies (fun b => S b ∧ v.ownBlock ≠ some b) w d u → Gd.Lies (fun b => S b ∧ v'.ownBlock ≠ some b) w' d u := fun v' w' q3 q4 d u ht => by
    have h5 := Gd.Lies.mono (S' := fun b => (S b ∧ v.ownBlock ≠ some b) ∧ v'.ownBlock ≠ some b) ht fun b hb hs => ⟨hs, fun e => by
      rcases q4 with q4 | q4
      · exact hs.2 (q4 ▸ e)
      · rw [q4] at e; injection e with e; omega⟩
    exact (h5.keep (fun b hb hl => q3.block b hl fun e => hb.1.2 e.symm) q3.size).mono fun b _ hb => ⟨hb.1.1, hb.2⟩
  by_cases hz : l.length = 0
  · have : l = [] := List.eq_nil_of_length_eq_zero hz
    subst this
    rw [List.append_nil] at hK
    cases A with
    | none =>
      refine wpList_plain hgd fun _ hK' => ?_
      have hrun := run_append_none0 (P := Tryd.prog) (w := w) 0 22 o.type 36 i0 2 Tryd.underlying22 hi v ds.length us.flatten h3 c
      unfold Oper.wp execOp
      simp only [List.length_nil] at hx
      simp only [ho, resolve, invoke, builtin, Sem.run_bind, Sem.run_pure, Result.andThen_ok, List.map_toArray, List.map_cons, List.map_nil, hs, hx, hrun]
      exact hK' _ _ (hK v w ⟨us, by rw [h1, Ty.dL_len], h2, by rw [Ty.dL_len]; exact h3, fun b hb => .inl (h6 b hb), h4⟩ (World.grownBy.refl _ _))
    | some ad =>
      refine wpList_plain hgd fun _ hK' => wp_append_own w s x 22 ho 0 36 i0 _ 2 40 Tryd.underlying22 hi hz0 hz1 hz2 rfl (by decide) v ds.length us.flatten hs h3 ad 0 c [] hx rfl (fun j u hj => by simp at hj) (fun u hu => by simp at hu) (by unfold maxLen; omega) (by omega) (Nat.zero_le _) ?_
      intro v' w' q2 q3 q4
      rw [List.append_nil, Nat.add_zero] at q2
      refine hK' _ _ (hK v' w' ⟨us, by rw [h1, Ty.dL_len], h2, by rw [Ty.dL_len]; exact q2, fun b hb => ?_, fun j hj hj2 => ?_⟩ q3)
      · rcases q4 with q4 | q4
        · exact .inl (h6 b (q4 ▸ hb))
        · rw [q4] at hb; injection hb with hb; exact .inr (Nat.le_of_eq hb)
      · exact key _ _ q3 q4 _ _ (h4 j hj hj2)
  · obtain ⟨css, k1, k2, k3⟩ := hl.cells
    have hA : ∃ b off, A = some ⟨b, off, none⟩ := by
      obtain ⟨_, b, off, e, _⟩ := k3 0 (by omega) (by omega)
      exact ⟨b, off, e⟩
    obtain ⟨b, off, rfl⟩ := hA
    refine wpList_plain hgd fun _ hK' => wp_append_own w s x 22 ho 0 36 i0 _ 2 40 Tryd.underlying22 hi hz0 hz1 hz2 rfl (by decide) v ds.length us.flatten hs h3 ⟨b, off, none⟩ l.length c css.flatten hx ?_ ?_ ?_ (by unfold maxLen; omega) (by omega) (Nat.zero_le _) ?_
    · rw [flat_len css fun cs hc => (k2 cs hc).1, k1]
    · intro j u hj
      obtain ⟨j2, q1, q2, q3⟩ := flat_at css (fun cs hc => (k2 cs hc).1) j u hj
      obtain ⟨_, b', off', e, hc⟩ := k3 j2 (by omega) q1
      simp only [Option.some.injEq, Addr.mk.injEq] at e
      obtain ⟨rfl, rfl, _⟩ := e
      have := hc _ _ q2
      rw [show off + j2 * 2 + (j - j2 * 2) = off + j by omega] at this
      have e2 : ((⟨b, off, none⟩ : Addr).add j) = ⟨b, off + j, none⟩ := by simp [Addr.add]
      rw [e2]
      exact this
    · intro u hu
      obtain ⟨cs, hc, hu⟩ := List.mem_flatten.1 hu
      exact (k2 cs hc).2 u hu
    · intro v' w' q2 q3 q4
      refine hK' _ _ (hK v' w' ⟨us ++ css, by rw [List.length_append, h1, k1, Ty.dL_len, List.length_append], fun u hu => ?_, ?_, fun b hb => ?_, fun j hj hj2 => ?_⟩ q3)
      · rcases List.mem_append.1 hu with hu | hu
        · exact h2 u hu
        · exact (k2 u hu).1
      · rw [List.flatten_append, Ty.dL_len, List.length_append]
        exact q2
      · rcases q4 with q4 | q4
        · exact .inl (h6 b (q4 ▸ hb))
        · rw [q4] at hb; injection hb with hb; exact .inr (Nat.le_of_eq hb)
      · have key := key _ _ q3 q4
        have hj3 : j < ds.length + l.length := by rw [Ty.dL_len, List.length_append] at hj; exact hj
        have hdd : (Ty.dL (ds ++ l))[j] = Ty.d ((ds ++ l)[j]'(by rw [List.length_append]; exact hj3)) := Ty.dL_at _ _ _
        rw [hdd]
        rcases Nat.lt_or_ge j ds.length with hlt | hge
        · rw [List.getElem_append_left hlt, List.getElem_append_left (by omega)]
          have := h4 j (by rw [Ty.dL_len]; exact hlt) (by omega)
          rw [Ty.dL_at ds j hlt] at this
          exact key _ _ this
        · rw [List.getElem_append_right hge, List.getElem_append_right (by omega)]
          have := (k3 (j - ds.length) (by omega) (by omega)).1
          simp only [h1]
          exact key _ _ this
end Go.Proofs.YtfhjfhbfgndheaaDoor
