/- Values that a reader makes: where they lie, and a list of them that grows. -/
import Derived.Test.YtibpebhepoeikaaDoorVr
import Derived.Test.YtibpebhepoeikaaDoorKb
namespace Go.Proofs.YtibpebhepoeikaaDoor
open Go.RowKit Vp
open Go

/-- A value's tree lies in blocks that meet S. -/
def Lies (S : Nat → Prop) (w : World) (t : V) (u : Value) : Prop := ∀ w' : World, (∀ b, S b → b < w.heap.size → w'.heap[b]? = w.heap[b]?) → VRep w' w.heap.size t u
/-- A row's trees do. -/
def RLies (S : Nat → Prop) (w : World) (l : List V) (A : Option Addr) (c : Nat) : Prop := ∀ w' : World, (∀ b, S b → b < w.heap.size → w'.heap[b]? = w.heap[b]?) → RRep w' w.heap.size l A c
theorem Lies.rep {S : Nat → Prop} {w : World} {t : V} {u : Value} (h : Lies S w t u) : VRep w w.heap.size t u := h w fun _ _ _ => rfl
theorem RLies.rep {S : Nat → Prop} {w : World} {l : List V} {A : Option Addr} {c : Nat} (h : RLies S w l A c) : RRep w w.heap.size l A c := h w fun _ _ _ => rfl
theorem Lies.mono {S S' : Nat → Prop} {w : World} {t : V} {u : Value} (h : Lies S w t u) (hs : ∀ b, b < w.heap.size → S b → S' b) : Lies S' w t u := fun w' hw => h w' fun b hb hl => hw b (hs b hl hb) hl
theorem Lies.keep {S : Nat → Prop} {w w2 : World} {t : V} {u : Value} (h : Lies S w t u) (hk : ∀ b, S b → b < w.heap.size → w2.heap[b]? = w.heap[b]?) (hz : w.heap.size ≤ w2.heap.size) : Lies S w2 t u := fun w' hw =>
  (h w' fun b hb hl => (hw b hb (Nat.lt_of_lt_of_le hl hz)).trans (hk b hb hl)).more hz
theorem RLies.mono {S S' : Nat → Prop} {w : World} {l : List V} {A : Option Addr} {c : Nat} (h : RLies S w l A c) (hs : ∀ b, b < w.heap.size → S b → S' b) : RLies S' w l A c := fun w' hw => h w' fun b hb hl => hw b (hs b hl hb) hl
theorem RLies.keep {S : Nat → Prop} {w w2 : World} {l : List V} {A : Option Addr} {c : Nat} (h : RLies S w l A c) (hk : ∀ b, S b → b < w.heap.size → w2.heap[b]? = w.heap[b]?) (hz : w.heap.size ≤ w2.heap.size) : RLies S w2 l A c := fun w' hw =>
  (h w' fun b hb hl => (hw b hb (Nat.lt_of_lt_of_le hl hz)).trans (hk b hb hl)).more hz
theorem Lies.grown {S : Nat → Prop} {w w2 : World} {p : Nat} {t : V} {u : Value} (h : Lies S w t u) (hg : w.grownBy w2 (some p)) (hp : ¬ S p) : Lies S w2 t u :=
  h.keep (fun b hb hl => hg.block b hl fun e => hp (by injection e with e; rw [← e]; exact hb)) hg.size
theorem RLies.grown {S : Nat → Prop} {w w2 : World} {p : Nat} {l : List V} {A : Option Addr} {c : Nat} (h : RLies S w l A c) (hg : w.grownBy w2 (some p)) (hp : ¬ S p) : RLies S w2 l A c :=
  h.keep (fun b hb hl => hg.block b hl fun e => hp (by injection e with e; rw [← e]; exact hb)) hg.size
theorem Lies.alloc {S : Nat → Prop} {w : World} {t : V} {u : Value} (h : Lies S w t u) (o : Obj) : Lies S (w.alloc o) t u := h.keep (fun b _ hl => Below.heap_alloc w o b hl) (by simp)
theorem RLies.alloc {S : Nat → Prop} {w : World} {l : List V} {A : Option Addr} {c : Nat} (h : RLies S w l A c) (o : Obj) : RLies S (w.alloc o) l A c := h.keep (fun b _ hl => Below.heap_alloc w o b hl) (by simp)
theorem RLies.set {S : Nat → Prop} {w : World} {l : List V} {A : Option Addr} {c : Nat} (h : RLies S w l A c) (p : Addr) (hp : ¬ S p.block) (x : Value) : RLies S (w.setCell p x) l A c :=
  h.keep (fun b hb _ => Below.heap_setCell w p x b fun e => hp (e ▸ hb)) (by simp [World.setCell])
theorem RLies.nil {S : Nat → Prop} {w : World} {A : Option Addr} {c : Nat} (hm : c ≤ maxLen) : RLies S w [] A c := fun _ _ => RRep.nil hm
theorem Lies.of_row {S : Nat → Prop} {w : World} {k : Nat} {n : Int} {s : ByteArray} {l : List V} {A : Option Addr} {c : Nat} (hk : k < 256) (hn : -9223372036854775808 ≤ n ∧ n ≤ 9223372036854775807) (hs : s.size ≤ maxLen) (h : RLies S w l A c) :
    Lies S w (.mk k n s l) (.agg #[.int .u8 (k : Int), .int .i64 n, .string s, .slice A l.length c]) := fun w' hw => .of_row hk hn hs (h w' hw)

/-! ### A list that grows -/
def vcells (us : List Value) : List Value := us.flatMap fun u => u.cells.toList
theorem vcells_snoc (us : List Value) (u : Value) : vcells (us ++ [u]) = vcells us ++ u.cells.toList := by simp [vcells]
theorem vcells_at : ∀ (us : List Value), (∀ u ∈ us, ∃ a b c d, u.cells = #[a, b, c, d]) → ∀ (j : Nat) (hj : j < us.length) (i : Nat) (x : Value), us[j].cells[i]? = some x → (vcells us)[j * 4 + i]? = some x ∧ i < 4
  | [], _, j, hj, _, _, _ => by simp at hj
  | u :: us, h, j, hj, i, x, hx => by
    obtain ⟨a, b, c, d, hu⟩ := h u (by simp)
    have hv : vcells (u :: us) = [a, b, c, d] ++ vcells us := by simp [vcells, hu]
    cases j with
    | zero =>
      simp only [List.getElem_cons_zero, hu] at hx
      have hi : i < 4 := by
        rcases Nat.lt_or_ge i 4 with h | h
        · exact h
        · rw [Array.getElem?_eq_none (by simpa using h)] at hx; cases hx
      rw [hv, Nat.zero_mul, Nat.zero_add, List.getElem?_append_left (by simpa using hi)]
      exact ⟨by simpa using hx, hi⟩
    | succ j =>
      simp only [List.getElem_cons_succ] at hx
      obtain ⟨h1, h2⟩ := vcells_at us (fun u hu => h u (by simp [hu])) j (by simpa using hj) i x hx
      rw [hv, show (j + 1) * 4 + i = 4 + (j * 4 + i) by omega, List.getElem?_append_right (by simp)]
      simpa using ⟨h1, h2⟩
/-- Values that the call owns: a row of their cells, and their trees, in other blocks. -/
def OwnV (lo : Nat) (ts : List V) (w : World) (v : Value) : Prop :=
  ∃ us : List Value, us.length = ts.length ∧ (∀ u ∈ us, ∃ a b c d, u.cells = #[a, b, c, d]) ∧ w.ownsRow lo 42 4 v us.length (vcells us) ∧
    ∀ (j : Nat) (h1 : j < ts.length) (h2 : j < us.length), Lies (fun b => lo ≤ b ∧ v.ownBlock ≠ some b) w ts[j] us[j]
theorem OwnV.nil (lo : Nat) (w : World) : OwnV lo [] w (.slice none 0 0) := ⟨[], rfl, fun _ h => (by cases h), ⟨rfl, .inl ⟨rfl, rfl⟩⟩, fun j h => absurd h (Nat.not_lt_zero _)⟩
theorem OwnV.keep {lo p : Nat} {ts : List V} {w w2 : World} {v : Value} (h : OwnV lo ts w v) (hg : w.grownBy w2 (some p)) (hp : p < lo) : OwnV lo ts w2 v := by
  obtain ⟨us, h1, h2, h3, h4⟩ := h
  refine ⟨us, h1, h2, World.ownsRow.kept h3 (row := some p) hg (.inr fun e => ?_), fun j a b => (h4 j a b).grown hg fun e => by have := e.1; omega⟩
  have := (World.ownsRow.lt h3 p e)
  omega
theorem OwnV.slice {lo : Nat} {ts : List V} {w : World} {v : Value} (h : OwnV lo ts w v) : ∃ A c, v = .slice A ts.length c ∧ RLies (fun b => lo ≤ b) w ts A c := by
  obtain ⟨us, h1, h2, h3, h4⟩ := h
  rcases h3.2 with ⟨rfl, h0⟩ | ⟨g, cap, cur, rfl, hB, hg, hc, hm, hcs, htk⟩
  · have : ts = [] := List.eq_nil_of_length_eq_zero (by omega)
    subst this
    exact ⟨none, 0, rfl, RLies.nil (by decide)⟩
  · refine ⟨some ⟨g, 0, none⟩, cap, by rw [h1], fun w' hw => ⟨by omega, hm, fun j => us.getD j undef, fun j hj => ?_, fun j hj => ?_⟩⟩
    · have hgl : g < w.heap.size := by
        rcases Nat.lt_or_ge g w.heap.size with h' | h'
        · exact h'
        · rw [Array.getElem?_eq_none h'] at hg; cases hg
      have hj' : j < us.length := by omega
      refine ⟨g, 0, rfl, hgl, fun i x hx => ?_⟩
      have hgd : us.getD j undef = us[j] := by rw [List.getD_eq_getElem?_getD, List.getElem?_eq_getElem hj', Option.getD_some]
      simp only [hgd] at hx
      obtain ⟨e1, e2⟩ := vcells_at us h2 j hj' i x hx
      rw [cell_of_row w' g _ cur 42 (0, 0) ((hw g hB hgl).trans hg), Nat.zero_add]
      rw [← htk, List.getElem?_take] at e1
      split at e1
      · rw [← Array.getElem?_toList]; exact e1
      · cases e1
    · have hj' : j < us.length := by omega
      have := h4 j hj hj' w' fun b hb hl => hw b hb.1 hl
      have hgd : us.getD j undef = us[j] := by rw [List.getD_eq_getElem?_getD, List.getElem?_eq_getElem hj', Option.getD_some]
      simp only [hgd]
      exact this
theorem infoV : (Tryd.prog.info? 42).map (fun i => (i.zero, i.size, i.bytes)) = some (some (.agg #[.int .u8 0, .int .i64 0, .string ⟨#[]⟩, .slice none 0 0]), 4, 56) := by kernel_rfl
theorem addV (g j : Nat) : (⟨g, 0, none⟩ : Addr).add j = ⟨g, j, none⟩ := by unfold Addr.add; split <;> simp_all
/-- One value more. -/
theorem wpList_val (w : World) {ops : Array Oper} {rest : List Oper} {o : Oper} {a : Act} {Q : Exit → Act → World → Prop} (hgd : o.guard = none) (s x : Operand)
    (ho : o.op = .call { callee := .builtin .append, args := #[s, x], argTypes := #[28, 28] })
    (lo : Nat) (ts : List V) (t : V) (v : Value) (hs : a.eval s = v) (h : OwnV lo ts w v) (g c : Nat) (hx : a.eval x = .slice (some ⟨g, 0, none⟩) 1 c) (k : Nat) (n : Int) (z : ByteArray) (A : Option Addr) (l c' : Nat) (hb : Blk w g 42 #[.int .u8 (k : Int), .int .i64 n, .string z, .slice A l c'])
    (hu : Lies (fun b => lo ≤ b ∧ v.ownBlock ≠ some b) w t (.agg #[.int .u8 (k : Int), .int .i64 n, .string z, .slice A l c']))
    (hl : ts.length ≤ 100000000) (hB : lo ≤ w.heap.size)
    (hK : ∀ v' w', OwnV lo (ts ++ [t]) w' v' → Below lo w w' → w.grownBy w' v.ownBlock → wpList Tryd.prog ops Q rest (a.put o.dst v') w') : wpList Tryd.prog ops Q (o :: rest) a w := by
  obtain ⟨i0, hi, hz0, hz1, hz2⟩ := info_parts infoV
  obtain ⟨us, h1, h2, h3, h4⟩ := h
  refine wpList_plain hgd fun K' hK' => wp_append_own w s x 28 ho lo 42 i0 _ 4 56 Tryd.underlying28 hi hz0 hz1 hz2 rfl (by decide) v us.length (vcells us) hs h3 ⟨g, 0, none⟩ 1 c [.int .u8 (k : Int), .int .i64 n, .string z, .slice A l c'] hx rfl (fun j u hj => ?_) (fun u hu => ?_) (by unfold maxLen; omega) (by omega) hB ?_
  · have hc := hb.cell j
    rw [addV, hc]
    match j, hj with
    | 0, hj => simpa using hj
    | 1, hj => simpa using hj
    | 2, hj => simpa using hj
    | 3, hj => simpa using hj
  · simp at hu
    rcases hu with rfl | rfl | rfl | rfl <;> rfl
  · intro v' w' q2 q3 q4
    refine hK' _ _ (hK v' w' ⟨us ++ [.agg #[.int .u8 (k : Int), .int .i64 n, .string z, .slice A l c']], by rw [List.length_append, List.length_append, h1]; rfl, fun u hu => ?_, ?_, fun j hj hj2 => ?_⟩ ((Below.refl lo w).grown q3 hB fun k hk => (World.ownsRow.lt h3 k hk).1) q3)
    · rcases List.mem_append.1 hu with hu | hu
      · exact h2 u hu
      · rw [List.mem_singleton.1 hu]
        exact ⟨_, _, _, _, rfl⟩
    · rw [vcells_snoc, List.length_append]
      exact q2
    · have key : ∀ (t : V) (u : Value), Lies (fun b => lo ≤ b ∧ v.ownBlock ≠ some b) w t u → Lies (fun b => lo ≤ b ∧ v'.ownBlock ≠ some b) w' t u := fun t u ht => by
        have h5 := Lies.mono (S' := fun b => (lo ≤ b ∧ v.ownBlock ≠ some b) ∧ v'.ownBlock ≠ some b) ht fun b hb hs => ⟨hs, fun e => by
          rcases q4 with q4 | q4
          · exact hs.2 (q4 ▸ e)
          · rw [q4] at e; injection e with e; omega⟩
        exact (h5.keep (fun b hb hl => q3.block b hl fun e => hb.1.2 e.symm) q3.size).mono fun b _ hb => ⟨hb.1.1, hb.2⟩
      rw [List.length_append, List.length_singleton] at hj
      rcases Nat.lt_or_ge j ts.length with hlt | hge
      · rw [List.getElem_append_left hlt, List.getElem_append_left (by omega)]
        exact key _ _ (h4 j hlt (by omega))
      · obtain rfl : j = ts.length := by omega
        rw [List.getElem_append_right (by omega), List.getElem_append_right (by omega)]
        simp only [h1, Nat.sub_self, List.getElem_singleton]
        exact key _ _ hu
end Go.Proofs.YtibpebhepoeikaaDoor
