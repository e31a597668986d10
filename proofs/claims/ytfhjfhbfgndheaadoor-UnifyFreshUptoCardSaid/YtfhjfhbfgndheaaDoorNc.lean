/- Package unify: Vars. -/
import Derived.Test.YtfhjfhbfgndheaaDoorNb
namespace Go.Proofs.YtfhjfhbfgndheaaDoor
open Go.RowKit Go.Shelf
open Go
attribute [local go_sem] Oper.semAt_some

/-! ### The parts of a type -/
mutual
def Ty.parts : Ty → List Ty
  | .mk n a => .mk n a :: Ty.partsL a
def Ty.partsL : List Ty → List Ty
  | [] => []
  | t :: l => Ty.parts t ++ Ty.partsL l
end
theorem Ty.mem_partsL : ∀ {l : List Ty} {x : Ty}, x ∈ Ty.partsL l ↔ ∃ t ∈ l, x ∈ t.parts
  | [], x => by simp [Ty.partsL]
  | t :: l, x => by rw [Ty.partsL, List.mem_append, Ty.mem_partsL (l := l)]; simp
theorem Ty.parts_eq (t : Ty) : t.parts = t :: Ty.partsL t.args := by cases t; rw [Ty.parts]; rfl
theorem Ty.self_parts (t : Ty) : t ∈ t.parts := by rw [Ty.parts_eq]; simp
theorem Ty.parts_trans {x : Ty} (t : Ty) : ∀ y ∈ t.parts, x ∈ y.parts → x ∈ t.parts := by
  induction t using Ty.ind with
  | h n a ih =>
    intro y hy hx
    rw [Ty.parts_eq] at hy
    rcases List.mem_cons.1 hy with e | e
    · rw [← e]; exact hx
    · obtain ⟨z, hz, hyz⟩ := Ty.mem_partsL.1 e
      rw [Ty.parts_eq]
      exact List.mem_cons_of_mem _ (Ty.mem_partsL.2 ⟨z, hz, ih z hz y hyz hx⟩)
theorem Ty.arg_parts {t a : Ty} (h : a ∈ t.args) : a ∈ t.parts := by
  rw [Ty.parts_eq]
  exact List.mem_cons_of_mem _ (Ty.mem_partsL.2 ⟨a, h, a.self_parts⟩)
theorem scan_fits {lv : Nat} (ih : ∀ (p : Int) (t : Ty), 0 ≤ p → (fitsM lv p t).1 = true → (fitsM lv p t).2 = p - t.parts.length ∧ 0 ≤ (fitsM lv p t).2) : ∀ (l : List Ty) (p : Int), 0 ≤ p → (scan (fitsM lv) p l).1 = true → (scan (fitsM lv) p l).2 = p - (Ty.partsL l).length ∧ 0 ≤ (scan (fitsM lv) p l).2
  | [], p, hp, _ => by simp [scan, Ty.partsL, hp]
  | t :: l, p, hp, h => by
    rw [scan] at h ⊢
    have h1 := ih p t hp
    obtain ⟨⟨q, s⟩, hq⟩ : ∃ q, fitsM lv p t = q := ⟨_, rfl⟩
    rw [hq] at h h1 ⊢
    cases q with
    | false => simp at h
    | true =>
      simp at h h1 ⊢
      have := scan_fits ih l s h1.2 h
      rw [Ty.partsL, List.length_append]
      omega
theorem fitsM_parts : ∀ (lv : Nat) (p : Int) (t : Ty), 0 ≤ p → (fitsM lv p t).1 = true → (fitsM lv p t).2 = p - t.parts.length ∧ 0 ≤ (fitsM lv p t).2
  | 0, p, t, _, h => by simp [fitsM] at h
  | lv + 1, p, t, hp, h => by
    rw [fitsM] at h ⊢
    split at h
    · rename_i h0
      rw [if_pos h0]
      have := scan_fits (fun p t => fitsM_parts lv p t) t.args (p - 1) h0 h
      rw [Ty.parts_eq, List.length_cons]
      omega
    · cases h
theorem may_parts {t : Ty} (h : mayT t = true) : t.parts.length ≤ 2048 := by
  simp only [mayT, Bool.and_eq_true] at h
  have := fitsM_parts 64 2048 t (by omega) h.1
  omega
theorem may_deep {t : Ty} (h : mayT t = true) : deepLe 64 t := by
  simp only [mayT, Bool.and_eq_true] at h
  exact fitsM_deep _ _ _ h.1

/-! ### The names of variables -/
/-- s is one of l. -/
def inB (s : ByteArray) (l : List ByteArray) : Bool := l.any fun x => decide (x = s)
theorem inB_iff {s : ByteArray} {l : List ByteArray} : inB s l = true ↔ s ∈ l := by
  simp [inB]
def varsF (names : List ByteArray) (t : Ty) : Bool × List ByteArray := (true, bif isVarT t && !inB t.name names then names ++ [t.name] else names)
def seenF (names : List ByteArray) (s : ByteArray) : Option Bool := if inB s names then some true else none
/-- The names so far, and a map of them. -/
def VarsI (nb sb mb : Nat) (pool : List Ty) (X : Nat → Prop) (names : List ByteArray) (W : World) : Prop :=
  (∀ b, X b → b < W.heap.size) ∧ names.Nodup ∧ (∀ s ∈ names, s.size ≤ maxLen ∧ ∃ t ∈ pool, t.name = s) ∧ ∃ v, Blk W nb 32 #[v] ∧ Blk W sb 53 #[.map (some mb)] ∧
    Gm.MapR Tryd.prog 9 (plainElem (H := Unit) Tryd.prog 4) Gm.kS Gm.eB W mb names.length (seenF names) ∧
    Gd.Own (fun b => ¬ X b) (fun _ => False) 9 1 (names.map Gd.D.str) W v ∧ ¬ X nb ∧ ¬ X sb ∧ ¬ X mb
theorem nodup_sub {α : Type} [DecidableEq α] {names pool : List α} (h : names.Nodup) (hs : ∀ s ∈ names, s ∈ pool) : names.length ≤ pool.length := by
  induction names generalizing pool with
  | nil => simp
  | cons s l ih =>
    have h2 := List.nodup_cons.1 h
    have := ih (pool := pool.erase s) h2.2 fun x hx => by
      have hne : x ≠ s := fun e => h2.1 (e ▸ hx)
      exact (List.mem_erase_of_ne hne).2 (hs x (by simp [hx]))
    have hl := List.length_erase_of_mem (hs s (by simp))
    have := List.length_pos_of_mem (hs s (by simp))
    simp
    omega
theorem VarsI.len {nb sb mb : Nat} {pool : List Ty} {X : Nat → Prop} {names : List ByteArray} {W : World} (h : VarsI nb sb mb pool X names W) : names.length ≤ pool.length := by
  have := nodup_sub (pool := pool.map Ty.name) h.2.1 fun s hs => by
    obtain ⟨t, ht, e⟩ := (h.2.2.1 s hs).2
    exact List.mem_map.2 ⟨t, ht, e⟩
  simpa using this
theorem VarsI.keep {nb sb mb : Nat} {pool : List Ty} {X X' : Nat → Prop} {names : List ByteArray} {W W' : World} (h : VarsI nb sb mb pool X names W) (hb : ∀ b, b < W.heap.size → ¬ X b → W'.heap[b]? = W.heap[b]?) (hz : W.heap.size ≤ W'.heap.size) (hX : ∀ b, b < W.heap.size → ¬ X b → ¬ X' b) (hX2 : ∀ b, X' b → b < W'.heap.size) : VarsI nb sb mb pool X' names W' := by
  obtain ⟨_, h1, h2, v, b1, b2, m, o, n1, n2, n3⟩ := h
  have ho := o.mono (R' := fun b => ¬ X' b) (S' := fun _ => False) (fun b hb h => hX b hb h) fun _ _ h => h
  exact ⟨hX2, h1, h2, v, (hb _ b1.lt n1).trans b1, (hb _ b2.lt n2).trans b2, m.keep (hb _ m.lt n3), ho.keep (fun b hk => by
    obtain ⟨us, q1, q2, q3, q4, q5⟩ := o
    exact hb b (q3.lt b hk).2 (q4 b hk)) (fun _ h _ => h.elim) hz, hX _ b1.lt n1, hX _ b2.lt n2, hX _ m.lt n3⟩
theorem VarsI.frame (nb sb mb : Nat) (pool : List Ty) : Frame (VarsI nb sb mb pool) :=
  ⟨fun X X' s W h hX => h.keep (fun _ _ _ => rfl) (Nat.le_refl _) (fun b _ hn hx => hn (hX b hx)) fun b hx => h.1 b (hX b hx),
   fun X s W W' h hb => h.keep (fun b hl _ => hb.block b hl) hb.size (fun b hl hn hx => hx.elim hn fun h => by omega) fun b hx => by
     rcases hx with hx | hx
     · have := h.1 b hx; have := hb.size; omega
     · exact hx.2⟩
theorem map_ne_blk {κ α : Type} {P : Program} {kt : TypeId} {R : Value → Option (DataW Unit × List MemPlace)} {ke : κ → Lit} {en : α → DataW Unit} {w : World} {b n g : Nat} {f : κ → Option α} {t : TypeId} {cs : Array Value} (h : Gm.MapR P kt R ke en w b n f) (hb : Blk w g t cs) : g ≠ b := fun e => by
  obtain ⟨D, ⟨es, clock, h1, _⟩, _⟩ := h
  unfold Blk at hb
  rw [e, h1] at hb
  cases hb
theorem own_ne_map {κ α : Type} {P : Program} {kt : TypeId} {R : Value → Option (DataW Unit × List MemPlace)} {ke : κ → Lit} {en : α → DataW Unit} {w : World} {b n : Nat} {f : κ → Option α} {R' S' : Nat → Prop} {e : TypeId} {sz : Nat} {ds : List Gd.D} {v : Value} (h : Gm.MapR P kt R ke en w b n f) (ho : Gd.Own R' S' e sz ds w v) : v.ownBlock ≠ some b := fun he => by
  obtain ⟨D, ⟨es, clock, h1, _⟩, _⟩ := h
  obtain ⟨us, _, _, h3, _⟩ := ho
  rcases h3.2 with ⟨rfl, h0⟩ | ⟨g, cap, cur, rfl, hB, hg, _⟩
  · cases he
  · injection he with he
    subst he
    rw [h1] at hg
    cases hg
theorem own_ne_blk {w : World} {R' S' : Nat → Prop} {e : TypeId} {sz : Nat} {ds : List Gd.D} {v : Value} {g : Nat} {t : TypeId} {cs : Array Value} (ho : Gd.Own R' S' e sz ds w v) (hb : Blk w g t cs) (hne : e ≠ t) : v.ownBlock ≠ some g := by
  obtain ⟨us, _, _, h3, _⟩ := ho
  exact own_blk_ne h3 hb hne
theorem own_lt {w : World} {R' S' : Nat → Prop} {e : TypeId} {sz : Nat} {ds : List Gd.D} {v : Value} (ho : Gd.Own R' S' e sz ds w v) : ∀ g, v.ownBlock = some g → g < w.heap.size ∧ R' g := fun g hg => by
  obtain ⟨us, _, _, h3, h4, _⟩ := ho
  exact ⟨(h3.lt g hg).2, h4 g hg⟩
theorem cell_addrL {w : World} {g : Nat} {t : TypeId} {cs : List Value} (h : Blk w g t cs.toArray) : ∀ j u, cs[j]? = some u → w.cell? ((⟨g, 0, none⟩ : Addr).add j) = some u := fun j u hj => by
  have : (⟨g, 0, none⟩ : Addr).add j = ⟨g, j, none⟩ := by unfold Addr.add; split <;> simp_all
  rw [this, h.cell]
  simpa using hj
theorem own_str_len {R S : Nat → Prop} {e : TypeId} {ds : List Gd.D} {w : World} {v : Value} (h : Gd.Own R S e 1 ds w v) : ∃ A c, v = .slice A ds.length c ∧ ds.length ≤ c ∧ c ≤ maxLen := by
  obtain ⟨us, h1, h2, h3, _⟩ := h
  obtain ⟨A, c, rfl, q1, q2, _⟩ := own_slice h3
  exact ⟨A, c, rfl, q1, q2⟩
theorem seenF_put (names : List ByteArray) (s : ByteArray) (k : ByteArray) : (if k = s then some true else seenF names k) = seenF (names ++ [s]) k := by
  unfold seenF
  by_cases h : k = s
  · subst h
    rw [if_pos rfl, if_pos (inB_iff.2 (by simp))]
  · rw [if_neg h]
    by_cases h2 : k ∈ names
    · rw [if_pos (inB_iff.2 h2), if_pos (inB_iff.2 (by simp [h2]))]
    · rw [if_neg (fun e => h2 (inB_iff.1 e)), if_neg (fun e => by have := inB_iff.1 e; simp [h2, h] at this)]
theorem key_s {s : ByteArray} (hs : s.size ≤ maxLen) : keyOf Tryd.prog 9 (.string s) = some (Gm.kS s) := WideMaps.keyOf_string_mk Tryd.underlying9 hs
theorem str_lawT : Maps.Keyed Tryd.prog 9 := Maps.string_keyed Tryd.underlying9
theorem elem_bool {P : Program} {e : TypeId} (he : P.underlying e = some .bool) {v : Value} {y : Bool} {ps : List MemPlace} (h : plainElem (H := Unit) P e v = some (.lit (.bool y), ps)) : v = .bool y := by
  unfold plainElem at h
  rw [he] at h
  cases v <;> simp at h
  rw [h.1]
theorem look_seen {w : World} {b n : Nat} {names : List ByteArray} (h : Gm.MapR Tryd.prog 9 (plainElem (H := Unit) Tryd.prog 4) Gm.kS Gm.eB w b n (seenF names)) (s : ByteArray) (hs : s.size ≤ maxLen) :
    (Instr.lookup 53 (.map (some b)) (.string s) false).run Tryd.prog w = .ok (.bool (inB s names)) w := by
  obtain ⟨v, ps, e1, e2⟩ := h.look str_lawT Tryd.underlying53 (z := .bool false) (by kernel_rfl) (plainElem_bool Tryd.underlying4 false) s (key_s hs)
  rw [e1]
  unfold seenF at e2
  cases hi : inB s names with
  | true => rw [hi] at e2; rw [elem_bool Tryd.underlying4 e2]
  | false => rw [hi] at e2; rw [elem_bool Tryd.underlying4 e2]
theorem wpList_D {P : Program} (w : World) {ops : Array Oper} {rest : List Oper} {o : Oper} {a : Act} {Q : Exit → Act → World → Prop} (hgd : o.guard = none) (s x : Operand) (t : TypeId)
    (ho : o.op = .call { callee := .builtin .append, args := #[s, x], argTypes := #[t, t] })
    (e : TypeId) (z : Value) (sz bytes : Nat) (ht : P.underlying t = some (.slice e)) (hinfo : (P.info? e).map (fun i => (i.zero, i.size, i.bytes)) = some (some z, sz, bytes)) (hzs : z.cells.size = sz) (hsz : 0 < sz) (hby : bytes ≤ 1000)
    (R S : Nat → Prop) (ds : List Gd.D) (d : Gd.D) (v : Value) (hs : a.eval s = v) (h : Gd.Own R S e sz ds w v) (ad : Addr) (c : Nat) (hx : a.eval x = .slice (some ad) 1 c) (cs : List Value) (hcl : cs.length = sz)
    (hc : ∀ j u, cs[j]? = some u → w.cell? (ad.add j) = some u) (hone : ∀ u ∈ cs, u.oneCell' = true)
    (hu : Gd.Lies (fun b => S b ∧ v.ownBlock ≠ some b) w d cs) (hl : ds.length ≤ 100000000)
    (hK : ∀ v' w', Gd.Own (fun b => R b ∨ w.heap.size ≤ b) S e sz (ds ++ [d]) w' v' → w.grownBy w' v.ownBlock → wpList P ops Q rest (a.put o.dst v') w') : wpList P ops Q (o :: rest) a w :=
  wpList_plain hgd fun _ hK' => Gd.append_D w s x t ho e z sz bytes ht hinfo hzs hsz hby R S ds d v hs h ad c hx cs hcl hc hone hu hl fun v' w' h1 h2 => hK' _ _ (hK v' w' h1 h2)
set_option maxRecDepth 100000 in
set_option maxHeartbeats 1000000 in
theorem vars1_c (nb sb mb : Nat) (pool : List Ty) (hpool : pool.length ≤ 100000000) (B : Nat) (X : Nat → Prop) (t : Ty) (names : List ByteArray) (w : World) (u : Value) (hq : t ∈ pool) (h0 : VarsI nb sb mb pool X names w) (hB : B ≤ w.heap.size) (h : TyRep w B t u) :
    Calls Tryd.prog 26 #[u, .pointer (some ⟨sb, 0, none⟩), .pointer (some ⟨nb, 0, none⟩)] w (Passes (VarsI nb sb mb pool) X false (varsF names t) w) := by
  obtain ⟨A, c, rfl, hn, hR⟩ := h
  have hnl := h0.len
  obtain ⟨nm, a⟩ := t
  simp only [Ty.name, Ty.args] at hn hR ⊢
  obtain ⟨W, hW⟩ : ∃ W, W = w.alloc (.cells #[.string nm, .slice A a.length c] 36) := ⟨_, rfl⟩
  have hbW : Below w.heap.size w W := by rw [hW]; exact (Below.refl _ w).alloc (Nat.le_refl _) _
  have hsz : W.heap.size = w.heap.size + 1 := by rw [hW]; simp
  have hIW := ((VarsI.frame nb sb mb pool).more _ _ _ _ h0 hbW)
  have hV := tIsVar_c (.mk nm a) (.agg #[.string nm, .slice A a.length c]) W ⟨A, c, rfl, hn, (hR.under (hbW.mono hB)).more (by omega)⟩
  unfold varsF
  simp only [Ty.name]
  obtain ⟨q, hq'⟩ : ∃ q, isVarT (.mk nm a) = q := ⟨_, rfl⟩
  rw [hq'] at hV ⊢
  cases q with
  | false =>
    have HV := Lib.hid hV
    have HI := Lib.hid hIW
    have HB := Lib.hid hbW
    clear hV hIW hbW hR hq hq' h0
    subst hW
    go_enter Tryd.func26, Tryd.ntmps26
    go_wp2_with (go_at_call 14; refine HV.out.mono ?_; rintro e w' ⟨rfl, hb⟩; have HB' := Lib.hid hb; clear hb)
    go_ret
    have hbb := HB.out.trans (HB'.out.mono HB.out.size)
    refine ⟨rfl, ?_, Keep.of_new hbb⟩
    exact (VarsI.frame nb sb mb pool).mono _ _ _ _ ((VarsI.frame nb sb mb pool).more _ _ _ _ HI.out HB'.out) fun b h => .inl (.inl h)
  | true =>
    rcases Bool.eq_false_or_eq_true (inB nm names) with hin | hin
    · rw [show (bif (true && !inB nm names) then names ++ [nm] else names) = names by rw [hin]; rfl]
      have hpost : ∀ w1, Below W.heap.size W w1 → (Instr.lookup 53 (.map (some mb)) (.string nm) false).run Tryd.prog w1 = .ok (.bool true) w1 ∧ w1.cell? ⟨sb, 0, none⟩ = some (.map (some mb)) ∧ w1.cell? ⟨w.heap.size, 0, none⟩ = some (.string nm) := fun w1 hb => by
        obtain ⟨_, _, _, v, b1, b2, m, o, n1, n2, n3⟩ := (VarsI.frame nb sb mb pool).more _ _ _ _ hIW hb
        have := look_seen m nm hn
        rw [hin] at this
        refine ⟨this, by simpa using b2.cell 0, ?_⟩
        rw [hb.cell (p := ⟨w.heap.size, 0, none⟩) (by show w.heap.size < W.heap.size; omega), hW]
        exact cell_alloc_n _ _ _ rfl
      have HV := Lib.hid hV
      have HI := Lib.hid hIW
      have HB := Lib.hid hbW
      have HP := Lib.hid hpost
      clear hV hIW hbW hR hq hq' h0 hpost
      subst hW
      go_enter Tryd.func26, Tryd.ntmps26
      go_wp2_with (go_at_call 14; refine HV.out.mono ?_; rintro e w1 ⟨rfl, hb⟩; have HB' := Lib.hid hb; obtain ⟨l1, l2, l3⟩ := HP.out _ hb; have HLK := Lib.hid l1; clear hb l1)
      rw [HLK.out]
      simp only [Result.andThen]
      rw [Oper.upon_value]
      go_wp2_with fail
      go_ret
      have hbb := HB.out.trans (HB'.out.mono HB.out.size)
      refine ⟨rfl, ?_, Keep.of_new hbb⟩
      exact (VarsI.frame nb sb mb pool).mono _ _ _ _ ((VarsI.frame nb sb mb pool).more _ _ _ _ HI.out HB'.out) fun b h => .inl (.inl h)
    · rw [show (bif (true && !inB nm names) then names ++ [nm] else names) = names ++ [nm] by rw [hin]; rfl]
      have hni : nm ∉ names := fun e => by rw [inB_iff.2 e] at hin; cases hin
      have hpost : ∀ w1, Below W.heap.size W w1 → (Instr.lookup 53 (.map (some mb)) (.string nm) false).run Tryd.prog w1 = .ok (.bool false) w1 ∧ w1.cell? ⟨sb, 0, none⟩ = some (.map (some mb)) ∧ w1.cell? ⟨w.heap.size, 0, none⟩ = some (.string nm) ∧
          ∃ w2, (Instr.mapUpdate 53 (.map (some mb)) (.string nm) (.bool true)).run Tryd.prog w1 = .ok () w2 ∧ w2.cell? ⟨w.heap.size, 0, none⟩ = some (.string nm) ∧ Keep (fun b => ¬ X b) w w2 ∧ nb < w2.heap.size ∧
          ∃ A2 c2, w2.cell? ⟨nb, 0, none⟩ = some (.slice A2 names.length c2) ∧ w2.frozen? ⟨nb, 0, none⟩ = false ∧ names.length ≤ c2 ∧ c2 ≤ maxLen ∧
            Gd.Own (fun b => ¬ X b ∧ b < w2.heap.size) (fun _ => False) 9 1 (names.map Gd.D.str) w2 (.slice A2 names.length c2) ∧
            ∀ A3 c3 w3, Gd.Own (fun b => (¬ X b ∧ b < w2.heap.size) ∨ w2.heap.size ≤ b) (fun _ => False) 9 1 (names.map Gd.D.str ++ [Gd.D.str nm]) w3 (.slice A3 (names.length + 1) c3) → Keep (fun b => Value.ownBlock (.slice A2 names.length c2) = some b) w2 w3 → (w3.frozen? ⟨nb, 0, none⟩ = false ∧ w3.cell? ⟨nb, 0, none⟩ = some (.slice A2 names.length c2)) ∧
              (VarsI nb sb mb pool X (names ++ [nm]) (w3.setCell ⟨nb, 0, none⟩ (.slice A3 (names.length + 1) c3)) ∧ Keep (fun b => ¬ X b) w (w3.setCell ⟨nb, 0, none⟩ (.slice A3 (names.length + 1) c3))) := fun w1 hb => by
        have hI1 := (VarsI.frame nb sb mb pool).more _ _ _ _ hIW hb
        obtain ⟨hxl, hnd, hmem, v, b1, b2, m, o, n1, n2, n3⟩ := hI1
        have hbb := hbW.trans (hb.mono hbW.size)
        have hlk := look_seen m nm hn
        rw [hin] at hlk
        obtain ⟨w2, hrun, m2, hg2⟩ := m.put str_lawT Tryd.underlying53 (by unfold maxLen; omega) Gm.kS_key Gm.kS_inj nm true (key_s hn) (plainElem_bool Tryd.underlying4 true)
        have m2' := m2.congr (seenF_put names nm)
        have c1 : w1.cell? ⟨w.heap.size, 0, none⟩ = some (.string nm) := by
          rw [hb.cell (p := ⟨w.heap.size, 0, none⟩) (by show w.heap.size < W.heap.size; omega), hW]
          exact cell_alloc_n _ _ _ rfl
        have hw1 : w.heap.size < w1.heap.size := by have := hb.size; omega
        have hmw : mb ≠ w.heap.size := fun e => n3 (.inl (.inr ⟨by omega, by omega⟩))
        have nX : ∀ b, ¬ ((X b ∨ (w.heap.size ≤ b ∧ b < W.heap.size)) ∨ (W.heap.size ≤ b ∧ b < w1.heap.size)) → ¬ X b := fun b h hx => h (.inl (.inl hx))
        have b1' : Blk w2 nb 32 #[v] := b1.grown hg2 fun e => map_ne_blk m b1 (by injection e)
        have b2' : Blk w2 sb 53 #[.map (some mb)] := b2.grown hg2 fun e => map_ne_blk m b2 (by injection e)
        have o1 : Gd.Own (fun b => ¬ X b ∧ b < w2.heap.size) (fun _ => False) 9 1 (names.map Gd.D.str) w1 v := o.mono (fun b hb h => ⟨nX b h, by have := hg2.size; omega⟩) fun _ _ h => h
        have o2 := o1.keep (w' := w2) (fun b hk => hg2.block b (own_lt o b hk).1 fun e => own_ne_map m o (hk.trans e)) (fun _ h _ => h.elim) hg2.size
        obtain ⟨A2, c2, rfl, q1, q2⟩ := own_str_len o2
        rw [List.length_map] at q1
        simp only [List.length_map] at b1' o2 o o1
        have hk2 : Keep (fun b => ¬ X b) w w2 := (Keep.of_new hbb).trans (Keep.grown hg2 (F := fun b => ¬ X b) fun k hk => by injection hk with hk; rw [← hk]; exact nX _ n3) fun _ _ h => h
        refine ⟨hlk, by simpa using b2.cell 0, c1, w2, hrun, (cell_of_block (hg2.block _ hw1 fun e => hmw (by injection e with e; exact e.symm)) 0).trans c1, hk2, b1'.lt, A2, c2, by simpa using b1'.cell 0, b1'.frozen 0, q1, q2, o2, fun A3 c3 w3 o3 k3 => ?_⟩
        have hsz3 := k3.size
        have b13 : Blk w3 nb 32 #[.slice A2 names.length c2] := (k3.block nb b1'.lt fun e => own_ne_blk o2 b1' (by decide) e).trans b1'
        have b23 : Blk w3 sb 53 #[.map (some mb)] := (k3.block sb b2'.lt fun e => own_ne_blk o2 b2' (by decide) e).trans b2'
        have m3 := m2'.keep (k3.block mb m2'.lt fun e => own_ne_map m2' o2 e)
        have hnx : ∀ b, w2.heap.size ≤ b → ¬ X b := fun b hb hx => by
          have := h0.1 b hx
          have := hk2.size
          omega
        have o3' : Gd.Own (fun b => ¬ X b) (fun _ => False) 9 1 ((names ++ [nm]).map Gd.D.str) w3 (.slice A3 (names.length + 1) c3) := by
          rw [List.map_append]
          exact o3.mono (fun b _ h => h.elim (fun h => h.1) (hnx b)) fun _ _ h => h
        refine ⟨⟨b13.frozen 0, by simpa using b13.cell 0⟩, ⟨fun b hx => ?_, ?_, ?_, .slice A3 (names.length + 1) c3, ?_, ?_, ?_, ?_, nX _ n1, nX _ n2, nX _ n3⟩, ?_⟩
        · have := h0.1 b hx
          have := hk2.size
          simp only [World.size_setCell]
          omega
        · exact List.nodup_append.2 ⟨hnd, by simp, fun a ha b hb => by simp at hb; rw [hb]; exact fun e => hni (e ▸ ha)⟩
        · intro s hs
          rcases List.mem_append.1 hs with hs | hs
          · exact hmem s hs
          · rw [List.mem_singleton.1 hs]
            exact ⟨hn, _, hq, rfl⟩
        · exact b13.set_ 0 _
        · exact b23.far (Blk.ne_ b23 b13 (by decide)) _
        · rw [List.length_append]
          exact m3.keep (Below.heap_setCell _ _ _ _ fun e => map_ne_blk m3 b13 e.symm)
        · exact o3'.keep (fun b hk => Below.heap_setCell _ _ _ _ fun e => own_ne_blk o3' b13 (by decide) (hk.trans (congrArg some e))) (fun _ h _ => h.elim) (by simp)
        · exact (hk2.trans k3 fun x _ hx => (own_lt o2 x hx).2.1).set ⟨nb, 0, none⟩ (nX _ n1) _
      have HV := Lib.hid hV
      have HP := Lib.hid hpost
      have HMX : maxLen = 9223372036854775807 := rfl
      clear hV hIW hbW hR hq hq' h0 hpost
      subst hW
      go_enter Tryd.func26, Tryd.ntmps26
      go_wp2_with (go_at_call 14; refine HV.out.mono ?_; rintro e w1 ⟨rfl, hb⟩; obtain ⟨l1, l2, l3, w2, hrun, l4, lk2, l5, A2, c2, l6, l7, l8, l9, o2, hrest⟩ := HP.out _ hb; have HLK := Lib.hid l1; have HRUN := Lib.hid hrun; have HO := Lib.hid o2; have HREST := Lib.hid hrest; clear hb l1 hrun o2 hrest lk2)
      rw [HLK.out]
      simp only [Result.andThen]
      rw [Oper.upon_value]
      go_wp2_with fail
      rw [HRUN.out]
      simp only [Result.andThen]
      rw [Oper.upon_skip]
      go_wp2_with (at_builtin; refine wpList_D _ rfl (.tmp 17) (.tmp 20) 32 rfl 9 (.string ⟨#[]⟩) 1 16 Tryd.underlying32 (by kernel_rfl) rfl (by omega) (by omega) _ _ _ (Gd.D.str nm) _ rfl (HO.out.below ((Below.refl _ _).alloc (Nat.le_refl _) _)) ⟨w2.heap.size, 0, none⟩ 1 rfl [.string nm] rfl (cell_addrL (Blk.new _ _ _)) (by simp [Value.oneCell']) (fun _ _ => .str hn) (by rw [List.length_map]; omega) ?_; intro v3 w3 o3 g3; have HO3 := Lib.hid o3; have HG3 := Lib.hid g3; obtain ⟨A3, c3, hv3, q3, q4⟩ := own_str_len o3; rw [List.length_append, List.length_map, List.length_singleton] at hv3 q3; subst hv3; have hrr := HREST.out A3 c3 w3 (o3.mono (fun b _ h => h.elim (fun h => .inl h) fun h => .inr (by rw [World.size_alloc] at h; omega)) fun _ _ h => h) ((Keep.of_new ((Below.refl _ _).alloc (Nat.le_refl _) _)).trans (Keep.grown (F := fun b => Value.ownBlock (.slice A2 names.length c2) = some b) g3 fun k hk => hk) fun x _ h => h); obtain ⟨⟨f3, f4⟩, hrr⟩ := hrr; have HRR := Lib.hid hrr; clear o3 g3 hrr)
      go_ret
      exact ⟨rfl, HRR.out.1, HRR.out.2⟩
/-- Vars, of valid types: none, if one of them is invalid. -/
def varsL (l : List Ty) (names : List ByteArray) : List ByteArray := l.foldl (fun s t => (allPM varsF 64 s t).2) names
def varsT (l : List Ty) : List ByteArray := if l.all mayT then varsL l [] else []
theorem scan_vars (k : Nat) (ih : ∀ s t, (allPM varsF k s t).1 = true) : ∀ (l : List Ty) s, (scan (allPM varsF k) s l).1 = true
  | [], s => rfl
  | t :: l, s => by
    rw [scan]
    have := ih s t
    obtain ⟨⟨q, s'⟩, hq⟩ : ∃ q, allPM varsF k s t = q := ⟨_, rfl⟩
    rw [hq] at this ⊢
    simp at this
    subst this
    exact scan_vars k ih l s'
theorem allP_vars : ∀ (k : Nat) s t, (allPM varsF k s t).1 = true
  | 0, s, t => rfl
  | k + 1, s, t => by
    rw [allPM]
    exact scan_vars k (fun s t => allP_vars k s t) _ _
set_option maxRecDepth 100000 in
set_option maxHeartbeats 1000000 in
/-- Vars. -/
theorem vars_c (l : List Ty) (A : Option Addr) (c : Nat) (w : World) (h : LRep w w.heap.size l A c) (hl : l.length ≤ 10000) :
    Calls Tryd.prog 10 #[.slice A l.length c] w fun e w' => (∃ v, e = .returned v ∧ Gd.Lies (fun b => w.heap.size ≤ b) w' (.seq 1 ((varsT l).map Gd.D.str)) [v]) ∧ (∀ s ∈ varsT l, s.size ≤ maxLen) ∧ (varsT l).length ≤ 20480000 ∧ Below w.heap.size w w' := by
  have hV := allValid_c l A c w h
  have hlen := h.len
  unfold varsT
  rcases Bool.eq_false_or_eq_true (l.all mayT) with ha | ha
  · rw [if_pos ha]
    rw [ha] at hV
    have hall : ∀ t ∈ l, mayT t = true := List.all_eq_true.1 ha
    have hpool : (Ty.partsL l).length ≤ 20480000 := by
      have : ∀ l : List Ty, (∀ t ∈ l, mayT t = true) → (Ty.partsL l).length ≤ 2048 * l.length := fun l => by
        induction l with
        | nil => simp [Ty.partsL]
        | cons t l ih =>
          intro h
          have h1 := may_parts (h t (by simp))
          have h2 := ih fun x hx => h x (by simp [hx])
          rw [Ty.partsL, List.length_append, List.length_cons]
          omega
      have := this l hall
      omega
    have hstart : ∀ w1, Below w.heap.size w w1 → ∀ W, W = (((w1.alloc (.cells #[.slice none 0 0] 32)).alloc (.map #[] 0)).alloc (.cells #[.map (some (w1.heap.size + 1))] 53)) →
        VarsI w1.heap.size (w1.heap.size + 2) (w1.heap.size + 1) (Ty.partsL l) (fun b => b < w.heap.size) [] W ∧ Below w.heap.size w W := fun w1 hb W hW => by
      have hs := hb.size
      have hbW : Below w1.heap.size w1 W := by rw [hW]; exact (((Below.refl _ w1).alloc (Nat.le_refl _) _).alloc (by simp) _).alloc (by simp; omega) _
      have m0 := Gm.MapR.new (P := Tryd.prog) (kt := 9) (R := plainElem (H := Unit) Tryd.prog 4) (ke := Gm.kS) (en := Gm.eB) (w1.alloc (.cells #[.slice none 0 0] 32))
      rw [World.size_alloc] at m0
      have b3 := Blk.new ((w1.alloc (.cells #[.slice none 0 0] 32)).alloc (.map #[] 0)) 53 #[.map (some (w1.heap.size + 1))]
      rw [World.size_alloc, World.size_alloc] at b3
      refine ⟨⟨fun b hx => by have := hbW.size; omega, by simp, by simp, .slice none 0 0, ?_, ?_, ?_, ?_, by omega, by omega, by omega⟩, hb.trans (hbW.mono hs)⟩
      · rw [hW]
        exact ((Blk.new w1 _ _).alloc _).alloc _
      · rw [hW]; exact b3
      · rw [hW]
        exact m0.keep (Below.heap_alloc _ _ _ (by simp))
      · exact Gd.Own.nil _ _ _ _ _
    have hstep : ∀ w1 nb sb mb names (wr : World) t u, t ∈ l → w1 = w → VarsI nb sb mb (Ty.partsL l) (fun b => b < w.heap.size) names wr → Below w.heap.size w wr → TyRep wr w.heap.size t u →
        Calls Tryd.prog 25 #[u, .func (.func 26) #[] #[.pointer (some ⟨sb, 0, none⟩), .pointer (some ⟨nb, 0, none⟩)]] wr fun e w' => e = .returned (.bool true) ∧ VarsI nb sb mb (Ty.partsL l) (fun b => b < w.heap.size) (allPM varsF 64 names t).2 w' ∧ Below w.heap.size w w' := fun w1 nb sb mb names wr t u ht _ hI hb hu => by
      refine (allParts_c varsF (VarsI nb sb mb (Ty.partsL l)) (VarsI.frame nb sb mb _) w.heap.size 26 #[.pointer (some ⟨sb, 0, none⟩), .pointer (some ⟨nb, 0, none⟩)] (enters_of Tryd.func26 (by kernel_rfl) rfl) (fun t => t ∈ Ty.partsL l) (fun t ht a ha => ?_)
        (fun X t s W u hq hI hX hB hu => vars1_c nb sb mb _ (by omega) w.heap.size X t s W u hq hI hB hu) 64 t (may_deep (hall t ht)) (Ty.mem_partsL.2 ⟨t, ht, t.self_parts⟩) _ names wr u hI (fun b hb => hb) hb.size hu).mono ?_
      · obtain ⟨x, hx, hxt⟩ := Ty.mem_partsL.1 ht
        exact Ty.mem_partsL.2 ⟨x, hx, Ty.parts_trans x t hxt (Ty.arg_parts ha)⟩
      · rintro e w' ⟨rfl, h1, h2⟩
        exact ⟨by rw [allP_vars]; rfl, h1, hb.trans (h2.below (fun x hx hn => hn hx) hb.size)⟩
    have hbase : ∀ nb sb mb names (wr : World) (k : Nat), VarsI nb sb mb (Ty.partsL l) (fun b => b < w.heap.size) names wr → k < l.length → Below w.heap.size w wr → ∀ n a A' c', l[k]? = some (.mk n a) → VarsI nb sb mb (Ty.partsL l) (fun b => b < w.heap.size) names (wr.alloc (.cells #[.string n, .slice A' a.length c'] 36)) ∧ Below w.heap.size w (wr.alloc (.cells #[.string n, .slice A' a.length c'] 36)) := fun nb sb mb names wr k h hk hb n a A' c' _ => by
      have hb2 := (Below.refl wr.heap.size wr).alloc (Nat.le_refl _) (.cells #[.string n, .slice A' a.length c'] 36)
      exact ⟨(VarsI.frame nb sb mb _).mono _ _ _ _ ((VarsI.frame nb sb mb _).more _ _ _ _ h hb2) fun b h => .inl h, hb.trans (hb2.mono hb.size)⟩
    have hend : ∀ nb sb mb (wr : World), VarsI nb sb mb (Ty.partsL l) (fun b => b < w.heap.size) (varsL l []) wr → ∃ v, wr.cell? ⟨nb, 0, none⟩ = some v ∧ Gd.Lies (fun b => w.heap.size ≤ b) wr (.seq 1 ((varsL l []).map Gd.D.str)) [v] ∧ (∀ s ∈ varsL l [], s.size ≤ maxLen) ∧ (varsL l []).length ≤ 20480000 := fun nb sb mb wr h => by
      have hle := h.len
      obtain ⟨_, _, hmem, v, b1, _, _, o, _⟩ := h
      obtain ⟨A3, c3, rfl, _⟩ := own_str_len o
      exact ⟨_, by simpa using b1.cell 0, (o.lies.mono fun b _ h => h.elim (fun h => by omega) fun h => h.elim), fun s hs => (hmem s hs).1, by omega⟩
    have HV := Lib.hid hV
    have HS := Lib.hid hstart
    have HSTEP := Lib.hid hstep
    have HBASE := Lib.hid hbase
    have HEND := Lib.hid hend
    have H := Lib.hid h
    have hmax : maxLen = 9223372036854775807 := rfl
    clear hV hstart hstep hbase hend h ha hall hpool
    have hmm := @run_makeMap Tryd.prog
    go_enter Tryd.func10, Tryd.ntmps10
    go_wp2_with (go_at_call 17; refine HV.out.mono ?_; rintro e w1 ⟨rfl, hb⟩; have HB1 := Lib.hid hb; clear hb)
    obtain ⟨hI0, hB0⟩ := HS.out _ HB1.out _ rfl
    go_loopg [6, 13] (l.length + 1) (fun gg _ s13 wr => ∃ kk : Nat, kk ≤ l.length ∧ gg = l.length + 1 - kk ∧ s13 = .int .i64 (kk : Int) ∧ VarsI w1.heap.size (w1.heap.size + 2) (w1.heap.size + 1) (Ty.partsL l) (fun b => b < w.heap.size) (varsL (l.take kk) []) wr ∧ Below w.heap.size w wr)
    case atStart => exact ⟨0, Nat.zero_le _, by omega, rfl, hI0, hB0⟩
    case round =>
      obtain ⟨kk, hkk, hg, rfl, hI, hB⟩ := hrel
      have HI := Lib.hid hI; have HB := Lib.hid hB; have HG := Lib.hid hg
      clear hI0 hB0
      by_cases hlt : kk < l.length
      · have hltz : (kk : Int) < (l.length : Int) := by omega
        obtain ⟨b, off, rfl, hb, n, a, A', c', ht, hn, hv, c0, c1⟩ := (H.out.under HB.out).at_ hlt
        obtain ⟨hI2, hB2⟩ := HBASE.out _ _ _ _ _ _ hI hlt hB n a A' c' (by rw [List.getElem?_eq_getElem hlt, ht])
        have hcall := HSTEP.out w _ _ _ _ _ (.mk n a) (.agg #[.string n, .slice A' a.length c']) (ht ▸ List.getElem_mem hlt) rfl hI2 hB2 ⟨A', c', rfl, hn, hv.under ((Below.refl _ _).alloc hB.size _)⟩
        have htk : varsL (l.take (kk + 1)) [] = (allPM varsF 64 (varsL (l.take kk) []) (.mk n a)).2 := by
          unfold varsL
          rw [List.take_add_one, List.getElem?_eq_getElem hlt, ht, List.foldl_append]
          rfl
        have HC := Lib.hid hcall
        have HTK := Lib.hid htk
        clear hI hB hI2 hB2 hcall htk ht hv hg
        go_wp2_with (go_at_call 25; refine HC.out.mono ?_; rintro e w' ⟨rfl, h1, h2⟩; have HI3 := Lib.hid h1; have HB3 := Lib.hid h2; clear h1 h2)
        go_roundg (l.length + 1 - (kk + 1))
        case measure => have := HG.out; omega
        case rel => exact ⟨kk + 1, by omega, rfl, by go_num, HTK.out ▸ HI3.out, HB3.out⟩
      · have hltz : ¬ (kk : Int) < (l.length : Int) := by omega
        obtain rfl : kk = l.length := by omega
        rw [List.take_length] at hI
        obtain ⟨v, hcv, hlies, hsz, hll⟩ := HEND.out _ _ _ _ hI
        have HL := Lib.hid hlies; have HSZ := Lib.hid hsz; have HLL := Lib.hid hll
        clear hI hB hg hlies hsz hll HI
        go_wp2_with fail
        go_ret
        exact ⟨⟨v, rfl, HL.out⟩, HSZ.out, HLL.out, HB.out⟩
  · rw [if_neg (by rw [ha]; simp)]
    rw [ha] at hV
    have HV := Lib.hid hV
    clear hV h
    go_enter Tryd.func10, Tryd.ntmps10
    go_wp2_with (go_at_call 17; refine HV.out.mono ?_; rintro e w1 ⟨rfl, hb⟩; have HB := Lib.hid hb; clear hb)
    go_ret
    refine ⟨⟨_, rfl, fun w' _ => Gd.Rep.seq_mk (ds := []) (Nat.le_refl _) (by decide) fun j hj => by simp at hj⟩, fun s h => by simp at h, by simp, HB.out⟩
end Go.Proofs.YtfhjfhbfgndheaaDoor
