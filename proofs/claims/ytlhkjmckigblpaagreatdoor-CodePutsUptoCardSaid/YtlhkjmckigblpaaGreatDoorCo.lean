/- The statements of layer 3: how bytes stand; bytes behind others. -/
import Derived.Test.YtlhkjmckigblpaaGreatDoorCn
import Derived.Test.YtlhkjmckigblpaaGreatDoorCl
import Derived.WalkLawsBesides
namespace Go.Proofs.YtlhkjmckigblpaaGreatDoor
open Go.RowKit Cp
open Go
attribute [local go_sem] Oper.semAt_some

theorem less_eq : ∀ a b : List UInt8, Op.bytesLess a b = ltB a b
  | [], [] => rfl
  | [], _ :: _ => rfl
  | _ :: _, [] => rfl
  | x :: a, y :: b => by
    rw [ltB, ← less_eq a b, Op.bytesLess]
    generalize Op.bytesLess a b = r
    by_cases h1 : x.toNat < y.toNat
    · have : x < y := UInt8.lt_iff_toNat_lt.2 h1
      rw [if_pos h1, decide_eq_true this]; rfl
    · have h2 : ¬ x < y := fun h => h1 (UInt8.lt_iff_toNat_lt.1 h)
      rw [if_neg h1, decide_eq_false h2, Bool.false_or]
      by_cases h3 : y.toNat < x.toNat
      · have : (x == y) = false := by rw [beq_eq_false_iff_ne]; intro e; rw [e] at h3; omega
        rw [if_pos h3, this]; rfl
      · have : x = y := UInt8.toNat_inj.1 (by omega)
        rw [if_neg h3, this]; simp
theorem ltB_total : ∀ a b : List UInt8, ltB a b = false → a ≠ b → ltB b a = true
  | [], [], _, h => absurd rfl h
  | [], _ :: _, h, _ => by rw [ltB] at h; cases h
  | _ :: _, [], _, _ => rfl
  | x :: a, y :: b, h, hne => by
    rw [ltB] at h ⊢
    by_cases h1 : x.toNat < y.toNat
    · rw [if_pos h1] at h; cases h
    · rw [if_neg h1] at h
      by_cases h2 : y.toNat < x.toNat
      · rw [if_pos h2]
      · rw [if_neg h2] at h
        rw [if_neg h2, if_neg h1]
        have hxy : x = y := UInt8.toNat_inj.1 (by omega)
        exact ltB_total a b h fun e => hne (by rw [hxy, e])
/-- How they stand. -/
def stB (a b : List UInt8) : Int := if ltB a b then -1 else if a = b then 0 else 1

set_option maxRecDepth 100000 in
set_option maxHeartbeats 2000000 in
theorem stands_c (a b : List UInt8) (u v : Value) (w : World) (ha : Sees w u a) (hb : Sees w v b) :
    Calls Tryz.prog 42 #[u, v] w fun e w' => e = .returned (.int .i64 (stB a b)) ∧ w = w' := by
  have c1 := conv_c ha
  have c2 := conv_c hb
  obtain ⟨z, hz⟩ : ∃ z, stB a b = z := ⟨_, rfl⟩
  rw [hz]
  have hl := less_eq a b
  unfold stB at hz
  clear ha hb
  cases h : ltB a b with
  | true =>
    rw [h] at hz hl
    rw [if_pos rfl] at hz
    subst hz
    clear h
    go_enter Tryz.func42, Tryz.ntmps42
    go_wp2_with fail
    go_ret
    exact ⟨rfl, rfl⟩
  | false =>
    rw [h] at hz hl
    rw [if_neg (by decide)] at hz
    by_cases he : a = b
    · rw [if_pos he] at hz
      subst hz
      subst he
      clear h
      go_enter Tryz.func42, Tryz.ntmps42
      go_wp2_with fail
      go_ret
      exact ⟨rfl, rfl⟩
    · rw [if_neg he] at hz
      subst hz
      have hab : (a == b) = false := by rw [beq_eq_false_iff_ne]; exact he
      clear h he
      go_enter Tryz.func42, Tryz.ntmps42
      go_wp2_with fail
      go_ret
      exact ⟨rfl, rfl⟩

/-- A slice of bytes that was handed in: nil, or at an address. -/
def Hands (w : World) (v : Value) (l : List UInt8) : Prop := (v = .slice none 0 0 ∧ l = []) ∨ ∃ a c, v = .slice (some a) l.length c ∧ (∀ i (h : i < l.length), w.cell? (a.add i) = some (.int .u8 ((l[i]).toNat : Int))) ∧ (l ≠ [] → a.block < w.heap.size)
theorem Hands.under {w w' : World} {v : Value} {l : List UInt8} (h : Hands w v l) (hb : Below w.heap.size w w') : Hands w' v l := by
  rcases h with ⟨rfl, rfl⟩ | ⟨a, c, rfl, h1, h2⟩
  · exact .inl ⟨rfl, rfl⟩
  · refine .inr ⟨a, c, rfl, fun i hi => ?_, fun hn => Nat.lt_of_lt_of_le (h2 hn) hb.size⟩
    have h3 := h2 (by intro e; rw [e] at hi; simp at hi)
    rw [hb.cell (p := a.add i) (by unfold Addr.add; split <;> exact h3)]
    exact h1 i hi
theorem Bys.hands {B : Nat} {l : List UInt8} {w : World} {v : Value} (h : Bys B l w v) (hl : l ≠ []) : Hands w v l := by
  rcases h.sees with ⟨n, c, _, e⟩ | h
  · exact absurd e hl
  · obtain ⟨a, c, e, h1, h2⟩ := h
    exact .inr ⟨a, c, e, h1, fun _ => h2⟩
section
variable {P : Program} (w : World)
theorem wpList_appL {ops : Array Oper} {rest : List Oper} {o : Oper} {a : Act} {Q : Exit → Act → World → Prop} (hgd : o.guard = none) (s x : Operand) (t : TypeId)
    (ho : o.op = .call { callee := .builtin .append, args := #[s, x], argTypes := #[t, t] })
    (base : Nat) (e : TypeId) (z : Value) (ht : P.underlying t = some (.slice e)) (hinfo : (P.info? e).map (fun i => (i.zero, i.size, i.bytes)) = some (some z, 1, 1)) (hzs : z.cells.size = 1)
    (v : Value) (n : Nat) (xs : List Value) (hs : a.eval s = v) (hown : w.ownsRow base e 1 v n xs)
    (y : Value) (l : List UInt8) (hx : a.eval x = y) (hy : Hands w y l)
    (h63 : n + l.length ≤ 140737488355328) (hbase : base ≤ w.heap.size)
    (h : ∀ v' w', w'.ownsRow base e 1 v' (n + l.length) (xs ++ Lib.byteCells l) → Below base w w' → wpList P ops Q rest (a.put o.dst v') w') : wpList P ops Q (o :: rest) a w := by
  obtain ⟨i, hi, hz, hsize, hby⟩ := info_parts hinfo
  rcases hy with ⟨rfl, rfl⟩ | ⟨ad, c, rfl, hc, _⟩
  · refine wpList_plain hgd fun _ hK => ?_
    have hrun := run_append_owned_none (P := P) w base t o.type e i 1 ht hi v n xs hown
    unfold Oper.wp execOp
    simp only [ho, resolve, invoke, builtin, Sem.run_bind, Sem.run_pure, Result.andThen_ok, List.map_toArray, List.map_cons, List.map_nil, hs, hx, hrun]
    exact hK _ _ (h v w (by simpa [Lib.byteCells] using hown) (Below.refl _ _))
  · refine wpList_plain hgd fun _ hK => wp_append_own w s x t ho base e i z 1 1 ht hi hz hsize hby hzs (by decide) v n xs hs hown ad l.length c (Lib.byteCells l) hx (by simp [Lib.byteCells]) ?_ ?_ (by unfold maxLen; omega) (by omega) hbase ?_
    · intro j u hj
      have hjl : j < l.length := by
        have := (List.getElem?_eq_some_iff.1 hj).1
        simpa [Lib.byteCells] using this
      rw [hc j hjl]
      simp [Lib.byteCells, hjl] at hj
      rw [hj]
    · intro u hu
      simp only [Lib.byteCells, List.mem_map] at hu
      obtain ⟨c, _, rfl⟩ := hu
      rfl
    · intro v' w' h2 h3 _
      refine hK _ _ (h v' w' h2 ((Below.refl base w).grown h3 hbase fun k hk => ?_))
      exact (World.ownsRow.lt hown k hk).1
end

set_option maxRecDepth 100000 in
set_option maxHeartbeats 4000000 in
theorem behind_c (a b : List UInt8) (u v : Value) (w : World) (ha : Hands w u a) (hb : Hands w v b) (hl : a.length ≤ 70000000000000) (hl2 : b.length ≤ 70000000000000) :
    Calls Tryz.prog 40 #[u, v] w fun e w' => Gives w.heap.size w (a ++ b) e w' := by
  have HA := Lib.hid ha; have HB := Lib.hid hb
  clear ha hb
  have h0 : (w.alloc (.cells #[] 5)).ownsRow w.heap.size 5 1 (.slice (some ⟨w.heap.size, 0, none⟩) 0 0) 0 [] := ⟨rfl, .inr ⟨w.heap.size, 0, #[], rfl, Nat.le_refl _, heap_alloc_new w _, Nat.le_refl _, by decide, rfl, rfl⟩⟩
  have hw0 : Below w.heap.size w (w.alloc (.cells #[] 5)) := (Below.refl _ _).alloc (Nat.le_refl _) _
  have HO := Lib.hid h0; have HW := Lib.hid hw0
  clear h0 hw0
  go_enter Tryz.func40, Tryz.ntmps40
  go_wp2_with (first
    | (at_builtin; refine wpList_appL _ rfl (.tmp 5) (.tmp 6) 23 rfl w.heap.size 5 (.int .u8 0) Tryz.underlying23 infoB rfl _ 0 [] rfl HO.out u a rfl (HA.out.under HW.out) (by omega) HW.out.size ?_; intro v1 w1 hy1 hb1; have HY1 := Lib.hid hy1; have HB1 := Lib.hid (HW.out.trans hb1); clear hy1 hb1)
    | (at_builtin; refine wpList_appL _ rfl (.tmp 7) (.tmp 8) 23 rfl w.heap.size 5 (.int .u8 0) Tryz.underlying23 infoB rfl _ (0 + a.length) ([] ++ Lib.byteCells a) rfl HY1.out v b rfl (HB.out.under HB1.out) (by omega) HB1.out.size ?_; intro v2 w2 hy2 hb2; have HY2 := Lib.hid hy2; have HB2 := Lib.hid (HB1.out.trans hb2); clear hy2 hb2))
  go_ret
  refine Gives.mk_ ?_ HB2.out
  have := HY2.out
  unfold Bys
  rw [byteCells_app, List.length_append]
  simpa using this
end Go.Proofs.YtlhkjmckigblpaaGreatDoor
