/- An append of a whole list onto a row of the call's own. -/
import Derived.Test.YtcclclginhhlaaaDoorBase
namespace Go.Proofs.YtcclclginhhlaaaDoor
open Go.RowKit
open Pl Dig

/-- What an append onto a row of the call's own leaves. -/
def Grew (w w' : World) (base : Nat) (e : TypeId) (v : Value) (k : Nat) (ys : List Value) : Prop :=
  w'.ownsRow base e 1 v k ys ∧ (∀ (X : Nat) (t : TypeId) cs fz, w.heap[X]? = some (.cells cs t fz) → e ≠ t → w'.heap[X]? = some (.cells cs t fz)) ∧ Below base w w'
theorem Grew.blk {w w' : World} {base : Nat} {e t : TypeId} {v : Value} {k X : Nat} {ys : List Value} {cs : Array Value} (h : Grew w w' base e v k ys) (hX : Blk w X t cs) (hne : e ≠ t) : Blk w' X t cs := h.2.1 X t cs _ hX hne
theorem Grew.slice {w w' : World} {base : Nat} {e : TypeId} {v : Value} {k : Nat} {ys : List Value} (h : Grew w w' base e v k ys) : ∃ A c, v = .slice A k c ∧ k ≤ c ∧ c ≤ maxLen ∧ Rd w' w'.heap.size e A ys := own_slice h.1
section
variable {P : Program} (w : World)
theorem run_app_none (base : Nat) (t ty e : TypeId) (i : TypeInfo) (size : Nat) (ht : P.underlying t = some (.slice e)) (hi : P.info? e = some i)
    (v : Value) (n c : Nat) (xs : List Value) (hown : w.ownsRow base e size v n xs) :
    (Builtin.append_ #[t, t] ty #[v, .slice none 0 c]).run P w = .ok v w := by
  rcases hown.2 with ⟨rfl, rfl⟩ | ⟨g, cap, cur, rfl, _, _, hnc, _⟩
  · simp [Builtin.append_, run_underlying ht, sizeOf, typeInfo, hi, Builtin.lenOf, Builtin.firstCells]
  · simp [Builtin.append_, run_underlying ht, sizeOf, typeInfo, hi, Builtin.lenOf, Builtin.firstCells, hnc, storeCells]
theorem run_appX (base : Nat) (t ty e : TypeId) (z : Value) (bytes : Nat) (ht : P.underlying t = some (.slice e)) (hinfo : (P.info? e).map (fun i => (i.zero, i.size, i.bytes)) = some (some z, 1, bytes)) (hzs : z.cells.size = 1)
    (v : Value) (n : Nat) (xs : List Value) (hown : w.ownsRow base e 1 v n xs)
    (B : Nat) (A : Option Addr) (m c : Nat) (news : List Value) (hl : news.length = m) (hrd : Rd w B e A news) (h1 : ∀ u ∈ news, u.oneCell' = true)
    (h63 : n + m ≤ 1000000) (hbytes : bytes ≤ 1000) (hbase : base ≤ w.heap.size) :
    ∃ v' w', (Builtin.append_ #[t, t] ty #[v, .slice A m c]).run P w = .ok v' w' ∧ Grew w w' base e v' (n + m) (xs ++ news) := by
  obtain ⟨i, hi, hz, hsize, hby⟩ := info_parts hinfo
  cases A with
  | none =>
    have hn : news = [] := by
      cases news with
      | nil => rfl
      | cons u r =>
        obtain ⟨_, _, e, _⟩ := hrd (by simp)
        cases e
    subst hn
    have hm : m = 0 := by simpa using hl.symm
    subst hm
    exact ⟨v, w, run_app_none w base t ty e i 1 ht hi v n c xs hown, by simpa using hown, fun _ _ _ _ h _ => h, Below.refl _ _⟩
  | some a =>
    have hnews : ∀ j u, news[j]? = some u → w.cell? (a.add j) = some u := by
      intro j u hu
      obtain ⟨b, off, e, _, _, hc⟩ := hrd (by rintro rfl; simp at hu)
      injection e with e; subst e
      have e2 : (⟨b, off, none⟩ : Addr).add j = ⟨b, off + j, none⟩ := by unfold Addr.add; split <;> simp_all
      rw [e2]
      exact hc j u hu
    obtain ⟨v', w', hrun, h2, h3, _, h4⟩ := run_append_own_at (P := P) w base t ty e i z 1 bytes ht hi hz hsize hby hzs (by decide) v n xs hown a m c news (by omega) hnews h1 (by unfold maxLen; omega)
      (by have := Nat.mul_le_mul h63 hbytes; omega) hbase
    refine ⟨v', w', hrun, h2, fun X t cs fz hX hne => (h3.block X (Array.getElem?_eq_some_iff.1 hX).1 (fun e' => own_any_ne hown hX hne e'.symm)).trans hX, (Below.refl base w).grown h3 hbase (fun k hk => ?_)⟩
    rcases hown.2 with ⟨rfl, _⟩ | ⟨g', c', cur, rfl, hb, _⟩
    · simp [Value.ownBlock] at hk
    · simp [Value.ownBlock] at hk; omega
theorem wp_appX {o : Oper} {a : Act} {K : Act → World → Prop} {Q : Exit → Act → World → Prop} (s x : Operand) (t : TypeId)
    (ho : o.op = .call { callee := .builtin .append, args := #[s, x], argTypes := #[t, t] })
    (base : Nat) (e : TypeId) (z : Value) (bytes : Nat) (ht : P.underlying t = some (.slice e)) (hinfo : (P.info? e).map (fun i => (i.zero, i.size, i.bytes)) = some (some z, 1, bytes)) (hzs : z.cells.size = 1)
    (v : Value) (n : Nat) (xs : List Value) (hs : a.eval s = v) (hown : w.ownsRow base e 1 v n xs)
    (B : Nat) (A : Option Addr) (m c : Nat) (news : List Value) (hx : a.eval x = .slice A m c) (hl : news.length = m) (hrd : Rd w B e A news) (h1 : ∀ u ∈ news, u.oneCell' = true)
    (h63 : n + m ≤ 1000000) (hbytes : bytes ≤ 1000) (hbase : base ≤ w.heap.size)
    (h : ∀ A' cap' w', Grew w w' base e (.slice A' (n + m) cap') (n + m) (xs ++ news) → K (a.put o.dst (.slice A' (n + m) cap')) w') : o.wp P a w K Q := by
  obtain ⟨v', w', hrun, hG⟩ := run_appX (P := P) w base t o.type e z bytes ht hinfo hzs v n xs hown B A m c news hl hrd h1 h63 hbytes hbase
  obtain ⟨A', cap', rfl, _⟩ := hG.slice
  unfold Oper.wp execOp
  simp only [ho, resolve, invoke, builtin, Sem.run_bind, Sem.run_pure, Result.andThen_ok, List.map_toArray, List.map_cons, List.map_nil, hs, hx, hrun]
  exact h A' cap' w' hG
theorem wpList_appX {ops : Array Oper} {rest : List Oper} {o : Oper} {a : Act} {Q : Exit → Act → World → Prop} (hgd : o.guard = none) (s x : Operand) (t : TypeId)
    (ho : o.op = .call { callee := .builtin .append, args := #[s, x], argTypes := #[t, t] })
    (base : Nat) (e : TypeId) (z : Value) (bytes : Nat) (ht : P.underlying t = some (.slice e)) (hinfo : (P.info? e).map (fun i => (i.zero, i.size, i.bytes)) = some (some z, 1, bytes)) (hzs : z.cells.size = 1)
    (v : Value) (n : Nat) (xs : List Value) (hs : a.eval s = v) (hown : w.ownsRow base e 1 v n xs)
    (B : Nat) (A : Option Addr) (m c : Nat) (news : List Value) (hx : a.eval x = .slice A m c) (hl : news.length = m) (hrd : Rd w B e A news) (h1 : ∀ u ∈ news, u.oneCell' = true)
    (h63 : n + m ≤ 1000000) (hbytes : bytes ≤ 1000) (hbase : base ≤ w.heap.size)
    (h : ∀ A' cap' w', Grew w w' base e (.slice A' (n + m) cap') (n + m) (xs ++ news) → wpList P ops Q rest (a.put o.dst (.slice A' (n + m) cap')) w') : wpList P ops Q (o :: rest) a w :=
  wpList_plain hgd fun _ hK => wp_appX w s x t ho base e z bytes ht hinfo hzs v n xs hs hown B A m c news hx hl hrd h1 h63 hbytes hbase (fun A' cap' w' hG => hK _ _ (h A' cap' w' hG))
theorem step_appX {ops : Array Oper} {o : Oper} {a : Act} {K : Act → World → Prop} {Q : Exit → Act → World → Prop} {E : Prop} (hgd : o.guard = none) (s x : Operand) (t : TypeId)
    (ho : o.op = .call { callee := .builtin .append, args := #[s, x], argTypes := #[t, t] })
    (base : Nat) (e : TypeId) (z : Value) (bytes : Nat) (ht : P.underlying t = some (.slice e)) (hinfo : (P.info? e).map (fun i => (i.zero, i.size, i.bytes)) = some (some z, 1, bytes)) (hzs : z.cells.size = 1)
    (v : Value) (n : Nat) (xs : List Value) (hs : a.eval s = v) (hown : w.ownsRow base e 1 v n xs)
    (B : Nat) (A : Option Addr) (m c : Nat) (news : List Value) (hx : a.eval x = .slice A m c) (hl : news.length = m) (hrd : Rd w B e A news) (h1 : ∀ u ∈ news, u.oneCell' = true)
    (h63 : n + m ≤ 1000000) (hbytes : bytes ≤ 1000) (hbase : base ≤ w.heap.size)
    (h : ∀ A' cap' w', Grew w w' base e (.slice A' (n + m) cap') (n + m) (xs ++ news) → K (a.put o.dst (.slice A' (n + m) cap')) w') :
    if Region.wanted o (yielded ops a.tmps) = true then Oper.wp P o a w K Q else E := by
  have hw : Region.wanted o (yielded ops a.tmps) = true := by simp [Region.wanted, hgd]
  rw [if_pos hw]
  exact wp_appX w s x t ho base e z bytes ht hinfo hzs v n xs hs hown B A m c news hx hl hrd h1 h63 hbytes hbase h
end
theorem ints_one {ds : List Nat} : ∀ u ∈ ints ds, u.oneCell' = true := by
  intro u hu; simp only [ints, List.mem_map] at hu; obtain ⟨d, _, rfl⟩ := hu; simp [Value.oneCell']
end Go.Proofs.YtcclclginhhlaaaDoor
