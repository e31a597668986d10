/- Package lex: the tokens of a text. -/
import Derived.Test.YteppdnlchjpekaaDoorEs
namespace Go.Proofs.YteppdnlchjpekaaDoor
open Go.RowKit Lx
open Go
attribute [local go_sem] Oper.semAt_some

def tcells (l : List T) : List Value := l.flatMap fun t => [.int .i64 t.line, .int .i64 t.col, .int .u8 (t.kind : Int), .string t.text]
theorem tcells_snoc (l : List T) (t : T) : tcells (l ++ [t]) = tcells l ++ [.int .i64 t.line, .int .i64 t.col, .int .u8 (t.kind : Int), .string t.text] := by simp [tcells]
/-- Tokens that a call made from block B on. -/
def OwnT (B : Nat) (l : List T) (w : World) (v : Value) : Prop := w.ownsRow B 44 4 v l.length (tcells l)
theorem OwnT.alloc {B : Nat} {l : List T} {w : World} {v : Value} (h : OwnT B l w v) (o : Obj) : OwnT B l (w.alloc o) v := World.ownsRow.alloc h o
theorem OwnT.under {B : Nat} {l : List T} {w w' : World} {v : Value} (h : OwnT B l w v) (hb : Below w.heap.size w w') : OwnT B l w' v := ownsRow_under h hb
theorem OwnT.grown {B p : Nat} {l : List T} {w w' : World} {v : Value} {cs : Array Value} (h : OwnT B l w v) (hg : w.grownBy w' (some p)) (hX : Blk w p 48 cs) : OwnT B l w' v :=
  World.ownsRow.kept h (row := some p) hg (.inr (own_blk_ne h hX (by decide)))
theorem infoT : (Tryd.prog.info? 44).map (fun i => (i.zero, i.size, i.bytes)) = some (some (.agg #[.int .i64 0, .int .i64 0, .int .u8 0, .string ⟨#[]⟩]), 4, 40) := by kernel_rfl
theorem add0 (g j : Nat) : (⟨g, 0, none⟩ : Addr).add j = ⟨g, j, none⟩ := by unfold Addr.add; split <;> simp_all
theorem wpList_tok (w : World) {ops : Array Oper} {rest : List Oper} {o : Oper} {a : Act} {Q : Exit → Act → World → Prop} (hgd : o.guard = none) (s x : Operand)
    (ho : o.op = .call { callee := .builtin .append, args := #[s, x], argTypes := #[29, 29] })
    (B : Nat) (l : List T) (t : T) (v : Value) (hs : a.eval s = v) (h : OwnT B l w v) (g c : Nat) (hx : a.eval x = .slice (some ⟨g, 0, none⟩) 1 c) (hb : Blk w g 44 #[.int .i64 t.line, .int .i64 t.col, .int .u8 (t.kind : Int), .string t.text])
    (hl : l.length ≤ 100000000) (hB : B ≤ w.heap.size)
    (hK : ∀ v' w', OwnT B (l ++ [t]) w' v' → w.grownBy w' v.ownBlock → (v'.ownBlock = v.ownBlock ∨ v'.ownBlock = some w.heap.size) → wpList Tryd.prog ops Q rest (a.put o.dst v') w') : wpList Tryd.prog ops Q (o :: rest) a w := by
  obtain ⟨i0, hi, hz0, hz1, hz2⟩ := info_parts infoT
  refine wpList_plain hgd fun K' hK' => wp_append_own w s x 29 ho B 44 i0 _ 4 40 Tryd.underlying29 hi hz0 hz1 hz2 rfl (by decide) v l.length (tcells l) hs h ⟨g, 0, none⟩ 1 c [.int .i64 t.line, .int .i64 t.col, .int .u8 (t.kind : Int), .string t.text] hx rfl (fun j u hj => ?_) (fun u hu => ?_) (by unfold maxLen; omega) (by omega) hB ?_
  · have hc := hb.cell j
    rw [add0, hc]
    match j, hj with
    | 0, hj => simpa using hj
    | 1, hj => simpa using hj
    | 2, hj => simpa using hj
    | 3, hj => simpa using hj
  · simp at hu
    rcases hu with rfl | rfl | rfl | rfl <;> rfl
  · intro v' w' h2 h3 h4
    refine hK' _ _ (hK v' w' ?_ h3 h4)
    unfold OwnT
    rw [tcells_snoc, List.length_append]
    exact h2
theorem WM.grown {w w' : World} {b p : Nat} {ks : List (List UInt8)} {t : TypeId} {cs : Array Value} (h : WM w b ks) (hg : w.grownBy w' (some p)) (hX : Blk w p t cs) : WM w' b ks :=
  World.ownsMap.kept h hg (by
    intro e
    injection e with e
    subst e
    obtain ⟨es, clock, hb, _⟩ := h
    unfold Blk at hX
    rw [hX] at hb
    cases hb)
theorem ne_some {a b : Nat} (h : a ≠ b) : some a ≠ some b := fun e => h (Option.some.inj e)
theorem FS.grown {W W' : World} {g p1 p2 p3 b p : Nat} {cs : Array Value} (h : FS W g p1 p2 p3 b) (hg : W.grownBy W' (some p)) (hX : Blk W p 48 cs) : FS W' g p1 p2 p3 b :=
  ⟨h.1.grown hg (ne_some (Blk.ne_ h.1 hX (by decide))), ⟨h.2.1.1.grown hg (ne_some (Blk.ne_ h.2.1.1 hX (by decide))), h.2.1.2.1.grown hg (ne_some (Blk.ne_ h.2.1.2.1 hX (by decide))), h.2.1.2.2.grown hg hX⟩, h.2.2.grown hg (ne_some (Blk.ne_ h.2.2 hX (by decide)))⟩
theorem MaxAt.grown {W W' : World} {p : Nat} (h : MaxAt W) (hg : W.grownBy W' (some p)) (hp : 0 ≠ p) : MaxAt W' := by
  obtain ⟨m, h⟩ := h
  refine ⟨m, ?_⟩
  have hlt : 0 < W.heap.size := by
    rcases Nat.lt_or_ge 0 W.heap.size with h' | h'
    · exact h'
    · simp [World.cell?, Array.getElem?_eq_none h'] at h
  rw [World.cell?_of_block (a := ⟨0, 0, none⟩) (hg.block _ hlt (ne_some hp))]; exact h

set_option maxRecDepth 100000 in
set_option maxHeartbeats 1000000 in
theorem beginning_c (s : ByteArray) (w : World) : Calls Tryd.prog 16 #[.string s] w fun e w' => e = .returned (.agg #[.int .i64 1, .int .i64 1, .string s]) ∧ Below w.heap.size w w' := by
  go_enter Tryd.func16, Tryd.ntmps16
  go_wp2_with fail
  refine bodyPost_ret (v := .agg #[.int .i64 1, .int .i64 1, .string s]) (by simp [results, Tryd.results16, go_sem]) rfl ⟨rfl, ?_⟩
  repeat (first | exact Below.refl _ _ | refine Below.setCell ?_ (by simp) _ | refine Below.alloc ?_ (by simp) _)
set_option maxRecDepth 100000 in
theorem clone_c (s : ByteArray) (hs : s.size ≤ 1000000) (w : World) : Calls Tryd.prog 20 #[.string s] w fun e w' => e = .returned (.string s) ∧ Below w.heap.size w w' := by
  have HC := Lib.hid (Tryd.stringslite_Clone s w (by omega))
  go_enter Tryd.func20, Tryd.ntmps20
  go_wp2_with fail
  refine HC.out.mono ?_
  rintro e w1 ⟨rfl, hb⟩
  have HB := Lib.hid hb
  clear hb
  go_wp2_with fail
  go_ret
  exact ⟨rfl, HB.out⟩
theorem retT {fn : Func} {p q r : Tmp} (h : fn.results = #[.tmp p, .cell q 24, .tmp r]) {tmps : Array Value} {W : World} {g : Nat} {x y v v' : Value} (hq : tmps.getD q undef = .pointer (some ⟨g, 0, none⟩)) (hp : tmps.getD p undef = v) (hr : tmps.getD r undef = v')
    (hb : Blk W g 24 #[x, y]) : (results fn tmps).run Tryd.prog W = .ok (.tuple #[v, .agg #[x, y], v']) W := by
  have c0 := hb.cell 0
  have c1 := hb.cell 1
  simp at c0 c1
  rw [Array.getD_eq_getD_getElem?] at hp hq hr
  simp [results, h, hp, hq, hr, go_sem, c0, c1]
/-- What Tokens gives. -/
def GivesT (B : Nat) (w : World) (x : List T × (Nat × Nat) × Nat) (e : Ending) (w' : World) : Prop :=
  ∃ v, e = .returned (.tuple #[v, .agg #[.int .i64 (x.2.1.1 : Int), .int .i64 (x.2.1.2 : Int)], .int .i64 (x.2.2 : Int)]) ∧ OwnT B x.1 w' v ∧ Below B w w'
end Go.Proofs.YteppdnlchjpekaaDoor
