/- Slices of bytes that the document's own reading of a text in quotes makes; the marks, one at a time. -/
import Derived.Test.YteppdnlchjpekaaDoorRc
namespace Go.Proofs.YteppdnlchjpekaaDoor
open Go.RowKit Lx
open Go
attribute [local go_sem] Oper.semAt_some

/-- A slice that a call made from block B on: it reads as these bytes. -/
def Bys (B : Nat) (l : List UInt8) (w : World) (v : Value) : Prop := w.ownsRow B 5 1 v l.length (Lib.byteCells l)
theorem infoB : (Tryd.prog.info? 5).map (fun i => (i.zero, i.size, i.bytes)) = some (some (.int .u8 0), 1, 1) := by kernel_rfl
theorem bys_new (w : World) (l : List UInt8) (hl : l.length ≤ 1000) : Bys w.heap.size l (w.alloc (.cells (Lib.byteCells l).toArray 5)) (.slice (some ⟨w.heap.size, 0, none⟩) l.length l.length) :=
  ⟨by simp [Lib.byteCells], .inr ⟨w.heap.size, l.length, (Lib.byteCells l).toArray, rfl, Nat.le_refl _, heap_alloc_new w _, Nat.le_refl _, by unfold maxLen; omega, by simp [Lib.byteCells], List.take_of_length_le (by simp [Lib.byteCells])⟩⟩
theorem bys_put {w' : World} {B : Nat} {l m : List UInt8} {v' : Value} (h : w'.ownsRow B 5 1 v' (l.length + m.length) (Lib.byteCells l ++ Lib.byteCells m)) : Bys B (l ++ m) w' v' := by
  unfold Bys; rw [byteCells_app, List.length_append]; exact h
section
variable (w : World)
theorem wpList_bys {ops : Array Oper} {rest : List Oper} {o : Oper} {a : Act} {Q : Exit → Act → World → Prop} (hgd : o.guard = none) (s x : Operand)
    (ho : o.op = .call { callee := .builtin .append, args := #[s, x], argTypes := #[46, 46] })
    (B : Nat) (l m : List UInt8) (v : Value) (hs : a.eval s = v) (h : Bys B l w v) (g c : Nat) (hx : a.eval x = .slice (some ⟨g, 0, none⟩) m.length c) (hb : Blk w g 5 (Lib.byteCells m).toArray)
    (hl : l.length + m.length ≤ 1000000000) (hB : B ≤ w.heap.size)
    (hK : ∀ v' w', Bys B (l ++ m) w' v' → Below B w w' → wpList Tryd.prog ops Q rest (a.put o.dst v') w') : wpList Tryd.prog ops Q (o :: rest) a w := by
  obtain ⟨i0, hi, hz0, hz1, hz2⟩ := info_parts infoB
  refine wpList_append_own _ hgd s x 46 ho B 5 i0 (.int .u8 0) 1 1 Tryd.underlying46 hi hz0 hz1 hz2 rfl (by decide) v l.length (Lib.byteCells l) hs h ⟨g, 0, none⟩ m.length c (Lib.byteCells m) hx (by simp [Lib.byteCells]) (fun j u hj => ?_) (fun u hu => ?_) (by unfold maxLen; omega) (by omega) hB ?_
  · have := hb.cell j
    rw [List.getElem?_toArray, hj] at this
    rw [add0]; exact this
  · simp [Lib.byteCells] at hu
    obtain ⟨_, _, rfl⟩ := hu
    rfl
  · intro v' w' h2 h3 _
    exact hK v' w' (bys_put h2) ((Below.refl B w).grown h3 hB fun k hk => (World.ownsRow.lt h k hk).1)
theorem step_bys {ops : Array Oper} {o : Oper} {a : Act} {K : Act → World → Prop} {Q : Exit → Act → World → Prop} {E : Prop} (hgd : o.guard = none) (s x : Operand)
    (ho : o.op = .call { callee := .builtin .append, args := #[s, x], argTypes := #[46, 46] })
    (B : Nat) (l m : List UInt8) (v : Value) (hs : a.eval s = v) (h : Bys B l w v) (g c : Nat) (hx : a.eval x = .slice (some ⟨g, 0, none⟩) m.length c) (hb : Blk w g 5 (Lib.byteCells m).toArray)
    (hl : l.length + m.length ≤ 1000000000) (hB : B ≤ w.heap.size)
    (hK : ∀ v' w', Bys B (l ++ m) w' v' → Below B w w' → K (a.put o.dst v') w') : if Region.wanted o (yielded ops a.tmps) = true then Oper.wp Tryd.prog o a w K Q else E := by
  obtain ⟨i0, hi, hz0, hz1, hz2⟩ := info_parts infoB
  refine step_append_own w hgd s x 46 ho B 5 i0 (.int .u8 0) 1 1 Tryd.underlying46 hi hz0 hz1 hz2 rfl (by decide) v l.length (Lib.byteCells l) hs h ⟨g, 0, none⟩ m.length c (Lib.byteCells m) hx (by simp [Lib.byteCells]) (fun j u hj => ?_) (fun u hu => ?_) (by unfold maxLen; omega) (by omega) hB ?_
  · have := hb.cell j
    rw [List.getElem?_toArray, hj] at this
    rw [add0]; exact this
  · simp [Lib.byteCells] at hu
    obtain ⟨_, _, rfl⟩ := hu
    rfl
  · intro v' w' h2 h3 _
    exact hK v' w' (bys_put h2) ((Below.refl B w).grown h3 hB fun k hk => (World.ownsRow.lt h k hk).1)
end
theorem Bys.alloc {B : Nat} {l : List UInt8} {w : World} {v : Value} (h : Bys B l w v) (o : Obj) : Bys B l (w.alloc o) v := World.ownsRow.alloc h o
theorem conv_bys {B : Nat} {l : List UInt8} {w : World} {v : Value} (h : Bys B l w v) : (convert 46 9 v).run Tryd.prog w = .ok (.string ⟨l.toArray⟩) w := by
  rcases h.2 with ⟨rfl, h0⟩ | ⟨g, cap, cur, rfl, _, hg, _, _, _, ht⟩
  · obtain rfl : l = [] := List.eq_nil_of_length_eq_zero h0
    exact run_convert_bytes_nil w 46 5 Tryd.underlying46 Tryd.underlying5 0 0 9 Tryd.underlying9
  · refine run_convert_bytes_back w 46 9 5 ⟨g, 0, none⟩ cap l Tryd.underlying46 Tryd.underlying5 Tryd.underlying9 fun j hj => ?_
    have e : (cur.toList.take (l.length * 1))[j]? = (Lib.byteCells l)[j]? := by rw [ht]
    rw [add0, cell_of_row w g j cur _ _ hg]
    rw [List.getElem?_take_of_lt (by omega)] at e
    rw [← Array.getElem?_toList, e]
    simp [Lib.byteCells, List.getElem?_eq_getElem hj]

theorem bys_shape {B : Nat} {l : List UInt8} {w : World} {v : Value} (h : Bys B l w v) : ∃ A c, v = .slice A l.length c := by
  rcases h.2 with ⟨rfl, h0⟩ | ⟨g, cap, cur, rfl, _⟩
  · obtain rfl : l = [] := List.eq_nil_of_length_eq_zero h0
    exact ⟨none, 0, rfl⟩
  · exact ⟨_, cap, rfl⟩
namespace Lx
theorem q_34 (f : Nat) (t out : List UInt8) (n : Nat) : qGo (f + 1) (34 :: t) out n = some (out, n + 1) := by rw [qGo, if_pos rfl]
theorem q_bad {c : UInt8} {t : List UInt8} (h : c ≠ 34) (hm : (markAt (c :: t)).2 = 0) (f : Nat) (out : List UInt8) (n : Nat) : qGo (f + 1) (c :: t) out n = none := by rw [qGo, if_neg h, if_pos hm]
theorem q_go {c b : UInt8} {t : List UInt8} {m : Nat} (h : c ≠ 34) (hm : markAt (c :: t) = (b, m)) (h0 : m ≠ 0) (f : Nat) (out : List UInt8) (n : Nat) : qGo (f + 1) (c :: t) out n = qGo f ((c :: t).drop m) (out ++ [b]) (n + m) := by rw [qGo, if_neg h, hm, if_neg h0]
theorem m_self {c : UInt8} (t : List UInt8) (h : 32 ≤ c.toNat ∧ c.toNat ≠ 34 ∧ c.toNat ≠ 92 ∧ c.toNat ≠ 127) : markAt (c :: t) = (c, 1) := by unfold markAt; dsimp only; rw [if_pos h]
theorem m_ctl {c : UInt8} (t : List UInt8) (h : c.toNat < 32 ∨ c.toNat = 127) : (markAt (c :: t)).2 = 0 := by
  unfold markAt
  dsimp only
  rw [if_neg (by omega), if_pos (by rintro rfl; revert h; decide)]
theorem m_other {d : UInt8} (t : List UInt8) (h1 : d ≠ 34) (h2 : d ≠ 92) (h3 : d ≠ 110) (h4 : d ≠ 116) (h5 : d ≠ 120) : (markAt (92 :: d :: t)).2 = 0 := by
  unfold markAt
  dsimp only
  rw [if_neg (by decide), if_neg (by decide), if_neg h1, if_neg h2, if_neg h3, if_neg h4, if_pos h5]
theorem m_short (t : List UInt8) (h : t.length < 2) : (markAt (92 :: 120 :: t)).2 = 0 := by
  match t, h with
  | [], _ => rfl
  | [a], _ => rfl
  | a :: b :: t, h => exact absurd h (by simp only [List.length_cons]; omega)
theorem m_x (a b : UInt8) (t : List UInt8) : markAt (92 :: 120 :: a :: b :: t) = if Lib.indexByte hexL a < 0 ∨ Lib.indexByte hexL b < 0 then (0, 0) else (UInt8.ofNat ((Lib.indexByte hexL a).toNat * 16 + (Lib.indexByte hexL b).toNat), 4) := rfl
end Lx
end Go.Proofs.YteppdnlchjpekaaDoor
