/- Package code: a reader: fail, next, mask, OK, Left, Done. -/
import Derived.Test.YtlhkjmckigblpaaGreatDoorCe
namespace Go.Proofs.YtlhkjmckigblpaaGreatDoor
open Go.RowKit Cp
open Go
attribute [local go_sem] Oper.semAt_some

/-- A reader at block p: what it has left (in a block below B), and whether it failed. -/
def Rdr (p B : Nat) (rest : List UInt8) (f : Bool) (w : World) : Prop :=
  ∃ A c, Blk w p 74 #[.slice A rest.length c, .bool f] ∧ rest.length ≤ c ∧ c ≤ maxLen ∧ Rd w B 5 A (Lib.byteCells rest) ∧ B ≤ w.heap.size
theorem grown_trans {a b c : World} {p : Nat} (h : a.grownBy b (some p)) (k : b.grownBy c (some p)) : a.grownBy c (some p) :=
  ⟨k.os.trans h.os, k.tape.trans h.tape, k.output.trans h.output, Nat.le_trans h.size k.size, fun j hj hk => (k.block j (Nat.lt_of_lt_of_le hj h.size) hk).trans (h.block j hj hk)⟩
theorem grown_refl (w : World) (p : Nat) : w.grownBy w (some p) := ⟨rfl, rfl, rfl, Nat.le_refl _, fun _ _ _ => rfl⟩
theorem grown_alloc {a b : World} {p : Nat} (h : a.grownBy b (some p)) (o : Obj) : a.grownBy (b.alloc o) (some p) :=
  grown_trans h ⟨rfl, rfl, rfl, by simp, fun j hj _ => Below.heap_alloc b o j hj⟩
theorem grown_set {a b : World} {p : Nat} (h : a.grownBy b (some p)) (i : Nat) (u : Value) : a.grownBy (b.setCell ⟨p, i, none⟩ u) (some p) :=
  grown_trans h ⟨rfl, rfl, rfl, by simp [World.setCell], fun j _ hk => Below.heap_setCell b ⟨p, i, none⟩ u j (fun e => hk (by rw [e]))⟩
theorem grown_below {w w' : World} {p B : Nat} (h : w.grownBy w' (some p)) (hB : B ≤ p) (hw : B ≤ w.heap.size) : Below B w w' := (Below.refl B w).grown h hw (fun k hk => by injection hk with hk; omega)
theorem Rdr.lt {p B : Nat} {rest : List UInt8} {f : Bool} {w : World} (h : Rdr p B rest f w) : p < w.heap.size := by
  obtain ⟨A, c, h1, _⟩ := h
  exact h1.lt
theorem Rdr.alloc {p B : Nat} {rest : List UInt8} {f : Bool} {w : World} (h : Rdr p B rest f w) (o : Obj) : Rdr p B rest f (w.alloc o) := by
  obtain ⟨A, c, h1, h2, h3, h4, h5⟩ := h
  exact ⟨A, c, h1.alloc o, h2, h3, h4.alloc h5 o, by simp; omega⟩
theorem Rdr.under {p B : Nat} {rest : List UInt8} {f : Bool} {w w' : World} (h : Rdr p B rest f w) (hb : Below w.heap.size w w') : Rdr p B rest f w' := by
  have hlt := h.lt
  obtain ⟨A, c, h1, h2, h3, h4, h5⟩ := h
  exact ⟨A, c, h1.below hb hlt, h2, h3, h4.below (hb.mono h5), Nat.le_trans h5 hb.size⟩
theorem Rdr.more {p B B' : Nat} {rest : List UInt8} {f : Bool} {w : World} (h : Rdr p B rest f w) (hB : B ≤ B') (hw : B' ≤ w.heap.size) : Rdr p B' rest f w := by
  obtain ⟨A, c, h1, h2, h3, h4, h5⟩ := h
  exact ⟨A, c, h1, h2, h3, h4.more hB, hw⟩
theorem Rdr.apped {p B base n g cap : Nat} {rest : List UInt8} {f : Bool} {w w' : World} {xs : List Value} (h : Rdr p B rest f w) (hA : Apped w w' base 5 n g cap xs) (hB : B ≤ base) : Rdr p B rest f w' := by
  obtain ⟨A, c, h1, h2, h3, h4, h5⟩ := h
  exact ⟨A, c, hA.blk h1 (by decide), h2, h3, h4.below (hA.2.2.mono hB), Nat.le_trans h5 hA.2.2.size⟩
theorem Rdr.make {w : World} {p B c : Nat} {A : Option Addr} {rest rest' : List UInt8} {f f' : Bool} {A' : Option Addr} {c' : Nat} (h : Blk w p 74 #[.slice A rest.length c, .bool f]) (hr : Rd w B 5 A' (Lib.byteCells rest')) (h1 : rest'.length ≤ c') (h2 : c' ≤ maxLen) (hB : B ≤ w.heap.size) :
    Rdr p B rest' f' ((w.setCell ⟨p, 0, none⟩ (.slice A' rest'.length c')).setCell ⟨p, 1, none⟩ (.bool f')) := by
  refine ⟨A', c', h.store2, h1, h2, ?_, by simpa [World.setCell] using hB⟩
  have e1 := hr.far (p := ⟨p, 0, none⟩) h (by decide) (.slice A' rest'.length c')
  exact e1.far (p := ⟨p, 1, none⟩) (h.set_ 0 _) (by decide) (.bool f')
theorem Rdr.put {w : World} {p B c : Nat} {A : Option Addr} {rest rest' : List UInt8} {f : Bool} {A' : Option Addr} {c' : Nat} (h : Blk w p 74 #[.slice A rest.length c, .bool f]) (hr : Rd w B 5 A' (Lib.byteCells rest')) (h1 : rest'.length ≤ c') (h2 : c' ≤ maxLen) (hB : B ≤ w.heap.size) :
    Rdr p B rest' f (w.setCell ⟨p, 0, none⟩ (.slice A' rest'.length c')) := by
  refine ⟨A', c', by simpa using h.set_ 0 (.slice A' rest'.length c'), h1, h2, ?_, by simpa [World.setCell] using hB⟩
  exact hr.far (p := ⟨p, 0, none⟩) h (by decide) (.slice A' rest'.length c')
theorem grown_of_below {w wr w3 : World} {p : Nat} (h : w.grownBy wr (some p)) (hb : Below w.heap.size wr w3) : w.grownBy w3 (some p) :=
  ⟨hb.os.trans h.os, hb.tape.trans h.tape, hb.output.trans h.output, Nat.le_trans h.size hb.size, fun j hj hk => (hb.block j hj).trans (h.block j hj hk)⟩

/-- What a call of a reader answers. -/
def Reads (p B : Nat) (w : World) (v : Value) (rest : List UInt8) (f : Bool) (e : Ending) (w' : World) : Prop := e = .returned v ∧ Rdr p B rest f w' ∧ w.grownBy w' (some p)

set_option maxRecDepth 100000 in
set_option maxHeartbeats 2000000 in
theorem fail_c (p B : Nat) (rest : List UInt8) (f : Bool) (w : World) (h : Rdr p B rest f w) :
    Calls Tryz.prog 85 #[.pointer (some ⟨p, 0, none⟩)] w fun e w' => Reads p B w (.tuple #[]) [] true e w' := by
  obtain ⟨A, c, h1, h2, h3, h4, h5⟩ := h
  have c0 := h1.cell0; have c1 := h1.cell1
  have f0 := h1.frozen 0; have f1 := h1.frozen 1
  have HX := Lib.hid h1
  clear h1 h4
  go_enter Tryz.func85, Tryz.ntmps85
  go_wp2_with fail
  refine bodyPost_end (results_none rfl _ _ _) rfl ?_
  exact ⟨rfl, Rdr.make HX.out Rd.nil_ (Nat.le_refl _) (by decide) h5, grown_set (grown_set (grown_refl w p) 0 _) 1 _⟩

set_option maxRecDepth 100000 in
set_option maxHeartbeats 2000000 in
theorem ok_c (p B : Nat) (rest : List UInt8) (f : Bool) (w : World) (h : Rdr p B rest f w) :
    Calls Tryz.prog 24 #[.pointer (some ⟨p, 0, none⟩)] w fun e w' => e = .returned (.bool (!f)) ∧ w = w' := by
  obtain ⟨A, c, h1, h2, h3, h4, h5⟩ := h
  have c0 := h1.cell0; have c1 := h1.cell1
  clear h1 h4
  go_enter Tryz.func24, Tryz.ntmps24
  go_wp2_with fail
  go_ret
  exact ⟨rfl, rfl⟩

set_option maxRecDepth 100000 in
set_option maxHeartbeats 2000000 in
theorem left_c (p B : Nat) (rest : List UInt8) (f : Bool) (w : World) (h : Rdr p B rest f w) :
    Calls Tryz.prog 15 #[.pointer (some ⟨p, 0, none⟩)] w fun e w' => e = .returned (.int .i64 (rest.length : Int)) ∧ w = w' := by
  obtain ⟨A, c, h1, h2, h3, h4, h5⟩ := h
  have c0 := h1.cell0; have c1 := h1.cell1
  clear h1 h4
  go_enter Tryz.func15, Tryz.ntmps15
  go_wp2_with fail
  go_ret
  exact ⟨rfl, rfl⟩

set_option maxRecDepth 100000 in
set_option maxHeartbeats 2000000 in
theorem done_c (p B : Nat) (rest : List UInt8) (f : Bool) (w : World) (h : Rdr p B rest f w) :
    Calls Tryz.prog 16 #[.pointer (some ⟨p, 0, none⟩)] w fun e w' => e = .returned (.bool (!f && decide (rest.length = 0))) ∧ w = w' := by
  have HO := Lib.hid (ok_c p B rest f w h)
  have HL := Lib.hid (left_c p B rest f w h)
  clear h
  cases f
  · obtain ⟨n, hn⟩ : ∃ n, rest.length = n := ⟨_, rfl⟩
    rw [hn] at HL ⊢
    clear hn
    go_enter Tryz.func16, Tryz.ntmps16
    go_wp2_with fail
    refine HO.out.mono ?_
    rintro e w1 ⟨rfl, rfl⟩
    go_wp2_with fail
    refine HL.out.mono ?_
    rintro e w1 ⟨rfl, rfl⟩
    by_cases h0 : n = 0
    · subst h0
      go_wp2_with fail
      go_ret
      exact ⟨rfl, rfl⟩
    · have h0z : ¬ (n : Int) = 0 := by omega
      go_wp2_with fail
      go_ret
      exact ⟨by simp [h0], rfl⟩
  · go_enter Tryz.func16, Tryz.ntmps16
    go_wp2_with fail
    refine HO.out.mono ?_
    rintro e w1 ⟨rfl, rfl⟩
    go_wp2_with fail
    go_ret
    exact ⟨rfl, rfl⟩
end Go.Proofs.YtlhkjmckigblpaaGreatDoor
