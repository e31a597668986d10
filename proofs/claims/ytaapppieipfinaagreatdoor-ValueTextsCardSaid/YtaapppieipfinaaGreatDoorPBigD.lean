/- The walks over package big: a number of a sign and a magnitude. -/
import Derived.Test.YtaapppieipfinaaGreatDoorPBigC
namespace Go.Proofs.YtaapppieipfinaaGreatDoor
open Go.RowKit
open Pl Dig

theorem ret54 {fn : Func} {p : Tmp} (h : fn.results = #[.cell p 105]) {tmps : Array Value} {W : World} {g : Nat} {x y : Value} (hp : tmps.getD p undef = .pointer (some ⟨g, 0, none⟩))
    (hb : Blk W g 105 #[x, y]) : (results fn tmps).run Tryz.prog W = .ok (.agg #[x, y]) W := by
  have c0 := hb.cell0
  have c1 := hb.cell1
  rw [Array.getD_eq_getD_getElem?] at hp
  simp [results, h, hp, go_sem, c0, c1]
/-- What of a number of package big stands beside its sign. -/
def BigP (w : World) (z : Int) (A : Option Addr) (c : Nat) : Prop := (dg b9 z.natAbs).length ≤ c ∧ c ≤ maxLen ∧ Rd w w.heap.size 129 A (u32s (dg b9 z.natAbs))
/-- The value reads, in the world w, as the number z of package big. -/
def BigIs (w : World) (z : Int) (v : Value) : Prop := ∃ A c, v = .agg #[.bool (decide (z < 0)), .slice A (dg b9 z.natAbs).length c] ∧ BigP w z A c
theorem BigP.below {w w' : World} {z : Int} {A : Option Addr} {c : Nat} (h : BigP w z A c) (hb : Below w.heap.size w w') : BigP w' z A c := ⟨h.1, h.2.1, (h.2.2.below hb).more hb.size⟩
theorem BigP.alloc {w : World} {z : Int} {A : Option Addr} {c : Nat} (h : BigP w z A c) (o : Obj) : BigP (w.alloc o) z A c := h.below ((Below.refl _ _).alloc (Nat.le_refl _) o)
theorem BigP.drew {w : World} {z : Int} {A : Option Addr} {c : Nat} (h : BigP w z A c) : BigP w.drew z A c := h
theorem BigP.far {w : World} {z : Int} {A : Option Addr} {c : Nat} {p : Addr} {t : TypeId} {cs : Array Value} (h : BigP w z A c) (hX : Blk w p.block t cs) (hne : 129 ≠ t) (u : Value) : BigP (w.setCell p u) z A c :=
  ⟨h.1, h.2.1, (h.2.2.far hX hne u).more (by simp [World.setCell])⟩
theorem BigP.store54 {w : World} {z : Int} {A : Option Addr} {c : Nat} {x y x' y' : Value} {g : Nat} (h : BigP w z A c) (hX : Blk w g 105 #[x, y]) : BigP ((w.setCell ⟨g, 0, none⟩ x').setCell ⟨g, 1, none⟩ y') z A c :=
  (h.far (p := ⟨g, 0, none⟩) hX (by decide) _).far (p := ⟨g, 1, none⟩) (hX.set_ 0 _) (by decide) _
theorem BigP.is {w : World} {z : Int} {A : Option Addr} {c : Nat} (h : BigP w z A c) : BigIs w z (.agg #[.bool (decide (z < 0)), .slice A (dg b9 z.natAbs).length c]) := ⟨A, c, rfl, h⟩
theorem BigIs.below {w w' : World} {z : Int} {v : Value} (h : BigIs w z v) (hb : Below w.heap.size w w') : BigIs w' z v := by
  obtain ⟨A, c, rfl, h⟩ := h; exact (h.below hb).is

set_option maxRecDepth 100000 in
theorem signed_any (b : Bool) (A : Option Addr) (n c : Nat) (w : World) :
    Calls Tryz.prog 120 #[.bool b, .slice A n c] w fun e w' => e = .returned (.agg #[.bool (b && decide (0 < n)), .slice A n c]) ∧ Below w.heap.size w w' := by
  cases b with
  | false =>
    go_enter Tryz.func120, Tryz.ntmps120
    go_wp2
    refine bodyPost_ret (ret54 (g := w.heap.size) Tryz.results120 rfl (Blk.new _ _ _)) rfl ⟨by simp, (Below.refl _ _).alloc (Nat.le_refl _) _⟩
  | true =>
    by_cases h : 0 < n
    · have h' : (0 : Int) < (n : Int) := by omega
      have hd : decide (0 < n) = true := by simpa using h
      go_enter Tryz.func120, Tryz.ntmps120
      go_wp2
      refine bodyPost_ret (ret54 (g := w.heap.size) Tryz.results120 rfl (Blk.new _ _ _)) rfl ⟨by simp [hd], (Below.refl _ _).alloc (Nat.le_refl _) _⟩
    · have hd : decide (0 < n) = false := by simpa using h
      have h' : ¬ (0 : Int) < (n : Int) := by omega
      go_enter Tryz.func120, Tryz.ntmps120
      go_wp2
      refine bodyPost_ret (ret54 (g := w.heap.size) Tryz.results120 rfl (Blk.new _ _ _)) rfl ⟨by simp, (Below.refl _ _).alloc (Nat.le_refl _) _⟩

theorem sgn_len (b : Bool) (m : Nat) : decide (sgn b m < 0) = (b && decide (0 < (dg b9 m).length)) := by
  rw [sgn_neg]
  have : (m ≠ 0) ↔ 0 < (dg b9 m).length := by
    rw [List.length_pos_iff, ne_eq, ne_eq, dg_nil b9_two]
  simp [this]
/-- signed: a number of a sign and a magnitude. -/
theorem signed_big (b : Bool) (z : Int) (A : Option Addr) (c : Nat) (w : World) (h : BigP w z A c) :
    Calls Tryz.prog 120 #[.bool b, .slice A (dg b9 z.natAbs).length c] w fun e w' => ∃ v, e = .returned v ∧ BigIs w' (sgn b z.natAbs) v ∧ Below w.heap.size w w' := by
  refine (signed_any b A _ c w).mono ?_
  rintro e w' ⟨rfl, hB⟩
  refine ⟨_, rfl, ⟨A, c, ?_, ?_⟩, hB⟩
  · rw [sgn_abs, sgn_len]
  · have := h.below hB
    unfold BigP at this ⊢
    rwa [sgn_abs]

/-- The digits of a text, as the number that they spell, from place e on. -/
def suf (d : ByteArray) (e : Nat) : Nat := hor 0 (d.data.toList.drop e)
theorem hor_add (l : List UInt8) : ∀ acc, hor acc l = acc * 10 ^ l.length + hor 0 l := by
  induction l with
  | nil => intro acc; rw [hor_nil, hor_nil]; simp
  | cons c r ih =>
    intro acc
    rw [hor_cons, hor_cons, ih, ih (0 * 10 + dig c), List.length_cons, Nat.pow_succ]
    simp only [Nat.zero_mul, Nat.zero_add, Nat.add_mul]
    rw [Nat.mul_assoc, Nat.mul_comm 10, Nat.add_assoc]
theorem hor_append (a b : List UInt8) : hor 0 (a ++ b) = hor 0 a * 10 ^ b.length + hor 0 b := by
  have : hor 0 (a ++ b) = hor (hor 0 a) b := by unfold hor; rw [List.foldl_append]
  rw [this, hor_add]
/-- The number of the bytes from lo to e. -/
def chunk (d : ByteArray) (lo e : Nat) : Nat := hor 0 ((d.data.toList.drop lo).take (e - lo))
theorem suf_step {d : ByteArray} {lo e : Nat} (h1 : lo ≤ e) (_h2 : e ≤ d.size) : suf d lo = chunk d lo e * 10 ^ (d.size - e) + suf d e := by
  unfold suf chunk
  have e1 : d.data.toList.drop lo = (d.data.toList.drop lo).take (e - lo) ++ d.data.toList.drop e := by
    conv => lhs; rw [← List.take_append_drop (e - lo) (d.data.toList.drop lo)]
    rw [List.drop_drop, show lo + (e - lo) = e from by omega]
  rw [e1, hor_append]
  congr 2
  · congr 1; rw [← e1]
  · rw [List.length_drop, ← size_len]
end Go.Proofs.YtaapppieipfinaaGreatDoor
