/- A world in which only some blocks are written. -/
import Derived.Test.YtfhjfhbfgndheaaDoorKb
namespace Go.Proofs.YtfhjfhbfgndheaaDoor
open Go.RowKit
open Go

/-! ### A world in which only some blocks are written -/
structure Keep (F : Nat → Prop) (w w' : World) : Prop where
  os : w'.os = w.os
  tape : w'.tape = w.tape
  output : w'.output = w.output
  size : w.heap.size ≤ w'.heap.size
  block : ∀ b, b < w.heap.size → ¬ F b → w'.heap[b]? = w.heap[b]?
theorem Keep.refl (F : Nat → Prop) (w : World) : Keep F w w := ⟨rfl, rfl, rfl, Nat.le_refl _, fun _ _ _ => rfl⟩
theorem Keep.trans {F F' : Nat → Prop} {a b c : World} (h : Keep F a b) (k : Keep F' b c) (hF : ∀ x, x < a.heap.size → F' x → F x) : Keep F a c :=
  ⟨k.os.trans h.os, k.tape.trans h.tape, k.output.trans h.output, Nat.le_trans h.size k.size, fun x hx hn => (k.block x (Nat.lt_of_lt_of_le hx h.size) fun e => hn (hF x hx e)).trans (h.block x hx hn)⟩
theorem Keep.of_below {B : Nat} {F : Nat → Prop} {w w' : World} (h : Below B w w') (hF : ∀ x, B ≤ x → x < w.heap.size → F x) : Keep F w w' :=
  ⟨h.os, h.tape, h.output, h.size, fun x hx hn => h.block x (by rcases Nat.lt_or_ge x B with h' | h'; exact h'; exact absurd (hF x h' hx) hn)⟩
theorem Keep.of_new {F : Nat → Prop} {w w' : World} (h : Below w.heap.size w w') : Keep F w w' := Keep.of_below h fun x h1 h2 => by omega
theorem Keep.below {B : Nat} {F : Nat → Prop} {w w' : World} (h : Keep F w w') (hF : ∀ x, x < B → ¬ F x) (hB : B ≤ w.heap.size) : Below B w w' :=
  ⟨h.os, h.tape, h.output, h.size, fun x hx => h.block x (by omega) (hF x hx)⟩
theorem Keep.drew {F : Nat → Prop} {w w' : World} (h : Keep F w w') : Keep F w w'.drew := ⟨h.os, h.tape, h.output, h.size, h.block⟩
theorem Keep.grown {F : Nat → Prop} {w w' : World} {row : Option Nat} (h : w.grownBy w' row) (hF : ∀ k, row = some k → F k) : Keep F w w' :=
  ⟨h.os, h.tape, h.output, h.size, fun x hx hn => h.block x hx fun e => hn (hF x e.symm)⟩
theorem Keep.set {F : Nat → Prop} {w w' : World} (h : Keep F w w') (p : Addr) (hp : F p.block) (u : Value) : Keep F w (w'.setCell p u) :=
  ⟨h.os, h.tape, h.output, by have := h.size; simpa [World.setCell] using this, fun x hx hn => (Below.heap_setCell w' p u x fun e => hn (e ▸ hp)).trans (h.block x hx hn)⟩

end Go.Proofs.YtfhjfhbfgndheaaDoor
