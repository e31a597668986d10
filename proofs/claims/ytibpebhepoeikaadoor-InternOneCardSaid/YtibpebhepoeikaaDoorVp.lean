/- Plain facts on values: what a value is, which may be, and how two stand. No program is spoken of. -/
import Derived.Lib.Hide
namespace Go.Proofs.YtibpebhepoeikaaDoor
namespace Vp

/-- A value: its kind, its number, its text, its list. -/
inductive V where
  | mk (k : Nat) (n : Int) (s : ByteArray) (l : List V)

def V.kind : V → Nat | .mk k _ _ _ => k
def V.num : V → Int | .mk _ n _ _ => n
def V.txt : V → ByteArray | .mk _ _ s _ => s
def V.lst : V → List V | .mk _ _ _ l => l
instance : Inhabited V := ⟨.mk 0 0 ⟨#[]⟩ []⟩

/-- Is a value nested in more levels than so many? -/
def deeper : Nat → V → Bool
  | 0, _ => true
  | lv + 1, .mk _ _ _ l => l.any (deeper lv)
mutual
/-- Is something true of a value, or of one in it? -/
def some_ (p : V → Bool) : V → Bool
  | .mk k n s l => p (.mk k n s l) || someL p l
def someL (p : V → Bool) : List V → Bool
  | [] => false
  | v :: vs => some_ p v || someL p vs
end
mutual
def depth : V → Nat
  | .mk _ _ _ l => depthL l + 1
def depthL : List V → Nat
  | [] => 0
  | v :: vs => max (depth v) (depthL vs)
end
theorem V.ind {P : V → Prop} (h : ∀ k n s l, (∀ t ∈ l, P t) → P (.mk k n s l)) (t : V) : P t :=
  V.rec (motive_1 := P) (motive_2 := fun l => ∀ t ∈ l, P t) (fun k n s l ih => h k n s l ih) (fun _ ht => absurd ht (by simp))
    (fun v l hv hl t ht => by
      rcases List.mem_cons.1 ht with e | e
      · rw [e]; exact hv
      · exact hl t e) t
theorem someL_any (p : V → Bool) : ∀ l : List V, someL p l = l.any (some_ p)
  | [] => rfl
  | v :: vs => by rw [someL, someL_any p vs]; rfl
theorem some_eq (p : V → Bool) (v : V) : some_ p v = (p v || v.lst.any (some_ p)) := by
  cases v; rw [some_, someL_any]; rfl
mutual
theorem deeper_depth : ∀ (lv : Nat) (v : V), deeper lv v = decide (lv < depth v)
  | 0, .mk k n s l => by simp [deeper, depth]
  | lv + 1, .mk k n s l => by
    rw [deeper, depth, deeper_depthL lv l]
    simp
theorem deeper_depthL : ∀ (lv : Nat) (l : List V), l.any (deeper lv) = decide (lv < depthL l)
  | lv, [] => by simp [depthL]
  | lv, v :: vs => by
    rw [List.any_cons, depthL, deeper_depthL lv vs, deeper_depth lv v]
    by_cases h1 : lv < depth v <;> by_cases h2 : lv < depthL vs <;> simp [h1, h2] <;> omega
end
mutual
theorem some_or (p q : V → Bool) : ∀ v : V, some_ (fun v => p v || q v) v = (some_ p v || some_ q v)
  | .mk k n s l => by
    rw [some_, some_, some_, some_orL p q l]
    cases p (.mk k n s l) <;> cases q (.mk k n s l) <;> cases someL p l <;> cases someL q l <;> rfl
theorem some_orL (p q : V → Bool) : ∀ l : List V, someL (fun v => p v || q v) l = (someL p l || someL q l)
  | [] => rfl
  | v :: vs => by
    rw [someL, someL, someL, some_or p q v, some_orL p q vs]
    cases some_ p v <;> cases some_ q v <;> cases someL p vs <;> cases someL q vs <;> rfl
end

/-! ### Names -/
def small (c : UInt8) : Bool := decide (97 ≤ c.toNat ∧ c.toNat ≤ 122)
def partB (c : UInt8) : Bool := decide (97 ≤ c.toNat ∧ c.toNat ≤ 122 ∨ 65 ≤ c.toNat ∧ c.toNat ≤ 90 ∨ 48 ≤ c.toNat ∧ c.toNat ≤ 57 ∨ c.toNat = 95)
def name (l : List UInt8) : Bool :=
  match l with
  | [] => false
  | c :: _ => decide (l.length ≤ 32) && small c && l.all partB
/-- The text ahead of the first dot, and the one behind it, if there is one. -/
def cut : List UInt8 → Option (List UInt8 × List UInt8)
  | [] => none
  | c :: l => if c = 46 then some ([], l) else (cut l).map fun x => (c :: x.1, x.2)
def tTrue : List UInt8 := [116, 114, 117, 101]
def tFalse : List UInt8 := [102, 97, 108, 115, 101]
def cons (l : List UInt8) : Bool :=
  match cut l with
  | some (m, o) => name m && name o
  | none => name l && decide (l ≠ tTrue) && decide (l ≠ tFalse)

/-! ### Which may be -/
def bad (c : List UInt8 → Int) : V → Bool
  | .mk k n s l =>
    match k with
    | 1 => (decide (n ≠ 0) && decide (n ≠ 1)) || decide (s.size ≠ 0) || !l.isEmpty
    | 2 => decide (s.size ≠ 0) || !l.isEmpty
    | 3 => decide (n ≠ 0) || !l.isEmpty || decide (c s.data.toList = 4)
    | 4 => decide (n ≠ 0) || !l.isEmpty
    | 5 => decide (n ≠ 0) || decide (s.size ≠ 0) || decide (l.length = 1)
    | 6 => decide (n ≠ 0) || !cons s.data.toList
    | _ => true
def long (c : List UInt8 → Int) : V → Bool
  | .mk k _ s l =>
    match k with
    | 3 => decide (c s.data.toList = 80)
    | 4 => decide (4096 < s.size)
    | 5 => decide (16 < l.length)
    | 6 => decide (8 < l.length)
    | _ => false
end Vp
end Go.Proofs.YtibpebhepoeikaaDoor
