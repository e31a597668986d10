/- Plain: values as bytes. No program is spoken of. -/
import Derived.Test.YtlhkjmckigblpaaGreatDoorCa
import Derived.Test.YtlhkjmckigblpaaGreatDoorVp
namespace Go.Proofs.YtlhkjmckigblpaaGreatDoor
open Vp
namespace Cp

/-- The bytes of a whole number of any size. -/
def bigB (s : List UInt8) : List UInt8 := if s.head? = some 45 then comp (128 :: (own 0 (s.length - 1) ++ s.tail)) else 128 :: (own 0 s.length ++ s)
mutual
/-- A value's bytes. -/
def encV : V → List UInt8
  | .mk k n s l => UInt8.ofNat k :: (if k = 1 then [if n = 1 then 1 else 0] else if k = 2 then numB n else if k = 3 then bigB s.data.toList else if k = 4 then strB s.data.toList
    else if k = 5 then tupB l else if k = 6 then strB s.data.toList ++ tupB l else [])
/-- A list's bytes. -/
def tupB : List V → List UInt8
  | [] => [0]
  | v :: vs => 1 :: (encV v ++ tupB vs)
end
/-- What stands of a list's bytes when some values are written. -/
def preB : List V → List UInt8
  | [] => []
  | v :: vs => 1 :: (encV v ++ preB vs)
theorem tup_pre : ∀ l : List V, tupB l = preB l ++ [0]
  | [] => by rw [tupB, preB]; rfl
  | v :: vs => by rw [tupB, preB, tup_pre vs]; simp
theorem pre_snoc (v : V) : ∀ l : List V, preB (l ++ [v]) = preB l ++ (1 :: encV v)
  | [] => by rw [List.nil_append, preB, preB, preB]; simp
  | x :: l => by rw [List.cons_append, preB, preB, pre_snoc v l]; simp
theorem pre_take (l : List V) {k : Nat} (hk : k < l.length) : preB (l.take (k + 1)) = preB (l.take k) ++ (1 :: encV l[k]) := by
  rw [List.take_succ_eq_append_getElem hk, pre_snoc]
theorem pre_len_take : ∀ (l : List V) (k : Nat), (preB (l.take k)).length ≤ (preB l).length
  | [], k => by simp
  | v :: vs, 0 => by simp [preB]
  | v :: vs, k + 1 => by
    rw [List.take_succ_cons, preB, preB]
    have := pre_len_take vs k
    simp only [List.length_cons, List.length_append]; omega
theorem enc_eq (k : Nat) (n : Int) (s : ByteArray) (l : List V) : encV (.mk k n s l) = UInt8.ofNat k :: (if k = 1 then [if n = 1 then 1 else 0] else if k = 2 then numB n else if k = 3 then bigB s.data.toList else if k = 4 then strB s.data.toList
    else if k = 5 then tupB l else if k = 6 then strB s.data.toList ++ tupB l else []) := by rw [encV]
end Cp
end Go.Proofs.YtlhkjmckigblpaaGreatDoor
