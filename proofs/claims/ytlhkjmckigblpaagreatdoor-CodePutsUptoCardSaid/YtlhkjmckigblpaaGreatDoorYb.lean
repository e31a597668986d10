/- Package code: the writers of a value's kinds but lists. -/
import Derived.Test.YtlhkjmckigblpaaGreatDoorYa
import Derived.Test.YtlhkjmckigblpaaGreatDoorCo
import Derived.Test.YtlhkjmckigblpaaGreatDoorVm
namespace Go.Proofs.YtlhkjmckigblpaaGreatDoor
open Go.RowKit Vp Cp
open Go
attribute [local go_sem] Oper.semAt_some

theorem bx_below {B : Nat} {w : World} (hB : B ≤ w.heap.size) (o : Obj) : Below B w (w.alloc o) := (Below.refl B w).alloc hB o
theorem Bys.alloc_ {B : Nat} {l : List UInt8} {w : World} {v : Value} (h : Bys B l w v) (o : Obj) : Bys B l (w.alloc o) v := h.under ((Below.refl _ _).alloc (Nat.le_refl _) o)
theorem Gives.after {B : Nat} {w w1 : World} {l : List UInt8} (hb : Below B w w1) {e : Ending} {w' : World} (h : Gives B w1 l e w') : Gives B w l e w' := by
  obtain ⟨v, rfl, h1, h2⟩ := h
  exact ⟨v, rfl, h1, hb.trans h2⟩

set_option maxRecDepth 100000 in
set_option maxHeartbeats 2000000 in
theorem appendBool_c (B : Nat) (l : List UInt8) (v : Value) (k : Nat) (n : Int) (s : ByteArray) (A : Option Addr) (N c : Nat) (w : World) (h : Bys B l w v) (hl : l.length ≤ 70000000000000) (hB : B ≤ w.heap.size) :
    Calls Tryz.prog 111 #[.agg #[.int .u8 (k : Int), .int .i64 n, .string s, .slice A N c], v] w fun e w' => Gives B w (l ++ [if n = 1 then 1 else 0]) e w' := by
  have hw : Below B w (w.alloc (.cells #[.int .u8 (k : Int), .int .i64 n, .string s, .slice A N c] 79)) := bx_below hB _
  have hf := fun f : Bool => appendFlag_c B l v f _ (h.alloc_ (.cells #[.int .u8 (k : Int), .int .i64 n, .string s, .slice A N c] 79)) (by omega) (Nat.le_trans hB hw.size)
  have HW := Lib.hid hw
  by_cases hn : n = 1
  · subst hn
    have HF := Lib.hid (hf true)
    clear hf h hw
    go_enter Tryz.func111, Tryz.ntmps111
    go_wp2_with fail
    refine HF.out.mono ?_
    rintro e w1 ⟨v1, rfl, hy, hb⟩
    have HY := Lib.hid hy; have HB := Lib.hid (HW.out.trans hb)
    clear hy hb
    go_wp2_with fail
    go_ret
    exact Gives.mk_ HY.out HB.out
  · have HF := Lib.hid (hf false)
    rw [if_neg hn]
    have hnz : (n == 1) = false := by rw [beq_eq_false_iff_ne]; exact hn
    clear hf h hw
    go_enter Tryz.func111, Tryz.ntmps111
    go_wp2_with fail
    refine HF.out.mono ?_
    rintro e w1 ⟨v1, rfl, hy, hb⟩
    have HY := Lib.hid hy; have HB := Lib.hid (HW.out.trans hb)
    clear hy hb
    go_wp2_with fail
    go_ret
    exact Gives.mk_ HY.out HB.out

set_option maxRecDepth 100000 in
set_option maxHeartbeats 2000000 in
theorem appendInt_c (B : Nat) (l : List UInt8) (v : Value) (k : Nat) (n : Int) (hn : -9223372036854775808 ≤ n ∧ n ≤ 9223372036854775807) (s : ByteArray) (A : Option Addr) (N c : Nat) (w : World) (h : Bys B l w v) (hl : l.length ≤ 70000000000000) (hB : B ≤ w.heap.size) :
    Calls Tryz.prog 113 #[.agg #[.int .u8 (k : Int), .int .i64 n, .string s, .slice A N c], v] w fun e w' => Gives B w (l ++ numB n) e w' := by
  have hw : Below B w (w.alloc (.cells #[.int .u8 (k : Int), .int .i64 n, .string s, .slice A N c] 79)) := bx_below hB _
  have HF := Lib.hid (appendNum_c B l v n hn.1 hn.2 _ (h.alloc_ (.cells #[.int .u8 (k : Int), .int .i64 n, .string s, .slice A N c] 79)) (by omega) (Nat.le_trans hB hw.size))
  have HW := Lib.hid hw
  clear h hw
  go_enter Tryz.func113, Tryz.ntmps113
  go_wp2_with fail
  refine HF.out.mono ?_
  rintro e w1 ⟨v1, rfl, hy, hb⟩
  have HY := Lib.hid hy; have HB := Lib.hid (HW.out.trans hb)
  clear hy hb
  go_wp2_with fail
  go_ret
  exact Gives.mk_ HY.out HB.out

set_option maxRecDepth 100000 in
set_option maxHeartbeats 2000000 in
theorem appendText_c (B : Nat) (l : List UInt8) (v : Value) (k : Nat) (n : Int) (s : ByteArray) (hs : s.size ≤ 4000000000) (A : Option Addr) (N c : Nat) (w : World) (h : Bys B l w v) (hl : l.length ≤ 70000000000000) (hB : B ≤ w.heap.size) (hm : MaxAt w) :
    Calls Tryz.prog 117 #[.agg #[.int .u8 (k : Int), .int .i64 n, .string s, .slice A N c], v] w fun e w' => Gives B w (l ++ strB s.data.toList) e w' := by
  have hw : Below B w (w.alloc (.cells #[.int .u8 (k : Int), .int .i64 n, .string s, .slice A N c] 79)) := bx_below hB _
  have HF := Lib.hid (appendStr_c B l v s hs _ (h.alloc_ (.cells #[.int .u8 (k : Int), .int .i64 n, .string s, .slice A N c] 79)) (by omega) (Nat.le_trans hB hw.size) (hm.under ((Below.refl _ _).alloc (Nat.le_refl _) _)))
  have HW := Lib.hid hw
  clear h hw hm
  go_enter Tryz.func117, Tryz.ntmps117
  go_wp2_with fail
  refine HF.out.mono ?_
  rintro e w1 ⟨v1, rfl, hy, hb⟩
  have HY := Lib.hid hy; have HB := Lib.hid (HW.out.trans hb)
  clear hy hb
  go_wp2_with fail
  go_ret
  exact Gives.mk_ HY.out HB.out
end Go.Proofs.YtlhkjmckigblpaaGreatDoor
