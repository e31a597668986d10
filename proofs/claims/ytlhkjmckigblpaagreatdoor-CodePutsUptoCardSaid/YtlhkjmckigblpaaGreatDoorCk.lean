/- Package code: the calls of a reader that tell what is there. -/
import Derived.Test.YtlhkjmckigblpaaGreatDoorCj
namespace Go.Proofs.YtlhkjmckigblpaaGreatDoor
open Go.RowKit Cp
open Go
attribute [local go_sem] Oper.semAt_some

theorem grown_from_alloc {w w' : World} {o : Obj} {p : Nat} (h : (w.alloc o).grownBy w' (some p)) : w.grownBy w' (some p) :=
  grown_trans (grown_alloc (grown_refl w p) o) h

set_option maxRecDepth 100000 in
set_option maxHeartbeats 2000000 in
theorem unless_count (p B : Nat) (q : Nat) (rest rest' : List UInt8) (v : Value) (w : World) (h : Rdr p B rest false w)
    (hc : Calls Tryz.prog 58 #[.pointer (some ⟨p, 0, none⟩), .pointer (some ⟨q, 0, none⟩)] w fun e w' => Reads p B w v rest' false e w') :
    Calls Tryz.prog 57 #[.pointer (some ⟨p, 0, none⟩), .func (.func 58) #[] #[.pointer (some ⟨q, 0, none⟩)]] w fun e w' => Reads p B w v rest' false e w' := by
  have HO := Lib.hid (ok_c p B rest false w h); have HC := Lib.hid hc
  clear h hc
  go_enter Tryz.func57, Tryz.ntmps57
  go_wp2_with fail
  refine HO.out.mono ?_
  rintro e w0 ⟨rfl, rfl⟩
  go_wp2_with fail
  refine HC.out.mono ?_
  rintro e w1 ⟨rfl, hr, hg⟩
  have HR := Lib.hid hr; have HG := Lib.hid hg
  have HO2 := Lib.hid (ok_c p B rest' false w1 hr)
  clear hr hg
  go_wp2_with fail
  refine HO2.out.mono ?_
  rintro e w2 ⟨rfl, rfl⟩
  go_wp2_with fail
  go_ret
  exact ⟨rfl, HR.out, HG.out⟩

set_option maxRecDepth 100000 in
set_option maxHeartbeats 2000000 in
theorem unless_num (p B : Nat) (rest rest' : List UInt8) (v : Value) (w : World) (h : Rdr p B rest false w)
    (hc : Calls Tryz.prog 48 #[.pointer (some ⟨p, 0, none⟩)] w fun e w' => Reads p B w v rest' false e w') :
    Calls Tryz.prog 47 #[.pointer (some ⟨p, 0, none⟩), .func (.func 48) #[] #[]] w fun e w' => Reads p B w v rest' false e w' := by
  have HO := Lib.hid (ok_c p B rest false w h); have HC := Lib.hid hc
  clear h hc
  go_enter Tryz.func47, Tryz.ntmps47
  go_wp2_with fail
  refine HO.out.mono ?_
  rintro e w0 ⟨rfl, rfl⟩
  go_wp2_with fail
  refine HC.out.mono ?_
  rintro e w1 ⟨rfl, hr, hg⟩
  have HR := Lib.hid hr; have HG := Lib.hid hg
  have HO2 := Lib.hid (ok_c p B rest' false w1 hr)
  clear hr hg
  go_wp2_with fail
  refine HO2.out.mono ?_
  rintro e w2 ⟨rfl, rfl⟩
  go_wp2_with fail
  go_ret
  exact ⟨rfl, HR.out, HG.out⟩

set_option maxRecDepth 100000 in
set_option maxHeartbeats 2000000 in
theorem unless_str (p B : Nat) (q : Nat) (rest rest' : List UInt8) (v : Value) (w : World) (h : Rdr p B rest false w)
    (hc : Calls Tryz.prog 50 #[.pointer (some ⟨p, 0, none⟩), .pointer (some ⟨q, 0, none⟩)] w fun e w' => Reads p B w v rest' false e w') :
    Calls Tryz.prog 49 #[.pointer (some ⟨p, 0, none⟩), .func (.func 50) #[] #[.pointer (some ⟨q, 0, none⟩)]] w fun e w' => Reads p B w v rest' false e w' := by
  have HO := Lib.hid (ok_c p B rest false w h); have HC := Lib.hid hc
  clear h hc
  go_enter Tryz.func49, Tryz.ntmps49
  go_wp2_with fail
  refine HO.out.mono ?_
  rintro e w0 ⟨rfl, rfl⟩
  go_wp2_with fail
  refine HC.out.mono ?_
  rintro e w1 ⟨rfl, hr, hg⟩
  have HR := Lib.hid hr; have HG := Lib.hid hg
  have HO2 := Lib.hid (ok_c p B rest' false w1 hr)
  clear hr hg
  go_wp2_with fail
  refine HO2.out.mono ?_
  rintro e w2 ⟨rfl, rfl⟩
  go_wp2_with fail
  go_ret
  exact ⟨rfl, HR.out, HG.out⟩

set_option maxRecDepth 100000 in
set_option maxHeartbeats 2000000 in
theorem unless_flag (p B : Nat) (rest rest' : List UInt8) (v : Value) (w : World) (h : Rdr p B rest false w)
    (hc : Calls Tryz.prog 61 #[.pointer (some ⟨p, 0, none⟩)] w fun e w' => Reads p B w v rest' false e w') :
    Calls Tryz.prog 60 #[.pointer (some ⟨p, 0, none⟩), .func (.func 61) #[] #[]] w fun e w' => Reads p B w v rest' false e w' := by
  have HO := Lib.hid (ok_c p B rest false w h); have HC := Lib.hid hc
  clear h hc
  go_enter Tryz.func60, Tryz.ntmps60
  go_wp2_with fail
  refine HO.out.mono ?_
  rintro e w0 ⟨rfl, rfl⟩
  go_wp2_with fail
  refine HC.out.mono ?_
  rintro e w1 ⟨rfl, hr, hg⟩
  have HR := Lib.hid hr; have HG := Lib.hid hg
  have HO2 := Lib.hid (ok_c p B rest' false w1 hr)
  clear hr hg
  go_wp2_with fail
  refine HO2.out.mono ?_
  rintro e w2 ⟨rfl, rfl⟩
  go_wp2_with fail
  go_ret
  exact ⟨rfl, HR.out, HG.out⟩

set_option maxRecDepth 100000 in
set_option maxHeartbeats 2000000 in
theorem count1_c (p B q : Nat) (most : Int) (rest' : List UInt8) (v : Value) (w : World) (hq : w.cell? ⟨q, 0, none⟩ = some (.int .i64 most))
    (hc : Calls Tryz.prog 59 #[.pointer (some ⟨p, 0, none⟩), .int .i64 most, .int .u8 0] w fun e w' => Reads p B w v rest' false e w') :
    Calls Tryz.prog 58 #[.pointer (some ⟨p, 0, none⟩), .pointer (some ⟨q, 0, none⟩)] w fun e w' => Reads p B w v rest' false e w' := by
  have HC := Lib.hid hc
  clear hc
  go_enter Tryz.func58, Tryz.ntmps58
  go_wp2_with fail
  refine HC.out.mono ?_
  rintro e w1 ⟨rfl, hr, hg⟩
  have HR := Lib.hid hr; have HG := Lib.hid hg
  clear hr hg
  go_wp2_with fail
  go_ret
  exact ⟨rfl, HR.out, HG.out⟩

set_option maxRecDepth 100000 in
set_option maxHeartbeats 2000000 in
theorem countP_c (p B : Nat) (most : Int) (rest rest' : List UInt8) (v : Value) (w : World) (h : Rdr p B rest false w)
    (hc : ∀ W, Rdr p B rest false W → Calls Tryz.prog 59 #[.pointer (some ⟨p, 0, none⟩), .int .i64 most, .int .u8 0] W fun e w' => Reads p B W v rest' false e w') :
    Calls Tryz.prog 25 #[.pointer (some ⟨p, 0, none⟩), .int .i64 most] w fun e w' => Reads p B w v rest' false e w' := by
  have hr1 := h.alloc (.cells #[.int .i64 most] 3)
  have hq : (w.alloc (.cells #[.int .i64 most] 3)).cell? ⟨w.heap.size, 0, none⟩ = some (.int .i64 most) := by simp [World.cell?_alloc_new]
  have HU := Lib.hid (unless_count p B w.heap.size rest rest' v _ hr1 (count1_c p B w.heap.size most rest' v _ hq (hc _ hr1)))
  clear hq hr1 hc h
  go_enter Tryz.func25, Tryz.ntmps25
  go_wp2_with fail
  refine HU.out.mono ?_
  rintro e w1 ⟨rfl, hr, hg⟩
  have HR := Lib.hid hr; have HG := Lib.hid (grown_from_alloc hg)
  clear hr hg
  go_wp2_with fail
  go_ret
  exact ⟨rfl, HR.out, HG.out⟩

set_option maxRecDepth 100000 in
set_option maxHeartbeats 2000000 in
theorem str1_c (p B q : Nat) (most : Int) (rest' : List UInt8) (v : Value) (w : World) (hq : w.cell? ⟨q, 0, none⟩ = some (.int .i64 most))
    (hc : Calls Tryz.prog 51 #[.pointer (some ⟨p, 0, none⟩), .int .i64 most] w fun e w' => Reads p B w v rest' false e w') :
    Calls Tryz.prog 50 #[.pointer (some ⟨p, 0, none⟩), .pointer (some ⟨q, 0, none⟩)] w fun e w' => Reads p B w v rest' false e w' := by
  have HC := Lib.hid hc
  clear hc
  go_enter Tryz.func50, Tryz.ntmps50
  go_wp2_with fail
  refine HC.out.mono ?_
  rintro e w1 ⟨rfl, hr, hg⟩
  have HR := Lib.hid hr; have HG := Lib.hid hg
  clear hr hg
  go_wp2_with fail
  go_ret
  exact ⟨rfl, HR.out, HG.out⟩

set_option maxRecDepth 100000 in
set_option maxHeartbeats 2000000 in
theorem strP_c (p B : Nat) (most : Int) (rest rest' : List UInt8) (v : Value) (w : World) (h : Rdr p B rest false w)
    (hc : ∀ W, Rdr p B rest false W → Calls Tryz.prog 51 #[.pointer (some ⟨p, 0, none⟩), .int .i64 most] W fun e w' => Reads p B W v rest' false e w') :
    Calls Tryz.prog 18 #[.pointer (some ⟨p, 0, none⟩), .int .i64 most] w fun e w' => Reads p B w v rest' false e w' := by
  have hr1 := h.alloc (.cells #[.int .i64 most] 3)
  have hq : (w.alloc (.cells #[.int .i64 most] 3)).cell? ⟨w.heap.size, 0, none⟩ = some (.int .i64 most) := by simp [World.cell?_alloc_new]
  have HU := Lib.hid (unless_str p B w.heap.size rest rest' v _ hr1 (str1_c p B w.heap.size most rest' v _ hq (hc _ hr1)))
  clear hq hr1 hc h
  go_enter Tryz.func18, Tryz.ntmps18
  go_wp2_with fail
  refine HU.out.mono ?_
  rintro e w1 ⟨rfl, hr, hg⟩
  have HR := Lib.hid hr; have HG := Lib.hid (grown_from_alloc hg)
  clear hr hg
  go_wp2_with fail
  go_ret
  exact ⟨rfl, HR.out, HG.out⟩

set_option maxRecDepth 100000 in
set_option maxHeartbeats 2000000 in
theorem numP_c (p B : Nat) (rest rest' : List UInt8) (v : Value) (w : World) (h : Rdr p B rest false w)
    (hc : Calls Tryz.prog 48 #[.pointer (some ⟨p, 0, none⟩)] w fun e w' => Reads p B w v rest' false e w') :
    Calls Tryz.prog 17 #[.pointer (some ⟨p, 0, none⟩)] w fun e w' => Reads p B w v rest' false e w' := by
  have HU := Lib.hid (unless_num p B rest rest' v w h hc)
  clear hc h
  go_enter Tryz.func17, Tryz.ntmps17
  go_wp2_with fail
  refine HU.out.mono ?_
  rintro e w1 ⟨rfl, hr, hg⟩
  have HR := Lib.hid hr; have HG := Lib.hid hg
  clear hr hg
  go_wp2_with fail
  go_ret
  exact ⟨rfl, HR.out, HG.out⟩

set_option maxRecDepth 100000 in
set_option maxHeartbeats 2000000 in
theorem flagP_c (p B : Nat) (rest rest' : List UInt8) (v : Value) (w : World) (h : Rdr p B rest false w)
    (hc : Calls Tryz.prog 61 #[.pointer (some ⟨p, 0, none⟩)] w fun e w' => Reads p B w v rest' false e w') :
    Calls Tryz.prog 26 #[.pointer (some ⟨p, 0, none⟩)] w fun e w' => Reads p B w v rest' false e w' := by
  have HU := Lib.hid (unless_flag p B rest rest' v w h hc)
  clear hc h
  go_enter Tryz.func26, Tryz.ntmps26
  go_wp2_with fail
  refine HU.out.mono ?_
  rintro e w1 ⟨rfl, hr, hg⟩
  have HR := Lib.hid hr; have HG := Lib.hid hg
  clear hr hg
  go_wp2_with fail
  go_ret
  exact ⟨rfl, HR.out, HG.out⟩

set_option maxRecDepth 100000 in
set_option maxHeartbeats 2000000 in
theorem newReader_c (l : List UInt8) (v : Value) (w : World) (h : Sees w v l) (hl : l.length ≤ 140000000000000) :
    Calls Tryz.prog 12 #[v] w fun e w' => ∃ p B, e = .returned (.pointer (some ⟨p, 0, none⟩)) ∧ Rdr p B l false w' ∧ w.heap.size ≤ p ∧ Below w.heap.size w w' := by
  have HC := Lib.hid (clone_c l v w h hl)
  clear h
  go_enter Tryz.func12, Tryz.ntmps12
  go_wp2_with fail
  refine HC.out.mono ?_
  rintro e w1 ⟨v1, rfl, hy, hb⟩
  obtain ⟨A, c, rfl, h1, h2, h3⟩ := own_slice hy
  have HY := Lib.hid hy; have HB := Lib.hid hb; have HR := Lib.hid h3
  clear hy hb h3
  go_wp2_with fail
  go_ret
  refine ⟨w1.heap.size, w1.heap.size, rfl, ⟨A, c, Blk.new _ _ _, h1, h2, HR.out.alloc (Nat.le_refl _) _, by simp⟩, HB.out.size, HB.out.alloc HB.out.size _⟩
end Go.Proofs.YtlhkjmckigblpaaGreatDoor
