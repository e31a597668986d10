/- Package code: a reader: a count, a number, a truth value, a text that are there. -/
import Derived.Test.YtlhkjmckigblpaaGreatDoorCh
namespace Go.Proofs.YtlhkjmckigblpaaGreatDoor
open Go.RowKit Cp
open Go
attribute [local go_sem] Oper.semAt_some

/-- So many own bytes are there behind the first byte, the first of them none that could be left out. -/
def Fits (k : Nat) (m : UInt8) (r : List UInt8) : Prop := k ≤ 8 ∧ k ≤ r.length ∧ (0 < k → HeadNot m r)

set_option maxRecDepth 100000 in
set_option maxHeartbeats 2000000 in
theorem count_ok (p B k n : Nat) (m x : UInt8) (hm : Msk m) (most : Int) (r : List UInt8) (f : Bool) (w : World) (hx : (x ^^^ m).toNat = k) (hf : Fits k m r) (hn : vbe (xm m (r.take k)) = n) (hn1 : n ≤ 2147483647) (hn2 : (n : Int) ≤ most) (h : Rdr p B (x :: r) f w) :
    Calls Tryz.prog 59 #[.pointer (some ⟨p, 0, none⟩), .int .i64 most, .int .u8 (m.toNat : Int)] w fun e w' => Reads p B w (.int .i64 (n : Int)) (r.drop k) f e w' := by
  have HN := Lib.hid (next_cons p B m hm x r f w h)
  rw [hx] at HN
  have HO := Lib.hid fun w1 (h1 : Rdr p B r f w1) => own_ok p B k m hm r f w1 hf.1 hf.2.1 hf.2.2 h1
  rw [hn] at HO
  have hk8 := hf.1
  clear h hf hn hx
  go_enter Tryz.func59, Tryz.ntmps59
  go_wp2_with fail
  refine HN.out.mono ?_
  rintro e w1 ⟨rfl, hr, hg⟩
  have HR := Lib.hid hr; have HG := Lib.hid hg
  clear hr hg
  go_wp2_with fail
  refine (HO.out _ HR.out).mono ?_
  rintro e w2 ⟨rfl, hr, hg⟩
  have HR2 := Lib.hid hr; have HG2 := Lib.hid (grown_trans HG.out hg)
  clear hr hg
  have hlt : ¬ most < (n : Int) := by omega
  go_wp2_with fail
  go_ret
  exact ⟨rfl, HR2.out, HG2.out⟩

set_option maxRecDepth 100000 in
set_option maxHeartbeats 2000000 in
theorem num_ok (p B k n : Nat) (m x : UInt8) (hmx : (x.toNat < 128 ∧ m = 255) ∨ (¬ x.toNat < 128 ∧ m = 0)) (r : List UInt8) (f : Bool) (w : World) (hx : (x ^^^ m).toNat = k + 128) (hf : Fits k m r) (hn : vbe (xm m (r.take k)) = n) (hn1 : n ≤ 9223372036854775807) (h : Rdr p B (x :: r) f w) :
    Calls Tryz.prog 48 #[.pointer (some ⟨p, 0, none⟩)] w fun e w' => Reads p B w (.int .i64 (if x.toNat < 128 then -1 - (n : Int) else (n : Int))) (r.drop k) f e w' := by
  have hm : Msk m := by
    rcases hmx with ⟨_, h⟩ | ⟨_, h⟩
    · exact .inr h
    · exact .inl h
  have hmk := mask_c p B (x :: r) f w h
  have hk8 := hf.1
  have HN := Lib.hid (next_cons p B m hm x r f w h)
  rw [hx] at HN
  have HO := Lib.hid fun w1 (h1 : Rdr p B r f w1) => own_ok p B k m hm r f w1 hf.1 hf.2.1 hf.2.2 h1
  rw [hn] at HO
  rcases hmx with ⟨h1, rfl⟩ | ⟨h1, rfl⟩
  · simp only [if_pos h1] at hmk ⊢
    have HM := Lib.hid hmk
    clear h hf hn hx hmk h1 hm
    go_enter Tryz.func48, Tryz.ntmps48
    go_wp2_with fail
    refine HM.out.mono ?_
    rintro e w0 ⟨rfl, rfl⟩
    go_wp2_with fail
    refine HN.out.mono ?_
    rintro e w1 ⟨rfl, hr, hg⟩
    have HR := Lib.hid hr; have HG := Lib.hid hg
    clear hr hg
    go_wp2_with fail
    refine (HO.out _ HR.out).mono ?_
    rintro e w2 ⟨rfl, hr, hg⟩
    have HR2 := Lib.hid hr; have HG2 := Lib.hid (grown_trans HG.out hg)
    clear hr hg
    go_wp2_with fail
    go_ret
    exact ⟨rfl, HR2.out, HG2.out⟩
  · simp only [if_neg h1] at hmk ⊢
    have HM := Lib.hid hmk
    clear h hf hn hx hmk h1 hm
    go_enter Tryz.func48, Tryz.ntmps48
    go_wp2_with fail
    refine HM.out.mono ?_
    rintro e w0 ⟨rfl, rfl⟩
    go_wp2_with fail
    refine HN.out.mono ?_
    rintro e w1 ⟨rfl, hr, hg⟩
    have HR := Lib.hid hr; have HG := Lib.hid hg
    clear hr hg
    go_wp2_with fail
    refine (HO.out _ HR.out).mono ?_
    rintro e w2 ⟨rfl, hr, hg⟩
    have HR2 := Lib.hid hr; have HG2 := Lib.hid (grown_trans HG.out hg)
    clear hr hg
    go_wp2_with fail
    go_ret
    exact ⟨rfl, HR2.out, HG2.out⟩

set_option maxRecDepth 100000 in
set_option maxHeartbeats 2000000 in
theorem flag_ok (p B : Nat) (t : Bool) (r : List UInt8) (f : Bool) (w : World) (h : Rdr p B ((if t then 1 else 0) :: r) f w) :
    Calls Tryz.prog 61 #[.pointer (some ⟨p, 0, none⟩)] w fun e w' => Reads p B w (.bool t) r f e w' := by
  have hn := next_cons p B 0 (.inl rfl) _ r f w h
  clear h
  cases t
  · have HN := Lib.hid hn
    clear hn
    go_enter Tryz.func61, Tryz.ntmps61
    go_wp2_with fail
    refine HN.out.mono ?_
    rintro e w1 ⟨rfl, hr, hg⟩
    have HR := Lib.hid hr; have HG := Lib.hid hg
    clear hr hg
    go_wp2_with fail
    go_ret
    exact ⟨rfl, HR.out, HG.out⟩
  · have HN := Lib.hid hn
    clear hn
    go_enter Tryz.func61, Tryz.ntmps61
    go_wp2_with fail
    refine HN.out.mono ?_
    rintro e w1 ⟨rfl, hr, hg⟩
    have HR := Lib.hid hr; have HG := Lib.hid hg
    clear hr hg
    go_wp2_with fail
    go_ret
    exact ⟨rfl, HR.out, HG.out⟩
end Go.Proofs.YtlhkjmckigblpaaGreatDoor
