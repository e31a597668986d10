/- Package code: a reader: the next byte, what it is combined with. -/
import Derived.Test.YtlhkjmckigblpaaGreatDoorCf
namespace Go.Proofs.YtlhkjmckigblpaaGreatDoor
open Go.RowKit Cp
open Go
attribute [local go_sem] Oper.semAt_some

theorem xor0_fin : ∀ n : Fin 256, bits BinOp.xor IntKind.u8 (n.val : Int) 0 = ((UInt8.ofNat n.val ^^^ 0).toNat : Int) := by decide +kernel
theorem xor0_of (x : UInt8) : bits BinOp.xor IntKind.u8 (x.toNat : Int) 0 = ((x ^^^ 0).toNat : Int) := by
  have := xor0_fin ⟨x.toNat, x.toNat_lt⟩
  simpa using this
/-- What bytes are combined with: nothing, or all ones. -/
def Msk (m : UInt8) : Prop := m = 0 ∨ m = 255
theorem xor_m {m : UInt8} (hm : Msk m) (x : UInt8) : bits BinOp.xor IntKind.u8 (x.toNat : Int) (m.toNat : Int) = ((x ^^^ m).toNat : Int) := by
  rcases hm with rfl | rfl
  · exact xor0_of x
  · exact xor_of x
theorem byteCells_cons (c : UInt8) (l : List UInt8) : Lib.byteCells (c :: l) = .int .u8 (c.toNat : Int) :: Lib.byteCells l := by simp [Lib.byteCells]

set_option maxRecDepth 100000 in
set_option maxHeartbeats 2000000 in
theorem next_nil (p B : Nat) (m : UInt8) (f : Bool) (w : World) (h : Rdr p B [] f w) :
    Calls Tryz.prog 84 #[.pointer (some ⟨p, 0, none⟩), .int .u8 (m.toNat : Int)] w fun e w' => Reads p B w (.int .u8 0) [] true e w' := by
  have HF := Lib.hid (fail_c p B [] f w h)
  obtain ⟨A, c, h1, h2, h3, h4, h5⟩ := h
  have c0 := h1.cell0; have c1 := h1.cell1
  simp only [List.length_nil] at c0
  clear h1 h4
  go_enter Tryz.func84, Tryz.ntmps84
  go_wp2_with fail
  refine HF.out.mono ?_
  rintro e w1 ⟨rfl, hr, hg⟩
  have HR := Lib.hid hr; have HG := Lib.hid hg
  clear hr hg
  go_wp2_with fail
  go_ret
  exact ⟨rfl, HR.out, HG.out⟩

set_option maxRecDepth 100000 in
set_option maxHeartbeats 4000000 in
theorem next_cons (p B : Nat) (m : UInt8) (hm : Msk m) (x : UInt8) (r : List UInt8) (f : Bool) (w : World) (h : Rdr p B (x :: r) f w) :
    Calls Tryz.prog 84 #[.pointer (some ⟨p, 0, none⟩), .int .u8 (m.toNat : Int)] w fun e w' => Reads p B w (.int .u8 ((x ^^^ m).toNat : Int)) r f e w' := by
  obtain ⟨A, c, h1, h2, h3, h4, h5⟩ := h
  obtain ⟨b, off, rfl, hb, hc⟩ := h4.at_ (k := 0) (by simp [Lib.byteCells])
  have hR := h4
  simp only [Nat.add_zero] at hc
  have hcx : w.cell? ⟨b, off, none⟩ = some (.int .u8 (x.toNat : Int)) := by rw [hc]; simp [Lib.byteCells]
  have c0 := h1.cell0; have c1 := h1.cell1; have f0 := h1.frozen 0
  simp only [List.length_cons] at c0 h2
  have hxm := xor_m hm x
  obtain ⟨y, hy⟩ : ∃ y : Int, y = ((x ^^^ m).toNat : Int) := ⟨_, rfl⟩
  rw [← hy] at hxm ⊢
  obtain ⟨n, hn⟩ : ∃ n, r.length = n := ⟨_, rfl⟩
  rw [hn] at c0 h2
  have hn0 : ¬ (n : Int) + 1 = 0 := by omega
  have hmax : maxLen = 9223372036854775807 := rfl
  by_cases hc1 : c = 1
  · subst hc1
    have hr0 : r = [] := List.eq_nil_of_length_eq_zero (by omega)
    have hn1 : n = 0 := by omega
    subst hn1
    have HX := Lib.hid h1; have HR0 := Lib.hid hr0
    clear h1 h4 hR hc hn hy hr0 hn0
    go_enter Tryz.func84, Tryz.ntmps84
    go_wp2_with fail
    go_ret
    refine ⟨rfl, ?_, grown_set (grown_refl w p) 0 _⟩
    rw [HR0.out]
    exact Rdr.put (rest' := []) HX.out Rd.nil_ (by simp) (by decide) h5
  · have hRr : Rd w B 5 (some ⟨b, off + 1, none⟩) (Lib.byteCells r) := fun hne => by
      obtain ⟨b', off', e, hb', hcs, hcl⟩ := hR (by simp [Lib.byteCells])
      injection e with e; injection e with e1 e2
      subst e1; subst e2
      refine ⟨b, off + 1, rfl, hb', hcs, fun j u hj => ?_⟩
      have := hcl (j + 1) u (by rw [byteCells_cons]; simpa using hj)
      rw [← this]; congr 1; simp
    have HX := Lib.hid h1; have HR := Lib.hid hRr; have HN := Lib.hid hn
    clear h1 h4 hR hc hn hy hRr
    go_enter Tryz.func84, Tryz.ntmps84
    go_wp2_with fail
    go_ret
    refine ⟨rfl, ?_, grown_set (grown_refl w p) 0 _⟩
    have := Rdr.put (rest' := r) (c' := c - 1) HX.out HR.out (by rw [HN.out]; omega) (by omega) h5
    rw [HN.out] at this
    exact this

set_option maxRecDepth 100000 in
set_option maxHeartbeats 2000000 in
theorem mask_c (p B : Nat) (r : List UInt8) (f : Bool) (w : World) (h : Rdr p B r f w) :
    Calls Tryz.prog 82 #[.pointer (some ⟨p, 0, none⟩)] w fun e w' => e = .returned (.int .u8 ((match r with | [] => (0 : UInt8) | x :: _ => if x.toNat < 128 then 255 else 0).toNat : Int)) ∧ w = w' := by
  obtain ⟨A, c, h1, h2, h3, h4, h5⟩ := h
  have c0 := h1.cell0
  cases r with
  | nil =>
    simp only [List.length_nil] at c0
    clear h1 h4
    go_enter Tryz.func82, Tryz.ntmps82
    go_wp2_with fail
    go_ret
    exact ⟨rfl, rfl⟩
  | cons x r =>
    obtain ⟨b, off, rfl, hb, hc⟩ := h4.at_ (k := 0) (by simp [Lib.byteCells])
    simp only [Nat.add_zero] at hc
    have hcx : w.cell? ⟨b, off, none⟩ = some (.int .u8 (x.toNat : Int)) := by rw [hc]; simp [Lib.byteCells]
    simp only [List.length_cons] at c0 h2
    generalize r.length = n at c0 h2
    have hn0 : (0 : Int) < (n : Int) + 1 := by omega
    clear h1 h4 hc
    by_cases hx : x.toNat < 128
    · have hxz : (x.toNat : Int) < 128 := by omega
      go_enter Tryz.func82, Tryz.ntmps82
      go_wp2_with fail
      go_ret
      exact ⟨by simp, rfl⟩
    · have hxz : ¬ (x.toNat : Int) < 128 := by omega
      go_enter Tryz.func82, Tryz.ntmps82
      go_wp2_with fail
      go_ret
      exact ⟨by simp, rfl⟩
end Go.Proofs.YtlhkjmckigblpaaGreatDoor
