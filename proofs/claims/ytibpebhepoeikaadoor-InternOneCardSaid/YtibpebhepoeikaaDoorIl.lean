/- Layer 4's statements: the document's Ints; the values of the example. -/
import Derived.Test.YtibpebhepoeikaaDoorIk
import Derived.Test.YtibpebhepoeikaaDoorQVi
namespace Go.Proofs.YtibpebhepoeikaaDoor
open Go.RowKit Go.Shelf Vp Tx
open Go
attribute [local go_sem] Oper.semAt_some

theorem below_drewN (w : World) (n : Nat) : Below w.heap.size w (w.drewN n) := by
  induction n with
  | zero => exact Below.refl _ _
  | succ n ih => exact ih.drew
def mv (m : UInt8 × Nat) : Value := .tuple #[.int .u8 (m.1.toNat : Int), .int .i64 (m.2 : Int)]
set_option maxRecDepth 100000 in
set_option maxHeartbeats 2000000 in
theorem ints_c (a b : List Int) (A B : Option Addr) (c d : Nat) (w : World) (ha : IRep w w.heap.size a A c) (hb : IRep w w.heap.size b B d) :
    Calls Tryd.prog 20 #[.slice A a.length c, .slice B b.length d] w fun e w' => TellsIf (a = b) e ∧ Below w.heap.size w w' := by
  have hmax : maxLen = 9223372036854775807 := rfl
  have h1 := ha.1; have h2 := ha.2.1; have h3 := hb.1; have h4 := hb.2.1
  have HA := Lib.hid ha; have HB := Lib.hid hb
  clear ha hb
  by_cases hlen : a.length = b.length
  · rw [hlen]
    go_enter Tryd.func20, Tryd.ntmps20
    go_wp2_with fail
    go_loopg [5] (b.length + 1) (fun gg s6 wr => ∃ (kk : Nat), kk ≤ b.length ∧ gg = b.length + 1 - kk ∧ s6 = .int .i64 (kk : Int) ∧ Below w.heap.size w wr ∧ ∀ j (hj : j < a.length) (hj2 : j < b.length), j < kk → a[j] = b[j])
    case atStart => exact ⟨0, Nat.zero_le _, by omega, rfl, Below.refl _ w, fun j _ _ hj => absurd hj (Nat.not_lt_zero _)⟩
    case round =>
      obtain ⟨kk, hkk, hg, rfl, hB, hE⟩ := hrel
      have HBL := Lib.hid hB; have HG := Lib.hid hg; have HE := Lib.hid hE
      clear hB hg hE
      by_cases hlt : kk < b.length
      · have hltz : (kk : Int) < (b.length : Int) := by omega
        have hlta : kk < a.length := by omega
        obtain ⟨g, off, rfl, hgb, ca⟩ := (HA.out.keep HBL.out).2.2.2 kk hlta
        obtain ⟨g', off', rfl, hgb', cb⟩ := (HB.out.keep HBL.out).2.2.2 kk hlt
        obtain ⟨x, hx⟩ : ∃ x, x = a[kk] := ⟨_, rfl⟩
        obtain ⟨y, hy⟩ : ∃ y, y = b[kk] := ⟨_, rfl⟩
        rw [← hx] at ca
        rw [← hy] at cb
        have HX := Lib.hid hx; have HY := Lib.hid hy
        clear hx hy
        by_cases hxy : x = y
        · have HXY := Lib.hid hxy
          clear hgb hgb'
          go_upto_region 6 with fail
          go_quiet (fail)
          go_wp2_with fail
          go_roundg (b.length + 1 - (kk + 1))
          case measure => have := HG.out; omega
          case rel =>
            refine ⟨kk + 1, by omega, rfl, by go_num, HBL.out.trans ((below_drewN wr _).mono HBL.out.size), fun j hj hj2 hjk => ?_⟩
            by_cases e : j = kk
            · subst e; rw [← HX.out, ← HY.out]; exact HXY.out
            · exact HE.out j hj hj2 (by omega)
        · have HXY := Lib.hid hxy
          clear hgb hgb'
          go_upto_region 6 with fail
          go_quiet (fail)
          go_wp2_with fail
          go_ret
          refine ⟨⟨false, rfl, ?_⟩, HBL.out.trans ((below_drewN wr _).mono HBL.out.size)⟩
          have hne : a ≠ b := fun e => HXY.out (by rw [HX.out, HY.out]; subst e; rfl)
          simp [hne]
      · have hltz : ¬ (kk : Int) < (b.length : Int) := by omega
        obtain rfl : kk = b.length := by omega
        go_wp2_with fail
        go_ret
        refine ⟨⟨true, rfl, ?_⟩, HBL.out⟩
        simp only [true_iff]
        exact List.ext_getElem hlen fun j g1 g2 => HE.out j g1 g2 g2
  · have hz : ¬ (a.length : Int) = (b.length : Int) := by omega
    go_enter Tryd.func20, Tryd.ntmps20
    go_wp2_with fail
    go_ret
    refine ⟨⟨false, rfl, ?_⟩, Below.refl _ _⟩
    have hne : a ≠ b := fun e => hlen (by rw [e])
    simp [hne]

/-! ### The example -/
def v5 : V := .mk 2 5 ⟨#[]⟩ []
def va : V := .mk 4 0 ⟨#[97]⟩ []
def vy : V := .mk 1 1 ⟨#[]⟩ []
def u5 : Value := .agg #[.int .u8 2, .int .i64 5, .string ⟨#[]⟩, .slice none 0 0]
def ua : Value := .agg #[.int .u8 4, .int .i64 0, .string ⟨#[97]⟩, .slice none 0 0]
def uy : Value := .agg #[.int .u8 1, .int .i64 1, .string ⟨#[]⟩, .slice none 0 0]
theorem ck5 : chkV v5 = 0 := by kernel_rfl
theorem cka : chkV va = 0 := by kernel_rfl
theorem cky : chkV vy = 0 := by kernel_rfl
theorem ex_put1 : putN [] v5 = 0 ∧ putL [] v5 = [v5] := ⟨by kernel_rfl, by kernel_rfl⟩
theorem ex_put2 : putN [v5] va = 1 ∧ putL [v5] va = [v5, va] := ⟨by kernel_rfl, by kernel_rfl⟩
theorem ex_put3 : putN [v5, va] v5 = 0 ∧ putL [v5, va] v5 = [v5, va] := ⟨by kernel_rfl, by kernel_rfl⟩
theorem ex_puts : putsL [v5, va] [va, vy, v5] = [v5, va, vy] := by kernel_rfl
theorem ex_nums : numAt [v5, va] [va, vy, v5] 0 (by decide) = 1 ∧ numAt [v5, va] [va, vy, v5] 1 (by decide) = 2 ∧ numAt [v5, va] [va, vy, v5] 2 (by decide) = 0 := ⟨by kernel_rfl, by kernel_rfl, by kernel_rfl⟩
theorem sl5 : slim v5 := by unfold slim; kernel_rfl
theorem sla : slim va := by unfold slim; kernel_rfl
theorem sly : slim vy := by unfold slim; kernel_rfl
theorem ex_err : errL [va, vy, v5] = 0 := by kernel_rfl
theorem ex_at2 : atN [v5, va, vy] 2 = some vy := by kernel_rfl
theorem ex_at3 : atN [v5, va, vy] 3 = none := by kernel_rfl
theorem ex_tx : ∀ t ∈ [v5, va, vy], (txtV t).length ≤ 900000000 := by
  have h5 : txtV v5 = [53] := by kernel_rfl
  have ha : txtV va = [34, 97, 34] := by kernel_rfl
  have hy : txtV vy = [116, 114, 117, 101] := by kernel_rfl
  intro t ht
  simp at ht
  rcases ht with rfl | rfl | rfl
  · rw [h5]; decide
  · rw [ha]; decide
  · rw [hy]; decide
theorem lies5 (S : Nat → Prop) (w : World) : Lies S w v5 u5 := Lies.of_row (by decide) (by decide) (by decide) (RLies.nil (by decide))
theorem liesa (S : Nat → Prop) (w : World) : Lies S w va ua := Lies.of_row (by decide) (by decide) (by decide) (RLies.nil (by decide))
theorem liesy (S : Nat → Prop) (w : World) : Lies S w vy uy := Lies.of_row (by decide) (by decide) (by decide) (RLies.nil (by decide))
end Go.Proofs.YtibpebhepoeikaaDoor
