/- Package code: a reader: own bytes. -/
import Derived.Test.YtlhkjmckigblpaaGreatDoorCg
import Derived.Test.YtlhkjmckigblpaaGreatDoorUa
namespace Go.Proofs.YtlhkjmckigblpaaGreatDoor
open Go.RowKit Cp
open Go
attribute [local go_sem] Oper.semAt_some

theorem pow_le8 {k : Nat} (h : k ≤ 7) : (256 : Nat) ^ k ≤ 72057594037927936 := by
  have := Nat.pow_le_pow_right (n := 256) (by decide) h
  have h7 : (256 : Nat) ^ 7 = 72057594037927936 := by decide +kernel
  omega
theorem or_of (a z : Nat) (ha : a < 72057594037927936) (hz : z < 256) : bits BinOp.or IntKind.u64 ((a : Int) * 256) (z : Int) = ((a * 256 + z : Nat) : Int) := by
  have e1 : (BitVec.ofInt 64 ((a : Int) * 256)).toNat = a * 256 := by rw [BitVec.toNat_ofInt]; omega
  have e2 : (BitVec.ofInt 64 (z : Int)).toNat = z := by rw [BitVec.toNat_ofInt]; omega
  have e3 : a * 256 ||| z = a * 256 + z := by
    have := Nat.shiftLeft_add_eq_or_of_lt (i := 8) (b := z) (by omega) a
    rw [Nat.shiftLeft_eq] at this
    exact this.symm
  show IntKind.u64.wrap (((BitVec.ofInt 64 ((a : Int) * 256) ||| BitVec.ofInt 64 (z : Int)).toNat : Nat) : Int) = _
  rw [BitVec.toNat_or, e1, e2, e3]
  exact IntWalk.u64_in _ (by omega)
set_option maxRecDepth 100000 in
set_option maxHeartbeats 4000000 in
/-- So many bytes are there, and the first one is none that could be left out. -/
theorem own_ok (p B k : Nat) (m : UInt8) (hm : Msk m) (r : List UInt8) (f : Bool) (w : World) (hk : k ≤ 8) (hkr : k ≤ r.length) (h0 : 0 < k → HeadNot m r) (h : Rdr p B r f w) :
    Calls Tryz.prog 83 #[.pointer (some ⟨p, 0, none⟩), .int .i64 (k : Int), .int .u8 (m.toNat : Int)] w fun e w' => Reads p B w (.int .u64 (vbe (xm m (r.take k)) : Int)) (r.drop k) f e w' := by
  have H := Lib.hid h
  have HG0 := Lib.hid (grown_refl w p)
  obtain ⟨A, c, h1, h2, h3, h4, h5⟩ := h
  have c0 := h1.cell0
  have hrm : r.length ≤ maxLen := Nat.le_trans h2 h3
  have hmax : maxLen = 9223372036854775807 := rfl
  obtain ⟨n, hn⟩ : ∃ n, r.length = n := ⟨_, rfl⟩
  rw [hn] at c0 h2 hkr hrm
  have HN := Lib.hid hn
  by_cases hk0 : k = 0
  · have hkz : ¬ (0 : Int) < (k : Int) := by omega
    have hk8 : ¬ (8 : Int) < (k : Int) := by omega
    have hkn : ¬ (n : Int) < (k : Int) := by omega
    have HK0 := Lib.hid hk0
    clear h1 h4 h0 hn hrm hk0
    go_enter Tryz.func83, Tryz.ntmps83
    go_wp2_with fail
    go_loopg [7, 36] (k + 1) (fun gg s7 s36 wr => ∃ j : Nat, j ≤ k ∧ gg = k + 1 - j ∧ s36 = .int .i64 (j : Int) ∧ s7 = .int .u64 (vbe (xm m (r.take j)) : Int) ∧ Rdr p B (r.drop j) f wr ∧ w.grownBy wr (some p))
    case atStart => exact ⟨0, Nat.zero_le _, by omega, rfl, rfl, H.out, HG0.out⟩
    case round =>
      clear H HG0
      obtain ⟨j, hj, hg, rfl, rfl, hr, hgr⟩ := hrel
      have HG := Lib.hid hg; have HR := Lib.hid hr; have HGR := Lib.hid hgr
      clear hg hr hgr
      by_cases hjk : j < k
      · exfalso; have := HK0.out; omega
      · have hjz : ¬ (j : Int) < (k : Int) := by omega
        obtain rfl : j = k := by omega
        go_wp2_with fail
        go_ret
        exact ⟨rfl, HR.out, HGR.out⟩
  · cases r with
    | nil => simp at hn; omega
    | cons x r =>
    have hxm : x ≠ m := h0 (by omega)
    obtain ⟨b, off, rfl, hb, hc⟩ := h4.at_ (k := 0) (by simp [Lib.byteCells])
    simp only [Nat.add_zero] at hc
    have hcx : w.cell? ⟨b, off, none⟩ = some (.int .u8 (x.toNat : Int)) := by rw [hc]; simp [Lib.byteCells]
    have hxz : ((x.toNat : Int) == (m.toNat : Int)) = false := by
      rw [beq_eq_false_iff_ne]; intro e; exact hxm (UInt8.toNat_inj.1 (by omega))
    have hkp : (0 : Int) < (k : Int) := by omega
    have hk8 : ¬ (8 : Int) < (k : Int) := by omega
    have hkn : ¬ (n : Int) < (k : Int) := by omega
    have hn0 : 0 < n := by omega
    clear h1 h4 h0 hn hc hxm hrm
    go_enter Tryz.func83, Tryz.ntmps83
    go_wp2_with fail
    go_loopg [7, 36] (k + 1) (fun gg s7 s36 wr => ∃ j : Nat, j ≤ k ∧ gg = k + 1 - j ∧ s36 = .int .i64 (j : Int) ∧ s7 = .int .u64 (vbe (xm m ((x :: r).take j)) : Int) ∧ Rdr p B ((x :: r).drop j) f wr ∧ w.grownBy wr (some p))
    case atStart => exact ⟨0, Nat.zero_le _, by omega, rfl, rfl, H.out, HG0.out⟩
    case round =>
      clear H HG0
      obtain ⟨j, hj, hg, rfl, rfl, hr, hgr⟩ := hrel
      have HG := Lib.hid hg; have HR := Lib.hid hr; have HGR := Lib.hid hgr
      clear hg hr hgr
      by_cases hjk : j < k
      · have hjz : (j : Int) < (k : Int) := by omega
        have hjl : j < (x :: r).length := by rw [HN.out]; omega
        have hd : (x :: r).drop j = (x :: r)[j] :: (x :: r).drop (j + 1) := List.drop_eq_getElem_cons hjl
        have htk := xm_take m (x :: r) hjl
        have hvs := vbe_snoc (xm m ((x :: r).take j)) ((x :: r)[j] ^^^ m)
        rw [← htk] at hvs
        have hlt := vbe_lt (xm m ((x :: r).take j))
        have hxl : (xm m ((x :: r).take j)).length ≤ 7 := by simp [xm]; omega
        have hp7 := pow_le8 hxl
        rw [hd] at HR
        generalize (x :: r)[j] = y at HR hvs
        have HNX := Lib.hid (next_cons p B m hm y ((x :: r).drop (j + 1)) f wr HR.out)
        have hyl := (y ^^^ m).toNat_lt
        obtain ⟨a, ha⟩ : ∃ a, vbe (xm m ((x :: r).take j)) = a := ⟨_, rfl⟩
        rw [ha] at hvs hlt ⊢
        obtain ⟨z, hz⟩ : ∃ z, (y ^^^ m).toNat = z := ⟨_, rfl⟩
        rw [hz] at hvs hyl HNX
        have hal : a < 72057594037927936 := by omega
        have HVS := Lib.hid hvs; have HOR := Lib.hid (or_of a z hal hyl)
        clear hvs hlt hxl hp7 hd htk ha hz hjl
        go_wp2_with fail
        refine HNX.out.mono ?_
        rintro e w2 ⟨rfl, hr2, hg2⟩
        have HR2 := Lib.hid hr2; have HG2 := Lib.hid (grown_trans HGR.out hg2)
        clear hr2 hg2
        go_wp2_with fail
        rw [HOR.out]
        go_roundg (k + 1 - (j + 1))
        case measure => have := HG.out; omega
        case rel => exact ⟨j + 1, by omega, rfl, by go_num, by rw [HVS.out], HR2.out, HG2.out⟩
      · have hjz : ¬ (j : Int) < (k : Int) := by omega
        obtain rfl : j = k := by omega
        go_wp2_with fail
        go_ret
        exact ⟨rfl, HR.out, HGR.out⟩
end Go.Proofs.YtlhkjmckigblpaaGreatDoor
