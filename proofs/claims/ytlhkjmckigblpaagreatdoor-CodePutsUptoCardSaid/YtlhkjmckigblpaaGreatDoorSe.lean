/- Se: The document's own writers of layer 3: whole numbers of any size. -/
import Derived.Test.YtlhkjmckigblpaaGreatDoorSx
import Derived.Lib.ConvBytes
namespace Go.Proofs.YtlhkjmckigblpaaGreatDoor
open Go.RowKit Cp Rm
open Go
attribute [local go_sem] Oper.semAt_some

theorem tob_c (s : ByteArray) (W : World) : ∃ v W', (convert 9 23 (.string s)).run Tryz.prog W = .ok v W' ∧ Hands W' v s.data.toList ∧ Below W.heap.size W W' := by
  have hsl := size_list s
  refine ⟨_, _, Go.Lib.run_convert_string_bytes (P := Tryz.prog) W 9 23 5 s Tryz.underlying9 Tryz.underlying23 Tryz.underlying5, .inr ⟨⟨W.heap.size, 0, none⟩, grownCap W s.size 0 5, by rw [hsl], fun i hi => ?_, fun _ => ?_⟩, ⟨rfl, rfl, rfl, ?_, fun k hk => Go.Lib.bytesWorld_at_old W 5 s k hk⟩⟩
  · have := Go.Lib.bytesWorld_cell W 5 s i (by omega)
    rw [List.getD_eq_getElem?_getD, List.getElem?_eq_getElem hi] at this
    rw [show (⟨W.heap.size, 0, none⟩ : Addr).add i = ⟨W.heap.size, i, none⟩ by unfold Addr.add; split <;> simp_all]
    exact this
  · rw [Go.Lib.bytesWorld_size]; exact Nat.lt_succ_self _
  · rw [Go.Lib.bytesWorld_size]; exact Nat.le_succ _

set_option maxRecDepth 100000 in
set_option maxHeartbeats 4000000 in
theorem rbig_pos (s : ByteArray) (c : UInt8) (r : List UInt8) (hs : s.data.toList = c :: r) (hc : c ≠ 45) (hz : s.size ≤ 2147483647) (w : World) :
    Calls Tryz.prog 93 #[.string s] w fun e w' => Gives w.heap.size w (128 :: (own 0 s.size ++ s.data.toList)) e w' := by
  have hsl := size_list s
  have hpos : 0 < s.size := by rw [hsl, hs]; simp
  have hget : (s[0].toNat : Int) = (c.toNat : Int) := by
    have : s.data.toList[0]'(by rw [hs]; simp) = s[0] := rfl
    rw [← this]; congr 2; simp only [hs]; rfl
  have hcz : ((c.toNat : Int) == 45) = false := by rw [beq_eq_false_iff_ne]; intro e; exact hc (UInt8.toNat_inj.1 (by simp; omega))
  have hcz2 : ¬ (c.toNat : Int) = 45 := by intro e; exact hc (UInt8.toNat_inj.1 (by simp; omega))
  have hb0 : Below w.heap.size w (w.alloc (.cells #[.int .u8 128] 5)) := (Below.refl _ _).alloc (Nat.le_refl _) _
  have HC := Lib.hid (rcount_c [128] (.slice (some ⟨w.heap.size, 0, none⟩) 1 1) (s.size : Int) (w.alloc (.cells #[.int .u8 128] 5)) (hands_of (one_own w 128)) (by decide))
  have hcn : cntB (s.size : Int) = own 0 s.size := by unfold cntB; rw [if_pos ⟨by omega, by omega⟩, Int.toNat_natCast]
  rw [hcn] at HC
  have HS := Lib.hid hs; have HB0 := Lib.hid hb0
  have hle := own_le (base := 0) (n := s.size) (by omega)
  generalize own 0 s.size = d at HC hle ⊢
  clear hs hc hcn hsl hb0
  go_enter Tryz.func93, Tryz.ntmps93
  go_wp2_with fail
  refine HC.out.mono ?_
  rintro e w1 ⟨v1, rfl, hy1, hb1⟩
  obtain ⟨vc, w2, hcv, hh2, hb2⟩ := tob_c s w1
  have hsz1 : w.heap.size ≤ w1.heap.size := Nat.le_trans HB0.out.size hb1.size
  have HB2 := Lib.hid ((HB0.out.trans (hb1.mono HB0.out.size)).trans (hb2.mono hsz1))
  have HO := Lib.hid (with_c ([128] ++ d) s.data.toList v1 vc w2 ((hands_of hy1).under hb2) hh2 (by simp; omega) (by have := size_list s; omega))
  clear hy1 hb1 hh2 hb2 hsz1
  go_wp2_with fail
  refine HO.out.mono ?_
  rintro e w3 ⟨v3, rfl, hy3, hb3⟩
  have HY3 := Lib.hid (own_low hy3 HB2.out.size); have HB3 := Lib.hid (HB2.out.trans (hb3.mono HB2.out.size))
  clear hy3 hb3 HO
  go_wp2_with fail
  go_ret
  exact Gives.mk_ HY3.out HB3.out

set_option maxRecDepth 100000 in
set_option maxHeartbeats 4000000 in
/-- A whole number's bytes; its text is no sign alone, and holds no second sign. -/
theorem rbig_c (s : ByteArray) (c : UInt8) (r : List UInt8) (hs : s.data.toList = c :: r) (hr : c = 45 → ∃ c' r', r = c' :: r' ∧ c' ≠ 45) (hz : s.size ≤ 2147483647) (w : World) :
    Calls Tryz.prog 93 #[.string s] w fun e w' => Gives w.heap.size w (bigB s.data.toList) e w' := by
  have hsl := size_list s
  by_cases hc : c = 45
  · subst hc
    obtain ⟨c', r', rfl, hc'⟩ := hr rfl
    have hpos1 : 1 < s.size := by rw [hsl, hs]; simp
    have hpos : 0 < s.size := by omega
    have hposz : ¬ (s.size : Int) < 1 := by omega
    have hget : (s[0].toNat : Int) = 45 := by
      have : s.data.toList[0]'(by rw [hs]; simp) = s[0] := rfl
      rw [← this]; simp only [hs]; rfl
    have hx : (s.extract 1 s.size).data.toList = c' :: r' := by
      simp only [ByteArray.data_extract, Array.toList_extract, hs, hsl]
      simp [hs]
    have hxs : (s.extract 1 s.size).size = s.size - 1 := by simp
    have HP := Lib.hid (rbig_pos (s.extract 1 s.size) c' r' hx hc' (by omega) w)
    rw [hx, hxs] at HP
    have hB : bigB s.data.toList = xm 255 (128 :: (own 0 (s.size - 1) ++ (c' :: r'))) := by
      unfold bigB
      rw [hs, if_pos (show (45 :: c' :: r' : List UInt8).head? = some 45 from rfl), comp_xm, hsl, hs]
      rfl
    rw [hB]
    have hle := own_le (base := 0) (n := s.size - 1) (by omega)
    have hrl : (c' :: r').length ≤ 2147483647 := by rw [hsl, hs] at hz; simp at hz ⊢; omega
    have hql : (128 :: (own 0 (s.size - 1) ++ (c' :: r'))).length ≤ 70000000000000 := by rw [List.length_cons, List.length_append]; omega
    generalize 128 :: (own 0 (s.size - 1) ++ (c' :: r')) = q at HP hql ⊢
    have HQL := Lib.hid hql
    clear hql hle hrl hB hx hxs hs hr hc' hsl
    go_enter Tryz.func93, Tryz.ntmps93
    go_wp2_with fail
    refine HP.out.mono ?_
    rintro e w1 ⟨v1, rfl, hy1, hb1⟩
    have HB1 := Lib.hid hb1
    have HT := Lib.hid (turned_c _ q v1 w1 hy1 HQL.out)
    clear hy1 hb1 HP
    go_wp2_with fail
    refine HT.out.mono ?_
    rintro e w2 ⟨v2, rfl, hy2, hb2⟩
    have HB2 := Lib.hid (HB1.out.trans (hb2.mono HB1.out.size)); have HY2 := Lib.hid (own_low hy2 HB1.out.size)
    clear hy2 hb2 HT
    go_wp2_with fail
    go_ret
    exact Gives.mk_ HY2.out HB2.out
  · have hB : bigB s.data.toList = 128 :: (own 0 s.size ++ s.data.toList) := by
      unfold bigB
      rw [hs, if_neg (by simpa using hc), ← hs, hsl]
    rw [hB]
    exact rbig_pos s c r hs hc hz w
end Go.Proofs.YtlhkjmckigblpaaGreatDoor
