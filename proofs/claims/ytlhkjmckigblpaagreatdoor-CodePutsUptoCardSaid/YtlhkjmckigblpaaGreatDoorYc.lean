/- Package code: a whole number of any size is written. -/
import Derived.Test.YtlhkjmckigblpaaGreatDoorYb
namespace Go.Proofs.YtlhkjmckigblpaaGreatDoor
open Go.RowKit Vp Cp
open Go
attribute [local go_sem] Oper.semAt_some

theorem pre_neg {l : List UInt8} (h : l.head? = some 45) : Lib.hasPrefix l [45] = true ∧ Lib.trimPrefix l [45] = l.tail := by
  refine ⟨?_, by rw [trim_mag, Pl.mag, if_pos h]⟩
  cases l with
  | nil => cases h
  | cons c r => simp at h; subst h; rfl
theorem pre_pos {l : List UInt8} (h : ¬ l.head? = some 45) : Lib.hasPrefix l [45] = false ∧ Lib.trimPrefix l [45] = l := by
  refine ⟨?_, by rw [trim_mag, Pl.mag, if_neg h]⟩
  cases l with
  | nil => rfl
  | cons c r =>
    simp at h
    have hc : ¬ (45 : UInt8) = c := fun e => h e.symm
    simp [Lib.hasPrefix, List.isPrefixOf, hc]

set_option maxRecDepth 100000 in
set_option maxHeartbeats 8000000 in
theorem appendBig_c (B : Nat) (l : List UInt8) (v : Value) (k : Nat) (n : Int) (s : ByteArray) (hs : s.size ≤ 2147483647) (A : Option Addr) (N c : Nat) (w : World) (h : Bys B l w v) (hl : l.length ≤ 70000000000000) (hB : B ≤ w.heap.size) :
    Calls Tryz.prog 115 #[.agg #[.int .u8 (k : Int), .int .i64 n, .string s, .slice A N c], v] w fun e w' => Gives B w (l ++ bigB s.data.toList) e w' := by
  obtain ⟨i0, hi, hz0, hz1, hz2⟩ := info_parts infoB
  have hw : Below B w (w.alloc (.cells #[.int .u8 (k : Int), .int .i64 n, .string s, .slice A N c] 79)) := bx_below hB _
  have hcut := Tryz.strings_CutPrefix s ⟨#[45]⟩ (w.alloc (.cells #[.int .u8 (k : Int), .int .i64 n, .string s, .slice A N c] 79))
  rw [show (⟨#[45]⟩ : ByteArray).data.toList = [45] from rfl] at hcut
  obtain ⟨AB, CB, rfl, _, _, _⟩ := own_slice h
  have hyo := h.alloc_ (.cells #[.int .u8 (k : Int), .int .i64 n, .string s, .slice A N c] 79)
  have HH := Lib.hid hyo; have HW := Lib.hid hw
  have hsl := size_list s
  by_cases hneg : s.data.toList.head? = some 45
  · obtain ⟨e1, e2⟩ := pre_neg hneg
    rw [e1, e2] at hcut
    have hbig : bigB s.data.toList = comp (128 :: (own 0 (s.data.toList.length - 1) ++ s.data.toList.tail)) := by unfold bigB; rw [if_pos hneg]
    rw [hbig]
    obtain ⟨D, hD⟩ : ∃ D : ByteArray, D = ⟨s.data.toList.tail.toArray⟩ := ⟨_, rfl⟩
    have hDl : D.data.toList = s.data.toList.tail := by rw [hD]
    have hDs : D.size = s.data.toList.length - 1 := by rw [size_list, hDl, List.length_tail]
    rw [← hD] at hcut
    rw [← hDl, ← hDs]
    obtain ⟨X, hXe⟩ : ∃ X : List UInt8, X = 128 :: (own 0 D.size ++ D.data.toList) := ⟨_, rfl⟩
    rw [← hXe]
    have HXE := Lib.hid hXe
    clear hXe
    have HC := Lib.hid hcut
    have hDm : D.size ≤ 2147483647 := by omega
    clear hcut h hw hyo e1 e2 hbig hD hDl hDs hneg hsl
    go_enter Tryz.func115, Tryz.ntmps115
    go_wp2_with fail
    refine HC.out.mono ?_
    rintro e w1 ⟨rfl, rfl⟩
    go_wp2_with (at_builtin; refine wpList_appB _ rfl (.tmp 16) (.tmp 17) 23 rfl B 5 (.int .u8 0) Tryz.underlying23 infoB rfl _ l.length _ rfl (HH.out.alloc _) (w.heap.size + 1) 1 (.int .u8 128) rfl (by simp) (by simp [Value.oneCell']) (by omega) (by have := HW.out.size; simp; omega) ?_; intro g' cap' w3 hA; have HA := Lib.hid hA; clear hA)
    have hy3 : Bys B (l ++ [128]) w3 (.slice (some ⟨g', 0, none⟩) (l.length + 1) cap') := by
      have := HA.out.1
      unfold Bys
      rw [byteCells_app, List.length_append]
      simpa [Lib.byteCells] using this
    have HB3 := Lib.hid ((HW.out.alloc (Nat.le_trans hB HW.out.size) _).trans HA.out.2.2)
    have HCN := Lib.hid (appendCount_c B (l ++ [128]) _ D.size hDm w3 hy3 (by simp; omega) (Nat.le_trans hB HB3.out.size))
    clear hy3 HA
    refine HCN.out.mono ?_
    rintro e w4 ⟨v4, rfl, hy4, hb4⟩
    have HB4 := Lib.hid (HB3.out.trans hb4); have HY4 := Lib.hid hy4
    have hol : (own 0 D.size).length ≤ 9 := by rw [own_len]; have := osz_le (n := D.size) (by omega); omega
    obtain ⟨q, hq⟩ : ∃ q, (l ++ [128] ++ own 0 D.size).length = q := ⟨_, rfl⟩
    have hq2 : q = l.length + 1 + (own 0 D.size).length := by rw [← hq]; simp; omega
    have HQ := Lib.hid hq
    clear hy4 hb4 hq
    go_wp2_with (at_builtin; refine Lib.wpList_append_own_string _ rfl (.tmp 21) (.tmp 22) 23 9 rfl B 5 i0 Tryz.underlying23 Tryz.underlying9 hi hz0 hz1 hz2 _ _ _ rfl HY4.out D rfl ?c3 ?c4 ?c5 ?_)
    case c3 => rw [HQ.out]; unfold maxLen; omega
    case c4 => rw [HQ.out]; omega
    case c5 => exact Nat.le_trans hB HB4.out.size
    intro v5 w5 hown hgrow _
    have hX : l ++ (128 :: (own 0 D.size ++ D.data.toList)) = l ++ [128] ++ own 0 D.size ++ D.data.toList := by simp
    have hy5 : Bys B (l ++ (128 :: (own 0 D.size ++ D.data.toList))) w5 v5 := by
      rw [hX]
      unfold Bys
      rw [byteCells_app, List.length_append, ← size_list]
      have e : Lib.strCells D = Lib.byteCells D.data.toList := strCells_eq _
      rw [← e]
      simpa [Nat.add_assoc, Nat.add_comm, Nat.add_left_comm] using hown
    have hb5 : Below B w w5 := HB4.out.grown hgrow (Nat.le_trans hB HB4.out.size) fun k hk => (World.ownsRow.lt HY4.out k hk).1
    have hXl : (128 :: (own 0 D.size ++ D.data.toList) : List UInt8).length = 1 + (own 0 D.size).length + D.size := by rw [size_list]; simp; omega
    have hXe := HXE.out
    have hXne : X ≠ [] := by rw [hXe]; simp
    rw [← hXe] at hy5 hXl
    obtain ⟨g, c5, rfl⟩ := hy5.some_ (by intro e; exact hXne (List.append_eq_nil_iff.1 e).2)
    have hcp := complement_c B g c5 l.length (l ++ X) w5 hy5 (by simp) (by simp; omega)
    obtain ⟨_, _, hcap, hcm, _⟩ := hy5.open_.2.2
    have hfin : (l ++ X).take l.length ++ comp ((l ++ X).drop l.length) = l ++ comp X := by simp
    rw [hfin] at hcp
    obtain ⟨M, hM⟩ : ∃ M, (l ++ X).length = M := ⟨_, rfl⟩
    have hM2 : M = l.length + X.length := by rw [← hM, List.length_append]
    rw [hM] at hcp hcap ⊢
    have hpos : 0 < X.length := List.length_pos_iff.2 hXne
    have hle : l.length < M := by omega
    have hcn : ¬ c5 = l.length := by omega
    have hcn2 : l.length < c5 := by omega
    have hlen2 : (l ++ comp X).length = M := by rw [hM2]; simp [comp]
    have HB5 := Lib.hid hb5; have HCP := Lib.hid hcp
    clear hy5 hb5 hcp hfin hM hM2 hX hXl hXe hXne hown hgrow hpos hlen2 HY4 HQ hq2 hol
    go_wp2_with fail
    with_reducible refine HCP.out.mono ?_
    rintro e w6 ⟨rfl, hy6, hb6⟩
    have HY6 := Lib.hid hy6; have HB6 := Lib.hid (HB5.out.trans hb6)
    clear hy6 hb6
    go_wp2_with fail
    go_ret
    exact Gives.mk_ HY6.out HB6.out
  · obtain ⟨e1, e2⟩ := pre_pos hneg
    rw [e1, e2] at hcut
    have hbig : bigB s.data.toList = 128 :: (own 0 s.data.toList.length ++ s.data.toList) := by unfold bigB; rw [if_neg hneg]
    rw [hbig]
    obtain ⟨D, hD⟩ : ∃ D : ByteArray, D = ⟨s.data.toList.toArray⟩ := ⟨_, rfl⟩
    have hDl : D.data.toList = s.data.toList := by rw [hD]
    have hDs : D.size = s.data.toList.length := by rw [size_list, hDl]
    rw [← hD] at hcut
    rw [← hDs, ← hDl]
    obtain ⟨X, hXe⟩ : ∃ X : List UInt8, X = 128 :: (own 0 D.size ++ D.data.toList) := ⟨_, rfl⟩
    rw [← hXe]
    have HXE := Lib.hid hXe
    clear hXe
    have HC := Lib.hid hcut
    have hDm : D.size ≤ 2147483647 := by omega
    clear hcut h hw hyo e1 e2 hbig hD hDl hDs hneg hsl
    go_enter Tryz.func115, Tryz.ntmps115
    go_wp2_with fail
    refine HC.out.mono ?_
    rintro e w1 ⟨rfl, rfl⟩
    go_wp2_with (at_builtin; refine wpList_appB _ rfl (.tmp 16) (.tmp 17) 23 rfl B 5 (.int .u8 0) Tryz.underlying23 infoB rfl _ l.length _ rfl (HH.out.alloc _) (w.heap.size + 1) 1 (.int .u8 128) rfl (by simp) (by simp [Value.oneCell']) (by omega) (by have := HW.out.size; simp; omega) ?_; intro g' cap' w3 hA; have HA := Lib.hid hA; clear hA)
    have hy3 : Bys B (l ++ [128]) w3 (.slice (some ⟨g', 0, none⟩) (l.length + 1) cap') := by
      have := HA.out.1
      unfold Bys
      rw [byteCells_app, List.length_append]
      simpa [Lib.byteCells] using this
    have HB3 := Lib.hid ((HW.out.alloc (Nat.le_trans hB HW.out.size) _).trans HA.out.2.2)
    have HCN := Lib.hid (appendCount_c B (l ++ [128]) _ D.size hDm w3 hy3 (by simp; omega) (Nat.le_trans hB HB3.out.size))
    clear hy3 HA
    refine HCN.out.mono ?_
    rintro e w4 ⟨v4, rfl, hy4, hb4⟩
    have HB4 := Lib.hid (HB3.out.trans hb4); have HY4 := Lib.hid hy4
    have hol : (own 0 D.size).length ≤ 9 := by rw [own_len]; have := osz_le (n := D.size) (by omega); omega
    obtain ⟨q, hq⟩ : ∃ q, (l ++ [128] ++ own 0 D.size).length = q := ⟨_, rfl⟩
    have hq2 : q = l.length + 1 + (own 0 D.size).length := by rw [← hq]; simp; omega
    have HQ := Lib.hid hq
    clear hy4 hb4 hq
    go_wp2_with (at_builtin; refine Lib.wpList_append_own_string _ rfl (.tmp 21) (.tmp 22) 23 9 rfl B 5 i0 Tryz.underlying23 Tryz.underlying9 hi hz0 hz1 hz2 _ _ _ rfl HY4.out D rfl ?c3 ?c4 ?c5 ?_)
    case c3 => rw [HQ.out]; unfold maxLen; omega
    case c4 => rw [HQ.out]; omega
    case c5 => exact Nat.le_trans hB HB4.out.size
    intro v5 w5 hown hgrow _
    have hX : l ++ (128 :: (own 0 D.size ++ D.data.toList)) = l ++ [128] ++ own 0 D.size ++ D.data.toList := by simp
    have hy5 : Bys B (l ++ (128 :: (own 0 D.size ++ D.data.toList))) w5 v5 := by
      rw [hX]
      unfold Bys
      rw [byteCells_app, List.length_append, ← size_list]
      have e : Lib.strCells D = Lib.byteCells D.data.toList := strCells_eq _
      rw [← e]
      simpa [Nat.add_assoc, Nat.add_comm, Nat.add_left_comm] using hown
    have hb5 : Below B w w5 := HB4.out.grown hgrow (Nat.le_trans hB HB4.out.size) fun k hk => (World.ownsRow.lt HY4.out k hk).1
    have hXl : (128 :: (own 0 D.size ++ D.data.toList) : List UInt8).length = 1 + (own 0 D.size).length + D.size := by rw [size_list]; simp; omega
    have hXe := HXE.out
    have hXne : X ≠ [] := by rw [hXe]; simp
    rw [← hXe] at hy5 hXl
    have HB5 := Lib.hid hb5; have HY5 := Lib.hid hy5
    clear hy5 hb5 hX hXl hXe hXne hown hgrow HY4 HQ hq2 hol
    go_wp2_with fail
    go_ret
    exact Gives.mk_ HY5.out HB5.out
end Go.Proofs.YtlhkjmckigblpaaGreatDoor
