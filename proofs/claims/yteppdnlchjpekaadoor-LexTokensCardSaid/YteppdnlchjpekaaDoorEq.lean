/- Package lex: the place in a text. -/
import Derived.Test.YteppdnlchjpekaaDoorEl
import Derived.Lib.LastIndexByte
namespace Go.Proofs.YteppdnlchjpekaaDoor
open Go.RowKit Lx
open Go
attribute [local go_sem] Oper.semAt_some

namespace Lx
/-- A place behind so many bytes more. -/
def adv (p : Nat × Nat) (l : List UInt8) : Nat × Nat := l.foldl (fun p c => if c = 10 then (p.1 + 1, 1) else (p.1, p.2 + 1)) p
theorem adv_app (p : Nat × Nat) (a b : List UInt8) : adv p (a ++ b) = adv (adv p a) b := by simp [adv]
theorem adv_none : ∀ (l : List UInt8) (p : Nat × Nat), (∀ x ∈ l, x ≠ 10) → adv p l = (p.1, p.2 + l.length)
  | [], p, _ => by simp [adv]
  | c :: l, p, h => by
    have := adv_none l (p.1, p.2 + 1) fun x hx => h x (by simp [hx])
    unfold adv at this ⊢
    rw [List.foldl_cons, if_neg (h c (by simp)), this, List.length_cons]
    simp only [Prod.mk.injEq, true_and]; omega
theorem adv_count : ∀ (l : List UInt8) (p : Nat × Nat), (adv p l).1 = p.1 + l.count 10
  | [], p => by simp [adv]
  | c :: l, p => by
    unfold adv
    rw [List.foldl_cons]
    by_cases h : c = 10
    · subst h
      have := adv_count l (p.1 + 1, 1)
      unfold adv at this
      rw [if_pos rfl, this, List.count_cons_self]; omega
    · have := adv_count l (p.1, p.2 + 1)
      unfold adv at this
      rw [if_neg h, this, List.count_cons_of_ne h]
theorem adv_last {l : List UInt8} {i : Nat} (hi : i < l.length) (hc : l[i] = 10) (hn : ∀ j (hj : j < l.length), i < j → l[j] ≠ 10) (p : Nat × Nat) : adv p l = (p.1 + l.count 10, 1 + (l.length - (i + 1))) := by
  have e : l.take (i + 1) ++ l.drop (i + 1) = l := List.take_append_drop _ _
  have h1 := adv_count l p
  have h2 : (adv p (l.take (i + 1) ++ l.drop (i + 1))).2 = 1 + (l.length - (i + 1)) := by
    rw [adv_app, List.take_succ_eq_append_getElem hi, adv_app, hc]
    rw [show adv (adv p (l.take i)) [10] = ((adv p (l.take i)).1 + 1, 1) from rfl, adv_none]
    · simp
    · intro x hx
      obtain ⟨j, hj, rfl⟩ := List.mem_iff_getElem.1 hx
      rw [List.getElem_drop]
      exact hn _ _ (by omega)
  rw [e] at h2
  exact Prod.ext h1 h2
end Lx
theorem last_list (s : ByteArray) : (Lib.lastIndexByte s 10 = -1 ∧ ∀ x ∈ s.data.toList, x ≠ 10) ∨ (∃ (i : Nat) (hi : i < s.data.toList.length), Lib.lastIndexByte s 10 = i ∧ s.data.toList[i] = 10 ∧ ∀ j (hj : j < s.data.toList.length), i < j → s.data.toList[j] ≠ 10) := by
  have key : ∀ (j : Nat) (hj : j < s.data.toList.length), s.data[j]! = s.data.toList[j] := fun j hj => by
    rw [getElem!_pos s.data j (by simpa using hj)]; simp
  rcases Lib.lastIndexByte_spec s 10 with ⟨h1, h2⟩ | ⟨i, h1, h2, h3, h4⟩
  · refine .inl ⟨h1, fun x hx => ?_⟩
    obtain ⟨j, hj, rfl⟩ := List.mem_iff_getElem.1 hx
    intro e
    have := h2 j (by rw [size_list]; exact hj)
    rw [key j hj, e] at this
    exact this rfl
  · have hi : i < s.data.toList.length := by rw [← size_list]; exact h1
    refine .inr ⟨i, hi, h2, ?_, fun j hj hij e => ?_⟩
    · rw [key i hi] at h3
      exact UInt8.toNat_inj.1 (by show s.data.toList[i].toNat = 10; omega)
    · have := h4 j hij (by rw [size_list]; exact hj)
      rw [key j hj, e] at this
      exact this rfl
theorem grown_refl (w : World) (p : Nat) : w.grownBy w (some p) := ⟨rfl, rfl, rfl, Nat.le_refl _, fun _ _ _ => rfl⟩
theorem grown_set {a b : World} {p : Nat} (h : a.grownBy b (some p)) (i : Nat) (u : Value) : a.grownBy (b.setCell ⟨p, i, none⟩ u) (some p) :=
  ⟨h.os, h.tape, h.output, by simpa [World.setCell] using h.size, fun k hk hne => (Below.heap_setCell b ⟨p, i, none⟩ u k (fun e => hne (by rw [e]))).trans (h.block k hk hne)⟩
/-- A place at block p. -/
def Pl (W : World) (p : Nat) (q : Nat × Nat) (rest : List UInt8) : Prop := Blk W p 48 #[.int .i64 (q.1 : Int), .int .i64 (q.2 : Int), .string ⟨rest.toArray⟩]

theorem grown_drew {a b : World} {p : Nat} (h : a.grownBy b (some p)) : a.grownBy b.drew (some p) := ⟨h.os, h.tape, h.output, h.size, h.block⟩
theorem Blk.set3 {w : World} {g : Nat} {t : TypeId} {x y z : Value} (h : Blk w g t #[x, y, z]) : (∀ u, Blk (w.setCell ⟨g, 0, none⟩ u) g t #[u, y, z]) ∧ (∀ u, Blk (w.setCell ⟨g, 1, none⟩ u) g t #[x, u, z]) ∧ (∀ u, Blk (w.setCell ⟨g, 2, none⟩ u) g t #[x, y, u]) :=
  ⟨fun u => h.set_ 0 u, fun u => h.set_ 1 u, fun u => h.set_ 2 u⟩

set_option maxRecDepth 100000 in
set_option maxHeartbeats 1000000 in
theorem move_c (p : Nat) (q : Nat × Nat) (s : ByteArray) (n : Nat) (hn : n ≤ s.size) (hs : s.size ≤ 1000000) (hq : q.1 ≤ 2000000 ∧ q.2 ≤ 2000000) (w : World) (hP : Pl w p q s.data.toList) :
    Calls Tryd.prog 21 #[.pointer (some ⟨p, 0, none⟩), .int .i64 (n : Int)] w fun e w' => e = .returned (.tuple #[]) ∧ Pl w' p (adv q (s.data.toList.take n)) (s.data.toList.drop n) ∧ w.grownBy w' (some p) := by
  have hmax : maxLen = 9223372036854775807 := rfl
  obtain ⟨li, co⟩ := q
  unfold Pl at hP
  rw [← arr_self] at hP
  have y0 := hP.cell 0; have y1 := hP.cell 1; have y2 := hP.cell 2; have z0 := hP.frozen 0; have z1 := hP.frozen 1; have z2 := hP.frozen 2
  simp at y0 y1 y2 hq
  obtain ⟨T, hT⟩ : ∃ T, T = s.extract 0 n := ⟨_, rfl⟩
  have hTl : T.data.toList = s.data.toList.take n := by rw [hT, ex_take]
  obtain ⟨D, hD⟩ : ∃ D, D = s.extract n s.size := ⟨_, rfl⟩
  have hDl : D = ⟨(s.data.toList.drop n).toArray⟩ := by rw [hD, ex_drop]
  have hTs : T.size = n := by rw [size_list, hTl, List.length_take, ← size_list]; omega
  have hla := fun W => Tryd.strings_LastIndexByte T 10 (by omega) W
  have hct := fun W => Tryd.strings_Count_one T 10 W
  have hnz : (n : Int) ≤ (s.size : Int) := by omega
  have hll := last_list T
  have hcl : T.data.toList.count 10 ≤ n := by rw [← hTs, size_list]; exact List.count_le_length
  rw [← hTl]
  have HT := Lib.hid hT.symm; have HD := Lib.hid hD.symm; have HLA := Lib.hid hla; have HCT := Lib.hid hct; have HP := Lib.hid hP; have HDL := Lib.hid hDl
  have hTsz := Lib.hid (size_list T)
  clear hT hD hla hct hP hDl hTl
  rcases hll with ⟨h1, h2⟩ | ⟨i, hi, h1, h2, h3⟩
  · rw [h1] at HLA
    have hadv := adv_none T.data.toList (li, co) h2
    rw [← size_list] at hadv
    have HADV := Lib.hid hadv
    clear h1 h2 hadv hcl
    have ht := HT.out; have hd := HD.out
    go_enter Tryd.func21, Tryd.ntmps21
    go_wp2_with fail
    refine (HLA.out _).mono ?_
    rintro e w1 ⟨rfl, rfl⟩
    go_wp2_with fail
    refine bodyPost_end (results_none rfl _ _ _) rfl ⟨rfl, ?_, grown_set (grown_set (grown_refl w p) 2 _) 1 _⟩
    have h5 := ((HP.out.set3).2.2 (.string D)).set3.2.1 (.int .i64 ((co : Int) + (n : Int)))
    unfold Pl
    rw [HADV.out, ← HDL.out, hTs]
    simpa using h5
  · have hadv := adv_last hi h2 h3 (li, co)
    rw [← size_list] at hadv
    rw [h1] at HLA
    have hin : i + 1 ≤ n := by rw [← size_list] at hi; omega
    have hiz : ((i : Int) + 1) ≤ (T.size : Int) := by omega
    have hTX : (T.extract (i + 1) T.size).size = n - (i + 1) := by rw [ex_drop, size_list]; show (T.data.toList.drop (i + 1)).length = _; rw [List.length_drop, ← size_list, hTs]
    have hcz : Lib.countByte T.data.toList 10 ≤ n := hcl
    rw [show T.data.toList.count 10 = Lib.countByte T.data.toList 10 from rfl] at hadv
    generalize Lib.countByte T.data.toList 10 = m at HCT hadv hcz
    have HADV := Lib.hid hadv; have HTX := Lib.hid hTX
    clear h1 h2 h3 hadv hcl hTX
    have ht := HT.out; have hd := HD.out
    go_enter Tryd.func21, Tryd.ntmps21
    go_wp2_with fail
    refine (HLA.out _).mono ?_
    rintro e w1 ⟨rfl, rfl⟩
    go_wp2_with fail
    go_region_with (go_at_call 48; refine (HCT.out _).mono ?_; rintro e w5 ⟨rfl, rfl⟩)
    have htx := HTX.out
    all_goals
      go_wp2_with fail
      refine bodyPost_end (results_none rfl _ _ _) rfl ⟨rfl, ?_, grown_drew (grown_set (grown_set (grown_set (grown_set (grown_refl w p) 2 _) 0 _) 1 _) 1 _)⟩
      have h5 := (((((HP.out.set3).2.2 (.string D)).set3.1 (.int .i64 ((li : Int) + (m : Int)))).set3.2.1 (.int .i64 1)).set3.2.1 (.int .i64 (1 + ((n - (i + 1) : Nat) : Int)))).drew
      have e1 : ((1 + (n - (i + 1)) : Nat) : Int) = 1 + ((n - (i + 1) : Nat) : Int) := Int.natCast_add _ _
      have e2 : ((li + m : Nat) : Int) = (li : Int) + (m : Int) := Int.natCast_add _ _
      unfold Pl
      rw [HADV.out, ← HDL.out, hTs]
      dsimp only
      rw [e1, e2]
      exact h5
end Go.Proofs.YteppdnlchjpekaaDoor
