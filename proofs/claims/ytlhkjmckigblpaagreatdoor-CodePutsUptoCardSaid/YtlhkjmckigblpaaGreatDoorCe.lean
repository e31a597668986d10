/- Package code: texts are written. -/
import Derived.Test.YtlhkjmckigblpaaGreatDoorCd
import Derived.Lib.Replace
import Derived.Lib.SplitLaws
namespace Go.Proofs.YtlhkjmckigblpaaGreatDoor
open Go.RowKit Cp
open Go
attribute [local go_sem] Oper.semAt_some

theorem esc_replace : ∀ s : List UInt8, Lib.replaceK [0] [0, 255] (Lib.count s [0]) s = esc s
  | [] => by rw [Lib.count_one]; rfl
  | c :: l => by
    have ih := esc_replace l
    by_cases hc : c = 0
    · subst hc
      rw [Lib.count_cons_eq, Nat.add_comm 1, Lib.replaceK_hit [0] [0, 255] _ _ 0 (by rw [Lib.index_one]; rfl), esc, if_pos rfl]
      simp [ih]
    · rw [Lib.count_cons_ne c 0 l hc, esc, if_neg hc]
      cases hk : Lib.count l [0] with
      | zero =>
        rw [hk] at ih
        rw [Lib.replaceK] at ih ⊢
        rw [← ih]
      | succ k =>
        rw [hk] at ih
        obtain ⟨i, hi⟩ := Lib.index_of_count (s := l) (old := [0]) (by omega)
        have hi2 : Lib.index (c :: l) [0] = ((i + 1 : Nat) : Int) := by
          rw [Lib.index_one] at hi ⊢
          rw [Lib.indexByte, if_neg (by simpa using hc), if_neg (by simp [hi]), hi]; rfl
        rw [Lib.replaceK_hit _ _ _ _ _ hi2]
        rw [Lib.replaceK_hit _ _ _ _ _ hi] at ih
        rw [← ih]
        simp
theorem esc_all (s : List UInt8) : Lib.replaceAll s [0] [0, 255] = esc s := by
  unfold Lib.replaceAll Lib.replace Lib.replaceNum
  rw [if_neg (by decide), if_pos (by left; decide)]
  exact esc_replace s
theorem esc_len (s : List UInt8) : (esc s).length = s.length + s.count 0 := by
  induction s with
  | nil => rfl
  | cons c l ih =>
    rw [esc]
    by_cases hc : c = 0
    · subst hc
      rw [if_pos rfl, List.count_cons_self]; simp only [List.length_cons]; omega
    · rw [if_neg hc, List.count_cons_of_ne hc]; simp only [List.length_cons]; omega
theorem count_le_len (s : List UInt8) : s.count 0 ≤ s.length := List.count_le_length
def MaxAt (w : World) : Prop := ∃ m, w.cell? ⟨0, 0, none⟩ = some (.int .i64 m)
theorem MaxAt.under {w w' : World} (h : MaxAt w) (hb : Below w.heap.size w w') : MaxAt w' := by
  obtain ⟨m, h⟩ := h
  refine ⟨m, ?_⟩
  have hlt : 0 < w.heap.size := by
    rcases Nat.lt_or_ge 0 w.heap.size with h' | h'
    · exact h'
    · simp [World.cell?, Array.getElem?_eq_none h'] at h
  rw [hb.cell (p := ⟨0, 0, none⟩) hlt]; exact h
theorem size_list (s : ByteArray) : s.size = s.data.toList.length := by rw [Array.length_toList]; rfl
theorem strCells_eq (s : ByteArray) : Lib.strCells s = Lib.byteCells s.data.toList := by simp [Lib.strCells]; rfl
theorem replace_c (s : ByteArray) (w : World) (hs : s.size ≤ 4000000000) (hm : MaxAt w) :
    Calls Tryz.prog 92 #[.string s, .string ⟨#[0]⟩, .string ⟨#[0, 255]⟩] w fun e w' => e = .returned (.string ⟨(esc s.data.toList).toArray⟩) ∧ Below w.heap.size w w' := by
  obtain ⟨m, hm⟩ := hm
  have hc : Lib.countB s ⟨#[0]⟩ ≤ s.size := by
    show Lib.count s.data.toList [0] ≤ _
    rw [Lib.count_one, size_list]; exact count_le_len _
  have h2 : (⟨#[0, 255]⟩ : ByteArray).size = 2 := rfl
  have h := Tryz.strings_ReplaceAll s ⟨#[0]⟩ ⟨#[0, 255]⟩ m w (by omega) hm (by decide) (by rw [h2]; omega)
  have e := esc_all s.data.toList
  rw [show (⟨#[0]⟩ : ByteArray).data.toList = [0] from rfl, show (⟨#[0, 255]⟩ : ByteArray).data.toList = [0, 255] from rfl, e] at h
  exact h

set_option maxRecDepth 100000 in
set_option maxHeartbeats 4000000 in
theorem appendStr_c (B : Nat) (l : List UInt8) (v : Value) (s : ByteArray) (hs : s.size ≤ 4000000000) (w : World) (h : Bys B l w v) (hl : l.length ≤ 140000000000000) (hB : B ≤ w.heap.size) (hm : MaxAt w) :
    Calls Tryz.prog 66 #[v, .string s] w fun e w' => Gives B w (l ++ strB s.data.toList) e w' := by
  obtain ⟨i0, hi, hz0, hz1, hz2⟩ := info_parts infoB
  have hr := replace_c s w hs hm
  have hlen := esc_len s.data.toList
  have hcl := count_le_len s.data.toList
  rw [← size_list] at hlen hcl
  obtain ⟨t, ht⟩ : ∃ t : ByteArray, t = ⟨(esc s.data.toList).toArray⟩ := ⟨_, rfl⟩
  have htl : t.data.toList = esc s.data.toList := by rw [ht]
  rw [← ht] at hr
  have hts : t.size ≤ 8000000000 := by rw [size_list, htl]; omega
  have hss : ¬ 9223372036854775807 < t.size + 2 := by omega
  have hst : strB s.data.toList = (t ++ (⟨#[0, 0]⟩ : ByteArray)).data.toList := by simp [strB, htl]
  rw [hst]
  have hsz2 : (t ++ (⟨#[0, 0]⟩ : ByteArray)).size = t.size + 2 := by simp; rfl
  have HR := Lib.hid hr; have H := Lib.hid h; have HS2 := Lib.hid hsz2
  clear hr h ht htl hst hsz2 hlen hcl hm
  go_enter Tryz.func66, Tryz.ntmps66
  go_wp2_with fail
  refine HR.out.mono ?_
  rintro e w1 ⟨rfl, hb⟩
  have HB := Lib.hid (hb.mono hB); have HO := Lib.hid (Bys.under H.out hb)
  clear hb
  go_wp2_with (at_builtin; refine Lib.wpList_append_own_string _ rfl _ _ 23 9 rfl B 5 i0 Tryz.underlying23 Tryz.underlying9 hi hz0 hz1 hz2 _ _ _ rfl HO.out (t ++ ⟨#[0, 0]⟩) rfl ?c3 ?c4 ?c5 ?_)
  case c3 => rw [HS2.out]; unfold maxLen; omega
  case c4 => rw [HS2.out]; omega
  case c5 => exact Nat.le_trans hB HB.out.size
  intro v' w2 hown hgrow _
  have hy : Bys B (l ++ (t ++ (⟨#[0, 0]⟩ : ByteArray)).data.toList) w2 v' := by
    unfold Bys
    rw [byteCells_app, List.length_append, ← size_list, HS2.out]
    have e : Lib.strCells (t ++ (⟨#[0, 0]⟩ : ByteArray)) = Lib.byteCells (t ++ (⟨#[0, 0]⟩ : ByteArray)).data.toList := strCells_eq _
    rw [← e]; exact hown
  have hb2 : Below B w w2 := HB.out.grown hgrow (Nat.le_trans hB HB.out.size) fun k hk => (World.ownsRow.lt HO.out k hk).1
  have HY := Lib.hid hy; have HB2 := Lib.hid hb2
  clear hy hb2 hown hgrow
  go_wp2_with fail
  go_ret
  exact Gives.mk_ HY.out HB2.out

set_option maxRecDepth 100000 in
set_option maxHeartbeats 2000000 in
theorem str_c (l : List UInt8) (v : Value) (s : ByteArray) (hs : s.size ≤ 4000000000) (w : World) (h : Sees w v l) (hl : l.length ≤ 140000000000000) (hm : MaxAt w) :
    Calls Tryz.prog 31 #[v, .string s] w fun e w' => Gives w.heap.size w (l ++ strB s.data.toList) e w' := by
  have hc := clone_c l v w h hl
  have HC := Lib.hid hc; have HM := Lib.hid hm
  clear hc h hm
  go_enter Tryz.func31, Tryz.ntmps31
  go_wp2_with fail
  refine HC.out.mono ?_
  rintro e w1 ⟨v1, rfl, hy, hb⟩
  have HA := Lib.hid (appendStr_c w.heap.size l v1 s hs w1 hy hl hb.size (HM.out.under hb)); have HB := Lib.hid hb
  clear hy hb
  go_wp2_with fail
  refine HA.out.mono ?_
  rintro e w2 ⟨v2, rfl, hy, hb⟩
  have HY := Lib.hid hy; have HB2 := Lib.hid (HB.out.trans hb)
  clear hy hb
  go_wp2_with fail
  go_ret
  exact Gives.mk_ HY.out HB2.out
end Go.Proofs.YtlhkjmckigblpaaGreatDoor
