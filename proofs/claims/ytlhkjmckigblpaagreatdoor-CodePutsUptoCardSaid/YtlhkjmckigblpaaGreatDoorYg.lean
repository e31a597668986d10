/- Package code: a tuple is written. -/
import Derived.Test.YtlhkjmckigblpaaGreatDoorYe
namespace Go.Proofs.YtlhkjmckigblpaaGreatDoor
open Go.RowKit Cp
open Go
attribute [local go_sem] Oper.semAt_some

/-- What a writing call answers, and that it writes to bytes alone. -/
def Gives2 (B : Nat) (w : World) (l : List UInt8) (e : Ending) (w' : World) : Prop := ∃ v', e = .returned v' ∧ Bys B l w' v' ∧ Below B w w' ∧ ∀ g t cs, 5 ≠ t → Blk w g t cs → Blk w' g t cs
theorem Gives2.mk_ {B : Nat} {w w' : World} {l : List UInt8} {v : Value} (h : Bys B l w' v) (hb : Below B w w') (hk : ∀ g t cs, 5 ≠ t → Blk w g t cs → Blk w' g t cs) : Gives2 B w l (.returned v) w' := ⟨v, rfl, h, hb, hk⟩
/-- The table of the longest text lies below block B. -/
def MaxB (B : Nat) (w : World) : Prop := 0 < B ∧ MaxAt w
theorem MaxB.under {B : Nat} {w w' : World} (h : MaxB B w) (hb : Below B w w') : MaxB B w' := by
  obtain ⟨hlt, m, h⟩ := h
  refine ⟨hlt, m, ?_⟩
  rw [hb.cell (p := ⟨0, 0, none⟩) hlt]; exact h

set_option maxRecDepth 100000 in
set_option maxHeartbeats 2000000 in
theorem appendFlag2_c (B : Nat) (l : List UInt8) (v : Value) (f : Bool) (w : World) (h : Bys B l w v) (hl : l.length ≤ 140000000000000) (hB : B ≤ w.heap.size) :
    Calls Tryz.prog 67 #[v, .bool f] w fun e w' => Gives2 B w (l ++ flgB f) e w' := by
  have H := Lib.hid h
  clear h
  cases f
  · go_enter Tryz.func67, Tryz.ntmps67
    go_wp2_with (at_builtin; refine wpList_appB _ rfl (.tmp 9) (.tmp 10) 23 rfl B 5 (.int .u8 0) Tryz.underlying23 infoB rfl _ l.length _ rfl (H.out.alloc _) w.heap.size 1 (.int .u8 0) rfl (by simp [World.cell?_alloc_new]) (by simp [Value.oneCell']) (by omega) (by simp; omega) ?_; intro g' cap' w3 hA; have HA := Lib.hid hA; clear hA)
    go_ret
    refine Gives2.mk_ ?_ (((Below.refl B w).alloc hB _).trans HA.out.2.2) fun g t cs hne hX => HA.out.blk (hX.alloc _) hne
    have := HA.out.1
    unfold Bys
    rw [byteCells_app]
    simpa [Lib.byteCells, flgB] using this
  · go_enter Tryz.func67, Tryz.ntmps67
    go_wp2_with (at_builtin; refine wpList_appB _ rfl (.tmp 6) (.tmp 7) 23 rfl B 5 (.int .u8 0) Tryz.underlying23 infoB rfl _ l.length _ rfl (H.out.alloc _) w.heap.size 1 (.int .u8 1) rfl (by simp [World.cell?_alloc_new]) (by simp [Value.oneCell']) (by omega) (by simp; omega) ?_; intro g' cap' w3 hA; have HA := Lib.hid hA; clear hA)
    go_ret
    refine Gives2.mk_ ?_ (((Below.refl B w).alloc hB _).trans HA.out.2.2) fun g t cs hne hX => HA.out.blk (hX.alloc _) hne
    have := HA.out.1
    unfold Bys
    rw [byteCells_app]
    simpa [Lib.byteCells, flgB] using this

set_option maxRecDepth 100000 in
set_option maxHeartbeats 4000000 in
theorem appendStr2_c (B : Nat) (l : List UInt8) (v : Value) (s : ByteArray) (hs : s.size ≤ 4000000000) (w : World) (h : Bys B l w v) (hl : l.length ≤ 140000000000000) (hB : B ≤ w.heap.size) (hm : MaxAt w) :
    Calls Tryz.prog 66 #[v, .string s] w fun e w' => Gives2 B w (l ++ strB s.data.toList) e w' := by
  obtain ⟨i0, hi, hz0, hz1, hz2⟩ := info_parts infoB
  have hr := replace_c s w hs hm
  have hlen := esc_len s.data.toList
  have hcl := count_le_len s.data.toList
  rw [← size_list] at hlen hcl
  obtain ⟨t, ht⟩ : ∃ t : ByteArray, t = ⟨(esc s.data.toList).toArray⟩ := ⟨_, rfl⟩
  have htl : t.data.toList = esc s.data.toList := by rw [ht]
  rw [← ht] at hr
  have hts : t.size ≤ 8000000000 := by rw [size_list, htl]; omega
  have hss : ¬ 9223372036854775807 < t.size + 2 := by omega
  have hst : strB s.data.toList = (t ++ (⟨#[0, 0]⟩ : ByteArray)).data.toList := by simp [strB, htl]
  rw [hst]
  have hsz2 : (t ++ (⟨#[0, 0]⟩ : ByteArray)).size = t.size + 2 := by simp; rfl
  have HR := Lib.hid hr; have H := Lib.hid h; have HS2 := Lib.hid hsz2
  clear hr h ht htl hst hsz2 hlen hcl hm
  go_enter Tryz.func66, Tryz.ntmps66
  go_wp2_with fail
  refine HR.out.mono ?_
  rintro e w1 ⟨rfl, hb⟩
  have HKB : Hid (∀ g t cs, Blk w g t cs → Blk w1 g t cs) := Lib.hid fun g t cs hX => hX.below hb hX.lt
  have HB := Lib.hid (hb.mono hB); have HO := Lib.hid (Bys.under H.out hb)
  clear hb
  go_wp2_with (at_builtin; refine Lib.wpList_append_own_string _ rfl _ _ 23 9 rfl B 5 i0 Tryz.underlying23 Tryz.underlying9 hi hz0 hz1 hz2 _ _ _ rfl HO.out (t ++ ⟨#[0, 0]⟩) rfl ?c3 ?c4 ?c5 ?_)
  case c3 => rw [HS2.out]; unfold maxLen; omega
  case c4 => rw [HS2.out]; omega
  case c5 => exact Nat.le_trans hB HB.out.size
  intro v' w2 hown hgrow _
  have hy : Bys B (l ++ (t ++ (⟨#[0, 0]⟩ : ByteArray)).data.toList) w2 v' := by
    unfold Bys
    rw [byteCells_app, List.length_append, ← size_list, HS2.out]
    have e : Lib.strCells (t ++ (⟨#[0, 0]⟩ : ByteArray)) = Lib.byteCells (t ++ (⟨#[0, 0]⟩ : ByteArray)).data.toList := strCells_eq _
    rw [← e]; exact hown
  have hb2 : Below B w w2 := HB.out.grown hgrow (Nat.le_trans hB HB.out.size) fun k hk => (World.ownsRow.lt HO.out k hk).1
  have HK2 : Hid (∀ g t cs, 5 ≠ t → Blk w g t cs → Blk w2 g t cs) := Lib.hid fun g t cs hne hX => (HKB.out g t cs hX).grown hgrow (Ne.symm (own_blk_ne HO.out (HKB.out g t cs hX) hne))
  have HY := Lib.hid hy; have HB2 := Lib.hid hb2
  clear hy hb2 hown hgrow
  go_wp2_with fail
  go_ret
  exact Gives2.mk_ HY.out HB2.out HK2.out

end Go.Proofs.YtlhkjmckigblpaaGreatDoor
namespace Go.Proofs.YtlhkjmckigblpaaGreatDoor
open Go.RowKit Go.Shelf Vp Cp
open Go
attribute [local go_sem] Oper.semAt_some

/-- What is asked of the writing of a value x. -/
def Writes (B : Nat) (x : V) : Prop := ∀ (u : Value) (l : List UInt8) (v : Value) (w : World), VRep w B x u → Bys B l w v → l.length + (encV x).length ≤ 60000000000000 → B ≤ w.heap.size → MaxB B w →
  Calls Tryz.prog 53 #[u, v] w fun e w' => Gives B w (l ++ encV x) e w'

set_option maxRecDepth 100000 in
set_option maxHeartbeats 8000000 in
theorem tuple_c (B : Nat) (l : List UInt8) (v : Value) (k : Nat) (n : Int) (s : ByteArray) (items : List V) (A : Option Addr) (c : Nat) (w : World) (hR : RRep w B items A c) (h : Bys B l w v) (hl : l.length + (tupB items).length ≤ 60000000000000) (hB : B ≤ w.heap.size) (hm : MaxB B w)
    (ih : ∀ x ∈ items, Writes B x) :
    Calls Tryz.prog 119 #[.agg #[.int .u8 (k : Int), .int .i64 n, .string s, .slice A items.length c], v] w fun e w' => Gives B w (l ++ tupB items) e w' := by
  have hmax : maxLen = 9223372036854775807 := rfl
  have hc1 := hR.1; have hc2 := hR.2.1
  have hfin : l ++ tupB items = l ++ preB items ++ [0] := by rw [tup_pre, List.append_assoc]
  have hlen : l.length + (preB items).length + 1 ≤ 60000000000000 := by rw [tup_pre, List.length_append] at hl; have h1 : [(0 : UInt8)].length = 1 := rfl; omega
  rw [hfin]
  have HY := Lib.hid (h.alloc_ (.cells #[.int .u8 (k : Int), .int .i64 n, .string s, .slice A items.length c] 79))
  have HB := Lib.hid (bx_below hB (.cells #[.int .u8 (k : Int), .int .i64 n, .string s, .slice A items.length c] 79))
  have HR := Lib.hid hR; have HM := Lib.hid hm; have HI := Lib.hid ih; have HL := Lib.hid hlen
  clear h hR hm ih hfin hl hlen
  go_enter Tryz.func119, Tryz.ntmps119
  go_wp2_with fail
  go_loopg [1, 10] (items.length + 1) (fun gg s1 s10 wr => ∃ (j : Nat), j ≤ items.length ∧ gg = items.length + 1 - j ∧ s10 = .int .i64 (j : Int) ∧ Bys B (l ++ preB (items.take j)) wr s1 ∧ Below B w wr)
  case atStart => exact ⟨0, Nat.zero_le _, by omega, rfl, by rw [List.take_zero, preB, List.append_nil]; exact HY.out, HB.out⟩
  case round =>
    obtain ⟨j, hj, hg, rfl, hy, hb⟩ := hrel
    have HG := Lib.hid hg
    clear hg HY HB
    have HY := Lib.hid hy; have HB := Lib.hid hb
    clear hy hb
    have hbs : B ≤ wr.heap.size := Nat.le_trans hB HB.out.size
    have hpl := pre_len_take items j
    by_cases hlt : j < items.length
    · have hltz : (j : Int) < (items.length : Int) := by omega
      obtain ⟨b, off, rfl, hbb, k', n', s', l', A', c', ht, hv, c0, c1, c2, c3⟩ := (HR.out.under HB.out).at_ hlt
      have hit := HI.out _ (List.getElem_mem hlt)
      have hpt := pre_take items hlt
      have hpl2 := pre_len_take items (j + 1)
      generalize items[j] = x at ht hv hit hpt
      have hz : l.length + (preB (items.take j)).length + 1 + (encV x).length ≤ 60000000000000 := by
        have := HL.out
        rw [hpt, List.length_append, List.length_cons] at hpl2
        omega
      have HX := Lib.hid (Blk.new wr 34 #[.int .u8 (k' : Int), .int .i64 n', .string s', .slice A' l'.length c'])
      have HV := Lib.hid hv; have HIT := Lib.hid hit; have HPT := Lib.hid hpt; have HZ := Lib.hid hz
      clear hv hit hpt ht hpl hpl2 hz
      go_upto_region 4 with fail
      have HX2 := Lib.hid HX.out.drew
      have HY2 := Lib.hid (World.ownsRow.drew (HY.out.alloc_ (.cells #[.int .u8 (k' : Int), .int .i64 n', .string s', .slice A' l'.length c'] 34)))
      have HR2 := Lib.hid (bx_below hbs (.cells #[.int .u8 (k' : Int), .int .i64 n', .string s', .slice A' l'.length c'] 34)).drew
      clear HX HY
      generalize wr.alloc (.cells #[.int .u8 (k' : Int), .int .i64 n', .string s', .slice A' l'.length c'] 34) = W at HX2 HY2 HR2 ⊢
      refine chain_region (fun W' => W'.cell? ⟨wr.heap.size, 0, none⟩ = some (.int .u8 (k' : Int)) ∧ W'.cell? ⟨wr.heap.size, 1, none⟩ = some (.int .i64 n') ∧ W'.cell? ⟨wr.heap.size, 2, none⟩ = some (.string s') ∧ W'.cell? ⟨wr.heap.size, 3, none⟩ = some (.slice A' l'.length c')) 3 (by kernel_rfl) ?_
      refine T_take (i := 0) (v := .agg #[.int .u8 (k' : Int), .int .i64 n', .string s', .slice A' l'.length c']) rfl (by kernel_rfl) (fun _ _ _ h => h) rfl (fun W hS => by obtain ⟨h1, h2, h3, h4⟩ := hS; go_simp) (s_of HX2.out) ?_
      refine T_take (i := 1) (v := u1) rfl (by kernel_rfl) (fun _ _ _ h => h) rfl (fun W hS => by go_simp) (s_of HX2.out) ?_
      refine T_one (i := 2) rfl (by kernel_rfl) rfl ?_
      refine op_callT #[u1, .bool true] (by simp [go_sem]) (enters_of Tryz.func67 (by kernel_rfl) rfl _ _) (appendFlag2_c B _ _ true _ HY2.out (by have := HZ.out; rw [List.length_append]; omega) (Nat.le_trans hbs HR2.out.size)) ?_
      rintro e w1 ⟨v1, rfl, hy1, hb1, hk1⟩
      have HX3 := Lib.hid (hk1 _ _ _ (by decide) HX2.out)
      have HR3 := Lib.hid (HR2.out.trans hb1)
      have HY3 := Lib.hid hy1
      clear hy1 hb1 hk1 HX2 HR2 HY2
      refine ⟨_, rfl, fun _ => s_of HX3.out, ?_⟩
      refine T_one (i := 3) rfl (by kernel_rfl) rfl ?_
      refine op_callT #[.agg #[.int .u8 (k' : Int), .int .i64 n', .string s', .slice A' l'.length c'], v1] (by simp [go_sem]) (enters_of Tryz.func53 (by kernel_rfl) rfl _ _) (HIT.out _ _ _ _ (HV.out.under HR3.out) HY3.out (by have := HZ.out; have h1 : (flgB true).length = 1 := rfl; rw [List.length_append, List.length_append, h1]; omega) (Nat.le_trans hbs HR3.out.size) (HM.out.under (HB.out.trans HR3.out))) ?_
      rintro e w2 ⟨v2, rfl, hy2, hb2⟩
      have HR4 := Lib.hid (HR3.out.trans hb2)
      have hy5 : Bys B (l ++ preB (items.take (j + 1))) w2 v2 := by
        rw [HPT.out]
        have e : l ++ (preB (List.take j items) ++ 1 :: encV x) = l ++ preB (List.take j items) ++ flgB true ++ encV x := by simp [flgB]
        rw [e]; exact hy2
      have HY5 := Lib.hid hy5
      clear hy2 hb2 HX3 HR3 HY3 hy5
      refine ⟨_, rfl, fun hh => absurd hh (by decide), ?_⟩
      refine T_one (i := 4) rfl (by kernel_rfl) rfl ?_
      go_simp
      refine T_done (by kernel_rfl) ?_
      go_wp2_with fail
      go_roundg (items.length + 1 - (j + 1))
      case measure => have := HG.out; omega
      case rel => exact ⟨j + 1, by omega, rfl, by go_num, HY5.out, HB.out.trans HR4.out⟩
    · have hltz : ¬ (j : Int) < (items.length : Int) := by omega
      obtain rfl : j = items.length := by omega
      have HF := Lib.hid (appendFlag_c B _ _ false wr HY.out (by have := HL.out; rw [List.length_append]; omega) hbs)
      clear hpl
      rw [List.take_length] at HF
      go_wp2_with fail
      refine HF.out.mono ?_
      rintro e w1 ⟨v1, rfl, hy1, hb1⟩
      have HY1 := Lib.hid hy1; have HB1 := Lib.hid (HB.out.trans hb1)
      clear hy1 hb1
      go_wp2_with fail
      go_ret
      exact Gives.mk_ HY1.out HB1.out
end Go.Proofs.YtlhkjmckigblpaaGreatDoor
