/- Package code: Value writes any value, and nothing for what is none. -/
import Derived.Test.YtlhkjmckigblpaaGreatDoorYh
namespace Go.Proofs.YtlhkjmckigblpaaGreatDoor
open Go.RowKit Go.Shelf Vp Cp
open Go
attribute [local go_sem] Oper.semAt_some

theorem own_lower {B B' : Nat} {e : TypeId} {k : Nat} {v : Value} {n : Nat} {xs : List Value} {w : World} (h : w.ownsRow B e k v n xs) (hB : B' ≤ B) : w.ownsRow B' e k v n xs := by
  obtain ⟨h1, h2⟩ := h
  refine ⟨h1, ?_⟩
  rcases h2 with h2 | ⟨g, cap, cur, e1, e2, e3⟩
  · exact .inl h2
  · exact .inr ⟨g, cap, cur, e1, Nat.le_trans hB e2, e3⟩
theorem mag_len (l : List UInt8) : l.length ≤ (Pl.mag l).length + 1 := by
  unfold Pl.mag
  split
  · rw [List.length_tail]; omega
  · omega
theorem chk_len {l : List UInt8} (h4 : Pl.chk l ≠ 4) (h8 : Pl.chk l ≠ 80) : l.length ≤ 201 := by
  have hm := mag_len l
  unfold Pl.chk at h4 h8
  split at h4
  · exact absurd rfl h4
  · rename_i g1
    rw [if_neg g1] at h8
    split at h4
    · exact absurd rfl h4
    · rename_i g2
      rw [if_neg g2] at h8
      split at h4
      · exact absurd rfl h4
      · rename_i g3
        rw [if_neg g3] at h8
        split at h8
        · exact absurd rfl h8
        · omega
theorem name_len {l : List UInt8} (h : name l = true) : l.length ≤ 32 := by
  unfold name at h
  split at h
  · cases h
  · simp only [Bool.and_eq_true, decide_eq_true_eq] at h; exact h.1.1
theorem cut_len : ∀ (l m o : List UInt8), cut l = some (m, o) → l.length = m.length + 1 + o.length
  | [], m, o, h => by cases h
  | c :: l, m, o, h => by
    rw [cut] at h
    split at h
    · injection h with h; injection h with h1 h2; subst h1; subst h2; simp; omega
    · cases hc : cut l with
      | none => rw [hc] at h; cases h
      | some x =>
        rw [hc] at h
        injection h with h; injection h with h1 h2
        have := cut_len l x.1 x.2 hc
        subst h1; subst h2
        simp only [List.length_cons]; omega
theorem cons_len {l : List UInt8} (h : cons l = true) : l.length ≤ 65 := by
  unfold cons at h
  split at h
  · rename_i m o hc
    rw [Bool.and_eq_true] at h
    have := cut_len l m o hc
    have := name_len h.1; have := name_len h.2
    omega
  · simp only [Bool.and_eq_true] at h
    have := name_len h.1.1
    omega
theorem chk_parts {t : V} (h : chkV t = 0) : some_ (bad Pl.chk) t = false ∧ some_ (long Pl.chk) t = false := by
  unfold chkV at h
  cases h1 : deeper 64 t <;> cases h2 : some_ (bad Pl.chk) t <;> cases h3 : some_ (long Pl.chk) t <;> simp_all
theorem fit_of : ∀ t : V, some_ (bad Pl.chk) t = false → some_ (long Pl.chk) t = false → Fit t := by
  intro t
  induction t using V.ind with
  | h k n s l ih =>
    intro h1 h2
    rw [some_eq, Bool.or_eq_false_iff] at h1 h2
    obtain ⟨b1, b2⟩ := h1
    obtain ⟨c1, c2⟩ := h2
    have hall : ∀ x ∈ l, Fit x := fun x hx => ih x hx (by have := List.any_eq_false.1 b2 x hx; simpa using this) (by have := List.any_eq_false.1 c2 x hx; simpa using this)
    have hk : k = 1 ∨ k = 2 ∨ k = 3 ∨ k = 4 ∨ k = 5 ∨ k = 6 ∨ (k ≠ 1 ∧ k ≠ 2 ∧ k ≠ 3 ∧ k ≠ 4 ∧ k ≠ 5 ∧ k ≠ 6) := by omega
    rcases hk with rfl | rfl | rfl | rfl | rfl | rfl | hne
    · unfold bad at b1; simp only [Bool.or_eq_false_iff, decide_eq_false_iff_not] at b1; obtain ⟨⟨_, h0⟩, _⟩ := b1; exact .mk (by decide) (by decide) (by omega) hall
    · unfold bad at b1; simp only [Bool.or_eq_false_iff, decide_eq_false_iff_not] at b1; obtain ⟨h0, _⟩ := b1; exact .mk (by decide) (by decide) (by omega) hall
    · simp [bad] at b1; simp [long] at c1
      have := chk_len b1.2 c1
      rw [← size_list] at this
      exact .mk (by decide) (by decide) (by omega) hall
    · simp [long] at c1; exact .mk (by decide) (by decide) (by omega) hall
    · unfold bad at b1; simp only [Bool.or_eq_false_iff, decide_eq_false_iff_not] at b1; obtain ⟨⟨_, h0⟩, _⟩ := b1; exact .mk (by decide) (by decide) (by omega) hall
    · simp [bad] at b1
      have := cons_len b1.2
      rw [← size_list] at this
      exact .mk (by decide) (by decide) (by omega) hall
    · exfalso
      unfold bad at b1; split at b1 <;> simp_all
/-- What Value writes. -/
def valB (t : V) : List UInt8 := if chkV t = 0 then encV t else []

set_option maxRecDepth 100000 in
set_option maxHeartbeats 8000000 in
theorem value_c (l : List UInt8) (v : Value) (t : V) (u : Value) (w : World) (h : Sees w v l) (hv : VRep w w.heap.size t u) (hl : l.length ≤ 140000000000000) (hsz : chkV t = 0 → l.length + (encV t).length ≤ 60000000000000) (hm : MaxB w.heap.size w) :
    Calls Tryz.prog 21 #[v, u] w fun e w' => Gives w.heap.size w (l ++ valB t) e w' := by
  obtain ⟨k, n, s, its, A, c, ht, rfl, hk, hn, hs, hR⟩ := hv.open_
  have HC := Lib.hid (check_c t _ (w.alloc (.cells #[.int .u8 (k : Int), .int .i64 n, .string s, .slice A its.length c] 34)) ((hv.under ((Below.refl _ _).alloc (Nat.le_refl _) _)).more (by simp)))
  have HBX := Lib.hid ((Below.refl w.heap.size w).alloc (Nat.le_refl _) (.cells #[.int .u8 (k : Int), .int .i64 n, .string s, .slice A its.length c] 34))
  have HX := Lib.hid (Blk.new w 34 #[.int .u8 (k : Int), .int .i64 n, .string s, .slice A its.length c])
  have HS := Lib.hid h; have HV := Lib.hid hv; have HM := Lib.hid hm
  have HE : Hid (Fit t → ∀ (u : Value) (l : List UInt8) (v : Value) (W : World), VRep W w.heap.size t u → Bys w.heap.size l W v → l.length + (encV t).length ≤ 60000000000000 → w.heap.size ≤ W.heap.size → MaxB w.heap.size W →
      Calls Tryz.prog 53 #[u, v] W fun e w' => Gives w.heap.size W (l ++ encV t) e w') := Lib.hid (enc_c w.heap.size t)
  have HFIT := Lib.hid (fit_of t); have HP := Lib.hid (chk_parts (t := t)); have HSZ := Lib.hid hsz
  have hvb : Hid (valB t = if chkV t = 0 then encV t else []) := Lib.hid rfl
  generalize valB t = ob at hvb ⊢
  generalize chkV t = z at HC HP HSZ hvb
  generalize encV t = eb at HSZ hvb HE
  clear h hv hm hsz ht hR
  by_cases hz : z = 0
  · subst hz
    have HOB := Lib.hid (hvb.out.trans (if_pos rfl))
    have hfit := HFIT.out (HP.out rfl).1 (HP.out rfl).2
    have hen := HE.out hfit
    have hlen := HSZ.out rfl
    have HEN := Lib.hid hen
    clear hvb hen HE HFIT HP HSZ hfit
    go_enter Tryz.func21, Tryz.ntmps21
    go_wp2_with fail
    refine HC.out.mono ?_
    rintro e w1 ⟨rfl, hb⟩
    have HX1 := Lib.hid (HX.out.below hb HX.out.lt).drew
    have HB1 := Lib.hid (HBX.out.trans (hb.mono HBX.out.size)).drew
    clear hb HX HBX HC
    go_upto_region 3 with fail
    refine chain_region (fun W' => W'.cell? ⟨w.heap.size, 0, none⟩ = some (.int .u8 (k : Int)) ∧ W'.cell? ⟨w.heap.size, 1, none⟩ = some (.int .i64 n) ∧ W'.cell? ⟨w.heap.size, 2, none⟩ = some (.string s) ∧ W'.cell? ⟨w.heap.size, 3, none⟩ = some (.slice A its.length c)) 3 (by kernel_rfl) ?_
    refine T_take (i := 0) (v := .agg #[.int .u8 (k : Int), .int .i64 n, .string s, .slice A its.length c]) rfl (by kernel_rfl) (fun _ _ _ h => h) rfl (fun W hS => by obtain ⟨h1, h2, h3, h4⟩ := hS; go_simp) (s_of HX1.out) ?_
    refine T_take (i := 1) (v := v) rfl (by kernel_rfl) (fun _ _ _ h => h) rfl (fun W hS => by go_simp) (s_of HX1.out) ?_
    refine T_one (i := 2) rfl (by kernel_rfl) rfl ?_
    refine op_callT #[v] (by simp [go_sem]) (enters_of Tryz.func44 (by kernel_rfl) rfl _ _) (clone_c l v _ (HS.out.under HB1.out) hl) ?_
    rintro e w2 ⟨v2, rfl, hy2, hb2⟩
    have HX2 := Lib.hid (HX1.out.below hb2 HX1.out.lt)
    have HY2 := Lib.hid (own_lower hy2 HB1.out.size)
    have HB2 := Lib.hid (HB1.out.trans (hb2.mono HB1.out.size))
    clear hy2 hb2 HX1 HB1
    refine ⟨_, rfl, fun _ => s_of HX2.out, ?_⟩
    refine T_one (i := 3) rfl (by kernel_rfl) rfl ?_
    refine op_callT #[.agg #[.int .u8 (k : Int), .int .i64 n, .string s, .slice A its.length c], v2] (by simp [go_sem]) (enters_of Tryz.func53 (by kernel_rfl) rfl _ _) (HEN.out _ l v2 _ (HV.out.under HB2.out) HY2.out hlen HB2.out.size (HM.out.under HB2.out)) ?_
    rintro e w3 ⟨v3, rfl, hy3, hb3⟩
    have HB3 := Lib.hid (HB2.out.trans hb3)
    have HY3 := Lib.hid hy3
    clear hy3 hb3 HX2 HB2 HY2
    refine ⟨_, rfl, fun hh => absurd hh (by decide), ?_⟩
    refine T_one (i := 4) rfl (by kernel_rfl) rfl ?_
    go_simp
    refine T_done (by kernel_rfl) ?_
    go_wp2_with fail
    go_ret
    exact Gives.mk_ (by rw [HOB.out]; exact HY3.out) HB3.out
  · have HOB := Lib.hid (hvb.out.trans (if_neg hz))
    clear hvb HE HFIT HP HSZ
    go_enter Tryz.func21, Tryz.ntmps21
    go_wp2_with fail
    refine HC.out.mono ?_
    rintro e w1 ⟨rfl, hb⟩
    have HB1 := Lib.hid (HBX.out.trans (hb.mono HBX.out.size))
    have HCL := Lib.hid (clone_c l v w1 (HS.out.under HB1.out) hl)
    clear hb
    go_wp2_with fail
    refine HCL.out.mono ?_
    rintro e w2 ⟨v2, rfl, hy2, hb2⟩
    have HY2 := Lib.hid (own_lower hy2 HB1.out.size); have HB2 := Lib.hid (HB1.out.trans (hb2.mono HB1.out.size))
    clear hy2 hb2
    go_wp2_with fail
    go_ret
    exact Gives.mk_ (by rw [HOB.out, List.append_nil]; exact HY2.out) HB2.out
end Go.Proofs.YtlhkjmckigblpaaGreatDoor
