/- CodeApart: the walk. -/
import Derived.Test.YtlcfokejoikaaaaGreatDoorUk
import Derived.Test.YtlcfokejoikaaaaGreatDoorQVi
import Derived.Test.YtlcfokejoikaaaaGreatDoorCo
namespace Go.Proofs.YtlcfokejoikaaaaGreatDoor
open Go.RowKit Go.Shelf Vp Cp Tx Rm
open Go
attribute [local go_sem] Oper.semAt_some

theorem hands_len2 {w : World} {v : Value} {l : List UInt8} (h : Hands w v l) : ∃ A c, v = .slice A l.length c := by
  rcases h with ⟨rfl, rfl⟩ | ⟨a, c, rfl, _⟩
  · exact ⟨none, 0, rfl⟩
  · exact ⟨some a, c, rfl⟩
theorem enc_ne2 (t : V) : encV t ≠ [] := by cases t; rw [encV]; simp
theorem val_nil2 {t : V} {u : Value} {w W : World} (hv : VRep w w.heap.size t u) (hb : Below w.heap.size w W) (hM : MaxB w.heap.size w) (hn : Narrow t false) :
    Calls Tryz.prog 21 #[.slice none 0 0, u] W fun e w' => Gives W.heap.size W (valB t) e w' := by
  have h := value_c [] (.slice none 0 0) t u W (Sees.nil_ W 0 0) ((hv.under hb).more hb.size) (by decide) (fun hc => by have := (few_bytes hv rfl hn hc).2; simp; omega) ⟨Nat.lt_of_lt_of_le hM.1 hb.size, (hM.under hb).2⟩
  rwa [List.nil_append] at h
theorem op_guard {P : Program} {dst : Option Tmp} {op : Op} {ty : TypeId} {pos : String} {after : Array Edge} {g : Option (Tmp × Bool)} {a : Act} {w : World} {K : Act → World → Prop} {Q : Exit → Act → World → Prop}
    (h : Oper.wp P { dst, op, type := ty, pos, after, guard := none } a w K Q) : Oper.wp P { dst, op, type := ty, pos, after, guard := g } a w K Q := h
section
variable {P : Program} {ops : Array Oper} {Q : Exit → Act → World → Prop} {md : Region.Mode} {S : World → Prop} {m : Nat}
theorem T_skipF {i : Nat} {oi : Oper} {fuel : Nat} {listed : Array Bool} {a : Act} {w : World} (hi : ops[i]? = some oi)
    (hB : (decide (i < m) && Region.noSelect ops && Region.free md ops listed i && (Region.ready md ops listed).contains i && waitsT md ops m i && closedB md ops listed) = true)
    (hQ : ∀ c a w, Q (.panic c) (a.put oi.dst undef) w → Q (.panic c) a w) (hw : Region.wanted oi (yielded ops a.tmps) = false) (hS : S w)
    (h : wpAnyT P md ops Q S m fuel (listed.setIfInBounds i true) (a.put oi.dst undef) w) : wpAnyT P md ops Q S m (fuel + 1) listed a w := by
  simp only [Bool.and_eq_true, decide_eq_true_eq] at hB
  obtain ⟨⟨⟨⟨⟨h1, h2⟩, h3⟩, h4⟩, h5⟩, h6⟩ := hB
  exact T_first hi h1 (Region.noSelect_spec h2) h5 hQ fuel listed a w (closed_of h6) (Region.free_spec hi h3) (by simpa using h4) (.inr ⟨hw, rfl⟩) hS h
theorem T_skip1 {i : Nat} {o : Oper} {fuel : Nat} {listed : Array Bool} {a : Act} {w : World} (ho : ops[i]? = some o) (hr : Region.ready md ops listed = [i]) (hw : Region.wanted o (yielded ops a.tmps) = false) (hS : S w)
    (h : wpAnyT P md ops Q S m fuel (listed.setIfInBounds i true) (a.put o.dst undef) w) : wpAnyT P md ops Q S m (fuel + 1) listed a w := by
  refine ⟨fun h0 => absurd (hr ▸ h0) (by simp), fun j hj => ?_⟩
  rw [hr] at hj
  obtain rfl : j = i := by simpa using hj
  unfold wpOp
  simp only [ho, hw]
  exact ⟨fun _ => hS, h⟩
end
theorem ba_beq {a b : List UInt8} (h : ((⟨a.toArray⟩ : ByteArray) == ⟨b.toArray⟩) = true) : a = b := by
  have h2 : (a.toArray == b.toArray) = true := h
  have h3 := eq_of_beq h2
  simpa using h3
theorem own_some {B : Nat} {l : List UInt8} {w : World} {A : Option Addr} {c : Nat} (h : Bys B l w (.slice A l.length c)) (hl : l ≠ []) : ∃ g, A = some ⟨g, 0, none⟩ ∧ l.length ≤ c ∧ c ≤ maxLen := by
  rcases h.2 with ⟨e, h0⟩ | ⟨g, cap, cur, e, hB, hg, hc, hm, _⟩
  · exact absurd (List.eq_nil_of_length_eq_zero h0) hl
  · injection e with e1 e2 e3
    subst e1 e3
    exact ⟨g, rfl, hc, hm⟩
theorem own_part {B : Nat} {l : List UInt8} {w : World} {g c j : Nat} (h : Bys B l w (.slice (some ⟨g, 0, none⟩) l.length c)) (hj : j ≤ l.length) : Sees w (.slice (some ⟨g, 0, none⟩) j c) (l.take j) := by
  have hs := h.sees
  rcases hs with ⟨n, c', e, _⟩ | ⟨a, c', e, h1, h2⟩
  · cases e
  · injection e with e1 e2 e3
    injection e1 with e1
    subst e1 e3
    refine .inr ⟨_, c, by rw [List.length_take, Nat.min_eq_left (by omega)], fun i hi => ?_, h2⟩
    rw [List.length_take] at hi
    rw [h1 i (by omega), List.getElem_take]
theorem part_of {l : List UInt8} (kk : Int) (hl : l ≠ []) (hm : l.length ≤ 1000000) : ∃ j : Nat, RowKit.wrap64 ((IntKind.u64.wrap kk).tmod (l.length : Int)) = (j : Int) ∧ j < l.length := by
  have h0 : 0 < l.length := List.length_pos_iff.2 hl
  have h1 : 0 ≤ IntKind.u64.wrap kk := by rw [IntKind.wrap_u64]; exact Int.emod_nonneg _ (by decide)
  have h2 : (IntKind.u64.wrap kk).tmod (l.length : Int) = IntKind.u64.wrap kk % (l.length : Int) := Int.tmod_eq_emod_of_nonneg h1
  have h3 : 0 ≤ IntKind.u64.wrap kk % (l.length : Int) := Int.emod_nonneg _ (by omega)
  have h4 : IntKind.u64.wrap kk % (l.length : Int) < (l.length : Int) := Int.emod_lt_of_pos _ (by omega)
  refine ⟨(IntKind.u64.wrap kk % (l.length : Int)).toNat, ?_, by omega⟩
  rw [h2, IntWalk.wrap64_in _ ⟨by omega, by omega⟩]
  omega
/-- No proper beginning is read. -/
theorem short_none {t : V} (hc : chkV t = 0) (ho : OkE t) {k : Nat} (hk : k < (encV t).length) : checkedG ((encV t).take k) = none := by
  cases h : checkedG ((encV t).take k) with
  | none => rfl
  | some x =>
    obtain ⟨t', r⟩ := x
    have h1 := (Rm.Loc.checked.1 _ _ _ h).2 ((encV t).drop k)
    rw [List.take_append_drop] at h1
    have h2 := checked_back hc ho []
    rw [List.append_nil] at h2
    rw [h2] at h1
    injection h1 with h1; injection h1 with _ h1
    have h3 : ((encV t).drop k).length = 0 := by
      have := congrArg List.length h1
      rw [List.length_append] at this
      simp only [List.length_nil] at this
      omega
    rw [List.length_drop] at h3
    omega
/-- Nobody's bytes begin with another one's. -/
theorem apart_of {t t' : V} (hc : chkV t = 0) (ho : OkE t) (hc' : chkV t' = 0) (ho' : OkE t') (hne : t ≠ t') : (encV t).take (encV t').length ≠ encV t' := by
  intro e
  have h1 := checked_back hc ho []
  rw [List.append_nil] at h1
  have h2 := checked_back hc' ho' ((encV t).drop (encV t').length)
  have h3 : encV t' ++ (encV t).drop (encV t').length = encV t := by
    conv => lhs; rw [← e]
    rw [e]
    conv => rhs; rw [← List.take_append_drop (encV t').length (encV t), e]
  rw [h3] at h2
  rw [h1] at h2
  injection h2 with h2; injection h2 with h2 _
  exact hne h2
set_option maxRecDepth 100000 in
set_option maxHeartbeats 16000000 in
theorem apart_c (t t' : V) (u u' : Value) (kk : Int) (x : List UInt8) (ux : Value) (w : World) (hv : VRep w w.heap.size t u) (hv' : VRep w w.heap.size t' u') (hux : Hands w ux x) (hxm : x.length ≤ maxLen) (hM : MaxB w.heap.size w) :
    Calls Tryz.prog 6 #[u, u', .int .i64 kk, ux] w fun e w' => e = .returned (.bool true) ∧ Below w.heap.size w w' := by
  have hmax : maxLen = 9223372036854775807 := rfl
  obtain ⟨k, n, s, its, A, c, ht, rfl, hk, hn, hs, hR⟩ := hv.open_
  obtain ⟨k', n', s', its', A', c', ht', rfl, hk', hn', hs', hR'⟩ := hv'.open_
  obtain ⟨W, hW⟩ : ∃ W, W = (w.alloc (.cells #[.int .u8 (k : Int), .int .i64 n, .string s, .slice A its.length c] 34)).alloc (.cells #[.int .u8 (k' : Int), .int .i64 n', .string s', .slice A' its'.length c'] 34) := ⟨_, rfl⟩
  have hBW : Below w.heap.size w W := hW ▸ ((Below.refl _ _).alloc (Nat.le_refl _) _).alloc (by simp) _
  have hsz : w.heap.size + 1 < W.heap.size := by rw [hW]; simp
  have bA : Blk W w.heap.size 34 #[.int .u8 (k : Int), .int .i64 n, .string s, .slice A its.length c] := hW ▸ (Blk.new _ _ _).alloc _
  have bB : Blk W (w.heap.size + 1) 34 #[.int .u8 (k' : Int), .int .i64 n', .string s', .slice A' its'.length c'] := hW ▸ (by have := Blk.new (w.alloc (.cells #[.int .u8 (k : Int), .int .i64 n, .string s, .slice A its.length c] 34)) 34 #[.int .u8 (k' : Int), .int .i64 n', .string s', .slice A' its'.length c']; simpa using this)
  have HC : Hid (∀ W', Below W.heap.size W W' → (W'.cell? ⟨w.heap.size, 0, none⟩ = some (.int .u8 (k : Int)) ∧ W'.cell? ⟨w.heap.size, 1, none⟩ = some (.int .i64 n) ∧ W'.cell? ⟨w.heap.size, 2, none⟩ = some (.string s) ∧ W'.cell? ⟨w.heap.size, 3, none⟩ = some (.slice A its.length c)) ∧ (W'.cell? ⟨w.heap.size + 1, 0, none⟩ = some (.int .u8 (k' : Int)) ∧ W'.cell? ⟨w.heap.size + 1, 1, none⟩ = some (.int .i64 n') ∧ W'.cell? ⟨w.heap.size + 1, 2, none⟩ = some (.string s') ∧ W'.cell? ⟨w.heap.size + 1, 3, none⟩ = some (.slice A' its'.length c'))) := Lib.hid fun W' hb => ⟨s_of (bA.below hb (by omega)), s_of (bB.below hb hsz)⟩
  have HBW := Lib.hid hBW
  have tow : ∀ W', Below W.heap.size W W' → Below w.heap.size w W' := fun W' hb => hBW.trans (hb.mono hBW.size)
  have HW1 : Hid (∀ W', Below W.heap.size W W' → Calls Tryz.prog 27 #[.agg #[.int .u8 (k : Int), .int .i64 n, .string s, .slice A its.length c]] W' fun e w' => TellsWide t e ∧ Below W'.heap.size W' w') := Lib.hid fun W' hb => wide_c t _ W' ((hv.under (tow _ hb)).more (tow _ hb).size)
  have HW2 : Hid (∀ W', Below W.heap.size W W' → Calls Tryz.prog 27 #[.agg #[.int .u8 (k' : Int), .int .i64 n', .string s', .slice A' its'.length c']] W' fun e w' => TellsWide t' e ∧ Below W'.heap.size W' w') := Lib.hid fun W' hb => wide_c t' _ W' ((hv'.under (tow _ hb)).more (tow _ hb).size)
  have HWK : Hid (∀ W', Below W.heap.size W W' → Calls Tryz.prog 9 #[] W' fun e w' => e = .returned (.bool true) ∧ Below W'.heap.size W' w') := Lib.hid fun W' hb => works_c W' (hM.under (tow _ hb)).2
  have HV := Lib.hid hv; have HV' := Lib.hid hv'; have HM := Lib.hid hM
  have HUX := Lib.hid hux; have HSZ := Lib.hid hsz
  have HB := Lib.hid (Below.refl W.heap.size W)
  obtain ⟨AX, CX, rfl⟩ := hands_len2 hux
  have HWE := Lib.hid hW
  rw [hW] at HC HW1 HW2 HWK HB HSZ HBW
  clear hv hv' hM hux tow bA bB hBW hsz hR hR' ht ht' hW HWE
  obtain ⟨lx, hlx⟩ : ∃ k, x.length = k := ⟨_, rfl⟩
  rw [hlx] at hxm HUX ⊢
  by_cases hbx : (3000 : Int) < (lx : Int)
  · clear hlx
    go_enter Tryz.func6, Tryz.ntmps6
    go_wp2_with fail
    refine (HW1.out _ HB.out).mono ?_
    rintro e w1 ⟨⟨q1, rfl, hq1⟩, hb1⟩
    have HB1 := Lib.hid (HB.out.trans (hb1.mono HB.out.size)); clear HB; have HB := HB1; clear HB1 hb1
    obtain ⟨⟨x0, x1, x2, x3⟩, y0, y1, y2, y3⟩ := HC.out _ HB.out
    have HQ1 := Lib.hid hq1; clear hq1
    cases q1
    · go_wp2_with fail
      refine (HW2.out _ HB.out).mono ?_
      rintro e w2 ⟨⟨q2, rfl, hq2⟩, hb2⟩
      have HB1 := Lib.hid (HB.out.trans (hb2.mono HB.out.size)); clear HB; have HB := HB1; clear HB1 hb2
      obtain ⟨⟨x0, x1, x2, x3⟩, y0, y1, y2, y3⟩ := HC.out _ HB.out
      have HQ2 := Lib.hid hq2; clear hq2
      cases q2
      · go_wp2_with fail
        refine (HWK.out _ HB.out).mono ?_
        rintro e w9 ⟨rfl, hb9⟩
        have HB9 := Lib.hid (HBW.out.trans ((HB.out.trans (hb9.mono HB.out.size)).mono HBW.out.size)); clear hb9
        go_wp2_with fail
        go_ret
        exact ⟨rfl, HB9.out⟩
      · go_wp2_with fail
        refine (HWK.out _ HB.out).mono ?_
        rintro e w9 ⟨rfl, hb9⟩
        have HB9 := Lib.hid (HBW.out.trans ((HB.out.trans (hb9.mono HB.out.size)).mono HBW.out.size)); clear hb9
        go_wp2_with fail
        go_ret
        exact ⟨rfl, HB9.out⟩
    · go_wp2_with fail
      refine (HWK.out _ HB.out).mono ?_
      rintro e w9 ⟨rfl, hb9⟩
      have HB9 := Lib.hid (HBW.out.trans ((HB.out.trans (hb9.mono HB.out.size)).mono HBW.out.size)); clear hb9
      go_wp2_with fail
      go_ret
      exact ⟨rfl, HB9.out⟩
  go_enter Tryz.func6, Tryz.ntmps6
  go_wp2_with fail
  refine (HW1.out _ HB.out).mono ?_
  rintro e w1 ⟨⟨q1, rfl, hq1⟩, hb1⟩
  have HB1 := Lib.hid (HB.out.trans (hb1.mono HB.out.size)); clear HB; have HB := HB1; clear HB1 hb1
  obtain ⟨⟨x0, x1, x2, x3⟩, y0, y1, y2, y3⟩ := HC.out _ HB.out
  have HQ1 := Lib.hid hq1; clear hq1
  cases q1
  · go_wp2_with fail
    refine (HW2.out _ HB.out).mono ?_
    rintro e w2 ⟨⟨q2, rfl, hq2⟩, hb2⟩
    have HB1 := Lib.hid (HB.out.trans (hb2.mono HB.out.size)); clear HB; have HB := HB1; clear HB1 hb2
    obtain ⟨⟨x0, x1, x2, x3⟩, y0, y1, y2, y3⟩ := HC.out _ HB.out
    have HQ2 := Lib.hid hq2; clear hq2
    cases q2
    · go_wp2_with fail
      refine (HWK.out _ HB.out).mono ?_
      rintro e w3 ⟨rfl, hb3⟩
      have HB1 := Lib.hid (HB.out.trans (hb3.mono HB.out.size)); clear HB; have HB := HB1; clear HB1 hb3
      obtain ⟨⟨x0, x1, x2, x3⟩, y0, y1, y2, y3⟩ := HC.out _ HB.out
      have HVA := Lib.hid (val_nil2 HV.out (HBW.out.trans (HB.out.mono HBW.out.size)).drew HM.out HQ1.out)
      have HVB : Hid (∀ W', Below w.heap.size w W' → Calls Tryz.prog 21 #[.slice none 0 0, .agg #[.int .u8 (k' : Int), .int .i64 n', .string s', .slice A' its'.length c']] W' fun e w' => Gives W'.heap.size W' (valB t') e w') := Lib.hid fun W' hb => val_nil2 HV'.out hb HM.out HQ2.out
      have HS0 := Lib.hid (HC.out _ HB.out.drew)
      have HBD := Lib.hid HB.out.drew
      clear HB x0 x1 x2 x3 y0 y1 y2 y3
      go_upto_region 3 with fail
      refine chain_region (fun W' => (W'.cell? ⟨w.heap.size, 0, none⟩ = some (.int .u8 (k : Int)) ∧ W'.cell? ⟨w.heap.size, 1, none⟩ = some (.int .i64 n) ∧ W'.cell? ⟨w.heap.size, 2, none⟩ = some (.string s) ∧ W'.cell? ⟨w.heap.size, 3, none⟩ = some (.slice A its.length c)) ∧ (W'.cell? ⟨w.heap.size + 1, 0, none⟩ = some (.int .u8 (k' : Int)) ∧ W'.cell? ⟨w.heap.size + 1, 1, none⟩ = some (.int .i64 n') ∧ W'.cell? ⟨w.heap.size + 1, 2, none⟩ = some (.string s') ∧ W'.cell? ⟨w.heap.size + 1, 3, none⟩ = some (.slice A' its'.length c'))) 6 (by kernel_rfl) ?_
      refine T_take (i := 0) (v := .agg #[.int .u8 (k : Int), .int .i64 n, .string s, .slice A its.length c]) rfl (by kernel_rfl) (fun _ _ _ h => h) rfl (fun W hS => by obtain ⟨⟨h1, h2, h3, h4⟩, _⟩ := hS; go_simp) HS0.out ?_
      refine T_take (i := 2) (v := .agg #[.int .u8 (k' : Int), .int .i64 n', .string s', .slice A' its'.length c']) rfl (by kernel_rfl) (fun _ _ _ h => h) rfl (fun W hS => by obtain ⟨_, h1, h2, h3, h4⟩ := hS; go_simp) HS0.out ?_
      refine T_one (i := 1) rfl (by kernel_rfl) rfl ?_
      refine op_callT #[.slice none 0 0, .agg #[.int .u8 (k : Int), .int .i64 n, .string s, .slice A its.length c]] (by simp [go_sem]) (enters_of Tryz.func21 (by kernel_rfl) rfl _ _) HVA.out ?_
      rintro e w4 ⟨v4, rfl, hy4, hb4⟩
      obtain ⟨A4, C4, rfl, _, _, _⟩ := own_slice hy4
      have HB4 := Lib.hid (HBD.out.trans (hb4.mono HBD.out.size))
      have HY4 := Lib.hid hy4
      clear hy4 hb4
      refine ⟨_, rfl, fun _ => HC.out _ HB4.out, ?_⟩
      refine T_one (i := 3) rfl (by kernel_rfl) rfl ?_
      refine op_callT #[.slice none 0 0, .agg #[.int .u8 (k' : Int), .int .i64 n', .string s', .slice A' its'.length c']] (by simp [go_sem]) (enters_of Tryz.func21 (by kernel_rfl) rfl _ _) (HVB.out _ (HBW.out.trans (HB4.out.mono HBW.out.size))) ?_
      rintro e w5 ⟨v5, rfl, hy5, hb5⟩
      obtain ⟨A5, C5, rfl, _, _, _⟩ := own_slice hy5
      have HB := Lib.hid (HB4.out.trans (hb5.mono HB4.out.size))
      have HYA := Lib.hid (HY4.out.under hb5)
      have HYB := Lib.hid hy5
      clear hy5 hb5 HB4 HY4 HBD HS0 HVA HVB
      refine ⟨_, rfl, fun _ => HC.out _ HB.out, ?_⟩
      refine T_one (i := 4) rfl (by kernel_rfl) rfl ?_
      go_simp
      refine ⟨HC.out _ HB.out, ?_⟩
      refine T_one (i := 5) rfl (by kernel_rfl) rfl ?_
      go_simp
      refine ⟨HC.out _ HB.out, ?_⟩
      refine T_done (by kernel_rfl) ?_
      have HBF := Lib.hid (HBW.out.trans (HB.out.mono HBW.out.size))
      obtain ⟨⟨x0, x1, x2, x3⟩, y0, y1, y2, y3⟩ := HC.out _ HB.out
      by_cases hA : chkV t = 0
      · have ea : valB t = encV t := if_pos hA
        have ok1 := few_bytes HV.out rfl HQ1.out hA
        have n1 := enc_ne2 t
        have l1 := ok1.2
        have HOK := Lib.hid ok1.1; have HA := Lib.hid hA
        rw [ea] at HYA ⊢
        clear ok1 ea hA
        obtain ⟨ab, hab⟩ : ∃ ab, encV t = ab := ⟨_, rfl⟩
        have HAB := Lib.hid hab
        rw [hab] at HYA n1 l1 ⊢
        clear hab
        obtain ⟨g4, rfl, hc4, hm4⟩ := own_some HYA.out n1
        obtain ⟨j, hj, hjl⟩ := part_of kk n1 (by omega)
        have HYS := Lib.hid (own_part HYA.out (Nat.le_of_lt hjl))
        have HYA0 := Lib.hid HYA.out
        obtain ⟨z, hz⟩ : ∃ z, ab.length = z := ⟨_, rfl⟩
        have HZ := Lib.hid hz
        have hn0 : 0 < z := by rw [← hz]; exact List.length_pos_iff.2 n1
        have m1 : ((z : Int) == 0) = false := by rw [beq_eq_false_iff_ne]; omega
        have m1b : ¬ (z : Int) = 0 := by omega
        rw [hz] at HYA hj hc4 hjl l1 ⊢
        have hc40 : ¬ C4 = 0 := by omega
        have hjc : (j : Int) ≤ (C4 : Int) := by omega
        have hj0 : (0 : Int) ≤ (j : Int) := by omega
        clear hz
        go_wp2_with fail
        have hbs : (ab.take j).length ≤ 140000000000000 := by rw [List.length_take]; have := HZ.out; omega
        have HN1 := Lib.hid (newReader_c _ _ w5 HYS.out hbs)
        have HBS := Lib.hid hbs
        have HCK1 := Lib.hid (show checkedG (ab.take j) = none by have := short_none HA.out HOK.out (k := j) (by rw [HAB.out, HZ.out]; exact hjl); rwa [HAB.out] at this)
        clear hbs
        refine HN1.out.mono ?_
        rintro e w6 ⟨p1, B1, rfl, hr6, hp6, hb6⟩
        have HB6 := Lib.hid (HB.out.trans (hb6.mono HB.out.size)); have HY6 := Lib.hid hb6; have HP1 := Lib.hid hp6
        have HV1 := Lib.hid (valueP_c p1 B1 (ab.take j) HBS.out w6 hr6)
        rw [HCK1.out] at HV1
        clear hr6 hp6 hb6 HN1 HCK1 HYS x0 x1 x2 x3 y0 y1 y2 y3
        go_wp2_with fail
        refine HV1.out.mono ?_
        rintro e w7 ⟨u1, rfl, hr7, hg7, hl7⟩
        obtain ⟨k1, n1', s1, lt1, At1, ct1, _, rfl, _, _, _, _⟩ := hl7.rep.open_
        have HY7 := Lib.hid (HY6.out.trans (grown_below hg7 HP1.out HY6.out.size))
        have HB7 := Lib.hid (HB.out.trans (HY7.out.mono HB.out.size)); have HR7 := Lib.hid hr7
        have HBH := Lib.hid (behind_c ab x (.slice (some ⟨g4, 0, none⟩) ab.length C4) (.slice AX lx CX) w7 ((HYA0.out.under HY7.out).hands n1) (HUX.out.under (HBW.out.trans (HB7.out.mono HBW.out.size))) (by have := HZ.out; omega) (by omega))
        rw [HZ.out] at HBH
        clear hr7 hg7 hl7 HV1 HB6 HY6
        go_wp2_with fail
        refine HBH.out.mono ?_
        rintro e w8 ⟨v8, rfl, hy8, hb8⟩
        have HY8 := Lib.hid (HY7.out.trans (hb8.mono HY7.out.size)); have HB8 := Lib.hid (HB7.out.trans (hb8.mono HB7.out.size)); have HR8 := Lib.hid (HR7.out.under hb8)
        have hls : (ab ++ x).length ≤ 140000000000000 := by rw [List.length_append, HZ.out]; omega
        have HN2 := Lib.hid (newReader_c _ _ w8 hy8.sees hls)
        have HLS := Lib.hid hls
        clear hy8 hb8 hls HR7 HBH
        go_wp2_with fail
        refine HN2.out.mono ?_
        rintro e w9 ⟨p2, B2, rfl, hr9, hp9, hb9⟩
        have HY9 := Lib.hid (HY8.out.trans (hb9.mono HY8.out.size)); have HB9 := Lib.hid (HB8.out.trans (hb9.mono HB8.out.size)); have HR9 := Lib.hid (HR8.out.under hb9)
        have dr : ∀ W0 : World, Below W0.heap.size W0 W0.drew := fun W0 => (Below.refl _ _).drew
        have HR1 := Lib.hid (HR9.out.under (dr _))
        have HVP := Lib.hid (valueP_c p2 B2 (ab ++ x) HLS.out _ (hr9.under (dr _)))
        have HCK := Lib.hid (show checkedG (ab ++ x) = some (t, x) by have := checked_back HA.out HOK.out x; rwa [HAB.out] at this)
        have HBD := Lib.hid (HBW.out.trans (HB9.out.mono HBW.out.size)).drew
        have HB9D := Lib.hid HB9.out.drew
        have HY9D := Lib.hid HY9.out.drew
        have HPY := Lib.hid (Nat.le_trans HY8.out.size hp9)
        have HPW := Lib.hid (Nat.le_trans HB8.out.size hp9)
        have HP2 := Lib.hid (Nat.le_trans (Nat.le_trans HBW.out.size HB8.out.size) hp9)
        have HSX := Lib.hid (HC.out _ HB9D.out)
        clear hr9 hp9 hb9 dr HN2 HR9 HR8 HB9 HB8
        go_wp2_with fail
        go_upto_region 9 with fail
        refine chain_region (fun W' => (W'.cell? ⟨w.heap.size, 0, none⟩ = some (.int .u8 (k : Int)) ∧ W'.cell? ⟨w.heap.size, 1, none⟩ = some (.int .i64 n) ∧ W'.cell? ⟨w.heap.size, 2, none⟩ = some (.string s) ∧ W'.cell? ⟨w.heap.size, 3, none⟩ = some (.slice A its.length c)) ∧ (W'.cell? ⟨w.heap.size + 1, 0, none⟩ = some (.int .u8 (k' : Int)) ∧ W'.cell? ⟨w.heap.size + 1, 1, none⟩ = some (.int .i64 n') ∧ W'.cell? ⟨w.heap.size + 1, 2, none⟩ = some (.string s') ∧ W'.cell? ⟨w.heap.size + 1, 3, none⟩ = some (.slice A' its'.length c'))) 21 (by kernel_rfl) ?_
        refine T_one (i := 0) rfl (by kernel_rfl) rfl ?_
        go_simp
        refine ⟨HSX.out, ?_⟩
        refine T_one (i := 1) rfl (by kernel_rfl) rfl ?_
        refine op_guard ?_
        refine op_callT #[.pointer (some ⟨p1, 0, none⟩)] (by simp [go_sem]) (enters_of Tryz.func24 (by kernel_rfl) rfl _ _) (ok_c p1 B1 [] true _ HR1.out) ?_
        rintro e w10 ⟨rfl, rfl⟩
        refine ⟨_, rfl, fun _ => HSX.out, ?_⟩
        refine T_one (i := 2) rfl (by kernel_rfl) rfl ?_
        go_simp
        refine ⟨HSX.out, ?_⟩
        refine T_take (i := 3) (v := .pointer (some ⟨p2, 0, none⟩)) rfl (by kernel_rfl) (fun _ _ _ h => h) rfl (fun W hS => by go_simp) HSX.out ?_
        go_simp
        refine T_take (i := 5) (v := .agg #[.int .u8 (k : Int), .int .i64 n, .string s, .slice A its.length c]) rfl (by kernel_rfl) (fun _ _ _ h => h) rfl (fun W hS => by obtain ⟨⟨h1, h2, h3, h4⟩, _⟩ := hS; go_simp) HSX.out ?_
        go_simp
        refine T_one (i := 4) rfl (by kernel_rfl) rfl ?_
        refine op_guard ?_
        refine op_callT #[.pointer (some ⟨p2, 0, none⟩)] (by simp [go_sem]) (enters_of Tryz.func23 (by kernel_rfl) rfl _ _) (HVP.out) ?_
        rintro e w11 ⟨u2, rfl, hr11, hg11, hl11⟩
        rw [HCK.out] at hr11 hl11
        obtain ⟨k2, n2, s2, lt2, At2, ct2, _, rfl, _, _, _, _⟩ := hl11.rep.open_
        have HSM := Lib.hid (same_c t t _ _ _ hl11.rep ((HV.out.under (HBD.out.trans (grown_below hg11 HP2.out HBD.out.size))).more (HBD.out.trans (grown_below hg11 HP2.out HBD.out.size)).size))
        have HB11 := Lib.hid (HB9D.out.trans (grown_below hg11 HPW.out HB9D.out.size))
        have HY11 := Lib.hid (HY9D.out.trans (grown_below hg11 HPY.out HY9D.out.size))
        have HR11 := Lib.hid hr11
        clear hr11 hl11 hg11
        have HSX := Lib.hid (HC.out _ HB11.out)
        refine ⟨_, rfl, fun _ => HSX.out, ?_⟩
        refine T_one (i := 6) rfl (by kernel_rfl) rfl ?_
        refine op_guard ?_
        refine op_callT #[.agg #[.int .u8 (k2 : Int), .int .i64 n2, .string s2, .slice At2 lt2.length ct2], .agg #[.int .u8 (k : Int), .int .i64 n, .string s, .slice A its.length c]] (by simp [go_sem]) (enters_of Tryz.func22 (by kernel_rfl) rfl _ _) (HSM.out) ?_
        rintro e w12 ⟨hsm, hb12⟩
        obtain rfl := hsm.yes rfl
        have HB12 := Lib.hid (HB11.out.trans (hb12.mono HB11.out.size))
        have HY12 := Lib.hid (HY11.out.trans (hb12.mono HY11.out.size))
        have HR12 := Lib.hid (HR11.out.under hb12)
        clear hb12 hsm
        have HSX := Lib.hid (HC.out _ HB12.out)
        refine ⟨_, rfl, fun _ => HSX.out, ?_⟩
        refine T_one (i := 7) rfl (by kernel_rfl) rfl ?_
        go_simp
        refine ⟨HSX.out, ?_⟩
        refine T_one (i := 8) rfl (by kernel_rfl) rfl ?_
        go_simp
        refine ⟨HSX.out, ?_⟩
        refine T_one (i := 9) rfl (by kernel_rfl) rfl ?_
        go_simp
        refine ⟨HSX.out, ?_⟩
        refine T_one (i := 10) rfl (by kernel_rfl) rfl ?_
        go_simp
        refine ⟨HSX.out, ?_⟩
        refine T_one (i := 11) rfl (by kernel_rfl) rfl ?_
        refine op_guard ?_
        refine op_callT #[.pointer (some ⟨p2, 0, none⟩)] (by simp [go_sem]) (enters_of Tryz.func24 (by kernel_rfl) rfl _ _) (ok_c p2 B2 _ _ _ HR12.out) ?_
        rintro e w13 ⟨rfl, rfl⟩
        refine ⟨_, rfl, fun _ => HSX.out, ?_⟩
        refine T_one (i := 12) rfl (by kernel_rfl) rfl ?_
        go_simp
        refine ⟨HSX.out, ?_⟩
        refine T_one (i := 13) rfl (by kernel_rfl) rfl ?_
        go_simp
        refine ⟨HSX.out, ?_⟩
        refine T_one (i := 14) rfl (by kernel_rfl) rfl ?_
        go_simp
        refine ⟨HSX.out, ?_⟩
        refine T_take (i := 15) (v := .pointer (some ⟨p2, 0, none⟩)) rfl (by kernel_rfl) (fun _ _ _ h => h) rfl (fun W hS => by go_simp) HSX.out ?_
        go_simp
        refine T_take (i := 17) (v := .slice AX lx CX) rfl (by kernel_rfl) (fun _ _ _ h => h) rfl (fun W hS => by go_simp) HSX.out ?_
        go_simp
        refine T_take (i := 18) (v := .int .i64 (lx : Int)) rfl (by kernel_rfl) (fun _ _ _ h => h) rfl (fun W hS => by go_simp) HSX.out ?_
        go_simp
        refine T_one (i := 16) rfl (by kernel_rfl) rfl ?_
        refine op_guard ?_
        refine op_callT #[.pointer (some ⟨p2, 0, none⟩)] (by simp [go_sem]) (enters_of Tryz.func15 (by kernel_rfl) rfl _ _) (left_c p2 B2 _ _ _ HR12.out) ?_
        rintro e w14 ⟨rfl, rfl⟩
        rw [show (restO (some (t, x))).length = lx from hlx]
        refine ⟨_, rfl, fun _ => HSX.out, ?_⟩
        refine T_one (i := 19) rfl (by kernel_rfl) rfl ?_
        go_simp
        refine ⟨HSX.out, ?_⟩
        refine T_one (i := 20) rfl (by kernel_rfl) rfl ?_
        go_simp
        refine ⟨HSX.out, ?_⟩
        refine T_done (by kernel_rfl) ?_
        go_wp2_with fail
        clear HSX HY9 HY9D HY11 HY8 HB12 HB11 HR12 HR11 HSM HR1 HVP HBD
        have HVD : Hid (∀ W', Below w5.heap.size w5 W' → VRep W' W'.heap.size t (.agg #[.int .u8 (k : Int), .int .i64 n, .string s, .slice A its.length c]) ∧ VRep W' W'.heap.size t' (.agg #[.int .u8 (k' : Int), .int .i64 n', .string s', .slice A' its'.length c'])) := Lib.hid fun W' hy => by
          have hb := HBW.out.trans ((HB.out.trans (hy.mono HB.out.size)).mono HBW.out.size)
          exact ⟨(HV.out.under hb).more hb.size, (HV'.out.under hb).more hb.size⟩
        by_cases hA' : chkV t' = 0
        · have eb : valB t' = encV t' := if_pos hA'
          have ok2 := few_bytes HV'.out rfl HQ2.out hA'
          have n2 := enc_ne2 t'
          have hap : t ≠ t' → ab.take (encV t').length ≠ encV t' := fun h => by have := apart_of HA.out HOK.out hA' ok2.1 h; rwa [HAB.out] at this
          have l2 := ok2.2
          rw [eb] at HYB ⊢
          clear eb ok2 hA'
          obtain ⟨bb, hbb⟩ : ∃ bb, encV t' = bb := ⟨_, rfl⟩
          rw [hbb] at HYB n2 l2 hap ⊢
          clear hbb
          have HYB0 := Lib.hid HYB.out
          obtain ⟨zb, hzb⟩ : ∃ zb, bb.length = zb := ⟨_, rfl⟩
          have hb0 : 0 < zb := by rw [← hzb]; exact List.length_pos_iff.2 n2
          rw [hzb] at HYB l2 hap ⊢
          have HAP := Lib.hid hap; have HZB := Lib.hid hzb
          clear hap hzb n2
          have m2 : ((zb : Int) == 0) = false := by rw [beq_eq_false_iff_ne]; omega
          have m2b : ¬ (zb : Int) = 0 := by omega
          by_cases htt : t = t'
          · have HALL : Hid (∀ W', Below w5.heap.size w5 W' → (W'.cell? ⟨w.heap.size, 0, none⟩ = some (.int .u8 (k : Int)) ∧ W'.cell? ⟨w.heap.size, 1, none⟩ = some (.int .i64 n) ∧ W'.cell? ⟨w.heap.size, 2, none⟩ = some (.string s) ∧ W'.cell? ⟨w.heap.size, 3, none⟩ = some (.slice A its.length c)) ∧ (W'.cell? ⟨w.heap.size + 1, 0, none⟩ = some (.int .u8 (k' : Int)) ∧ W'.cell? ⟨w.heap.size + 1, 1, none⟩ = some (.int .i64 n') ∧ W'.cell? ⟨w.heap.size + 1, 2, none⟩ = some (.string s') ∧ W'.cell? ⟨w.heap.size + 1, 3, none⟩ = some (.slice A' its'.length c'))) := Lib.hid fun W' hy => HC.out _ (HB.out.trans (hy.mono HB.out.size))
            have HZD := Lib.hid HY12.out.drew
            have HSX := Lib.hid (HALL.out _ HZD.out)
            refine chain_region (fun W' => (W'.cell? ⟨w.heap.size, 0, none⟩ = some (.int .u8 (k : Int)) ∧ W'.cell? ⟨w.heap.size, 1, none⟩ = some (.int .i64 n) ∧ W'.cell? ⟨w.heap.size, 2, none⟩ = some (.string s) ∧ W'.cell? ⟨w.heap.size, 3, none⟩ = some (.slice A its.length c)) ∧ (W'.cell? ⟨w.heap.size + 1, 0, none⟩ = some (.int .u8 (k' : Int)) ∧ W'.cell? ⟨w.heap.size + 1, 1, none⟩ = some (.int .i64 n') ∧ W'.cell? ⟨w.heap.size + 1, 2, none⟩ = some (.string s') ∧ W'.cell? ⟨w.heap.size + 1, 3, none⟩ = some (.slice A' its'.length c'))) 26 (by kernel_rfl) ?_
            refine T_one (i := 0) rfl (by kernel_rfl) rfl ?_
            go_simp
            refine ⟨HSX.out, ?_⟩
            refine T_one (i := 1) rfl (by kernel_rfl) rfl ?_
            go_simp
            refine ⟨HSX.out, ?_⟩
            refine T_one (i := 2) rfl (by kernel_rfl) rfl ?_
            go_simp
            refine ⟨HSX.out, ?_⟩
            refine T_one (i := 3) rfl (by kernel_rfl) rfl ?_
            go_simp
            refine ⟨HSX.out, ?_⟩
            refine T_take (i := 4) (v := .agg #[.int .u8 (k : Int), .int .i64 n, .string s, .slice A its.length c]) rfl (by kernel_rfl) (fun _ _ _ h => h) rfl (fun W hS => by obtain ⟨⟨h1, h2, h3, h4⟩, _⟩ := hS; go_simp) HSX.out ?_
            go_simp
            refine T_take (i := 5) (v := .agg #[.int .u8 (k' : Int), .int .i64 n', .string s', .slice A' its'.length c']) rfl (by kernel_rfl) (fun _ _ _ h => h) rfl (fun W hS => by obtain ⟨_, h1, h2, h3, h4⟩ := hS; go_simp) HSX.out ?_
            go_simp
            refine T_one (i := 6) rfl (by kernel_rfl) rfl ?_
            refine op_guard ?_
            refine op_callT #[.agg #[.int .u8 (k : Int), .int .i64 n, .string s, .slice A its.length c], .agg #[.int .u8 (k' : Int), .int .i64 n', .string s', .slice A' its'.length c']] (by simp [go_sem]) (enters_of Tryz.func22 (by kernel_rfl) rfl _ _) (same_c t t' _ _ _ (HVD.out _ HZD.out).1 (HVD.out _ HZD.out).2) ?_
            rintro e w15 ⟨hsm, hb15⟩
            obtain rfl := hsm.yes htt
            have HB15 := Lib.hid (HZD.out.trans (hb15.mono HZD.out.size))
            clear hb15 hsm HSX
            have HSX := Lib.hid (HALL.out _ HB15.out)
            refine ⟨_, rfl, fun _ => HSX.out, ?_⟩
            refine T_one (i := 7) rfl (by kernel_rfl) rfl ?_
            go_simp
            refine ⟨HSX.out, ?_⟩
            refine T_one (i := 8) rfl (by kernel_rfl) rfl ?_
            go_simp
            refine ⟨HSX.out, ?_⟩
            refine T_skipF (i := 9) rfl (by kernel_rfl) (fun _ _ _ h => h) rfl HSX.out ?_
            go_simp
            refine T_skipF (i := 10) rfl (by kernel_rfl) (fun _ _ _ h => h) rfl HSX.out ?_
            go_simp
            refine T_skip1 (i := 11) rfl (by kernel_rfl) rfl HSX.out ?_
            go_simp
            refine T_skip1 (i := 12) rfl (by kernel_rfl) rfl HSX.out ?_
            go_simp
            refine T_skip1 (i := 13) rfl (by kernel_rfl) rfl HSX.out ?_
            go_simp
            refine T_one (i := 14) rfl (by kernel_rfl) rfl ?_
            go_simp
            refine ⟨HSX.out, ?_⟩
            refine T_one (i := 15) rfl (by kernel_rfl) rfl ?_
            go_simp
            refine ⟨HSX.out, ?_⟩
            refine T_skipF (i := 16) rfl (by kernel_rfl) (fun _ _ _ h => h) rfl HSX.out ?_
            go_simp
            refine T_skipF (i := 17) rfl (by kernel_rfl) (fun _ _ _ h => h) rfl HSX.out ?_
            go_simp
            refine T_skipF (i := 18) rfl (by kernel_rfl) (fun _ _ _ h => h) rfl HSX.out ?_
            go_simp
            refine T_skipF (i := 19) rfl (by kernel_rfl) (fun _ _ _ h => h) rfl HSX.out ?_
            go_simp
            refine T_skipF (i := 20) rfl (by kernel_rfl) (fun _ _ _ h => h) rfl HSX.out ?_
            go_simp
            refine T_skip1 (i := 21) rfl (by kernel_rfl) rfl HSX.out ?_
            go_simp
            refine T_skip1 (i := 22) rfl (by kernel_rfl) rfl HSX.out ?_
            go_simp
            refine T_skip1 (i := 23) rfl (by kernel_rfl) rfl HSX.out ?_
            go_simp
            refine T_one (i := 24) rfl (by kernel_rfl) rfl ?_
            go_simp
            refine ⟨HSX.out, ?_⟩
            refine T_one (i := 25) rfl (by kernel_rfl) rfl ?_
            go_simp
            refine ⟨HSX.out, ?_⟩
            refine T_done (by kernel_rfl) ?_
            go_wp2_with fail
            go_ret
            exact ⟨rfl, HBW.out.trans ((HB.out.trans (HB15.out.mono HB.out.size)).mono HBW.out.size)⟩
          · by_cases hlt : (z : Int) < (zb : Int)
            · have HALL : Hid (∀ W', Below w5.heap.size w5 W' → (W'.cell? ⟨w.heap.size, 0, none⟩ = some (.int .u8 (k : Int)) ∧ W'.cell? ⟨w.heap.size, 1, none⟩ = some (.int .i64 n) ∧ W'.cell? ⟨w.heap.size, 2, none⟩ = some (.string s) ∧ W'.cell? ⟨w.heap.size, 3, none⟩ = some (.slice A its.length c)) ∧ (W'.cell? ⟨w.heap.size + 1, 0, none⟩ = some (.int .u8 (k' : Int)) ∧ W'.cell? ⟨w.heap.size + 1, 1, none⟩ = some (.int .i64 n') ∧ W'.cell? ⟨w.heap.size + 1, 2, none⟩ = some (.string s') ∧ W'.cell? ⟨w.heap.size + 1, 3, none⟩ = some (.slice A' its'.length c'))) := Lib.hid fun W' hy => HC.out _ (HB.out.trans (hy.mono HB.out.size))
              have HZD := Lib.hid HY12.out.drew
              have HSX := Lib.hid (HALL.out _ HZD.out)
              refine chain_region (fun W' => (W'.cell? ⟨w.heap.size, 0, none⟩ = some (.int .u8 (k : Int)) ∧ W'.cell? ⟨w.heap.size, 1, none⟩ = some (.int .i64 n) ∧ W'.cell? ⟨w.heap.size, 2, none⟩ = some (.string s) ∧ W'.cell? ⟨w.heap.size, 3, none⟩ = some (.slice A its.length c)) ∧ (W'.cell? ⟨w.heap.size + 1, 0, none⟩ = some (.int .u8 (k' : Int)) ∧ W'.cell? ⟨w.heap.size + 1, 1, none⟩ = some (.int .i64 n') ∧ W'.cell? ⟨w.heap.size + 1, 2, none⟩ = some (.string s') ∧ W'.cell? ⟨w.heap.size + 1, 3, none⟩ = some (.slice A' its'.length c'))) 26 (by kernel_rfl) ?_
              refine T_one (i := 0) rfl (by kernel_rfl) rfl ?_
              go_simp
              refine ⟨HSX.out, ?_⟩
              refine T_one (i := 1) rfl (by kernel_rfl) rfl ?_
              go_simp
              refine ⟨HSX.out, ?_⟩
              refine T_one (i := 2) rfl (by kernel_rfl) rfl ?_
              go_simp
              refine ⟨HSX.out, ?_⟩
              refine T_one (i := 3) rfl (by kernel_rfl) rfl ?_
              go_simp
              refine ⟨HSX.out, ?_⟩
              refine T_take (i := 4) (v := .agg #[.int .u8 (k : Int), .int .i64 n, .string s, .slice A its.length c]) rfl (by kernel_rfl) (fun _ _ _ h => h) rfl (fun W hS => by obtain ⟨⟨h1, h2, h3, h4⟩, _⟩ := hS; go_simp) HSX.out ?_
              go_simp
              refine T_take (i := 5) (v := .agg #[.int .u8 (k' : Int), .int .i64 n', .string s', .slice A' its'.length c']) rfl (by kernel_rfl) (fun _ _ _ h => h) rfl (fun W hS => by obtain ⟨_, h1, h2, h3, h4⟩ := hS; go_simp) HSX.out ?_
              go_simp
              refine T_one (i := 6) rfl (by kernel_rfl) rfl ?_
              refine op_guard ?_
              refine op_callT #[.agg #[.int .u8 (k : Int), .int .i64 n, .string s, .slice A its.length c], .agg #[.int .u8 (k' : Int), .int .i64 n', .string s', .slice A' its'.length c']] (by simp [go_sem]) (enters_of Tryz.func22 (by kernel_rfl) rfl _ _) (same_c t t' _ _ _ (HVD.out _ HZD.out).1 (HVD.out _ HZD.out).2) ?_
              rintro e w15 ⟨hsm, hb15⟩
              obtain rfl := hsm.no htt
              have HB15 := Lib.hid (HZD.out.trans (hb15.mono HZD.out.size))
              clear hb15 hsm HSX
              have HSX := Lib.hid (HALL.out _ HB15.out)
              refine ⟨_, rfl, fun _ => HSX.out, ?_⟩
              refine T_one (i := 7) rfl (by kernel_rfl) rfl ?_
              go_simp
              refine ⟨HSX.out, ?_⟩
              refine T_one (i := 8) rfl (by kernel_rfl) rfl ?_
              go_simp
              refine ⟨HSX.out, ?_⟩
              refine T_take (i := 9) (v := .slice A5 zb C5) rfl (by kernel_rfl) (fun _ _ _ h => h) rfl (fun W hS => by go_simp) HSX.out ?_
              go_simp
              refine T_take (i := 10) (v := .int .i64 (zb : Int)) rfl (by kernel_rfl) (fun _ _ _ h => h) rfl (fun W hS => by go_simp) HSX.out ?_
              go_simp
              refine T_one (i := 11) rfl (by kernel_rfl) rfl ?_
              go_simp
              refine ⟨HSX.out, ?_⟩
              refine T_one (i := 12) rfl (by kernel_rfl) rfl ?_
              go_simp
              refine ⟨HSX.out, ?_⟩
              refine T_one (i := 13) rfl (by kernel_rfl) rfl ?_
              go_simp
              refine ⟨HSX.out, ?_⟩
              refine T_one (i := 14) rfl (by kernel_rfl) rfl ?_
              go_simp
              refine ⟨HSX.out, ?_⟩
              refine T_one (i := 15) rfl (by kernel_rfl) rfl ?_
              go_simp
              refine ⟨HSX.out, ?_⟩
              refine T_skipF (i := 16) rfl (by kernel_rfl) (fun _ _ _ h => h) rfl HSX.out ?_
              go_simp
              refine T_skipF (i := 17) rfl (by kernel_rfl) (fun _ _ _ h => h) rfl HSX.out ?_
              go_simp
              refine T_skipF (i := 18) rfl (by kernel_rfl) (fun _ _ _ h => h) rfl HSX.out ?_
              go_simp
              refine T_skipF (i := 19) rfl (by kernel_rfl) (fun _ _ _ h => h) rfl HSX.out ?_
              go_simp
              refine T_skipF (i := 20) rfl (by kernel_rfl) (fun _ _ _ h => h) rfl HSX.out ?_
              go_simp
              refine T_skip1 (i := 21) rfl (by kernel_rfl) rfl HSX.out ?_
              go_simp
              refine T_skip1 (i := 22) rfl (by kernel_rfl) rfl HSX.out ?_
              go_simp
              refine T_skip1 (i := 23) rfl (by kernel_rfl) rfl HSX.out ?_
              go_simp
              refine T_one (i := 24) rfl (by kernel_rfl) rfl ?_
              go_simp
              refine ⟨HSX.out, ?_⟩
              refine T_one (i := 25) rfl (by kernel_rfl) rfl ?_
              go_simp
              refine ⟨HSX.out, ?_⟩
              refine T_done (by kernel_rfl) ?_
              go_wp2_with fail
              go_ret
              exact ⟨rfl, HBW.out.trans ((HB.out.trans (HB15.out.mono HB.out.size)).mono HBW.out.size)⟩
            · have hzc : zb ≤ z := by omega
              have hbn := HAP.out htt
              have heq : (List.take zb ab == bb) = false := by rw [beq_eq_false_iff_ne]; exact hbn
              have hjc2 : (zb : Int) ≤ (C4 : Int) := by omega
              have hj02 : (0 : Int) ≤ (zb : Int) := by omega
              have HALL : Hid (∀ W', Below w5.heap.size w5 W' → ((W'.cell? ⟨w.heap.size, 0, none⟩ = some (.int .u8 (k : Int)) ∧ W'.cell? ⟨w.heap.size, 1, none⟩ = some (.int .i64 n) ∧ W'.cell? ⟨w.heap.size, 2, none⟩ = some (.string s) ∧ W'.cell? ⟨w.heap.size, 3, none⟩ = some (.slice A its.length c)) ∧ (W'.cell? ⟨w.heap.size + 1, 0, none⟩ = some (.int .u8 (k' : Int)) ∧ W'.cell? ⟨w.heap.size + 1, 1, none⟩ = some (.int .i64 n') ∧ W'.cell? ⟨w.heap.size + 1, 2, none⟩ = some (.string s') ∧ W'.cell? ⟨w.heap.size + 1, 3, none⟩ = some (.slice A' its'.length c'))) ∧ (Sees W' (.slice (some ⟨g4, 0, none⟩) zb C4) (ab.take zb) ∧ Sees W' (.slice A5 zb C5) bb)) := Lib.hid fun W' hy => ⟨HC.out _ (HB.out.trans (hy.mono HB.out.size)), own_part (HYA0.out.under hy) (by have := HZ.out; omega), by have := (HYB0.out.under hy).sees; rwa [HZB.out] at this⟩
              have HZD := Lib.hid HY12.out.drew
              have HSX := Lib.hid (HALL.out _ HZD.out)
              refine chain_region (fun W' => ((W'.cell? ⟨w.heap.size, 0, none⟩ = some (.int .u8 (k : Int)) ∧ W'.cell? ⟨w.heap.size, 1, none⟩ = some (.int .i64 n) ∧ W'.cell? ⟨w.heap.size, 2, none⟩ = some (.string s) ∧ W'.cell? ⟨w.heap.size, 3, none⟩ = some (.slice A its.length c)) ∧ (W'.cell? ⟨w.heap.size + 1, 0, none⟩ = some (.int .u8 (k' : Int)) ∧ W'.cell? ⟨w.heap.size + 1, 1, none⟩ = some (.int .i64 n') ∧ W'.cell? ⟨w.heap.size + 1, 2, none⟩ = some (.string s') ∧ W'.cell? ⟨w.heap.size + 1, 3, none⟩ = some (.slice A' its'.length c'))) ∧ (Sees W' (.slice (some ⟨g4, 0, none⟩) zb C4) (ab.take zb) ∧ Sees W' (.slice A5 zb C5) bb)) 26 (by kernel_rfl) ?_
              refine T_one (i := 0) rfl (by kernel_rfl) rfl ?_
              go_simp
              refine ⟨HSX.out, ?_⟩
              refine T_one (i := 1) rfl (by kernel_rfl) rfl ?_
              go_simp
              refine ⟨HSX.out, ?_⟩
              refine T_one (i := 2) rfl (by kernel_rfl) rfl ?_
              go_simp
              refine ⟨HSX.out, ?_⟩
              refine T_one (i := 3) rfl (by kernel_rfl) rfl ?_
              go_simp
              refine ⟨HSX.out, ?_⟩
              refine T_take (i := 4) (v := .agg #[.int .u8 (k : Int), .int .i64 n, .string s, .slice A its.length c]) rfl (by kernel_rfl) (fun _ _ _ h => h) rfl (fun W hS => by obtain ⟨⟨⟨h1, h2, h3, h4⟩, _⟩, _⟩ := hS; go_simp) HSX.out ?_
              go_simp
              refine T_take (i := 5) (v := .agg #[.int .u8 (k' : Int), .int .i64 n', .string s', .slice A' its'.length c']) rfl (by kernel_rfl) (fun _ _ _ h => h) rfl (fun W hS => by obtain ⟨⟨_, h1, h2, h3, h4⟩, _⟩ := hS; go_simp) HSX.out ?_
              go_simp
              refine T_one (i := 6) rfl (by kernel_rfl) rfl ?_
              refine op_guard ?_
              refine op_callT #[.agg #[.int .u8 (k : Int), .int .i64 n, .string s, .slice A its.length c], .agg #[.int .u8 (k' : Int), .int .i64 n', .string s', .slice A' its'.length c']] (by simp [go_sem]) (enters_of Tryz.func22 (by kernel_rfl) rfl _ _) (same_c t t' _ _ _ (HVD.out _ HZD.out).1 (HVD.out _ HZD.out).2) ?_
              rintro e w15 ⟨hsm, hb15⟩
              obtain rfl := hsm.no htt
              have HB15 := Lib.hid (HZD.out.trans (hb15.mono HZD.out.size))
              clear hb15 hsm HSX
              have HSX := Lib.hid (HALL.out _ HB15.out)
              refine ⟨_, rfl, fun _ => HSX.out, ?_⟩
              refine T_one (i := 7) rfl (by kernel_rfl) rfl ?_
              go_simp
              refine ⟨HSX.out, ?_⟩
              refine T_one (i := 8) rfl (by kernel_rfl) rfl ?_
              go_simp
              refine ⟨HSX.out, ?_⟩
              refine T_take (i := 9) (v := .slice A5 zb C5) rfl (by kernel_rfl) (fun _ _ _ h => h) rfl (fun W hS => by go_simp) HSX.out ?_
              go_simp
              refine T_take (i := 10) (v := .int .i64 (zb : Int)) rfl (by kernel_rfl) (fun _ _ _ h => h) rfl (fun W hS => by go_simp) HSX.out ?_
              go_simp
              refine T_one (i := 11) rfl (by kernel_rfl) rfl ?_
              go_simp
              refine ⟨HSX.out, ?_⟩
              refine T_one (i := 12) rfl (by kernel_rfl) rfl ?_
              go_simp
              refine ⟨HSX.out, ?_⟩
              refine T_one (i := 13) rfl (by kernel_rfl) rfl ?_
              go_simp
              refine ⟨HSX.out, ?_⟩
              refine T_one (i := 14) rfl (by kernel_rfl) rfl ?_
              go_simp
              refine ⟨HSX.out, ?_⟩
              refine T_one (i := 15) rfl (by kernel_rfl) rfl ?_
              go_simp
              refine ⟨HSX.out, ?_⟩
              refine T_take (i := 16) (v := .slice (some ⟨g4, 0, none⟩) z C4) rfl (by kernel_rfl) (fun _ _ _ h => h) rfl (fun W hS => by go_simp) HSX.out ?_
              go_simp
              refine T_take (i := 17) (v := .slice A5 zb C5) rfl (by kernel_rfl) (fun _ _ _ h => h) rfl (fun W hS => by go_simp) HSX.out ?_
              go_simp
              refine T_take (i := 18) (v := .int .i64 (zb : Int)) rfl (by kernel_rfl) (fun _ _ _ h => h) rfl (fun W hS => by go_simp) HSX.out ?_
              go_simp
              refine T_take (i := 19) (v := .slice (some ⟨g4, 0, none⟩) zb C4) rfl (by kernel_rfl) (fun _ _ _ h => h) rfl (fun W hS => by go_simp) HSX.out ?_
              go_simp
              refine T_take (i := 20) (v := .string ⟨(ab.take zb).toArray⟩) rfl (by kernel_rfl) (fun _ _ _ h => h) rfl (fun W hS => by obtain ⟨_, h1, h2⟩ := hS; have hcv := conv_c h1; go_simp) HSX.out ?_
              go_simp
              refine T_one (i := 21) rfl (by kernel_rfl) rfl ?_
              go_simp
              refine ⟨HSX.out, ?_⟩
              refine T_take (i := 22) (v := .string ⟨bb.toArray⟩) rfl (by kernel_rfl) (fun _ _ _ h => h) rfl (fun W hS => by obtain ⟨_, h1, h2⟩ := hS; have hcv := conv_c h2; go_simp) HSX.out ?_
              go_simp
              refine T_one (i := 23) rfl (by kernel_rfl) rfl ?_
              go_simp
              refine ⟨HSX.out, ?_⟩
              refine T_one (i := 24) rfl (by kernel_rfl) rfl ?_
              go_simp
              refine ⟨HSX.out, ?_⟩
              refine T_one (i := 25) rfl (by kernel_rfl) rfl ?_
              go_simp
              refine ⟨HSX.out, ?_⟩
              refine T_done (by kernel_rfl) ?_
              go_wp2_with fail
              go_ret
              exact ⟨rfl, HBW.out.trans ((HB.out.trans (HB15.out.mono HB.out.size)).mono HBW.out.size)⟩
        · have eb : valB t' = [] := if_neg hA'
          rw [eb]
          have HALL : Hid (∀ W', Below w5.heap.size w5 W' → (W'.cell? ⟨w.heap.size, 0, none⟩ = some (.int .u8 (k : Int)) ∧ W'.cell? ⟨w.heap.size, 1, none⟩ = some (.int .i64 n) ∧ W'.cell? ⟨w.heap.size, 2, none⟩ = some (.string s) ∧ W'.cell? ⟨w.heap.size, 3, none⟩ = some (.slice A its.length c)) ∧ (W'.cell? ⟨w.heap.size + 1, 0, none⟩ = some (.int .u8 (k' : Int)) ∧ W'.cell? ⟨w.heap.size + 1, 1, none⟩ = some (.int .i64 n') ∧ W'.cell? ⟨w.heap.size + 1, 2, none⟩ = some (.string s') ∧ W'.cell? ⟨w.heap.size + 1, 3, none⟩ = some (.slice A' its'.length c'))) := Lib.hid fun W' hy => HC.out _ (HB.out.trans (hy.mono HB.out.size))
          have HZD := Lib.hid HY12.out.drew
          have HSX := Lib.hid (HALL.out _ HZD.out)
          refine chain_region (fun W' => (W'.cell? ⟨w.heap.size, 0, none⟩ = some (.int .u8 (k : Int)) ∧ W'.cell? ⟨w.heap.size, 1, none⟩ = some (.int .i64 n) ∧ W'.cell? ⟨w.heap.size, 2, none⟩ = some (.string s) ∧ W'.cell? ⟨w.heap.size, 3, none⟩ = some (.slice A its.length c)) ∧ (W'.cell? ⟨w.heap.size + 1, 0, none⟩ = some (.int .u8 (k' : Int)) ∧ W'.cell? ⟨w.heap.size + 1, 1, none⟩ = some (.int .i64 n') ∧ W'.cell? ⟨w.heap.size + 1, 2, none⟩ = some (.string s') ∧ W'.cell? ⟨w.heap.size + 1, 3, none⟩ = some (.slice A' its'.length c'))) 26 (by kernel_rfl) ?_
          refine T_one (i := 0) rfl (by kernel_rfl) rfl ?_
          go_simp
          refine ⟨HSX.out, ?_⟩
          refine T_one (i := 1) rfl (by kernel_rfl) rfl ?_
          go_simp
          refine ⟨HSX.out, ?_⟩
          refine T_one (i := 2) rfl (by kernel_rfl) rfl ?_
          go_simp
          refine ⟨HSX.out, ?_⟩
          refine T_one (i := 3) rfl (by kernel_rfl) rfl ?_
          go_simp
          refine ⟨HSX.out, ?_⟩
          refine T_skipF (i := 4) rfl (by kernel_rfl) (fun _ _ _ h => h) rfl HSX.out ?_
          go_simp
          refine T_skip1 (i := 5) rfl (by kernel_rfl) rfl HSX.out ?_
          go_simp
          refine T_skip1 (i := 6) rfl (by kernel_rfl) rfl HSX.out ?_
          go_simp
          refine T_one (i := 7) rfl (by kernel_rfl) rfl ?_
          go_simp
          refine ⟨HSX.out, ?_⟩
          refine T_one (i := 8) rfl (by kernel_rfl) rfl ?_
          go_simp
          refine ⟨HSX.out, ?_⟩
          refine T_skipF (i := 9) rfl (by kernel_rfl) (fun _ _ _ h => h) rfl HSX.out ?_
          go_simp
          refine T_skipF (i := 10) rfl (by kernel_rfl) (fun _ _ _ h => h) rfl HSX.out ?_
          go_simp
          refine T_skip1 (i := 11) rfl (by kernel_rfl) rfl HSX.out ?_
          go_simp
          refine T_skip1 (i := 12) rfl (by kernel_rfl) rfl HSX.out ?_
          go_simp
          refine T_skip1 (i := 13) rfl (by kernel_rfl) rfl HSX.out ?_
          go_simp
          refine T_one (i := 14) rfl (by kernel_rfl) rfl ?_
          go_simp
          refine ⟨HSX.out, ?_⟩
          refine T_one (i := 15) rfl (by kernel_rfl) rfl ?_
          go_simp
          refine ⟨HSX.out, ?_⟩
          refine T_skipF (i := 16) rfl (by kernel_rfl) (fun _ _ _ h => h) rfl HSX.out ?_
          go_simp
          refine T_skipF (i := 17) rfl (by kernel_rfl) (fun _ _ _ h => h) rfl HSX.out ?_
          go_simp
          refine T_skipF (i := 18) rfl (by kernel_rfl) (fun _ _ _ h => h) rfl HSX.out ?_
          go_simp
          refine T_skipF (i := 19) rfl (by kernel_rfl) (fun _ _ _ h => h) rfl HSX.out ?_
          go_simp
          refine T_skipF (i := 20) rfl (by kernel_rfl) (fun _ _ _ h => h) rfl HSX.out ?_
          go_simp
          refine T_skip1 (i := 21) rfl (by kernel_rfl) rfl HSX.out ?_
          go_simp
          refine T_skip1 (i := 22) rfl (by kernel_rfl) rfl HSX.out ?_
          go_simp
          refine T_skip1 (i := 23) rfl (by kernel_rfl) rfl HSX.out ?_
          go_simp
          refine T_one (i := 24) rfl (by kernel_rfl) rfl ?_
          go_simp
          refine ⟨HSX.out, ?_⟩
          refine T_one (i := 25) rfl (by kernel_rfl) rfl ?_
          go_simp
          refine ⟨HSX.out, ?_⟩
          refine T_done (by kernel_rfl) ?_
          go_wp2_with fail
          go_ret
          exact ⟨rfl, HBW.out.trans ((HB.out.trans (HZD.out.mono HB.out.size)).mono HBW.out.size)⟩
      · have ea : valB t = [] := if_neg hA
        rw [ea] at HYA ⊢
        clear hlx
        go_wp2_with fail
        go_ret
        exact ⟨rfl, HBF.out⟩
    · go_wp2_with fail
      refine (HWK.out _ HB.out).mono ?_
      rintro e w9 ⟨rfl, hb9⟩
      have HB9 := Lib.hid (HBW.out.trans ((HB.out.trans (hb9.mono HB.out.size)).mono HBW.out.size)); clear hb9
      go_wp2_with fail
      go_ret
      exact ⟨rfl, HB9.out⟩
  · go_wp2_with fail
    refine (HWK.out _ HB.out).mono ?_
    rintro e w9 ⟨rfl, hb9⟩
    have HB9 := Lib.hid (HBW.out.trans ((HB.out.trans (hb9.mono HB.out.size)).mono HBW.out.size)); clear hb9
    go_wp2_with fail
    go_ret
    exact ⟨rfl, HB9.out⟩
end Go.Proofs.YtlcfokejoikaaaaGreatDoor
