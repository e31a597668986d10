/- The law UnifyFresh: its walk. -/
import Derived.Test.YtfhjfhbfgndheaaDoorFi
namespace Go.Proofs.YtfhjfhbfgndheaaDoor
open Go.RowKit Go.Shelf Un
open Go
attribute [local go_sem] Oper.semAt_some

theorem canonL_len (l : List Ty) (C : List ByteArray) : (canonL l C).length = l.length := by unfold canonL; rw [List.length_map]
theorem freshL_len (l : List Ty) (N : List ByteArray) : (freshL l N).length = l.length := by unfold freshL; rw [List.length_map]
/-- Canon of types, and of these with new names. -/
theorem canon_of {l : List Ty} {N : List ByteArray} (hv : l.all mayT = true) (hN : Names l N) (A : Option Addr) (c : Nat) (w : World) (h : LRep w w.heap.size (freshL l N) A c) (hl : l.length ≤ 10000)
    (htab : ∀ W, Below w.heap.size w W → Lib.TabIs Tryd.prog W "internal/strconv.uint64pow10" .u64 Lib.pow10Tab) :
    Calls Tryd.prog 9 #[.slice A l.length c] w fun e w' => ∃ A' c', e = .returned (.slice A' l.length c') ∧ LN (fun b => w.heap.size ≤ b) w' (canonL l (canC (varsT l).length)) A' c' ∧ Below w.heap.size w w' := by
  have := canon_c (freshL l N) A c w h (by rw [freshL_len]; exact hl) (by rw [fresh_all hN.var]; exact hv) htab
  rw [freshL_len, fresh_vars hv hN.var hN.len hN.nd, hN.len, canon_fresh hv hN.var hN.len hN.nd _ (canC_len _)] at this
  exact this
/-- What two calls of Fresh made. -/
structure Two (B0 : Nat) (w : World) (l : List Ty) (N1 N2 : List ByteArray) (A1 : Option Addr) (c1 : Nat) (A2 : Option Addr) (c2 : Nat) (w5 : World) : Prop where
  n1 : Names l N1
  n2 : Names l N2
  ap : ∀ s ∈ N2, s ∉ N1
  r1 : LRep w5 w5.heap.size (freshL l N1) A1 c1
  r2 : LRep w5 w5.heap.size (freshL l N2) A2 c2
  bl : Below B0 w w5
/-- A row of types that the law makes, from world w0 on. -/
def OnW (w0 : World) (ds : List Ty) (W : World) (v : Value) : Prop := Gd.Own (fun b => w0.heap.size ≤ b) (fun b => b < w0.heap.size) 36 2 (Ty.dL ds) W v ∧ Below w0.heap.size w0 W
theorem onW_start (w0 : World) : OnW w0 [] (w0.alloc (.cells #[] 36)) (.slice (some ⟨w0.heap.size, 0, none⟩) 0 0) :=
  ⟨⟨[], rfl, fun c h => by simp at h, World.ownsRow_lit w0 #[] 0 (Nat.zero_le _) (Nat.zero_le _) rfl, fun k hk => by injection hk with hk; exact Nat.le_of_eq hk, fun j h1 => absurd h1 (by simp [Ty.dL])⟩, (Below.refl _ _).alloc (Nat.le_refl _) _⟩
theorem wpList_appW {w0 w : World} {ops : Array Oper} {rest : List Oper} {o : Oper} {a : Act} {Q : Exit → Act → World → Prop} (hgd : o.guard = none) (s x : Operand)
    (ho : o.op = .call { callee := .builtin .append, args := #[s, x], argTypes := #[22, 22] })
    (ds : List Ty) (v : Value) (hs : a.eval s = v) (h : OnW w0 ds w v) (l : List Ty) (A : Option Addr) (c : Nat) (hx : a.eval x = .slice A l.length c) (hl : LN (fun b => b < w0.heap.size) w0 l A c) (hlen : ds.length + l.length ≤ 100000000)
    (hK : ∀ v' w', OnW w0 (ds ++ l) w' v' → wpList Tryd.prog ops Q rest (a.put o.dst v') w') : wpList Tryd.prog ops Q (o :: rest) a w := by
  obtain ⟨ho1, hb⟩ := h
  have hR : ∀ b, v.ownBlock = some b → w0.heap.size ≤ b := fun b hb => (own_lt ho1 b hb).2
  refine wpList_appT hgd s x ho _ _ ds v hs ho1 l A c hx (hl.keep (fun b hbb _ => hb.block b hbb) fun b hbb => ⟨hbb, fun e => by have := hR b e; omega⟩) hlen fun v' w' q1 q2 => hK v' w' ⟨q1.mono (fun b _ h => h.elim id fun h => Nat.le_trans hb.size h) fun b _ h => h, hb.trans ((Keep.grown (F := fun b => w0.heap.size ≤ b) q2 hR).below (fun x hx h => by omega) hb.size)⟩
theorem OnW.rep {w0 W : World} {ds : List Ty} {v : Value} (h : OnW w0 ds W v) : ∃ A c, v = .slice A ds.length c ∧ LRep W W.heap.size ds A c := by
  obtain ⟨ho, hb⟩ := h
  obtain ⟨A, c, rfl, _, _⟩ := ho.slice
  rw [Ty.dL_len] at ho
  exact ⟨A, c, by rw [Ty.dL_len], ho.lies.rep⟩
set_option maxRecDepth 2000 in
set_option maxHeartbeats 8000000 in
theorem fresh_d (l : List Ty) (A : Option Addr) (c : Nat) (w : World) (h : LRep w w.heap.size l A c) (hg : GlobF w.heap.size w) (hsz : ∀ s ∈ varsT l, s.size ≤ 1000000000)
    (hw : ∀ W, Below w.heap.size w W → Calls Tryd.prog 4 #[] W fun e w' => e = .returned (.bool true) ∧ Below W.heap.size W w') :
    Calls Tryd.prog 3 #[.slice A l.length c] w fun e w' => e = .returned (.bool true) ∧ Below w.heap.size w w' := by
  have hlen := h.len
  have hmax : maxLen = 9223372036854775807 := rfl
  have hrep : ∀ W, Below w.heap.size w W → LRep W W.heap.size l A c := fun W hW => (h.under hW).more hW.size
  have hlarge : ∀ W, Below w.heap.size w W → Calls Tryd.prog 5 #[.slice A l.length c, .int .i64 200] W fun e w' => IsB e ∧ Below W.heap.size W w' := fun W hW => large_c l A c 200 W (hrep W hW)
  have hnew : ∀ W, Below w.heap.size w W → Calls Tryd.prog 6 #[] W fun e w' => e = .returned (.pointer (some ⟨W.heap.size, 0, none⟩)) ∧ TN w.heap.size (fun b => b = W.heap.size) 0 st0 w' W.heap.size ∧ Below W.heap.size W w' := fun W hW => new_c w.heap.size W (hg.below hW) hW.size
  have HW := Lib.hid hw; have HLG := Lib.hid hlarge; have HNEW := Lib.hid hnew; have HREP := Lib.hid hrep; have HGL := Lib.hid hg
  clear hw hlarge hnew hrep hg
  by_cases h12 : l.length ≤ 12
  · have h12z : ¬ (12 : Int) < (l.length : Int) := by omega
    by_cases hv : l.all mayT = true
    · have HLN := Lib.hid (LN.of_list h)
      have HSZ := Lib.hid hsz
      have hvl := varsT_le hv
      have HV := Lib.hid hv
      clear h hsz hv
      go_enter Tryd.func3, Tryd.ntmps3
      go_wp2_with first
        | (go_at_call 4; refine (HW.out _ (by first | exact Below.refl _ _ | exact HB2.out)).mono ?_; rintro e w1 ⟨rfl, hb1⟩; have HB1 := Lib.hid hb1; clear hb1)
        | (go_at_call 5; refine (HLG.out _ HB1.out).mono ?_; rintro e w2 ⟨⟨q, rfl⟩, hb2⟩; have HB2 := Lib.hid (HB1.out.trans (hb2.mono HB1.out.size)); clear hb2)
      · go_ret
        exact ⟨rfl, HB2.out.trans (HB1.out.mono HB2.out.size)⟩
      go_wp2_with (go_at_call 6; refine (HNEW.out _ HB2.out).mono ?_; rintro e w3 ⟨rfl, htn, hb3⟩; have HTN := Lib.hid htn; have HB3 := Lib.hid hb3; clear htn hb3 HNEW)
      have hw2 := HB2.out.size
      have hw3 := HB3.out.size
      have hT := HTN.out.lt
      have hb23 := HB2.out.trans (HB3.out.mono hw2)
      have HF1 := Lib.hid (fresh_c (HTN.out.moreK (K' := 1000000) (by omega) (by omega)) (fun b => b < w.heap.size) l A c (HLN.out.keep (fun b hb _ => hb23.block b hb) fun b hb => hb) (fun b hb => ⟨fun e => by have e : b = w2.heap.size := e; omega, by omega⟩) (by omega) HV.out HSZ.out [] (fun k _ hk => by simp [st0] at hk) 0 (by simp [st0]) (by omega) (by omega))
      go_wp2_with (go_at_call 7; refine HF1.out.mono ?_; rintro e w4 ⟨ks1, st1, A1, c1, X1, rfl, hk1, hn1, hX1, hl1, ht1, hkp1⟩; have HN1 := Lib.hid hn1; have HL1 := Lib.hid hl1; have HT1 := Lib.hid ht1; have HKP1 := Lib.hid hkp1; clear hn1 hl1 ht1 hkp1 HF1)
      have hw4 := HKP1.out.size
      have hb4 : Below w.heap.size w w4 := hb23.trans (HKP1.out.below (fun x hx e => by have e : x = w2.heap.size := e; omega) (by omega))
      obtain ⟨L1, hL1, hM1⟩ := HN1.out.2.2.2.2
      have HF2 := Lib.hid (fresh_c HT1.out (fun b => b < w.heap.size) l A c (HLN.out.keep (fun b hb _ => hb4.block b hb) fun b hb => hb) (fun b hb => ⟨fun e => by rcases e.1 with e | e <;> omega, by omega⟩) (by omega) HV.out HSZ.out L1 hL1 (2 * ((varsT l).length : Nat)) (by rw [hk1] at hM1; omega) (by omega) (by omega))
      go_wp2_with (go_at_call 7; refine HF2.out.mono ?_; rintro e w5 ⟨ks2, st2, A2, c2, X2, rfl, hk2, hn2, hX2, hl2, ht2, hkp2⟩; have HN2 := Lib.hid hn2; have HL2 := Lib.hid hl2; have HT2 := Lib.hid ht2; have HKP2 := Lib.hid hkp2; clear hn2 hl2 ht2 hkp2 HF2)
      have hw5 := HKP2.out.size
      have hb5 : Below w.heap.size w w5 := hb4.trans (HKP2.out.below (fun x hx e => by rcases e.1 with e | e <;> omega) (by omega))
      obtain ⟨L2, _, hM2⟩ := HN2.out.2.2.2.2
      have h0s : (0 : Int) ≤ st1.last := HN1.out.2.2.1
      have n1 := names_of HN1.out hk1 (by simp [st0]) (by omega)
      have n2 := names_of HN2.out hk2 h0s (by omega)
      have ap := names_apart (fun k hk => ⟨by have h1 := (HN1.out.2.1 k hk).1; have h1 : 0 < k := h1; omega, (HN1.out.2.1 k hk).2.1⟩) (fun k hk => ⟨(HN2.out.2.1 k hk).1, (HN2.out.2.1 k hk).2.1⟩) (show st2.last < 9223372036854775808 by omega)
      have l1 : LN (fun b => b < w5.heap.size) w5 (freshL l (ks1.map newNm)) A1 c1 := LN.of_list ((HL1.out.keep (N' := fun _ => True) (w' := w5) (fun b hb hl => HKP2.out.block b hl fun e => by have := e.2; omega) fun _ _ => trivial).rep fun b _ hl => hl)
      have l2 : LN (fun b => b < w5.heap.size) w5 (freshL l (ks2.map newNm)) A2 c2 := LN.of_list (HL2.out.rep fun b _ hl => hl)
      have l0 : LN (fun b => b < w5.heap.size) w5 l A c := LN.of_list (HREP.out w5 hb5)
      have h3 := fresh_three HV.out n1.var n2.var n1.len n2.len n1.nd n2.nd n1.new_ n2.new_ ap
      have hall : (l ++ freshL l (ks1.map newNm) ++ freshL l (ks2.map newNm)).length = 3 * l.length := by rw [List.length_append, List.length_append, freshL_len, freshL_len]; omega
      clear HN1 HN2 HL1 HL2 HT1 HT2 HKP1 HKP2 hL1 hM1 hM2 HTN hT ap hX1 hX2
      generalize ks1.map newNm = N1 at n1 l1 h3 hall
      generalize ks2.map newNm = N2 at n2 l2 h3 hall
      have htab : ∀ W, Below w5.heap.size w5 W → ∀ W', Below W.heap.size W W' → Lib.TabIs Tryd.prog W' "internal/strconv.uint64pow10" .u64 Lib.pow10Tab := fun W hW W' hW' => (HGL.out W' ((hb5.trans (hW.mono hb5.size)).trans (hW'.mono (by have := hb5.size; have := hW.size; omega)))).1
      have up : ∀ (ds : List Ty) (A : Option Addr) (c : Nat), LN (fun b => b < w5.heap.size) w5 ds A c → ∀ W, Below w5.heap.size w5 W → LRep W W.heap.size ds A c := fun ds A c hl W hW => ((hl.rep fun b hb _ => hb).under hW).more hW.size
      have HCA := Lib.hid fun W hW => canon_of HV.out n1 A1 c1 W (up _ _ _ l1 W hW) (by omega) (htab W hW)
      have HCL := Lib.hid fun W hW => canon_c l A c W (up _ _ _ l0 W hW) (by omega) HV.out (htab W hW)
      have HCB := Lib.hid fun W hW => canon_of HV.out n2 A2 c2 W (up _ _ _ l2 W hW) (by omega) (htab W hW)
      have HUP := Lib.hid up; have H0 := Lib.hid l0; have H1 := Lib.hid l1; have H2 := Lib.hid l2; have H3 := Lib.hid h3
      have hcl := canonL_len l (canC (varsT l).length)
      clear htab up l0 l1 l2 h3 n1 n2
      go_wp2_with (go_at_call 9; refine (HCA.out _ (Below.refl _ _)).mono ?_; rintro e w6 ⟨A6, c6, rfl, q6, b6⟩; have R6 := Lib.hid (q6.rep fun b _ hl => hl); have B6 := Lib.hid b6; clear q6 b6 HCA)
      go_wp2_with (go_at_call 9; refine (HCL.out _ B6.out).mono ?_; rintro e w7 ⟨A7, c7, rfl, q7, b7⟩; have R7 := Lib.hid (q7.rep fun b _ hl => hl); have R6 := Lib.hid ((R6.out.under b7).more b7.size); have B7 := Lib.hid (B6.out.trans (b7.mono B6.out.size)); clear q7 b7)
      have hs1 := sames_c (canonL l (canC (varsT l).length)) A6 A7 c6 c7 w7 R6.out R7.out
      rw [hcl] at hs1
      have HS1 := Lib.hid hs1
      clear hs1
      go_wp2_with (go_at_call 8; refine HS1.out.mono ?_; rintro e w8 ⟨rfl, b8⟩; have B8 := Lib.hid (B7.out.trans (b8.mono B7.out.size)); clear b8 HS1 R6 R7)
      go_wp2_with (go_at_call 9; refine (HCB.out _ B8.out).mono ?_; rintro e w9 ⟨A9, c9, rfl, q9, b9⟩; have R9 := Lib.hid (q9.rep fun b _ hl => hl); have B9 := Lib.hid (B8.out.trans (b9.mono B8.out.size)); clear q9 b9 HCB)
      go_wp2_with (go_at_call 9; refine (HCL.out _ B9.out).mono ?_; rintro e w10 ⟨A10, c10, rfl, q10, b10⟩; have R10 := Lib.hid (q10.rep fun b _ hl => hl); have R9 := Lib.hid ((R9.out.under b10).more b10.size); have B10 := Lib.hid (B9.out.trans (b10.mono B9.out.size)); clear q10 b10)
      have hs2 := sames_c (canonL l (canC (varsT l).length)) A9 A10 c9 c10 w10 R9.out R10.out
      rw [hcl] at hs2
      have HS2 := Lib.hid hs2
      clear hs2
      go_wp2_with first
        | (go_at_call 8; refine HS2.out.mono ?_; rintro e w11 ⟨rfl, b11⟩; have B11 := Lib.hid (B10.out.trans (b11.mono B10.out.size)); clear b11 HS2 R9 R10; have HO0 := Lib.hid (onW_start w11))
        | (at_builtin; refine wpList_appW rfl (.tmp 62) (.tmp 63) rfl [] _ rfl HO0.out l A c rfl (H0.out.keep (fun b hb _ => B11.out.block b hb) fun b hb => by have := B11.out.size; omega) (by simp; omega) ?_; intro v1 u1 o1; have HO1 := Lib.hid o1; clear o1 HO0)
        | (at_builtin; refine wpList_appW rfl (.tmp 64) (.tmp 65) rfl _ v1 rfl HO1.out (freshL l N1) A1 c1 (by rw [freshL_len]; rfl) (H1.out.keep (fun b hb _ => B11.out.block b hb) fun b hb => by have := B11.out.size; omega) (by rw [freshL_len]; simp; omega) ?_; intro v2 u2 o2; have HO2 := Lib.hid o2; clear o2 HO1)
        | (at_builtin; refine wpList_appW rfl (.tmp 66) (.tmp 67) rfl _ v2 rfl HO2.out (freshL l N2) A2 c2 (by rw [freshL_len]; rfl) (H2.out.keep (fun b hb _ => B11.out.block b hb) fun b hb => by have := B11.out.size; omega) (by rw [List.length_append, freshL_len, freshL_len]; simp; omega) ?_; intro v3 u3 o3; obtain ⟨A3, c3, rfl, r3⟩ := o3.rep; have HO3 := Lib.hid o3.2; have HR3 := Lib.hid r3; clear o3 r3 HO2)
      have hv1 := vars_c _ A3 c3 u3 HR3.out (by simp only [List.nil_append, List.length_append, freshL_len]; omega)
      simp only [List.nil_append, List.length_append, Nat.add_assoc] at hv1
      have hbu : Below w5.heap.size w5 u3 := B11.out.trans (HO3.out.mono B11.out.size)
      have HV1 := Lib.hid hv1; have HBU := Lib.hid hbu
      clear hv1 hbu
      have h3z : ((varsT (l ++ freshL l N1 ++ freshL l N2)).length : Int) = 3 * ((varsT l).length : Int) := by have := H3.out; omega
      rw [List.append_assoc] at h3z
      simp only [List.append_assoc] at HV1
      have HVL := Lib.hid fun W hW => vars_c l A c W (HUP.out _ _ _ H0.out W hW) (by omega)
      generalize varsT (l ++ (freshL l N1 ++ freshL l N2)) = VA at HV1 h3z
      go_wp2_with (go_at_call 10; refine HV1.out.mono ?_; rintro e w12 ⟨⟨v, rfl, hlies⟩, _, hvl1, hb⟩; obtain ⟨A4, c4, hv4, _, _, -⟩ := hlies.rep.seq_; rw [List.length_map] at hv4; have hv4 := List.head_eq_of_cons_eq hv4; subst hv4; have HB12 := Lib.hid (HBU.out.trans (hb.mono HBU.out.size)); clear hlies hb HV1)
      go_wp2_with (go_at_call 10; refine (HVL.out _ HB12.out).mono ?_; rintro e w13 ⟨⟨v, rfl, hlies⟩, _, hvl2, hb⟩; obtain ⟨A5, c5, hv5, _, _, -⟩ := hlies.rep.seq_; rw [List.length_map] at hv5; have hv5 := List.head_eq_of_cons_eq hv5; subst hv5; have HB13 := Lib.hid (HB12.out.trans (hb.mono HB12.out.size)); clear hlies hb HVL)
      go_ret
      exact ⟨by first | rfl | (simp [h3z]), hb5.trans (HB13.out.mono hb5.size)⟩
    · have hv : l.all mayT = false := by simpa using hv
      have HERR := Lib.hid fun T W (hW : Below w.heap.size w W) => fresh_err T l A c W (HREP.out W hW) hv
      clear h hsz hv
      go_enter Tryd.func3, Tryd.ntmps3
      go_wp2_with first
        | (go_at_call 4; refine (HW.out _ (by first | exact Below.refl _ _ | exact HB2.out)).mono ?_; rintro e w1 ⟨rfl, hb1⟩; have HB1 := Lib.hid hb1; clear hb1)
        | (go_at_call 5; refine (HLG.out _ HB1.out).mono ?_; rintro e w2 ⟨⟨q, rfl⟩, hb2⟩; have HB2 := Lib.hid (HB1.out.trans (hb2.mono HB1.out.size)); clear hb2)
      · go_ret
        exact ⟨rfl, HB2.out.trans (HB1.out.mono HB2.out.size)⟩
      go_wp2_with (go_at_call 6; refine (HNEW.out _ HB2.out).mono ?_; rintro e w3 ⟨rfl, _, hb3⟩; have HB3 := Lib.hid (HB2.out.trans (hb3.mono HB2.out.size)); clear hb3 HNEW)
      go_wp2_with (go_at_call 7; refine (HERR.out _ _ (by first | exact HB3.out | exact HB4.out)).mono ?_; rintro e w4 ⟨rfl, hb4⟩; have HB4 := Lib.hid (HB3.out.trans (hb4.mono HB3.out.size)); have HB3 := HB4; clear hb4)
      go_ret
      exact ⟨rfl, HB3.out⟩
  · have h12z : (12 : Int) < (l.length : Int) := by omega
    clear h hsz
    go_enter Tryd.func3, Tryd.ntmps3
    go_wp2_with (go_at_call 4; refine (HW.out _ (by first | exact HB1.out | exact Below.refl _ _)).mono ?_; rintro e w1 ⟨rfl, hb1⟩; have HB1 := Lib.hid ((show Below w.heap.size w _ by first | exact HB1.out | exact Below.refl _ _).trans (hb1.mono (by first | exact Nat.le_refl _ | exact HB1.out.size))); clear hb1)
    go_ret
    exact ⟨rfl, HB1.out⟩
end Go.Proofs.YtfhjfhbfgndheaaDoor
