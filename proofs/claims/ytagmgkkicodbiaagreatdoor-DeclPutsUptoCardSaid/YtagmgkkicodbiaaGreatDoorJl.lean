/- The document's own Put. -/
import Derived.Test.YtagmgkkicodbiaaGreatDoorJk
import Derived.Deep.CutBlock
namespace Go.Proofs.YtagmgkkicodbiaaGreatDoor
open Go.RowKit Go.Shelf
open Go
attribute [local go_sem] Oper.semAt_some

section
variable {P : Program} {ops : Array Oper} {Q : Exit → Act → World → Prop} {md : Region.Mode} {S : World → Prop} {m : Nat}
theorem T_skipF {i : Nat} {oi : Oper} {fuel : Nat} {listed : Array Bool} {a : Act} {w : World} (hi : ops[i]? = some oi)
    (hB : (decide (i < m) && Region.noSelect ops && Region.free md ops listed i && (Region.ready md ops listed).contains i && waitsT md ops m i && closedB md ops listed) = true)
    (hQ : ∀ c a w, Q (.panic c) (a.put oi.dst undef) w → Q (.panic c) a w) (hw : Region.wanted oi (yielded ops a.tmps) = false) (hS : S w)
    (h : wpAnyT P md ops Q S m fuel (listed.setIfInBounds i true) (a.put oi.dst undef) w) : wpAnyT P md ops Q S m (fuel + 1) listed a w := by
  simp only [Bool.and_eq_true, decide_eq_true_eq] at hB
  obtain ⟨⟨⟨⟨⟨h1, h2⟩, h3⟩, h4⟩, h5⟩, h6⟩ := hB
  exact T_first hi h1 (Region.noSelect_spec h2) h5 hQ fuel listed a w (closed_of h6) (Region.free_spec hi h3) (by simpa using h4) (.inr ⟨hw, rfl⟩) hS h
end
theorem param_c (n : ByteArray) (hn : n.size ≤ maxLen) (w : World) : Calls Tryz.prog 18 #[.string n] w fun e w' => e = .returned (.bool (pfx n)) ∧ w' = w := by
  obtain ⟨L, rfl⟩ : ∃ L : List UInt8, n = ⟨L.toArray⟩ := ⟨n.data.toList, by simp⟩
  cases L with
  | nil =>
    go_enter Tryz.func18, Tryz.ntmps18
    go_wp2_with fail
    go_ret
    exact ⟨rfl, rfl⟩
  | cons b r =>
    by_cases hb : b = 39
    · subst hb
      go_enter Tryz.func18, Tryz.ntmps18
      go_wp2_with fail
      go_ret
      refine ⟨?_, rfl⟩
      simp [pfx, Lib.hasPrefix]
      rfl
    · have hb2 : ¬ (b.toNat : Int) = 39 := fun e => hb (by
        have : b.toNat = (39 : UInt8).toNat := by simpa using (Int.ofNat.inj e)
        exact UInt8.toNat_inj.1 this)
      go_enter Tryz.func18, Tryz.ntmps18
      go_wp2_with fail
      go_ret
      refine ⟨?_, rfl⟩
      have h2 : ¬ (39 : UInt8) = b := fun e => hb e.symm
      have e1 : (((b.toNat : Int)) == 39) = false := by simpa using hb2
      simp only [pfx, Lib.hasPrefix, List.isPrefixOf, Bool.and_true]
      show Ending.returned (Value.bool ((b.toNat : Int) == 39)) = Ending.returned (Value.bool ((39 : UInt8) == b))
      rw [e1]
      simp [h2]
/-- The same memory, but for the count of draws. -/
def SameM (W V : World) : Prop := V.heap = W.heap ∧ V.os = W.os ∧ V.tape = W.tape ∧ V.output = W.output
theorem SameM.refl (W : World) : SameM W W := ⟨rfl, rfl, rfl, rfl⟩
theorem SameM.drew {W V : World} (h : SameM W V) : SameM W V.drew := h
theorem SameM.below {W V : World} (h : SameM W V) (B : Nat) : Below B W V := ⟨h.2.1, h.2.2.1, h.2.2.2, by rw [h.1]; exact Nat.le_refl _, fun b _ => by rw [h.1]⟩
theorem SameM.alloc {W V : World} (h : SameM W V) (o : Obj) : SameM (W.alloc o) (V.alloc o) := ⟨by show V.heap.push o = W.heap.push o; rw [h.1], h.2.1, h.2.2.1, h.2.2.2⟩
theorem AccI.same {w W V : World} {n : ByteArray} {A : Option Addr} {al c : Nat} {ds : List Gd.D} {v : Value} (h : AccI w n A al c ds v W) (hs : SameM W V) : AccI w n A al c ds v V := h.below (hs.below _)
theorem firstI_none (ps : List ByteArray) (k : ByteArray) (hk : pfx k = false) : ∀ m s, firstI ps k m s = none
  | 0, _ => rfl
  | m + 1, s => by
    rw [firstI, if_neg (fun h => by rw [hk] at h; cases h.2)]
    exact firstI_none ps k hk m (s + 1)
def RPutAt (B : Nat) (ps : List ByteArray) (l : List Ty) (Ap : Option Addr) (cp : Nat) (A : Option Addr) (c : Nat) (t : Ty) : Prop := ∀ (W : World) (u : Value), B ≤ W.heap.size → SRep W B ps Ap cp → LRep W B l A c → TyRep W B t u →
  Calls Tryz.prog 7 #[u, .slice Ap ps.length cp, .slice A l.length c] W fun e w' => ∃ A' c', e = .returned (.agg #[.string (substT (gOf ps l) t).name, .slice A' (substT (gOf ps l) t).args.length c']) ∧
    Gd.Lies (fun b => W.heap.size ≤ b) w' (substT (gOf ps l) t).d [.string (substT (gOf ps l) t).name, .slice A' (substT (gOf ps l) t).args.length c'] ∧ Below W.heap.size W w'
set_option maxRecDepth 100000 in
set_option maxHeartbeats 8000000 in
theorem rput_c (B : Nat) (ps : List ByteArray) (l : List Ty) (Ap : Option Addr) (cp : Nat) (A : Option Addr) (c : Nat) (hsl : ∀ x ∈ l, sizeT x ≤ 100000000) (t : Ty) : sizeT t ≤ 100000000 → RPutAt B ps l Ap cp A c t := by
  induction t using Ty.ind with
  | h n a ih =>
    intro hsz w u hB hSp hLl h
    rw [sizeT] at hsz
    obtain ⟨At, ct, rfl, hn, hR⟩ := h
    generalize hrn : (substT (gOf ps l) (.mk n a)).name = rn
    generalize hrl : (substT (gOf ps l) (.mk n a)).args.length = rl
    generalize hrd : (substT (gOf ps l) (.mk n a)).d = rd
    have HRN := Lib.hid hrn; have HRL := Lib.hid hrl; have HRD := Lib.hid hrd
    clear hrn hrl hrd
    simp only [Ty.name, Ty.args] at hn hR ⊢
    have hls := len_size a
    have hmax : maxLen = 9223372036854775807 := rfl
    have hlc := hLl.len
    have hpc := hSp.1
    have hpm := hSp.2.1
    obtain ⟨m, hm⟩ : ∃ m, m = min ps.length l.length := ⟨_, rfl⟩
    have hm1 : m ≤ ps.length := by omega
    have hm2 : m ≤ l.length := by omega
    have hgo : gOf ps l n = (firstI ps n m 0).bind fun i => l[i]? := by rw [hm]; rfl
    -- the world behind the boxes
    obtain ⟨W0, hW0⟩ : ∃ W, W = (w.alloc (.cells #[.string n, .slice At a.length ct] 24)).alloc (.cells #[.string ⟨#[]⟩, .slice none 0 0] 24) := ⟨_, rfl⟩
    have hb0 : Below w.heap.size w W0 := by rw [hW0]; exact ((Below.refl _ w).alloc (Nat.le_refl _) _).alloc (by simp) _
    have hs0 : W0.heap.size = w.heap.size + 2 := by rw [hW0]; simp
    have k1 : Blk W0 (w.heap.size + 1) 24 #[.string ⟨#[]⟩, .slice none 0 0] := by
      have := Blk.new (w.alloc (.cells #[.string n, .slice At a.length ct] 24)) 24 #[.string ⟨#[]⟩, .slice none 0 0]
      rw [World.size_alloc] at this
      rw [hW0]; exact this
    have z0 : W0.cell? ⟨w.heap.size, 0, none⟩ = some (.string n) := by rw [hW0]; exact (cell_alloc_o _ _ _ (by simp)).trans (cell_alloc_n _ _ _ rfl)
    have HST := Lib.hid (acc_start w n At a.length ct); have HR := Lib.hid hR; have IH := Lib.hid ih; have HSP := Lib.hid hSp; have HLL := Lib.hid hLl; have HM := Lib.hid hm; have HGO := Lib.hid hgo; have HSL := Lib.hid hsl; have HB0 := Lib.hid hb0; have Z0 := Lib.hid z0; have HS0 := Lib.hid hs0; have HW0 := Lib.hid hW0; have HK1 := Lib.hid k1
    clear hR ih hSp hLl hm hgo hsl hb0 z0 hs0 hW0 k1
    go_enter Tryz.func7, Tryz.ntmps7
    go_upto_block 0 with fail
    go_cut [] from 7 to 45 (fun wx => gOf ps l n = none ∧ SameM W0 wx)
    case rest =>
      obtain ⟨hgn, hsm⟩ := hcut
      have hsub : substT (gOf ps l) (.mk n a) = .mk n (a.map (substT (gOf ps l))) := by rw [substT, hgn]; simp only []; rw [substL_map]
      have hcs : wc.heap.size = w.heap.size + 2 := by rw [hsm.1, HS0.out]
      have hacc := HST.out.same ((HW0.out ▸ hsm).alloc (.cells #[.string n, .slice none 0 0] 24))
      have z1 : wc.cell? ⟨w.heap.size, 0, none⟩ = some (.string n) := (cell_of_block (by rw [hsm.1]) 0).trans Z0.out
      have HSUB := Lib.hid hsub; have HACC := Lib.hid hacc
      clear hgn hsm hsub hacc
      go_wp2_with fail
      go_loopg [9] (a.length + 1) (fun gg s9 wr => ∃ (k : Nat) (v : Value), k ≤ a.length ∧ gg = a.length + 1 - k ∧ s9 = .int .i64 (k : Int) ∧ AccI w n At a.length ct ((a.take k).map fun x => (substT (gOf ps l) x).d) v wr)
      case atStart => exact ⟨0, _, Nat.zero_le _, by omega, rfl, HACC.out⟩
      case round =>
        obtain ⟨k, v, hk, hg, rfl, hI⟩ := hrel
        have HG := Lib.hid hg
        have x1 := hI.1.cell 1
        have y1 := hI.2.2.1.cell 1
        simp at x1 y1
        by_cases hlt : k < a.length
        · have hltz : (k : Int) < (a.length : Int) := by omega
          obtain ⟨b, off, hA, hb, nm, a', A', c', ht, hnm, hv, c0, c1⟩ := (HR.out.under (hI.2.2.2.2.1.mono hB)).at_ hlt
          subst hA
          have hty : TyRep wr.drew B a[k] (.agg #[.string nm, .slice A' a'.length c']) := by rw [ht]; exact ⟨A', c', rfl, hnm, hv.under (Below.refl _ _).drew⟩
          have hwd : Below B w wr.drew := (hI.2.2.2.2.1.mono hB).drew
          have hcall := IH.out a[k] (List.getElem_mem hlt) (by have := size_mem (List.getElem_mem hlt); omega) wr.drew (.agg #[.string nm, .slice A' a'.length c']) (by have := hI.2.2.2.2.2; show B ≤ wr.heap.size; omega) (HSP.out.under hwd) (HLL.out.under hwd) hty
          generalize hy : substT (gOf ps l) a[k] = y at hcall
          have HC := Lib.hid hcall; have HI := Lib.hid hI; have HY := Lib.hid hy
          clear hcall hty hv ht hI hg hwd hy
          go_wp2_with fail
          refine chain_region (AccS w.heap.size (some ⟨b, off, none⟩) a.length ct v b off k nm A' a'.length c') 12 (by kernel_rfl) ?_
          have HS0 := Lib.hid (show AccS w.heap.size (some ⟨b, off, none⟩) a.length ct v b off k nm A' a'.length c' wr.drew from ⟨x1, y1, c0, c1⟩)
          clear x1 y1 c0 c1
          refine T_takeD (i := 0) (v := .pointer (some ⟨w.heap.size + 2, 1, none⟩)) rfl (by kernel_rfl) (fun _ _ _ h => h) rfl (fun V hS => by go_simp) HS0.out ?_
          go_simp
          refine T_takeD (i := 1) (v := v) rfl (by kernel_rfl) (fun _ _ _ h => h) rfl (fun V hS => by obtain ⟨_, h2, _⟩ := hS; go_simp) HS0.out ?_
          go_simp
          refine T_takeD (i := 2) (v := .pointer (some ⟨w.heap.size, 1, none⟩)) rfl (by kernel_rfl) (fun _ _ _ h => h) rfl (fun V hS => by go_simp) HS0.out ?_
          go_simp
          refine T_takeD (i := 3) (v := .slice (some ⟨b, off, none⟩) a.length ct) rfl (by kernel_rfl) (fun _ _ _ h => h) rfl (fun V hS => by obtain ⟨h1, _⟩ := hS; go_simp) HS0.out ?_
          go_simp
          refine T_takeD (i := 4) (v := .int .i64 (k : Int)) rfl (by kernel_rfl) (fun _ _ _ h => h) rfl (fun V hS => by go_simp) HS0.out ?_
          go_simp
          refine T_takeD (i := 5) (v := .pointer (some ⟨b, off + k * 2, none⟩)) rfl (by kernel_rfl) (fun _ _ _ h => h) rfl (fun V hS => by go_simp) HS0.out ?_
          go_simp
          refine T_takeD (i := 6) (v := .agg #[.string nm, .slice A' a'.length c']) rfl (by kernel_rfl) (fun _ _ _ h => h) rfl (fun V hS => by obtain ⟨_, _, h3, h4⟩ := hS; go_simp) HS0.out ?_
          go_simp
          refine T_takeD (i := 7) (v := .slice Ap ps.length cp) rfl (by kernel_rfl) (fun _ _ _ h => h) rfl (fun V hS => by go_simp) HS0.out ?_
          go_simp
          refine T_takeD (i := 8) (v := .slice A l.length c) rfl (by kernel_rfl) (fun _ _ _ h => h) rfl (fun V hS => by go_simp) HS0.out ?_
          go_simp
          refine T_one (i := 9) rfl (by kernel_rfl) rfl ?_
          refine op_callT #[.agg #[.string nm, .slice A' a'.length c'], .slice Ap ps.length cp, .slice A l.length c] (by simp [go_sem]) (enters_of Tryz.func7 (by kernel_rfl) rfl _ _) HC.out ?_
          rintro e w5 ⟨A5, c5, rfl, q1, q2⟩
          obtain ⟨k5, k6, hI6, hl6⟩ := HI.out.next ((Below.refl _ _).drew.trans q2) q1
          have S5 := HS0.out.keep (by omega) k5
          have S6 := HS0.out.keep (by omega) k6
          have HI6 := Lib.hid hI6; have HL6 := Lib.hid hl6; have HS6 := Lib.hid S6
          refine ⟨_, rfl, fun _ => S5, ?_⟩
          clear k5 k6 hI6 hl6 S5 S6 q1 q2
          go_simp
          refine T_one (i := 10) rfl (by kernel_rfl) rfl ?_
          go_simp
          refine ⟨HS6.out, ?_⟩
          refine T_one (i := 11) rfl (by kernel_rfl) rfl ?_
          refine Gd.append_D _ (.tmp 57) (.tmp 66) 22 rfl 24 (.agg #[.string ⟨#[]⟩, .slice none 0 0]) 2 40 Tryz.underlying22 info_own rfl (by omega) (by omega) _ _ _ y.d v (by simp [go_sem]) HI6.out.2.2.2.1 ⟨w5.heap.size, 0, none⟩ 1 (by simp [go_sem]) [.string y.name, .slice A5 y.args.length c5] rfl (cell_addrL (Blk.new _ _ _)) (by simp [Value.oneCell']) HL6.out (by simp; omega) ?_
          intro v7 w7 o7 g7
          have hdk : (a.take k).map (fun x => (substT (gOf ps l) x).d) ++ [y.d] = (a.take (k + 1)).map fun x => (substT (gOf ps l) x).d := by rw [List.take_succ_eq_append_getElem hlt, List.map_append, List.map_singleton, HY.out]
          rw [hdk] at o7
          have hdl : ((a.take (k + 1)).map fun x => (substT (gOf ps l) x).d).length = k + 1 := by simp; omega
          obtain ⟨A7, c7, rfl, _⟩ := o7.slice
          rw [hdl] at o7 ⊢
          rw [← hdk] at o7
          obtain ⟨k7, z1, z2, z3⟩ := HI6.out.step o7 g7
          have S7 := HS6.out.keep (by omega) k7
          rw [hdk] at z3
          have HZ := Lib.hid z3
          refine ⟨fun _ => S7, ?_⟩
          clear S7 k7 z3 o7 g7 hdk hdl
          go_simp
          refine T_one (i := 12) rfl (by kernel_rfl) rfl ?_
          go_simp
          refine T_one (i := 13) rfl (by kernel_rfl) rfl ?_
          go_simp
          refine T_done (by kernel_rfl) ?_
          clear z1 z2
          go_simp
          go_wp2_with fail
          go_roundg (a.length + 1 - (k + 1))
          case measure => have := HG.out; omega
          case rel => exact ⟨k + 1, _, by omega, rfl, by go_num, HZ.out⟩
        · have hltz : ¬ (k : Int) < (a.length : Int) := by omega
          obtain rfl : k = a.length := by omega
          obtain ⟨Av, cv, rfl, hav⟩ := hI.2.2.2.1.slice
          have hIe := hI
          rw [List.take_length] at hIe
          have hco : (a.map fun x => (substT (gOf ps l) x).d) = (a.map (substT (gOf ps l))).map Ty.d := by simp
          rw [hco] at hIe
          have hout := hIe.out hn
          have b0 := hI.2.1.cell 0
          have b1 := hI.2.1.cell 1
          have g0 := hI.2.1.frozen 0
          have g1 := hI.2.1.frozen 1
          have y0 := hI.2.2.1.cell 0
          simp at b0 b1 y0
          have HI := Lib.hid hI; have HO := Lib.hid hout; have HIE := Lib.hid hIe
          clear hI hout hg hIe hco
          go_wp2_with fail
          have ho := HO.out
          simp only [List.length_map] at ho
          refine bodyPost_ret (retT1 (g := w.heap.size + 1) Tryz.results7 rfl HI.out.2.1.store2) rfl ?_
          rw [← HRN.out, ← HRL.out, ← HRD.out, HSUB.out]
          simp only [Ty.name, Ty.args, List.length_map]
          exact ⟨Av, cv, rfl, ((ho.set ⟨w.heap.size + 1, 0, none⟩ (by show ¬ w.heap.size + 3 ≤ w.heap.size + 1; omega) _).set ⟨w.heap.size + 1, 1, none⟩ (by show ¬ w.heap.size + 3 ≤ w.heap.size + 1; omega) _).mono (fun b _ h => by omega), (HI.out.2.2.2.2.1.setCell (by simp) _).setCell (by simp) _⟩
    case first =>
    go_wp2_with fail
    go_loopg [7] (m + 1) (fun gg s7 wr => ∃ i : Nat, i ≤ m ∧ gg = m + 1 - i ∧ s7 = .int .i64 (i : Int) ∧ firstI ps n m 0 = firstI ps n (m - i) i ∧ SameM W0 wr)
    case atStart => exact ⟨0, Nat.zero_le _, by omega, rfl, rfl, by rw [HW0.out]; exact SameM.refl _⟩
    case round =>
      obtain ⟨i, hi, hg, rfl, hF, hI⟩ := hrel
      have HG := Lib.hid hg
      by_cases hlt : i < m
      · have hltp : (i : Int) < (ps.length : Int) := by omega
        have hltl : (i : Int) < (l.length : Int) := by omega
        have hip : i < ps.length := by omega
        have hil : i < l.length := by omega
        have z1 : wr.cell? ⟨w.heap.size, 0, none⟩ = some (.string n) := (cell_of_block (by rw [hI.1]) 0).trans Z0.out
        obtain ⟨bp, op, hAp, hbp, hps, zp⟩ := ((HSP.out.under (HB0.out.mono hB)).under (hI.below B)).2.2 i hip
        subst hAp
        have hf1 : firstI ps n (m - i) i = if ps[i] = n ∧ pfx n = true then some i else firstI ps n (m - (i + 1)) (i + 1) := by
          rw [show m - i = (m - (i + 1)) + 1 by omega, firstI]
          simp [List.getD_eq_getElem?_getD, hip]
        have HPC := fun V => param_c n hn V
        have hI2 := hI.drew
        have HI := Lib.hid hI
        have HF1 := Lib.hid (hF.trans hf1)
        clear hF hf1 hI hg
        by_cases hpn : ps[i] = n
        · rw [hpn] at zp
          cases hp : pfx n with
          | true =>
            rw [hp] at HPC
            have HPC := Lib.hid HPC
            have hfs : firstI ps n m 0 = some i := by rw [HF1.out, if_pos ⟨hpn, hp⟩]
            have hgs : substT (gOf ps l) (.mk n a) = l[i] := by rw [substT, HGO.out, hfs]; simp [hil]
            have hwl : Below B w wr.drew := ((HB0.out.mono hB).trans (HI.out.below B)).drew
            have hww : Below w.heap.size w wr.drew := (HB0.out.trans (HI.out.below _)).drew
            obtain ⟨bl, ol, hAl, hbl, nm, a', A', c', ht, hnm, hv, c0, c1⟩ := (HLL.out.under hwl).at_ hil
            subst hAl
            have hcall := own_c B l[i] (HSL.out _ (List.getElem_mem hil)) wr.drew (.agg #[.string nm, .slice A' a'.length c']) (Nat.le_trans hB hwl.size) (by rw [ht]; exact ⟨A', c', rfl, hnm, hv⟩)
            have hcs : wr.heap.size = w.heap.size + 2 := by rw [HI.out.1, HS0.out]
            have hk1 : Blk wr (w.heap.size + 1) 24 #[.string ⟨#[]⟩, .slice none 0 0] := by rw [Blk, HI.out.1]; exact HK1.out
            have HC := Lib.hid hcall; have HGS := Lib.hid hgs; have HK := Lib.hid hk1; have HCS := Lib.hid hcs; have HWL := Lib.hid hww
            clear hcall hgs hk1 hcs hwl hww hv hfs hpn HF1 ht
            generalize l[i] = y at *
            go_wp2_with fail
            refine chain_region (fun V => V.cell? ⟨w.heap.size, 0, none⟩ = some (.string n) ∧ V.cell? ⟨bp, op + i, none⟩ = some (.string n)) 12 (by kernel_rfl) ?_
            have HS0 := Lib.hid (show wr.drew.cell? ⟨w.heap.size, 0, none⟩ = some (.string n) ∧ wr.drew.cell? ⟨bp, op + i, none⟩ = some (.string n) from ⟨z1, zp⟩)
            refine T_takeD (i := 0) (v := .pointer (some ⟨w.heap.size, 0, none⟩)) rfl (by kernel_rfl) (fun _ _ _ h => h) rfl (fun V hS => by go_simp) HS0.out ?_
            go_simp
            refine T_takeD (i := 1) (v := .string n) rfl (by kernel_rfl) (fun _ _ _ h => h) rfl (fun V hS => by obtain ⟨h1, h2⟩ := hS; go_simp) HS0.out ?_
            go_simp
            refine T_one (i := 2) rfl (by kernel_rfl) rfl ?_
            refine op_callT #[.string n] (by simp [go_sem]) (enters_of Tryz.func18 (by kernel_rfl) rfl _ _) (HPC.out _) ?_
            rintro e w5 ⟨rfl, rfl⟩
            refine ⟨_, rfl, fun _ => HS0.out, ?_⟩
            go_simp
            refine T_takeD (i := 3) (v := .bool true) rfl (by kernel_rfl) (fun _ _ _ h => h) rfl (fun V hS => by go_simp) HS0.out ?_
            go_simp
            refine T_takeD (i := 4) (v := .slice (some ⟨bp, op, none⟩) ps.length cp) rfl (by kernel_rfl) (fun _ _ _ h => h) rfl (fun V hS => by go_simp) HS0.out ?_
            go_simp
            refine T_takeD (i := 5) (v := .int .i64 (i : Int)) rfl (by kernel_rfl) (fun _ _ _ h => h) rfl (fun V hS => by go_simp) HS0.out ?_
            go_simp
            refine T_takeD (i := 6) (v := .pointer (some ⟨bp, op + i, none⟩)) rfl (by kernel_rfl) (fun _ _ _ h => h) rfl (fun V hS => by go_simp) HS0.out ?_
            go_simp
            refine T_takeD (i := 7) (v := .string n) rfl (by kernel_rfl) (fun _ _ _ h => h) rfl (fun V hS => by obtain ⟨h1, h2⟩ := hS; go_simp) HS0.out ?_
            go_simp
            refine T_takeD (i := 8) (v := .pointer (some ⟨w.heap.size, 0, none⟩)) rfl (by kernel_rfl) (fun _ _ _ h => h) rfl (fun V hS => by go_simp) HS0.out ?_
            go_simp
            refine T_takeD (i := 9) (v := .string n) rfl (by kernel_rfl) (fun _ _ _ h => h) rfl (fun V hS => by obtain ⟨h1, h2⟩ := hS; go_simp) HS0.out ?_
            go_simp
            refine T_takeD (i := 10) (v := .bool true) rfl (by kernel_rfl) (fun _ _ _ h => h) rfl (fun V hS => by go_simp) HS0.out ?_
            go_simp
            refine T_takeD (i := 11) (v := .bool true) rfl (by kernel_rfl) (fun _ _ _ h => h) rfl (fun V hS => by go_simp) HS0.out ?_
            go_simp
            refine T_done (by kernel_rfl) ?_
            go_simp
            go_wp2_with fail
            refine HC.out.mono ?_
            rintro e w6 ⟨A6, c6, rfl, q1, q2⟩
            have hs6 : w.heap.size + 2 ≤ wr.drew.heap.size := by show w.heap.size + 2 ≤ wr.heap.size; rw [HCS.out]; exact Nat.le_refl _
            have hb6 : Blk w6 (w.heap.size + 1) 24 #[.string ⟨#[]⟩, .slice none 0 0] := (q2.block _ (by omega)).trans HK.out
            have b0 := hb6.cell 0
            have b1 := hb6.cell 1
            have g0 := hb6.frozen 0
            have g1 := hb6.frozen 1
            simp at b0 b1
            have HB6 := Lib.hid hb6; have HQ1 := Lib.hid q1; have HQ2 := Lib.hid q2
            clear hb6 q1 q2
            dsimp only
            go_wp2_with fail
            refine bodyPost_ret (retT1 (g := w.heap.size + 1) Tryz.results7 rfl HB6.out.store2) rfl ?_
            rw [← HRN.out, ← HRL.out, ← HRD.out, HGS.out]
            exact ⟨A6, c6, rfl, ((HQ1.out.set ⟨w.heap.size + 1, 0, none⟩ (by show ¬ wr.drew.heap.size ≤ w.heap.size + 1; omega) _).set ⟨w.heap.size + 1, 1, none⟩ (by show ¬ wr.drew.heap.size ≤ w.heap.size + 1; omega) _).mono (fun b _ h => by omega), ((HWL.out.trans (HQ2.out.mono (by omega))).setCell (by simp) _).setCell (by simp) _⟩
          | false =>
            rw [hp] at HPC
            have HPC := Lib.hid HPC
            have hgn : gOf ps l n = none := by rw [HGO.out, firstI_none ps n hp]; rfl
            have HGN := Lib.hid hgn
            clear HF1 hgn hpn
            go_wp2_with fail
            refine chain_region (fun V => V.cell? ⟨w.heap.size, 0, none⟩ = some (.string n) ∧ V.cell? ⟨bp, op + i, none⟩ = some (.string n)) 12 (by kernel_rfl) ?_
            have HS0 := Lib.hid (show wr.drew.cell? ⟨w.heap.size, 0, none⟩ = some (.string n) ∧ wr.drew.cell? ⟨bp, op + i, none⟩ = some (.string n) from ⟨z1, zp⟩)
            refine T_takeD (i := 0) (v := .pointer (some ⟨w.heap.size, 0, none⟩)) rfl (by kernel_rfl) (fun _ _ _ h => h) rfl (fun V hS => by go_simp) HS0.out ?_
            go_simp
            refine T_takeD (i := 1) (v := .string n) rfl (by kernel_rfl) (fun _ _ _ h => h) rfl (fun V hS => by obtain ⟨h1, h2⟩ := hS; go_simp) HS0.out ?_
            go_simp
            refine T_one (i := 2) rfl (by kernel_rfl) rfl ?_
            refine op_callT #[.string n] (by simp [go_sem]) (enters_of Tryz.func18 (by kernel_rfl) rfl _ _) (HPC.out _) ?_
            rintro e w5 ⟨rfl, rfl⟩
            refine ⟨_, rfl, fun _ => HS0.out, ?_⟩
            go_simp
            refine T_takeD (i := 3) (v := .bool false) rfl (by kernel_rfl) (fun _ _ _ h => h) rfl (fun V hS => by go_simp) HS0.out ?_
            go_simp
            refine T_skipF (i := 4) rfl (by kernel_rfl) (fun _ _ _ h => h) rfl HS0.out ?_
            go_simp
            refine T_skipF (i := 5) rfl (by kernel_rfl) (fun _ _ _ h => h) rfl HS0.out ?_
            go_simp
            refine T_skipF (i := 6) rfl (by kernel_rfl) (fun _ _ _ h => h) rfl HS0.out ?_
            go_simp
            refine T_skipF (i := 7) rfl (by kernel_rfl) (fun _ _ _ h => h) rfl HS0.out ?_
            go_simp
            refine T_skipF (i := 8) rfl (by kernel_rfl) (fun _ _ _ h => h) rfl HS0.out ?_
            go_simp
            refine T_skipF (i := 9) rfl (by kernel_rfl) (fun _ _ _ h => h) rfl HS0.out ?_
            go_simp
            refine T_skipF (i := 10) rfl (by kernel_rfl) (fun _ _ _ h => h) rfl HS0.out ?_
            go_simp
            refine T_takeD (i := 11) (v := .bool false) rfl (by kernel_rfl) (fun _ _ _ h => h) rfl (fun V hS => by go_simp) HS0.out ?_
            go_simp
            refine T_done (by kernel_rfl) ?_
            go_simp
            go_wp2_with fail
            have z2 : wr.drew.cell? ⟨w.heap.size, 0, none⟩ = some (.string n) := z1
            have zp2 : wr.drew.cell? ⟨bp, op + i, none⟩ = some (.string n) := zp
            go_region
            go_wp2_with fail
            go_meet
            exact ⟨HGN.out, HI.out⟩
        · have hpn2 : (ps[i].toList == n.toList) = false := by
            rw [beq_eq_false_iff_ne]
            intro e
            rw [Lib.toList_data, Lib.toList_data] at e
            exact hpn (ByteArray.ext (Array.ext' e))
          have hpn3 : ¬ ps[i].toList = n.toList := by simpa using hpn2
          have hff : firstI ps n m 0 = firstI ps n (m - (i + 1)) (i + 1) := by rw [HF1.out, if_neg (fun h => hpn h.1)]
          have HFF := Lib.hid hff
          clear HF1 hff hpn
          generalize ps[i] = y at *
          cases hp : pfx n with
          | true =>
            rw [hp] at HPC
            have HPC := Lib.hid HPC
            go_wp2_with fail
            refine chain_region (fun V => V.cell? ⟨w.heap.size, 0, none⟩ = some (.string n) ∧ V.cell? ⟨bp, op + i, none⟩ = some (.string y)) 12 (by kernel_rfl) ?_
            have HS0 := Lib.hid (show wr.drew.cell? ⟨w.heap.size, 0, none⟩ = some (.string n) ∧ wr.drew.cell? ⟨bp, op + i, none⟩ = some (.string y) from ⟨z1, zp⟩)
            refine T_takeD (i := 0) (v := .pointer (some ⟨w.heap.size, 0, none⟩)) rfl (by kernel_rfl) (fun _ _ _ h => h) rfl (fun V hS => by go_simp) HS0.out ?_
            go_simp
            refine T_takeD (i := 1) (v := .string n) rfl (by kernel_rfl) (fun _ _ _ h => h) rfl (fun V hS => by obtain ⟨h1, h2⟩ := hS; go_simp) HS0.out ?_
            go_simp
            refine T_one (i := 2) rfl (by kernel_rfl) rfl ?_
            refine op_callT #[.string n] (by simp [go_sem]) (enters_of Tryz.func18 (by kernel_rfl) rfl _ _) (HPC.out _) ?_
            rintro e w5 ⟨rfl, rfl⟩
            refine ⟨_, rfl, fun _ => HS0.out, ?_⟩
            go_simp
            refine T_takeD (i := 3) (v := .bool true) rfl (by kernel_rfl) (fun _ _ _ h => h) rfl (fun V hS => by go_simp) HS0.out ?_
            go_simp
            refine T_takeD (i := 4) (v := .slice (some ⟨bp, op, none⟩) ps.length cp) rfl (by kernel_rfl) (fun _ _ _ h => h) rfl (fun V hS => by go_simp) HS0.out ?_
            go_simp
            refine T_takeD (i := 5) (v := .int .i64 (i : Int)) rfl (by kernel_rfl) (fun _ _ _ h => h) rfl (fun V hS => by go_simp) HS0.out ?_
            go_simp
            refine T_takeD (i := 6) (v := .pointer (some ⟨bp, op + i, none⟩)) rfl (by kernel_rfl) (fun _ _ _ h => h) rfl (fun V hS => by go_simp) HS0.out ?_
            go_simp
            refine T_takeD (i := 7) (v := .string y) rfl (by kernel_rfl) (fun _ _ _ h => h) rfl (fun V hS => by obtain ⟨h1, h2⟩ := hS; go_simp) HS0.out ?_
            go_simp
            refine T_takeD (i := 8) (v := .pointer (some ⟨w.heap.size, 0, none⟩)) rfl (by kernel_rfl) (fun _ _ _ h => h) rfl (fun V hS => by go_simp) HS0.out ?_
            go_simp
            refine T_takeD (i := 9) (v := .string n) rfl (by kernel_rfl) (fun _ _ _ h => h) rfl (fun V hS => by obtain ⟨h1, h2⟩ := hS; go_simp) HS0.out ?_
            go_simp
            refine T_takeD (i := 10) (v := .bool false) rfl (by kernel_rfl) (fun _ _ _ h => h) rfl (fun V hS => by go_simp) HS0.out ?_
            go_simp
            refine T_takeD (i := 11) (v := .bool false) rfl (by kernel_rfl) (fun _ _ _ h => h) rfl (fun V hS => by go_simp) HS0.out ?_
            go_simp
            refine T_done (by kernel_rfl) ?_
            go_simp
            go_wp2_with fail
            have z2 : wr.drew.cell? ⟨w.heap.size, 0, none⟩ = some (.string n) := z1
            have zp2 : wr.drew.cell? ⟨bp, op + i, none⟩ = some (.string y) := zp
            go_region
            go_wp2_with fail
            go_roundg (m + 1 - (i + 1))
            case measure => have := HG.out; omega
            case rel => exact ⟨i + 1, by omega, rfl, by go_num, HFF.out, HI.out⟩
          | false =>
            rw [hp] at HPC
            have HPC := Lib.hid HPC
            go_wp2_with fail
            refine chain_region (fun V => V.cell? ⟨w.heap.size, 0, none⟩ = some (.string n) ∧ V.cell? ⟨bp, op + i, none⟩ = some (.string y)) 12 (by kernel_rfl) ?_
            have HS0 := Lib.hid (show wr.drew.cell? ⟨w.heap.size, 0, none⟩ = some (.string n) ∧ wr.drew.cell? ⟨bp, op + i, none⟩ = some (.string y) from ⟨z1, zp⟩)
            refine T_takeD (i := 0) (v := .pointer (some ⟨w.heap.size, 0, none⟩)) rfl (by kernel_rfl) (fun _ _ _ h => h) rfl (fun V hS => by go_simp) HS0.out ?_
            go_simp
            refine T_takeD (i := 1) (v := .string n) rfl (by kernel_rfl) (fun _ _ _ h => h) rfl (fun V hS => by obtain ⟨h1, h2⟩ := hS; go_simp) HS0.out ?_
            go_simp
            refine T_one (i := 2) rfl (by kernel_rfl) rfl ?_
            refine op_callT #[.string n] (by simp [go_sem]) (enters_of Tryz.func18 (by kernel_rfl) rfl _ _) (HPC.out _) ?_
            rintro e w5 ⟨rfl, rfl⟩
            refine ⟨_, rfl, fun _ => HS0.out, ?_⟩
            go_simp
            refine T_takeD (i := 3) (v := .bool false) rfl (by kernel_rfl) (fun _ _ _ h => h) rfl (fun V hS => by go_simp) HS0.out ?_
            go_simp
            refine T_skipF (i := 4) rfl (by kernel_rfl) (fun _ _ _ h => h) rfl HS0.out ?_
            go_simp
            refine T_skipF (i := 5) rfl (by kernel_rfl) (fun _ _ _ h => h) rfl HS0.out ?_
            go_simp
            refine T_skipF (i := 6) rfl (by kernel_rfl) (fun _ _ _ h => h) rfl HS0.out ?_
            go_simp
            refine T_skipF (i := 7) rfl (by kernel_rfl) (fun _ _ _ h => h) rfl HS0.out ?_
            go_simp
            refine T_skipF (i := 8) rfl (by kernel_rfl) (fun _ _ _ h => h) rfl HS0.out ?_
            go_simp
            refine T_skipF (i := 9) rfl (by kernel_rfl) (fun _ _ _ h => h) rfl HS0.out ?_
            go_simp
            refine T_skipF (i := 10) rfl (by kernel_rfl) (fun _ _ _ h => h) rfl HS0.out ?_
            go_simp
            refine T_takeD (i := 11) (v := .bool false) rfl (by kernel_rfl) (fun _ _ _ h => h) rfl (fun V hS => by go_simp) HS0.out ?_
            go_simp
            refine T_done (by kernel_rfl) ?_
            go_simp
            go_wp2_with fail
            have z2 : wr.drew.cell? ⟨w.heap.size, 0, none⟩ = some (.string n) := z1
            have zp2 : wr.drew.cell? ⟨bp, op + i, none⟩ = some (.string y) := zp
            go_region
            go_wp2_with fail
            go_roundg (m + 1 - (i + 1))
            case measure => have := HG.out; omega
            case rel => exact ⟨i + 1, by omega, rfl, by go_num, HFF.out, HI.out⟩
      · obtain rfl : i = m := by omega
        have hgn : gOf ps l n = none := by rw [HGO.out, hF, Nat.sub_self]; rfl
        have HGN := Lib.hid hgn; have HI := Lib.hid hI
        by_cases hip : i < ps.length
        · have hltp : (i : Int) < (ps.length : Int) := by omega
          have hltl : ¬ (i : Int) < (l.length : Int) := by have := HM.out; omega
          clear hgn hI hF hg
          go_wp2_with fail
          go_meet
          exact ⟨HGN.out, HI.out⟩
        · have hltp : ¬ (i : Int) < (ps.length : Int) := by omega
          clear hgn hI hF hg
          go_wp2_with fail
          go_meet
          exact ⟨HGN.out, HI.out⟩
end Go.Proofs.YtagmgkkicodbiaaGreatDoor
