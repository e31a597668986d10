/- Package code: a reader's lists. -/
import Derived.Test.YtlcfokejoikaaaaGreatDoorUh
namespace Go.Proofs.YtlcfokejoikaaaaGreatDoor
open Go.RowKit Go.Shelf Vp Cp Rm
open Go
attribute [local go_sem] Oper.semAt_some

theorem restO_len {α : Type} {g : Rd_ α} (hg : Rm.Loc g) (l : List UInt8) : (restO (g l)).length ≤ l.length := by
  cases h : g l with
  | none => exact Nat.zero_le _
  | some x => exact (hg.1 l x.1 x.2 h).1
theorem OwnV.lt {lo b : Nat} {ts : List V} {w : World} {v : Value} (h : OwnV lo ts w v) (hb : v.ownBlock = some b) : b < w.heap.size := by
  obtain ⟨us, _, _, h3, _⟩ := h
  exact (World.ownsRow.lt h3 b hb).2
theorem OwnV.alloc {lo : Nat} {ts : List V} {w : World} {v : Value} (h : OwnV lo ts w v) (o : Obj) : OwnV lo ts (w.alloc o) v := by
  obtain ⟨us, h1, h2, h3, h4⟩ := h
  exact ⟨us, h1, h2, World.ownsRow.alloc h3 o, fun j a b => (h4 j a b).alloc o⟩
theorem Rdr.low {p B lo : Nat} {rest : List UInt8} {f : Bool} {w w' : World} (h : Rdr p B rest f w) (hb : Below lo w w') (hp : p < lo) (hB : B ≤ lo) : Rdr p B rest f w' := by
  obtain ⟨A, c, h1, h2, h3, h4, h5⟩ := h
  exact ⟨A, c, h1.below hb hp, h2, h3, h4.below (hb.mono hB), Nat.le_trans h5 hb.size⟩
/-- What a reader of a value tells. -/
def TellsV (p B : Nat) (w : World) (o : Option (V × List UInt8)) (f : Bool) (e : Ending) (w' : World) : Prop :=
  ∃ (t : V) (u : Value), e = .returned u ∧ Rdr p B (restO o) (failO f o) w' ∧ w.grownBy w' (some p) ∧ Lies (fun b => w.heap.size ≤ b) w' t u ∧ ∀ x, o = some x → t = x.1
/-- What a reader of a list tells. -/
def TellsL (p B : Nat) (w : World) (o : Option (List V × List UInt8)) (f : Bool) (e : Ending) (w' : World) : Prop :=
  ∃ (l : List V) (A : Option Addr) (c : Nat), e = .returned (.slice A l.length c) ∧ Rdr p B (restO o) (failO f o) w' ∧ w.grownBy w' (some p) ∧ RLies (fun b => w.heap.size ≤ b) w' l A c ∧ ∀ x, o = some x → l = x.1
/-- Where the reading of a list stands. -/
def ListS (g : Rd_ V) (O : Option (List V × List UInt8)) (f : Bool) (k : Nat) (acc : List V) (l : List UInt8) (h : Bool) : Prop := listG g k acc l = O ∧ h = f ∨ O = none ∧ l = [] ∧ h = true
theorem flag_bind {α : Type} (h : Bool → Rd_ α) (l : List UInt8) : bindG flagG h l = match flagG l with | none => none | some (b, r) => h b r := by
  unfold bindG
  cases flagG l <;> rfl
theorem listG_flag (g : Rd_ V) (k : Nat) (acc : List V) (l : List UInt8) : listG g k acc l = match flagG l with
    | none => none
    | some (false, r) => some (acc, r)
    | some (true, r) => (match k with | 0 => none | k + 1 => (match g r with | none => none | some (t, r2) => listG g k (acc ++ [t]) r2)) := by
  cases k with
  | zero =>
    unfold listG
    rw [flag_bind]
    cases flagG l with
    | none => rfl
    | some x => obtain ⟨b, r⟩ := x; cases b <;> rfl
  | succ k =>
    show bindG flagG _ l = _
    rw [flag_bind]
    cases flagG l with
    | none => rfl
    | some x =>
      obtain ⟨b, r⟩ := x
      cases b with
      | false => rfl
      | true =>
        show bindG g _ r = _
        unfold bindG
        cases hq : g r with
        | none => simp only [hq]
        | some y => simp only [hq]
theorem ListS.out {g : Rd_ V} {O : Option (List V × List UInt8)} {f h : Bool} {k : Nat} {acc : List V} {l : List UInt8} (hs : ListS g O f k acc l h) :
    (flagG l = none ∧ O = none) ∨ (∃ r, flagG l = some (false, r) ∧ O = some (acc, r) ∧ h = f) ∨ (∃ r, flagG l = some (true, r) ∧ h = f ∧ (k = 0 → O = none) ∧ ∀ j, k = j + 1 → (g r = none → O = none) ∧ ∀ t r2, g r = some (t, r2) → listG g j (acc ++ [t]) r2 = O) := by
  rcases hs with ⟨h1, h2⟩ | ⟨h1, h2, h3⟩
  · rw [listG_flag] at h1
    cases hf : flagG l with
    | none => rw [hf] at h1; exact .inl ⟨rfl, h1.symm⟩
    | some x =>
      obtain ⟨b, r⟩ := x
      rw [hf] at h1
      cases b with
      | false => exact .inr (.inl ⟨r, rfl, h1.symm, h2⟩)
      | true =>
        refine .inr (.inr ⟨r, rfl, h2, fun hk => ?_, fun j hk => ⟨fun hg => ?_, fun t r2 hg => ?_⟩⟩)
        · subst hk; exact h1.symm
        · subst hk; simp only [hg] at h1; exact h1.symm
        · subst hk; simp only [hg] at h1; exact h1
  · subst h2
    exact .inl ⟨rfl, h1⟩

set_option maxRecDepth 100000 in
set_option maxHeartbeats 16000000 in
theorem list_c (p B n : Nat) (k0 : Nat) (hk0 : k0 ≤ 1000) (hv : ∀ (l : List UInt8) (f : Bool) (W : World), l.length ≤ 140000000000000 → Rdr p B l f W → Calls Tryz.prog 91 #[.pointer (some ⟨p, 0, none⟩), .int .i64 (n : Int)] W fun e w' => TellsV p B W (valueG n l) f e w')
    (l0 : List UInt8) (hl0 : l0.length ≤ 140000000000000) (f : Bool) (w : World) (h : Rdr p B l0 f w) :
    Calls Tryz.prog 132 #[.pointer (some ⟨p, 0, none⟩), .int .i64 (k0 : Int), .int .i64 (n : Int)] w fun e w' => TellsL p B w (listG (valueG n) k0 [] l0) f e w' := by
  have hBw : B ≤ w.heap.size := by obtain ⟨A, c, _, _, _, _, h5⟩ := h; exact h5
  have hpw := h.lt
  have H := Lib.hid h; have HV := Lib.hid hv; have HL0 := Lib.hid hl0
  obtain ⟨O, hO⟩ : ∃ O, listG (valueG n) k0 [] l0 = O := ⟨_, rfl⟩
  have hs0 : ListS (valueG n) O f k0 [] l0 f := .inl ⟨hO, rfl⟩
  have HS0 := Lib.hid hs0
  rw [hO]
  clear h hv hl0 hO hs0
  go_enter Tryz.func132, Tryz.ntmps132
  go_wp2_with fail
  go_loopg [7] (k0 + 1) (fun gg s7 wr => ∃ (acc : List V) (l' : List UInt8) (g : Bool), acc.length ≤ k0 ∧ gg = k0 + 1 - acc.length ∧ OwnV w.heap.size acc wr s7 ∧ l'.length ≤ 140000000000000 ∧ Rdr p B l' g wr ∧ w.grownBy wr (some p) ∧ ListS (valueG n) O f (k0 - acc.length) acc l' g)
  case atStart => exact ⟨[], l0, f, Nat.zero_le _, rfl, OwnV.nil _ _, HL0.out, H.out, grown_refl w p, HS0.out⟩
  case round =>
    clear H HL0 HS0
    obtain ⟨acc, l', g, hacc, hg, hy, hl', hr, hgr, hs⟩ := hrel
    have HFL := Lib.hid (flag_all p B l' g wr hr)
    have hfr := restO_len Rm.Loc.flag l'
    have hso := hs.out
    obtain ⟨A, c, rfl, hrl⟩ := hy.slice
    have HG := Lib.hid hg; have HY := Lib.hid hy; have HGR := Lib.hid hgr
    obtain ⟨z, hz⟩ : ∃ z, acc.length = z := ⟨_, rfl⟩
    rw [hz] at HY hacc ⊢
    have HZ := Lib.hid hz
    clear hg hy hr hgr hs hz hrl
    rcases hso with ⟨e1, e2⟩ | ⟨r, e1, e2, e3⟩ | ⟨r, e1, e2, e3, e4⟩
    · rw [e1] at HFL
      simp only [boolO, restO, failO] at HFL
      clear e1 hfr
      subst e2
      go_wp2_with fail
      refine HFL.out.mono ?_
      rintro e w2 ⟨rfl, hr2, hg2⟩
      have HR2 := Lib.hid hr2; have HGT := Lib.hid (grown_trans HGR.out hg2); have HY2 := Lib.hid (HY.out.keep hg2 (by omega))
      clear hr2 hg2
      go_wp2_with fail
      go_ret
      obtain ⟨A', c', e, hrl⟩ := HY2.out.slice
      exact ⟨acc, A', c', (by rw [← e]; rfl), HR2.out, HGT.out, hrl, fun x hx => (by cases hx)⟩
    · rw [e1] at HFL
      simp only [boolO, restO, failO] at HFL
      clear e1 hfr
      subst e2
      subst e3
      go_wp2_with fail
      refine HFL.out.mono ?_
      rintro e w2 ⟨rfl, hr2, hg2⟩
      have HR2 := Lib.hid hr2; have HGT := Lib.hid (grown_trans HGR.out hg2); have HY2 := Lib.hid (HY.out.keep hg2 (by omega))
      clear hr2 hg2
      go_wp2_with fail
      go_ret
      obtain ⟨A', c', e, hrl⟩ := HY2.out.slice
      exact ⟨acc, A', c', (by rw [← e]; rfl), HR2.out, HGT.out, hrl, fun x hx => (by injection hx with hx; rw [← hx])⟩
    · rw [e1] at HFL hfr
      simp only [boolO, restO, failO] at HFL hfr
      have HE3 := Lib.hid e3; have HE4 := Lib.hid e4
      subst e2
      have HFR := Lib.hid hfr
      clear e1 e3 e4 hfr
      by_cases hzk : z = k0
      · have hzz : ((z : Int) == (k0 : Int)) = true := by simp [hzk]
        have HZK := Lib.hid hzk
        clear hzk
        go_wp2_with fail
        refine HFL.out.mono ?_
        rintro e w2 ⟨rfl, hr2, hg2⟩
        have HGT := Lib.hid (grown_trans HGR.out hg2)
        have HF := Lib.hid (fail_c p B _ _ w2 hr2)
        have HY2 := Lib.hid (HY.out.keep hg2 (by omega))
        clear hr2 hg2
        go_wp2_with fail
        refine HF.out.mono ?_
        rintro e w3 ⟨rfl, hr3, hg3⟩
        have HR3 := Lib.hid hr3; have HG3 := Lib.hid (grown_trans HGT.out hg3); have HY3 := Lib.hid (HY2.out.keep hg3 (by omega))
        clear hr3 hg3
        go_wp2_with fail
        go_ret
        obtain ⟨A', c', e, hrl⟩ := HY3.out.slice
        have hO := HE3.out (by have := HZ.out; have := HZK.out; omega)
        subst hO
        exact ⟨acc, A', c', (by rw [← e]; rfl), HR3.out, HG3.out, hrl, fun x hx => (by cases hx)⟩
      · have hzz : ((z : Int) == (k0 : Int)) = false := by rw [beq_eq_false_iff_ne]; omega
        obtain ⟨j, hj⟩ : ∃ j, k0 - z = j + 1 := ⟨k0 - z - 1, by omega⟩
        have he4 := HE4.out j (by rw [HZ.out]; exact hj)
        have HJ := Lib.hid hj; have HE := Lib.hid he4
        clear hj he4 HE3 HE4
        have hrl' : r.length ≤ 140000000000000 := Nat.le_trans HFR.out hl'
        go_wp2_with fail
        refine HFL.out.mono ?_
        rintro e w2 ⟨rfl, hr2, hg2⟩
        have HR2 := Lib.hid hr2; have HGT := Lib.hid (grown_trans HGR.out hg2); have HY2 := Lib.hid (HY.out.keep hg2 (by omega))
        have HVC := Lib.hid (HV.out r g w2 hrl' HR2.out)
        have hvl := restO_len (Rm.Loc.value n) r
        clear hr2 hg2 HFL
        go_wp2_with fail
        refine HVC.out.mono ?_
        rintro e w3 ⟨t, u, rfl, hr3, hg3, hlie, hx⟩
        obtain ⟨k', n', s', lt, At, ct, _, rfl, _, _, _, _⟩ := hlie.rep.open_
        have HR3 := Lib.hid hr3; have HG3 := Lib.hid (grown_trans HGT.out hg3); have HY3 := Lib.hid (HY2.out.keep hg3 (by omega)); have HX := Lib.hid hx
        have HLI := Lib.hid (Lies.mono (S' := fun b => w.heap.size ≤ b ∧ (Value.slice A z c).ownBlock ≠ some b) hlie fun b _ hb => ⟨Nat.le_trans HGT.out.size hb, fun e => absurd (HY2.out.lt e) (by omega)⟩)
        have HVL := Lib.hid hvl
        have hsz : w.heap.size ≤ w3.heap.size := HG3.out.size
        clear hr3 hg3 hlie hx hvl HVC
        go_wp2_with (at_builtin; refine wpList_val _ rfl (.tmp 16) (.tmp 20) rfl w.heap.size acc t _ rfl (HY3.out.alloc _) w3.heap.size 1 rfl k' n' s' At lt.length ct (Blk.new _ _ _) (HLI.out.alloc _) (by have := HZ.out; omega) (by simp; omega) ?_; intro v4 w4 hy4 hb4 hg4; have HY4 := Lib.hid hy4; have HB4 := Lib.hid hb4; clear hy4 hb4 hg4)
        go_roundg (k0 + 1 - (z + 1))
        case measure => have := HG.out; have := HZ.out; omega
        case rel =>
          have hal : (acc ++ [t]).length = z + 1 := by rw [List.length_append, HZ.out]; rfl
          refine ⟨acc ++ [t], restO (valueG n r), failO g (valueG n r), by omega, by rw [hal], HY4.out, Nat.le_trans HVL.out hrl', (HR3.out.alloc _).low HB4.out hpw hBw, grown_of_below (grown_alloc HG3.out _) HB4.out, ?_⟩
          rw [hal, show k0 - (z + 1) = j by have := HJ.out; omega]
          cases hq : valueG n r with
          | none => exact .inr ⟨HE.out.1 hq, rfl, rfl⟩
          | some y =>
            obtain ⟨t0, r2⟩ := y
            have ht : t = t0 := HX.out _ hq
            subst ht
            exact .inl ⟨HE.out.2 t r2 hq, rfl⟩
end Go.Proofs.YtlcfokejoikaaaaGreatDoor
