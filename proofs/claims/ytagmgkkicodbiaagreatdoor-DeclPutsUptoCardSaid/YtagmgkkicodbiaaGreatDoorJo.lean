/- The law of types put in the place of parameters: its walk. -/
import Derived.Test.YtagmgkkicodbiaaGreatDoorJn
namespace Go.Proofs.YtagmgkkicodbiaaGreatDoor
open Go.RowKit Go.Shelf
open Go
attribute [local go_sem] Oper.semAt_some

/-- A row that has been written to, as long as it was. -/
def RowK (A : Option Addr) (w8 wr : World) : Prop := ∀ p, A = some p → ∃ cur0 cur, Blk w8 p.block 24 cur0 ∧ Blk wr p.block 24 cur ∧ cur.size = cur0.size
theorem RowK.set {A : Option Addr} {w8 wr : World} (h : RowK A w8 wr) (b i : Nat) (x : Value) : RowK A w8 (wr.setCell ⟨b, i, none⟩ x) := fun p hp => by
  obtain ⟨cur0, cur, h1, h2, h3⟩ := h p hp
  by_cases e : p.block = b
  · rw [e] at h1 h2 ⊢; exact ⟨cur0, _, h1, h2.set_ i x, by simp [h3]⟩
  · exact ⟨cur0, cur, h1, (Below.heap_setCell _ _ _ _ e).trans h2, h3⟩
set_option maxRecDepth 100000 in
set_option maxHeartbeats 8000000 in
theorem puts_c (x : Ty) (ps : List ByteArray) (l : List Ty) (u : Value) (Ap A : Option Addr) (cp c : Nat) (w : World) (h : TyRep w w.heap.size x u) (hp : SRep w w.heap.size ps Ap cp) (hl : LRep w w.heap.size l A c) (hx : sizeT x ≤ 2000000) (hls : sizeL l ≤ 2000000) :
    Calls Tryz.prog 3 #[u, .slice Ap ps.length cp, .slice A l.length c] w fun e w' => e = .returned (.bool true) ∧ Below w.heap.size w w' := by
  have hu := h
  obtain ⟨At, ct, rfl, hn, hR⟩ := h
  have hlc := hl.len
  have hpc := hp.1
  have hpm := hp.2.1
  have hmax : maxLen = 9223372036854775807 := rfl
  have ba : Below w.heap.size w (w.alloc (.cells #[.string x.name, .slice At x.args.length ct] 24)) := (Below.refl _ w).alloc (Nat.le_refl _) _
  have hrow := one_row ((hu.under ba).more (B' := w.heap.size) (Nat.le_refl _)) ba.size
  have hs1 : (w.alloc (.cells #[.string x.name, .slice At x.args.length ct] 24)).heap.size = w.heap.size + 1 := by simp
  obtain ⟨W1, hW1⟩ : ∃ W, W = (w.alloc (.cells #[.string x.name, .slice At x.args.length ct] 24)).alloc (.cells #[.string x.name, .slice At x.args.length ct] 24) := ⟨_, rfl⟩
  have b1 : Below w.heap.size w W1 := by rw [hW1]; exact ba.alloc (by simp) _
  have sz1 : W1.heap.size = w.heap.size + 2 := by rw [hW1]; simp
  have k0 : Blk W1 w.heap.size 24 #[.string x.name, .slice At x.args.length ct] := by rw [hW1]; exact (Blk.new _ _ _).alloc _
  rw [hs1, ← hW1] at hrow
  have hc1 := types_c [x] 200 _ 1 W1 (by omega) (by omega) (by simp [sizeL]; omega) (hrow.more (by omega))
  have hok1 := tyL_ok [x] 200 0
  rw [show sizeL [x] = sizeT x by simp [sizeL]] at hok1
  generalize tyL [x] 200 0 = r1 at hc1 hok1
  generalize hxn : x.name = xn at *
  generalize hxl : x.args.length = xl at *
  have hc2 : ∀ W2, Below W1.heap.size W1 W2 → Calls Tryz.prog 4 #[.slice A l.length c, .int .i64 200] W2 fun e w' => e = .returned (.int .i64 (tyL l 200 0)) ∧ Below W2.heap.size W2 w' := fun W2 hb => by
    have hb2 := b1.trans (hb.mono b1.size)
    exact types_c l 200 A c W2 (by omega) (by omega) (by omega) ((hl.under hb2).more hb2.size)
  have hok2 := tyL_ok l 200 0
  generalize tyL l 200 0 = r2 at hc2 hok2
  have HU := Lib.hid hu; have HP := Lib.hid hp; have HL := Lib.hid hl; have HC1 := Lib.hid hc1; have HC2 := Lib.hid hc2; have HB1 := Lib.hid b1; have HW1 := Lib.hid hW1; have SZ1 := Lib.hid sz1; have HK0 := Lib.hid k0
  have HAW := Lib.hid awake_c
  clear hu hp hl hc1 hc2 b1 hW1 hrow ba hR hs1 sz1 k0 hxn hxl
  go_enter Tryz.func3, Tryz.ntmps3
  go_wp2_with fail
  rw [← HW1.out]
  refine HC1.out.mono ?_
  rintro e w2 ⟨rfl, hb2⟩
  dsimp only
  have HB2 := Lib.hid hb2
  clear hb2
  by_cases h1 : 200 ≤ r1
  · go_wp2_with fail
    refine (HAW.out _).mono ?_
    rintro e w3 ⟨rfl, hb3⟩
    have HB3 := Lib.hid hb3
    clear hb3
    dsimp only
    go_wp2_with fail
    go_ret
    exact ⟨rfl, (HB1.out.trans (HB2.out.mono HB1.out.size)).trans (HB3.out.mono (Nat.le_trans HB1.out.size HB2.out.size))⟩
  · have h1' : decide (200 ≤ r1) = false := by simp; omega
    go_wp2_with fail
    refine (HC2.out w2 HB2.out).mono ?_
    rintro e w3 ⟨rfl, hb3⟩
    have HB3 := Lib.hid ((HB1.out.trans (HB2.out.mono HB1.out.size)).trans (hb3.mono (Nat.le_trans HB1.out.size HB2.out.size)))
    have hk3 : Blk w3 w.heap.size 24 #[.string xn, .slice At xl ct] := (hb3.block _ (by have := HB2.out.size; have := SZ1.out; omega)).trans ((HB2.out.block _ (by have := SZ1.out; omega)).trans HK0.out)
    have HK3 := Lib.hid hk3
    have hs3 : w.heap.size + 2 ≤ w3.heap.size := by have := HB2.out.size; have := SZ1.out; have := hb3.size; omega
    have HS3 := Lib.hid hs3
    clear hb3 hk3 hs3 HC1 HC2 HW1 HB2 HB1 HK0 SZ1
    dsimp only
    by_cases h2 : 200 ≤ r2
    · go_wp2_with fail
      refine (HAW.out _).mono ?_
      rintro e w4 ⟨rfl, hb4⟩
      have HB4 := Lib.hid hb4
      clear hb4
      dsimp only
      go_wp2_with fail
      go_ret
      exact ⟨rfl, HB3.out.trans (HB4.out.mono HB3.out.size)⟩
    · have h2' : decide (200 ≤ r2) = false := by simp; omega
      by_cases h3 : 200 < ps.length
      · have h3' : (200 : Int) < (ps.length : Int) := by omega
        go_wp2_with fail
        refine (HAW.out _).mono ?_
        rintro e w4 ⟨rfl, hb4⟩
        have HB4 := Lib.hid hb4
        clear hb4
        dsimp only
        go_wp2_with fail
        go_ret
        exact ⟨rfl, HB3.out.trans (HB4.out.mono HB3.out.size)⟩
      · have h3' : ¬ (200 : Int) < (ps.length : Int) := by omega
        have hsx : sizeT x < 200 := by have := hok1.2.2 (by omega); omega
        have hsl : sizeL l < 200 := by have := hok2.2.2 (by omega); omega
        have y0 := HK3.out.cell 0
        have y1 := HK3.out.cell 1
        simp at y0 y1
        have hmem : ∀ t ∈ l, sizeT t ≤ 200 := fun t ht => by have := size_mem ht; omega
        have hTs : sizeT (substT (gOf ps l) x) ≤ 40000 := by
          have h0 := subst_size (gOf ps l) 200 (by omega) (fun n t h => by
            unfold gOf at h
            obtain ⟨i, _, hi⟩ := Option.bind_eq_some_iff.1 h
            exact hmem t (List.mem_of_getElem? hi)) x
          have h1 := Nat.mul_le_mul_right 200 (show sizeT x ≤ 200 by omega)
          omega
        have hTd := deep_size (substT (gOf ps l) x)
        have hput : ∀ W, Below w.heap.size w W → Calls Tryz.prog 6 #[.agg #[.string xn, .slice At xl ct], .slice Ap ps.length cp, .slice A l.length c] W fun e w' => ∃ A' c', e = .returned (.agg #[.string (substT (gOf ps l) x).name, .slice A' (substT (gOf ps l) x).args.length c']) ∧
            TyN (fun b => W.heap.size ≤ b) w' (substT (gOf ps l) x) (.agg #[.string (substT (gOf ps l) x).name, .slice A' (substT (gOf ps l) x).args.length c']) ∧ Below W.heap.size W w' ∧ UnF w' A' := fun W hb =>
          (put_c x ps l _ Ap A cp c W ((HU.out.under hb).more hb.size) ((HP.out.under hb).more hb.size) ((HL.out.under hb).more hb.size) (by omega) (by omega) (by omega) (by omega) (fun t ht => by have := hmem t ht; omega)).mono fun e w' ⟨u', e1, q1, q2, q3⟩ => by
            obtain ⟨A', c', rfl, r1, r2⟩ := q1
            exact ⟨A', c', e1, ⟨A', c', rfl, r1, r2⟩, q2, q3 _ _ _ _ rfl⟩
        have hrput : ∀ W, Below w.heap.size w W → Calls Tryz.prog 7 #[.agg #[.string xn, .slice At xl ct], .slice Ap ps.length cp, .slice A l.length c] W fun e w' => ∃ A' c', e = .returned (.agg #[.string (substT (gOf ps l) x).name, .slice A' (substT (gOf ps l) x).args.length c']) ∧
            Gd.Lies (fun b => W.heap.size ≤ b) w' (substT (gOf ps l) x).d [.string (substT (gOf ps l) x).name, .slice A' (substT (gOf ps l) x).args.length c'] ∧ Below W.heap.size W w' := fun W hb =>
          rput_c w.heap.size ps l Ap cp A c (fun t ht => by have := hmem t ht; omega) x (by omega) W _ hb.size (HP.out.under hb) (HL.out.under hb) (HU.out.under hb)
        have hsame : ∀ W u v, TyRep W W.heap.size (substT (gOf ps l) x) u → TyRep W W.heap.size (substT (gOf ps l) x) v → Calls Tryz.prog 8 #[u, v] W fun e w' => e = .returned (.bool true) ∧ Below W.heap.size W w' := fun W u v h1 h2 => same_c W.heap.size _ W u v (Nat.le_refl _) h1 h2
        generalize substT (gOf ps l) x = T at hput hrput hsame hTs hTd
        have hTb : T.args.length ≤ 40000 := by
          have := len_size T.args
          have e : sizeT T = 1 + sizeL T.args := by cases T; rw [sizeT]; rfl
          omega
        clear hTs hTd hmem hok1 hok2 hx hls hsx hsl HU HP HL
        generalize hTn : T.name = Tn at *
        generalize hTl : T.args.length = Tl at *
        have HPUT := Lib.hid hput; have HRPUT := Lib.hid hrput; have HSAME := Lib.hid hsame; have HTL := Lib.hid hTl
        clear hput hrput hsame hTn hTl
        go_wp2_with fail
        refine (HPUT.out w3 HB3.out).mono ?_
        rintro e w4 ⟨A4, c4, rfl, q1, q2, q3⟩
        dsimp only
        obtain ⟨W5, hW5⟩ : ∃ W, W = w4.alloc (.cells #[.string Tn, .slice A4 Tl c4] 24) := ⟨_, rfl⟩
        have b5 : Below w4.heap.size w4 W5 := by rw [hW5]; exact (Below.refl _ _).alloc (Nat.le_refl _) _
        have s5 : W5.heap.size = w4.heap.size + 1 := by rw [hW5]; simp
        have hs4 := q2.size
        have b35 : Below w3.heap.size w3 W5 := q2.trans (b5.mono hs4)
        have y05 := (b35.cell (p := ⟨w.heap.size, 0, none⟩) (by have := HS3.out; show w.heap.size < _; omega)).trans y0
        have y15 := (b35.cell (p := ⟨w.heap.size, 1, none⟩) (by have := HS3.out; show w.heap.size < _; omega)).trans y1
        have k7 : Blk W5 w4.heap.size 24 #[.string Tn, .slice A4 Tl c4] := by rw [hW5]; exact Blk.new _ _ _
        have hcr := HRPUT.out W5 (HB3.out.trans (b35.mono HB3.out.size))
        have HC := Lib.hid hcr; have HW5 := Lib.hid hW5; have B5 := Lib.hid b5; have S5 := Lib.hid s5; have B35 := Lib.hid b35; have K7 := Lib.hid k7; have Q1 := Lib.hid q1; have Q2 := Lib.hid q2; have Q3 := Lib.hid q3
        rw [hW5] at y05 y15
        clear hcr hW5 b5 s5 b35 k7 q1 q2 q3
        go_wp2_with fail
        rw [← HW5.out]
        refine HC.out.mono ?_
        rintro e w6 ⟨A6, c6, rfl, p1, p2⟩
        dsimp only
        obtain ⟨W7, hW7⟩ : ∃ W, W = w6.alloc (.cells #[.string Tn, .slice A6 Tl c6] 24) := ⟨_, rfl⟩
        have b7 : Below w6.heap.size w6 W7 := by rw [hW7]; exact (Below.refl _ _).alloc (Nat.le_refl _) _
        have s7 : W7.heap.size = w6.heap.size + 1 := by rw [hW7]; simp
        have hs6 := p2.size
        have hs5 := S5.out
        have b57 : Below W5.heap.size W5 W7 := p2.trans (b7.mono hs6)
        have b37 : Below w3.heap.size w3 W7 := B35.out.trans (b57.mono (by omega))
        have b47 : Below w4.heap.size w4 W7 := B5.out.trans (b57.mono (by omega))
        have k7 : Blk W7 w4.heap.size 24 #[.string Tn, .slice A4 Tl c4] := (b57.block _ (by omega)).trans K7.out
        have k8 : Blk W7 w6.heap.size 24 #[.string Tn, .slice A6 Tl c6] := by rw [hW7]; exact Blk.new _ _ _
        have r7 : TyRep W7 W7.heap.size T (.agg #[.string Tn, .slice A4 Tl c4]) := (Q1.out.keep (N' := fun b => w3.heap.size ≤ b) (fun b _ hl => b47.block b hl) fun b h => h).rep fun b _ h => h
        have r8 : TyRep W7 W7.heap.size T (.agg #[.string Tn, .slice A6 Tl c6]) := (rep_of_lies p1 W7 fun b _ hl => b7.block b hl).more (by omega)
        have hsm := HSAME.out W7 _ _ r7 r8
        have x70 := k7.cell 0
        have x71 := k7.cell 1
        have x80 := k8.cell 0
        have x81 := k8.cell 1
        simp at x70 x71 x80 x81
        rw [hW7] at x70 x71 x80 x81
        have HC7 := Lib.hid hsm; have HW7 := Lib.hid hW7; have B7 := Lib.hid b7; have S7 := Lib.hid s7; have B37 := Lib.hid b37; have B47 := Lib.hid b47; have B57 := Lib.hid b57; have K77 := Lib.hid k7; have K78 := Lib.hid k8; have P1 := Lib.hid p1; have HS6 := Lib.hid hs6; have HS5 := Lib.hid hs5; have HS4 := Lib.hid hs4
        clear hsm hW7 b7 s7 b37 b47 b57 k7 k8 r7 r8 p1 p2 y05 y15 y0 y1 HC h1 h1' h2 h2' h3 h3' hs6 hs5 hs4
        go_wp2_with fail
        rw [← HW7.out]
        refine HC7.out.mono ?_
        rintro e w8 ⟨rfl, hb8⟩
        dsimp only
        have hs8 := hb8.size
        have k78 : Blk w8 w4.heap.size 24 #[.string Tn, .slice A4 Tl c4] := (hb8.block _ (by have := S7.out; have := HS6.out; have := HS5.out; omega)).trans K77.out
        have k88 : Blk w8 w6.heap.size 24 #[.string Tn, .slice A6 Tl c6] := (hb8.block _ (by have := S7.out; omega)).trans K78.out
        have hrw : RowK A4 w8 w8 := fun p hp => by
          obtain ⟨cur, hc⟩ := Q3.out p hp
          have hlt := hc.lt
          have h8 : Blk w8 p.block 24 cur := (hb8.block _ (by have := S7.out; have := HS6.out; have := HS5.out; omega)).trans ((B47.out.block _ hlt).trans hc)
          exact ⟨cur, cur, h8, h8, rfl⟩
        have hlz : ∀ j, j < Tl → ∃ b off nm, A4 = some ⟨b, off, none⟩ ∧ w3.heap.size ≤ b ∧ b < w4.heap.size ∧ w8.cell? ⟨b, off + j * 2, none⟩ = some (.string nm) := fun j hj => by
          obtain ⟨A', c', e1, _, hln⟩ := Q1.out
          have e2 : A' = A4 := by injection e1 with e1; simp at e1; exact e1.2.1.symm
          subst e2
          obtain ⟨b, off, hA, hN, A3, c3, _, _, hcl, _⟩ := hln.at_ (j := j) (by rw [HTL.out]; exact hj)
          have hlt := lt_of_cell hcl
          exact ⟨b, off, _, hA, hN, hlt, (cell_of_block ((hb8.block b (by have := S7.out; have := HS6.out; have := HS5.out; omega)).trans (B47.out.block b hlt)) _).trans hcl⟩
        have HB8 := Lib.hid hb8; have K78' := Lib.hid k78; have K88 := Lib.hid k88; have HRW := Lib.hid hrw; have HLZ := Lib.hid hlz; have HS8 := Lib.hid hs8
        clear hb8 k78 k88 hrw hlz hs8 x70 x71 x80 x81
        go_wp2_with fail
        go_loopg [9] (Tl + 1) (fun gg s9 wr => ∃ k : Nat, k ≤ Tl ∧ gg = Tl + 1 - k ∧ s9 = .int .i64 (k : Int) ∧ Keep (fun b => w3.heap.size ≤ b ∧ b < w4.heap.size) w8 wr ∧ RowK A4 w8 wr)
        case atStart => exact ⟨0, Nat.zero_le _, by omega, rfl, Keep.refl _ _, HRW.out⟩
        case round =>
          obtain ⟨k, hk, hg, rfl, hK, hI⟩ := hrel
          have HG := Lib.hid hg
          have hz4 : w4.heap.size < w8.heap.size := K78'.out.lt
          have k7 : Blk wr w4.heap.size 24 #[.string Tn, .slice A4 Tl c4] := (hK.block _ hz4 (fun h => Nat.lt_irrefl _ h.2)).trans K78'.out
          have y7 := k7.cell 1
          simp at y7
          by_cases hlt : k < Tl
          · have hltz : (k : Int) < (Tl : Int) := by omega
            obtain ⟨b, off, nm, hA, hb3, hb4, hcl⟩ := HLZ.out k hlt
            subst hA
            obtain ⟨cur0, cur, j1, j2, j3⟩ := hI _ rfl
            rw [j1.cell] at hcl
            have hcs : off + k * 2 < cur.size := by rw [j3]; exact (Array.getElem?_eq_some_iff.1 hcl).1
            have f0 := j2.frozen (off + k * 2)
            have f1 : wr.cell? ⟨b, off + k * 2, none⟩ = some cur[off + k * 2] := by rw [j2.cell, Array.getElem?_eq_getElem hcs]
            have hKs := hK.set ⟨b, off + k * 2, none⟩ (show w3.heap.size ≤ b ∧ b < w4.heap.size from ⟨hb3, hb4⟩) (.string { data := #[115, 112, 111, 105, 108, 116] })
            have hIs := hI.set b (off + k * 2) (.string { data := #[115, 112, 111, 105, 108, 116] })
            generalize cur[off + k * 2] = cv at f1
            have HKS := Lib.hid hKs; have HIS := Lib.hid hIs
            clear hK hI hg k7 j1 j2 j3 hcl hKs hIs hcs
            go_wp2_with fail
            go_roundg (Tl + 1 - (k + 1))
            case measure => have := HG.out; omega
            case rel => exact ⟨k + 1, by omega, rfl, by go_num, HKS.out, HIS.out⟩
          · have hltz : ¬ (k : Int) < (Tl : Int) := by omega
            have e8 := HS8.out; have e7 := S7.out; have e6 := HS6.out; have e5 := HS5.out; have e4 := HS4.out; have e3 := HS3.out
            have hsr := hK.size
            have hbw : Below w.heap.size w wr := ((HB3.out.trans (B37.out.mono HB3.out.size)).trans (HB8.out.mono (by omega))).trans (hK.below (fun b hb h => by have := h.1; omega) (by omega))
            have kx : Blk wr w.heap.size 24 #[.string xn, .slice At xl ct] := (hK.block _ (by omega) (fun h => by have := h.1; omega)).trans ((HB8.out.block _ (by omega)).trans ((B37.out.block _ (by omega)).trans HK3.out))
            have ky : Blk wr w6.heap.size 24 #[.string Tn, .slice A6 Tl c6] := (hK.block _ (by omega) (fun h => by have := h.2; omega)).trans K88.out
            have hput := HPUT.out wr.drew hbw.drew
            have hrep : ∀ V, Below wr.heap.size wr V → TyRep V V.heap.size T (.agg #[.string Tn, .slice A6 Tl c6]) := fun V hV => (rep_of_lies P1.out V fun b hb hl =>
              (hV.block b (by omega)).trans ((hK.block b (by omega) (fun h => by have := h.2; omega)).trans ((HB8.out.block b (by omega)).trans (B7.out.block b hl)))).more (by have := hV.size; omega)
            have x0 := kx.cell 0
            have x1 := kx.cell 1
            have x80 := ky.cell 0
            have x81 := ky.cell 1
            simp at x0 x1 x80 x81
            have hS : ∀ V, Below wr.heap.size wr V → V.cell? ⟨w.heap.size, 0, none⟩ = some (.string xn) ∧ V.cell? ⟨w.heap.size, 1, none⟩ = some (.slice At xl ct) ∧ V.cell? ⟨w6.heap.size, 0, none⟩ = some (.string Tn) ∧ V.cell? ⟨w6.heap.size, 1, none⟩ = some (.slice A6 Tl c6) := fun V hV =>
              ⟨(hV.cell (p := ⟨w.heap.size, 0, none⟩) (by show w.heap.size < _; omega)).trans x0, (hV.cell (p := ⟨w.heap.size, 1, none⟩) (by show w.heap.size < _; omega)).trans x1, (hV.cell (p := ⟨w6.heap.size, 0, none⟩) (by show w6.heap.size < _; omega)).trans x80, (hV.cell (p := ⟨w6.heap.size, 1, none⟩) (by show w6.heap.size < _; omega)).trans x81⟩
            have HPT := Lib.hid hput; have HREP := Lib.hid hrep; have HSS := Lib.hid hS; have HBW := Lib.hid hbw
            have HS0 := Lib.hid (hS wr.drew (Below.refl _ _).drew)
            clear hI hg hK k7 hput hrep hS hbw kx ky x0 x1 x80 x81 e8 e7 e6 e5 e4 e3
            go_wp2_with fail
            refine chain_region (fun V => V.cell? ⟨w.heap.size, 0, none⟩ = some (.string xn) ∧ V.cell? ⟨w.heap.size, 1, none⟩ = some (.slice At xl ct) ∧ V.cell? ⟨w6.heap.size, 0, none⟩ = some (.string Tn) ∧ V.cell? ⟨w6.heap.size, 1, none⟩ = some (.slice A6 Tl c6)) 10 (by kernel_rfl) ?_
            refine T_takeD (i := 0) (v := .agg #[.string xn, .slice At xl ct]) rfl (by kernel_rfl) (fun _ _ _ h => h) rfl (fun V hS => by obtain ⟨h1, h2, h3, h4⟩ := hS; go_simp) HS0.out ?_
            go_simp
            refine T_takeD (i := 1) (v := .slice Ap ps.length cp) rfl (by kernel_rfl) (fun _ _ _ h => h) rfl (fun V hS => by go_simp) HS0.out ?_
            go_simp
            refine T_takeD (i := 2) (v := .slice A l.length c) rfl (by kernel_rfl) (fun _ _ _ h => h) rfl (fun V hS => by go_simp) HS0.out ?_
            go_simp
            refine T_takeD (i := 4) (v := .agg #[.string Tn, .slice A6 Tl c6]) rfl (by kernel_rfl) (fun _ _ _ h => h) rfl (fun V hS => by obtain ⟨h1, h2, h3, h4⟩ := hS; go_simp) HS0.out ?_
            go_simp
            refine T_one (i := 3) rfl (by kernel_rfl) rfl ?_
            refine op_callT #[.agg #[.string xn, .slice At xl ct], .slice Ap ps.length cp, .slice A l.length c] (by simp [go_sem]) (enters_of Tryz.func6 (by kernel_rfl) rfl _ _) HPT.out ?_
            rintro e w9 ⟨A9, c9, rfl, m1, m2, m3⟩
            have hb9 : Below wr.heap.size wr w9 := (Below.refl _ _).drew.trans m2
            have hsm := HSAME.out w9 _ _ (m1.rep fun b _ h => h) (HREP.out w9 hb9)
            have S9 := HSS.out w9 hb9
            have HSM := Lib.hid hsm; have HB9 := Lib.hid hb9; have HS9 := Lib.hid S9
            refine ⟨_, rfl, fun _ => S9, ?_⟩
            clear hsm hb9 S9 m1 m2 m3
            go_simp
            refine T_one (i := 5) rfl (by kernel_rfl) rfl ?_
            refine op_callT #[.agg #[.string Tn, .slice A9 Tl c9], .agg #[.string Tn, .slice A6 Tl c6]] (by simp [go_sem]) (enters_of Tryz.func8 (by kernel_rfl) rfl _ _) HSM.out ?_
            rintro e w10 ⟨rfl, hb10⟩
            have hb10' := HB9.out.trans (hb10.mono HB9.out.size)
            have S10 := HSS.out w10 hb10'
            have HB10 := Lib.hid hb10'; have HS10 := Lib.hid S10
            refine ⟨_, rfl, fun _ => S10, ?_⟩
            clear hb10 hb10' S10
            go_simp
            refine T_takeD (i := 6) (v := .bool true) rfl (by kernel_rfl) (fun _ _ _ h => h) rfl (fun V hS => by go_simp) HS10.out ?_
            go_simp
            refine T_one (i := 7) rfl (by kernel_rfl) rfl ?_
            refine op_guard ?_
            refine op_callT #[] (by simp [go_sem]) (enters_of Tryz.func5 (by kernel_rfl) rfl _ _) (HAW.out _) ?_
            rintro e w11 ⟨rfl, hb11⟩
            have hb11' := HB10.out.trans (hb11.mono HB10.out.size)
            have S11 := HSS.out w11 hb11'
            have HB11 := Lib.hid hb11'; have HS11 := Lib.hid S11
            refine ⟨_, rfl, fun _ => S11, ?_⟩
            clear hb11 hb11' S11
            go_simp
            refine T_takeD (i := 8) (v := .bool true) rfl (by kernel_rfl) (fun _ _ _ h => h) rfl (fun V hS => by go_simp) HS11.out ?_
            go_simp
            refine T_one (i := 9) rfl (by kernel_rfl) rfl ?_
            go_simp
            refine ⟨HS11.out, T_done (by kernel_rfl) ?_⟩
            go_simp
            go_wp2_with fail
            go_ret
            exact ⟨rfl, HBW.out.trans (HB11.out.mono HBW.out.size)⟩
end Go.Proofs.YtagmgkkicodbiaaGreatDoor
