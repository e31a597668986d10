/- Package lex: Tokens. -/
import Derived.Test.YteppdnlchjpekaaDoorEt
namespace Go.Proofs.YteppdnlchjpekaaDoor
open Go.RowKit Lx
open Go
attribute [local go_sem] Oper.semAt_some

theorem skipq_c (p : Nat) (q : Nat × Nat) (s : ByteArray) (hs : s.size ≤ 900000) (hq : q.1 ≤ 2000000 ∧ q.2 ≤ 2000000) (w : World) (hP : Pl w p q s.data.toList) (hM : MaxAt w) :
    Calls Tryd.prog 18 #[.pointer (some ⟨p, 0, none⟩)] w fun e w' => e = .returned (.tuple #[]) ∧ Pl w' p (skipQ q s.data.toList).1 (skipQ q s.data.toList).2 ∧ w.grownBy w' (some p) := by
  have := skip_c p q s hs hq w hP hM
  unfold skipQ
  rw [← size_list]
  exact this
theorem OwnT.ge {B k : Nat} {l : List T} {W : World} {v : Value} (h : OwnT B l W v) (e : v.ownBlock = some k) : B ≤ k ∧ ∃ cs, Blk W k 44 cs := by
  rcases h.2 with ⟨rfl, _⟩ | ⟨g', cap, cur, rfl, hb, hh, _⟩
  · simp [Value.ownBlock] at e
  · have : g' = k := by simpa [Value.ownBlock] using e
    subst this
    exact ⟨hb, _, hh⟩
theorem FS.grownV {B : Nat} {l : List T} {v : Value} {W W' : World} {g p1 p2 p3 b : Nat} (h : FS W g p1 p2 p3 b) (ho : OwnT B l W v) (hg : W.grownBy W' v.ownBlock) : FS W' g p1 p2 p3 b := by
  refine ⟨h.1.grown hg (own_blk_ne ho h.1 (by decide)).symm, ⟨h.2.1.1.grown hg (own_blk_ne ho h.2.1.1 (by decide)).symm, h.2.1.2.1.grown hg (own_blk_ne ho h.2.1.2.1 (by decide)).symm, ?_⟩, h.2.2.grown hg (own_blk_ne ho h.2.2 (by decide)).symm⟩
  refine World.ownsMap.kept h.2.1.2.2 hg fun e => ?_
  obtain ⟨_, cs, hb⟩ := ho.ge e.symm
  obtain ⟨es, clock, hm, _⟩ := h.2.1.2.2
  unfold Blk at hb
  rw [hb] at hm
  cases hm
theorem MaxAt.grownV {B : Nat} {l : List T} {v : Value} {W W' : World} (h : MaxAt W) (ho : OwnT B l W v) (hg : W.grownBy W' v.ownBlock) (hB : 0 < B) : MaxAt W' := by
  obtain ⟨m, h⟩ := h
  refine ⟨m, ?_⟩
  have hlt : 0 < W.heap.size := by
    rcases Nat.lt_or_ge 0 W.heap.size with h' | h'
    · exact h'
    · simp [World.cell?, Array.getElem?_eq_none h'] at h
  rw [World.cell?_of_block (a := ⟨0, 0, none⟩) (hg.block _ hlt fun e => absurd hB (Nat.not_lt.2 (ho.ge e.symm).1))]; exact h
set_option maxRecDepth 100000 in
set_option maxHeartbeats 2000000 in
theorem tokens_c (s : ByteArray) (hs : s.size ≤ 800000) (w : World) (hM : MaxAt w) :
    Calls Tryd.prog 10 #[.string s] w fun e w' => GivesT w.heap.size w (toks s.data.toList) e w' := by
  have hmax : maxLen = 9223372036854775807 := rfl
  obtain ⟨R, hR⟩ : ∃ R, R = toks s.data.toList := ⟨_, rfl⟩
  rw [← hR]
  unfold toks at hR
  have hsl := size_list s
  rw [← hsl] at hR
  have hu0 : Below w.heap.size w (w.alloc (.cells #[.int .i64 0, .int .i64 0] 24)) := (Below.refl _ _).alloc (Nat.le_refl _) _
  have hx0 : Blk (w.alloc (.cells #[.int .i64 0, .int .i64 0] 24)) w.heap.size 24 #[.int .i64 0, .int .i64 0] := Blk.new _ _ _
  have hml : 0 < w.heap.size := by
    obtain ⟨m, h⟩ := hM
    rcases Nat.lt_or_ge 0 w.heap.size with h' | h'
    · exact h'
    · simp [World.cell?, Array.getElem?_eq_none h'] at h
  have HBG := Lib.hid (beginning_c s (w.alloc (.cells #[.int .i64 0, .int .i64 0] 24)))
  have HU0 := Lib.hid hu0; have HX0 := Lib.hid hx0; have HM := Lib.hid hM; have HR := Lib.hid hR; have HSL := Lib.hid hsl; have HML := Lib.hid hml
  clear hu0 hx0 hM hR hsl hml
  go_enter Tryd.func10, Tryd.ntmps10
  go_wp2_with fail
  refine HBG.out.mono ?_
  rintro e w1 ⟨rfl, hb1⟩
  have hlt0 : w.heap.size < w1.heap.size := by have := hb1.size; simp at this; omega
  have hx1 : Blk w1 w.heap.size 24 #[.int .i64 0, .int .i64 0] := HX0.out.below hb1 (by simp)
  have HX1 := Lib.hid hx1
  have HU1 := Lib.hid (HU0.out.trans (hb1.mono HU0.out.size))
  clear hb1 hx1 HX0 HBG HU0
  by_cases hbig : (65536 : Int) < (s.size : Int)
  · have hR := HR.out
    rw [if_pos (by omega)] at hR
    have HR2 := Lib.hid hR
    have hx := HX1.out
    have y0 := hx.cell 0; have y1 := hx.cell 1; have z0 := hx.frozen 0; have z1 := hx.frozen 1
    simp at y0 y1
    have hp := Blk.new w1 48 #[.int .i64 1, .int .i64 1, .string s]
    have d0 := hp.cell 0; have d1 := hp.cell 1; have d2 := hp.cell 2
    simp at d0 d1 d2
    have hne : w.heap.size ≠ w1.heap.size := by omega
    clear hR hx hp
    go_wp2_with fail
    go_region
    all_goals
      go_wp2_with fail
      exact bodyPost_ret (retT Tryd.results10 rfl rfl rfl (HX1.out.store2.alloc _).drew) rfl ⟨.slice none 0 0, by rw [HR2.out]; rfl, by rw [HR2.out]; exact ⟨rfl, .inl ⟨rfl, rfl⟩⟩, (((HU1.out.setCell (by simp) _).setCell (by simp) _).alloc (by have := HU1.out.size; simp [World.setCell]; omega) _).drew⟩
  · have hR := HR.out
    rw [if_neg (by omega)] at hR
    have HR2 := Lib.hid hR
    obtain ⟨p, hp⟩ : ∃ p, p = w1.heap.size := ⟨_, rfl⟩
    have hpl : Pl (w1.alloc (.cells #[.int .i64 1, .int .i64 1, .string s] 48)) p (1, 1) s.data.toList := by
      unfold Pl; rw [← arr_self]; exact blk_at hp.symm
    have HPL := Lib.hid hpl
    have hu2 : Below w.heap.size w (w1.alloc (.cells #[.int .i64 1, .int .i64 1, .string s] 48)) := HU1.out.alloc HU1.out.size _
    have HU2 := Lib.hid hu2
    have HX2 := Lib.hid (HX1.out.alloc (.cells #[.int .i64 1, .int .i64 1, .string s] 48))
    have HF := Lib.hid (finders_c (w1.alloc (.cells #[.int .i64 1, .int .i64 1, .string s] 48)))
    have hplt : p < (w1.alloc (.cells #[.int .i64 1, .int .i64 1, .string s] 48)).heap.size := by rw [hp]; simp
    clear hR hpl hu2
    rw [← hp] at hlt0
    go_wp2_with fail
    rw [← hp]
    clear hp
    refine HF.out.mono ?_
    rintro e w3 ⟨g, p1, p2, p3, b, rfl, hfs, hb3⟩
    have HPL3 := Lib.hid (show Pl w3 p (1, 1) s.data.toList from Blk.below HPL.out hb3 hplt)
    have HX3 := Lib.hid (HX2.out.below hb3 HX2.out.lt)
    have HFS := Lib.hid hfs
    have HU3 := Lib.hid (HU2.out.trans (hb3.mono HU2.out.size))
    have hsk := skipq_c p (1, 1) s (by omega) (by decide) w3 HPL3.out (HM.out.under HU3.out)
    have HSK := Lib.hid hsk
    clear hfs hb3 hplt hsk
    go_wp2_with fail
    refine HSK.out.mono ?_
    rintro e w4 ⟨rfl, hpl4, hg4⟩
    have hgx := HX3.out.grown hg4 (ne_some (by omega))
    have HFS4 := Lib.hid (HFS.out.grown hg4 HPL3.out)
    have HM4 := Lib.hid ((HM.out.under HU3.out).grown hg4 (by have := HML.out; omega))
    have HU4 := Lib.hid (HU3.out.grown hg4 HU3.out.size (fun k hk => by injection hk with hk; omega))
    have HPL4 := Lib.hid hpl4; have HX4 := Lib.hid hgx
    have hsq := skipQ_len (1, 1) s.data.toList (Nat.le_refl _)
    have HSQ := Lib.hid hsq
    have hle : (skipQ (1, 1) s.data.toList).2.length ≤ s.size := by rw [HSL.out]; exact hsq.1
    clear hpl4 hg4 hgx hsq HX1 HX2 HX3 HU1 HU2 HU3 HF HSK HPL HPL3 HFS
    go_wp2_with fail
    go_loopg [7] (s.size + 1) (fun gg s7 wr => ∃ (f : Nat) (q : Nat × Nat) (r : List UInt8) (acc : List T), r.length + 1 ≤ gg ∧ r.length + 1 ≤ f ∧ lexR f q r acc = R ∧ r.length ≤ s.size ∧ q.1 + r.length ≤ s.size + 1 ∧ q.2 + r.length ≤ s.size + 1 ∧ 1 ≤ q.2 ∧ acc.length + r.length ≤ s.size ∧
      OwnT w.heap.size acc wr s7 ∧ Pl wr p q r ∧ FS wr g p1 p2 p3 b ∧ MaxAt wr ∧ Blk wr w.heap.size 24 #[.int .i64 0, .int .i64 0] ∧ Below w.heap.size w wr)
    case atStart => exact ⟨s.size + 1, _, _, [], by omega, by omega, HR2.out.symm, hle, by have := HSQ.out.2.1; have := HSL.out; omega, by have := HSQ.out.2.2.1; have := HSL.out; omega, HSQ.out.2.2.2, by simpa using hle, ⟨rfl, .inl ⟨rfl, rfl⟩⟩, HPL4.out, HFS4.out, HM4.out, HX4.out, HU4.out⟩
    case round =>
      clear HR2 HSQ hle HPL4 HFS4 HM4 HX4 HU4 HR
      obtain ⟨f, q, r, acc, hg, hf, hR, hrs, hq1, hq2, hq3, hac, ho, hpl, hfs, hm, hx, hu⟩ := hrel
      obtain ⟨f', rfl⟩ : ∃ f', f = f' + 1 := ⟨f - 1, by omega⟩
      obtain ⟨X, hX⟩ : ∃ X : ByteArray, X = ⟨r.toArray⟩ := ⟨_, rfl⟩
      have hXl : X.data.toList = r := by rw [hX]
      have hXs : X.size = r.length := by rw [size_list, hXl]
      have hpb := hpl
      unfold Pl at hpb
      rw [← hX] at hpb
      have d0 := hpb.cell 0; have d1 := hpb.cell 1; have d2 := hpb.cell 2
      simp at d0 d1 d2
      have hem := emp_iff X
      rw [hXl] at hem
      have HG := Lib.hid hg; have HF' := Lib.hid hf; have HR := Lib.hid hR; have HO := Lib.hid ho; have HPL := Lib.hid hpl; have HFS := Lib.hid hfs; have HM' := Lib.hid hm; have HX := Lib.hid hx; have HU := Lib.hid hu; have HXL := Lib.hid hXl; have HXS := Lib.hid hXs
      clear hg hf hR ho hpl hpb hfs hm hx hu hX hXl hXs
      by_cases hr : r = []
      · subst hr
        replace hem : X.toList.isEmpty = true := hem
        have hR := HR.out
        rw [lexR, if_pos rfl] at hR
        have HR2 := Lib.hid hR.symm
        have hx := HX.out
        have y0 := hx.cell 0; have y1 := hx.cell 1; have z0 := hx.frozen 0; have z1 := hx.frozen 1
        simp at y0 y1
        clear hR hx
        go_wp2_with fail
        exact bodyPost_ret (retT Tryd.results10 rfl rfl rfl HX.out.store2) rfl ⟨_, by rw [HR2.out]; rfl, by rw [HR2.out]; exact World.ownsRow.kept HO.out (row := some w.heap.size) (grown_set (grown_set (grown_refl wr _) 0 _) 1 _) (.inr (own_blk_ne HO.out HX.out (by decide))), (HU.out.setCell (by simp) _).setCell (by simp) _⟩
      · have hemf : X.toList.isEmpty = false := by rw [hem]; cases r with | nil => exact absurd rfl hr | cons _ _ => rfl
        clear hem
        have hR := HR.out
        rw [lexR, if_neg hr] at hR
        have hfs := first_size r
        obtain ⟨x, hx⟩ : ∃ x, fFirst r = x := ⟨_, rfl⟩
        have hfc := first_c X (by rw [HXS.out]; omega) g p1 p2 p3 b wr HFS.out HM'.out
        rw [HXL.out, hx] at hfc
        rw [hx] at hR hfs
        unfold rv at hfc
        obtain ⟨S, hS⟩ : ∃ S : ByteArray, S = ⟨x.1.2.1.toArray⟩ := ⟨_, rfl⟩
        have hSs : S.size ≤ 1000000 := by rw [size_list, hS]; show x.1.2.1.length ≤ _; omega
        rw [← hS] at hfc hR
        have HFC := Lib.hid hfc; have HR2 := Lib.hid hR; have HFZ := Lib.hid hfs; have HRN := Lib.hid hr
        clear hR hfs hfc hx hS hr HR
        have hplt : p < wr.heap.size := Blk.lt HPL.out
        have hxlt : w.heap.size < wr.heap.size := HX.out.lt
        go_wp2_with fail
        refine HFC.out.mono ?_
        rintro e w2 ⟨rfl, hb2⟩
        have hw2 : wr.heap.size ≤ w2.heap.size := hb2.size
        have hplt2 : p < w2.heap.size := by omega
        have hpne : p ≠ w2.heap.size := by omega
        have hu0 := HU.out.trans (hb2.mono HU.out.size)
        have HX0 := Lib.hid (HX.out.below hb2 hxlt)
        have HPL0 := Lib.hid (show Pl w2 p q r from Blk.below HPL.out hb2 hplt)
        have HO0 := Lib.hid (HO.out.under hb2)
        have HU0 := Lib.hid hu0
        have HX2 := Lib.hid (HX0.out.alloc (.cells #[.int .i64 0, .int .i64 0, .int .u8 (x.1.1 : Int), .string S] 44))
        have hx2 := HX2.out
        have hpl2 := Blk.alloc HPL0.out (.cells #[.int .i64 0, .int .i64 0, .int .u8 (x.1.1 : Int), .string S] 44)
        have d0 := hpl2.cell 0; have d1 := hpl2.cell 1
        simp at d0 d1
        have HFS2 := Lib.hid (HFS.out.under hb2); have HM2 := Lib.hid (HM'.out.under hb2)
        have HU2 := Lib.hid (hu0.alloc hu0.size (.cells #[.int .i64 0, .int .i64 0, .int .u8 (x.1.1 : Int), .string S] 44))
        clear hpl2 hb2 HX HO HFS HM' HPL HU HFC hu0
        by_cases herr : (x.2 : Int) = 0
        · have ht2 := Blk.new w2 44 #[.int .i64 0, .int .i64 0, .int .u8 (x.1.1 : Int), .string S]
          have u0 := ht2.frozen 0; have u1 := ht2.frozen 1
          have HC := Lib.hid (clone_c S hSs)
          clear ht2 hx2
          go_wp2_with fail
          refine (HC.out _).mono ?_
          rintro e w5 ⟨rfl, hb5⟩
          have hb25 : Below w2.heap.size w2 w5 := ((Below.refl w2.heap.size w2).alloc (Nat.le_refl _) _).trans (hb5.mono (by simp))
          have ht5 := (Blk.new w2 44 #[.int .i64 q.1, .int .i64 q.2, .int .u8 (x.1.1 : Int), .string S]).below hb5 (by simp)
          have t0 := ht5.cell 0; have t1 := ht5.cell 1; have t2 := ht5.cell 2; have u3 := ht5.frozen 3; have t3 := ht5.cell 3
          simp at t0 t1 t2 t3
          have hb6 : Below w2.heap.size w2 ((w5.setCell ⟨w2.heap.size, 3, none⟩ (.string S)).alloc (.cells #[.int .i64 q.1, .int .i64 q.2, .int .u8 (x.1.1 : Int), .string S] 44)) := (hb25.setCell (Nat.le_refl _) _).alloc (by have := hb25.size; simpa [World.setCell] using this) _
          have hn6 := (Blk.new (w5.setCell ⟨w2.heap.size, 3, none⟩ (.string S)) 44 #[.int .i64 q.1, .int .i64 q.2, .int .u8 (x.1.1 : Int), .string S])
          rw [show (w5.setCell ⟨w2.heap.size, 3, none⟩ (.string S)).heap.size = w5.heap.size by simp [World.setCell]] at hn6
          have HN6 := Lib.hid hn6
          have HX6 := Lib.hid (HX0.out.below hb6 HX0.out.lt)
          have HPL6 := Lib.hid (show Pl _ p q r from Blk.below HPL0.out hb6 (Blk.lt HPL0.out))
          have HO6 := Lib.hid (HO0.out.under hb6)
          have HFS6 := Lib.hid (HFS2.out.under hb6)
          have HM6 := Lib.hid (HM2.out.under hb6)
          have HU6 := Lib.hid (HU0.out.trans (hb6.mono HU0.out.size))
          have hw5' : w2.heap.size < w5.heap.size := ht5.lt
          clear hb25 ht5 hb5 hb6 hn6 HX2 HU2 HX0 HPL0 HO0 HU0 HFS2 HM2 HC
          go_wp2_with (at_builtin; refine wpList_tok _ rfl (.tmp 44) (.tmp 46) rfl w.heap.size acc ⟨q.1, q.2, x.1.1, S⟩ _ rfl HO6.out w5.heap.size 1 rfl ?hb (by omega) HU6.out.size ?_; rotate_left; intro v' w7 ho7 hg7 _; have HO7 := Lib.hid ho7; have HG7 := Lib.hid hg7; clear ho7 hg7)
          case hb => exact HN6.out
          have hpl7' : Pl w7 p q r := Blk.grown HPL6.out HG7.out (own_blk_ne HO6.out HPL6.out (by decide)).symm
          have HX7 := Lib.hid (HX6.out.grown HG7.out (own_blk_ne HO6.out HX6.out (by decide)).symm)
          have HFS7 := Lib.hid (HFS6.out.grownV HO6.out HG7.out)
          have HM7 := Lib.hid (HM6.out.grownV HO6.out HG7.out HML.out)
          have HU7 := Lib.hid (HU6.out.grown HG7.out HU6.out.size (fun k hk => (HO6.out.ge hk).1))
          have HPL7 := Lib.hid hpl7'
          have hmv := move_c p q X x.1.2.2 (by rw [HXS.out]; exact HFZ.out.1) (by rw [HXS.out]; omega) ⟨by omega, by omega⟩ w7 (by rw [HXL.out]; exact hpl7')
          rw [HXL.out] at hmv
          have HMV := Lib.hid hmv
          clear hpl7' hmv HX6 HFS6 HM6 HU6 HPL6 HO6 HG7 HN6
          refine HMV.out.mono ?_
          rintro e w8 ⟨rfl, hpl8, hg8⟩
          have HX8 := Lib.hid (HX7.out.grown hg8 (ne_some (by omega)))
          have HFS8 := Lib.hid (HFS7.out.grown hg8 HPL7.out)
          have HM8 := Lib.hid (HM7.out.grown hg8 (fun e => absurd HML.out (by rw [e]; omega)))
          have HU8 := Lib.hid (HU7.out.grown hg8 HU7.out.size (fun k hk => by injection hk with hk; omega))
          have HO8 := Lib.hid (HO7.out.grown hg8 HPL7.out)
          have HPL8 := Lib.hid hpl8
          have hn := HFZ.out.2.1 (by omega)
          have hn' := HFZ.out.1
          have hal := adv_le (r.take x.1.2.2) q hq3
          rw [List.length_take, Nat.min_eq_left hn'] at hal
          have hsq := skipQ_len (adv q (r.take x.1.2.2)) (r.drop x.1.2.2) hal.2.2
          rw [List.length_drop] at hsq
          have hsk := skipq_c p (adv q (r.take x.1.2.2)) ⟨(r.drop x.1.2.2).toArray⟩ (by rw [size_list]; show (r.drop x.1.2.2).length ≤ _; rw [List.length_drop]; omega) ⟨by omega, by omega⟩ w8 hpl8 HM8.out
          have hR := HR2.out
          rw [if_neg (fun h => h (by omega))] at hR
          have HR3 := Lib.hid hR; have HSK := Lib.hid hsk; have HAL := Lib.hid hal; have HSQ := Lib.hid hsq
          clear hpl8 hg8 hn hn' hal hsq hsk hR HX7 HFS7 HM7 HU7 HO7 HPL7 HMV HR2
          go_wp2_with fail
          refine HSK.out.mono ?_
          rintro e w9 ⟨rfl, hpl9, hg9⟩
          have HX9 := Lib.hid (HX8.out.grown hg9 (ne_some (by omega)))
          have HFS9 := Lib.hid (HFS8.out.grown hg9 HPL8.out)
          have HM9 := Lib.hid (HM8.out.grown hg9 (fun e => absurd HML.out (by rw [e]; omega)))
          have HU9 := Lib.hid (HU8.out.grown hg9 HU8.out.size (fun k hk => by injection hk with hk; omega))
          have HO9 := Lib.hid (HO8.out.grown hg9 HPL8.out)
          have HPL9 := Lib.hid hpl9
          clear hpl9 hg9 HX8 HFS8 HM8 HU8 HO8 HPL8 HSK
          go_wp2_with fail
          go_roundg ((skipQ (adv q (r.take x.1.2.2)) (r.drop x.1.2.2)).2.length + 1)
          case measure => have := HG.out; have := HFZ.out.2.1 (by omega); have := HFZ.out.1; have := HSQ.out.1; omega
          case rel =>
            have h1 := HG.out; have h2 := HFZ.out.2.1 (by omega); have h3 := HFZ.out.1; have h4 := HSQ.out; have h5 := HAL.out; have h6 := HF'.out
            exact ⟨f', _, _, _, Nat.le_refl _, by omega, HR3.out, by omega, by omega, by omega, h4.2.2.2, by rw [List.length_append, List.length_singleton]; omega, HO9.out, HPL9.out, HFS9.out, HM9.out, HX9.out, HU9.out⟩
        · have hR := HR2.out
          rw [if_pos (by omega)] at hR
          have HR3 := Lib.hid hR.symm
          have y0 := hx2.cell 0; have y1 := hx2.cell 1; have z0 := hx2.frozen 0; have z1 := hx2.frozen 1
          simp at y0 y1
          clear hR hx2 HR2
          go_wp2_with fail
          go_region
          all_goals
            go_wp2_with fail
            exact bodyPost_ret (retT Tryd.results10 rfl rfl rfl HX2.out.store2.drew) rfl ⟨.slice none 0 0, by rw [HR3.out]; rfl, by rw [HR3.out]; exact ⟨rfl, .inl ⟨rfl, rfl⟩⟩, ((HU2.out.setCell (by simp) _).setCell (by simp) _).drew⟩
end Go.Proofs.YteppdnlchjpekaaDoor
