/- The law of blanks and a remark between two tokens: its walk. -/
import Derived.Test.YteppdnlchjpekaaDoorGc
import Derived.Test.YteppdnlchjpekaaDoorGj
import Derived.BigQuiet
import Derived.Deep.RegionHeld3
namespace Go.Proofs.YteppdnlchjpekaaDoor
open Go.RowKit Lx
open Go
attribute [local go_sem] Oper.semAt_some

theorem TRep.at' {w w' : World} {B : Nat} {l : List T} {A : Option Addr} {c : Nat} (h : TRep w B l A c) (hb : Below B w w') (hB : B ≤ w'.heap.size) : TRep w' w'.heap.size l A c := (h.under hb).more hB
theorem trep_apart {w : World} {B : Nat} {l : List T} {v : Value} (h : OwnT B l w v) : ∃ A c, v = .slice A l.length c ∧ TRep w w.heap.size l A c ∧ ∀ a, A = some a → B ≤ a.block := by
  by_cases hl : l = []
  · subst hl
    obtain ⟨A, c, e, htr⟩ := trep_own h
    rcases h.2 with ⟨rfl, _⟩ | ⟨g, cap, cur, rfl, hB, _⟩
    · exact ⟨none, 0, rfl, ⟨Nat.le_refl _, by unfold maxLen; omega, fun j hj => absurd hj (Nat.not_lt_zero _)⟩, fun a ha => by cases ha⟩
    · injection e with e1 _ e3
      subst e1 e3
      exact ⟨_, cap, rfl, htr, fun a ha => by injection ha with ha; subst ha; exact hB⟩
  · obtain ⟨g, c, e, _, _, hB, _, htr, _⟩ := own_at h hl
    exact ⟨_, c, e, htr, fun a ha => by injection ha with ha; subst ha; exact hB⟩
theorem trep_set {w : World} {l : List T} {A : Option Addr} {c b i : Nat} {x : Value} (h : TRep w w.heap.size l A c) (hne : ∀ a, A = some a → b < a.block) : TRep (w.setCell ⟨b, i, none⟩ x) (w.setCell ⟨b, i, none⟩ x).heap.size l A c := by
  obtain ⟨h1, h2, h3⟩ := h
  refine ⟨h1, h2, fun j hj => ?_⟩
  obtain ⟨g, off, e, hg, c0, c1, c2, c3⟩ := h3 j hj
  have hb := hne _ e
  have key : ∀ o, (w.setCell ⟨b, i, none⟩ x).cell? ⟨g, o, none⟩ = w.cell? ⟨g, o, none⟩ := fun o => World.cell?_setCell_other w _ _ _ (by intro e; injection e with e; dsimp only at hb; omega)
  exact ⟨g, off, e, by simpa using hg, (key _).trans c0, (key _).trans c1, (key _).trans c2, (key _).trans c3⟩
theorem str_between (s rem : ByteArray) (j : Nat) : (s.extract 0 j ++ ⟨#[32, 9, 13, 10, 35]⟩ ++ rem ++ ⟨#[10]⟩ ++ s.extract j s.size).data.toList = s.data.toList.take j ++ 32 :: (([9, 13, 10, 35] ++ (rem.data.toList ++ [10])) ++ s.data.toList.drop j) := by
  rw [ex_take, ex_drop]
  simp [ByteArray.data_append]
theorem gap_rem {r : List UInt8} (h : (10 : UInt8) ∉ r) : Gap (32 :: ([9, 13, 10, 35] ++ (r ++ [10]))) := .blank 32 _ (by decide) (.blank 9 _ (by decide) (.blank 13 _ (by decide) (.blank 10 _ (by decide) (.rem r [] h .nil))))
theorem at_index (z : Int) (n : Nat) (h0 : 0 < n) (hn : n ≤ 1000000) : ∃ k, k < n ∧ wrap64 ((IntKind.u64.wrap z).tmod (n : Int)) = (k : Int) := by
  have h1 : 0 ≤ IntKind.u64.wrap z := by
    have : IntKind.u64.wrap z = z % 18446744073709551616 := rfl
    rw [this]; omega
  rw [Int.tmod_eq_emod_of_nonneg h1]
  have h2 : 0 ≤ IntKind.u64.wrap z % (n : Int) := Int.emod_nonneg _ (by omega)
  have h3 : IntKind.u64.wrap z % (n : Int) < (n : Int) := Int.emod_lt_of_pos _ (by omega)
  refine ⟨(IntKind.u64.wrap z % (n : Int)).toNat, by omega, ?_⟩
  generalize IntKind.u64.wrap z % (n : Int) = m at *
  unfold wrap64
  omega
set_option maxRecDepth 100000 in
set_option maxHeartbeats 8000000 in
theorem between_c (s rem : ByteArray) (z : Int) (w : World) (hM : MaxAt w) : Calls Tryd.prog 6 #[.string s, .string rem, .int .i64 z] w fun e w' => e = .returned (.bool true) ∧ Below w.heap.size w w' := by
  have hmax : maxLen = 9223372036854775807 := rfl
  have HW := Lib.hid (fun W hM => works_c W hM)
  have HM := Lib.hid hM
  clear hM
  by_cases hbig : (4000 : Int) < (s.size : Int) ∨ (300 : Int) < (rem.size : Int)
  · have key : ∀ q1 q2 : Bool, decide ((4000 : Int) < (s.size : Int)) = q1 → decide ((300 : Int) < (rem.size : Int)) = q2 → (q1 || q2) = true → Calls Tryd.prog 6 #[.string s, .string rem, .int .i64 z] w fun e w' => e = .returned (.bool true) ∧ Below w.heap.size w w' := by
      intro q1 q2 h1 h2 h3
      have hcs : (q1 = true ∧ (4000 : Int) < (s.size : Int)) ∨ (q1 = false ∧ ¬ (4000 : Int) < (s.size : Int) ∧ (300 : Int) < (rem.size : Int)) := by
        subst h1 h2
        simp at h3 ⊢
        omega
      clear h1 h2 h3
      rcases hcs with ⟨_, hc⟩ | ⟨_, hc, hc2⟩
      all_goals
        go_enter Tryd.func6, Tryd.ntmps6
        go_wp2_with fail
        refine (HW.out w HM.out).mono ?_
        rintro e w1 ⟨rfl, hb1⟩
        have HB1 := Lib.hid hb1; have HM1 := Lib.hid (HM.out.under hb1)
        clear hb1
        go_wp2_with fail
        refine (HW.out w1 HM1.out).mono ?_
        rintro e w2 ⟨rfl, hb2⟩
        have HB2 := Lib.hid (HB1.out.trans (hb2.mono HB1.out.size))
        clear hb2
        go_wp2_with fail
        go_ret
        exact ⟨rfl, HB2.out⟩
    exact key _ _ rfl rfl (by simpa using hbig)
  · have hs : s.size ≤ 4000 := by omega
    have hr : rem.size ≤ 300 := by omega
    have hs' : ¬ (4000 : Int) < (s.size : Int) := by omega
    have hr' : ¬ (300 : Int) < (rem.size : Int) := by omega
    obtain ⟨X, hX⟩ : ∃ X, X = toks s.data.toList := ⟨_, rfl⟩
    have HT := Lib.hid (fun (W : World) (h : MaxAt W) => tokens_c s (by omega) W h)
    rw [← hX] at HT
    have HX := Lib.hid hX
    have hbu := toks_bulk s.data.toList
    rw [← hX, ← size_list] at hbu
    clear hX
    go_enter Tryd.func6, Tryd.ntmps6
    go_wp2_with fail
    refine (HW.out w HM.out).mono ?_
    rintro e w1 ⟨rfl, hb1⟩
    have HB1 := Lib.hid hb1; have HM1 := Lib.hid (HM.out.under hb1)
    clear hb1
    go_wp2_with fail
    refine (HT.out w1 HM1.out).mono ?_
    rintro e w2 ⟨v, rfl, ho, hb2⟩
    obtain ⟨A, c, rfl, htr⟩ := trep_own ho
    have HTR := Lib.hid htr; have HB2 := Lib.hid (HB1.out.trans (hb2.mono HB1.out.size)); have HM2 := Lib.hid (HM1.out.under hb2)
    have hcap := htr.1; have hcm := htr.2.1
    have HBU := Lib.hid hbu
    clear ho hb2 htr hbu
    by_cases he : (X.2.2 : Int) = 0
    · by_cases hl : X.1.length = 0
      · have hlz : (X.1.length : Int) = 0 := by omega
        go_wp2_with fail
        go_ret
        exact ⟨rfl, HB2.out.alloc HB2.out.size _⟩
      · have hlz : ¬ (X.1.length : Int) = 0 := by omega
        have hlz' : ((X.1.length : Int) == 0) = false := by simpa using hlz
        have hlb := len_bulk X.1
        go_wp2_with fail
        obtain ⟨k, hkl, hkz⟩ := at_index z X.1.length (by omega) (by have := HBU.out; omega)
        rw [hkz]
        clear hkz
        obtain ⟨i, hi, hi1, hi2, _⟩ := between_all s.data.toList [] (Gap.blank 32 [] (by decide) .nil) k (by rw [← HX.out]; omega) (by rw [← HX.out]; exact hkl) (by rw [← size_list]; simp; omega)
        have hg1 : (toks s.data.toList).1[k]'(by rw [← HX.out]; exact hkl) = X.1[k] := by congr 2; exact HX.out.symm
        rw [hg1] at hi1 hi2
        clear hg1
        have his : i < s.size := by rw [size_list]; exact hi
        have HI1 := Lib.hid hi1; have HI2 := Lib.hid hi2
        clear hi hi1 hi2
        obtain ⟨t, ht⟩ : ∃ t, t = X.1[k] := ⟨_, rfl⟩
        rw [← ht] at HI1 HI2
        have HTK := Lib.hid ht
        clear ht
        obtain ⟨p, hp⟩ : ∃ p, p = w2.heap.size + 1 := ⟨_, rfl⟩
        have hb0 : Below w2.heap.size w2 ((w2.alloc (.cells #[.int .i64 (X.2.1.1 : Int), .int .i64 (X.2.1.2 : Int)] 24)).alloc (.cells #[.int .i64 1, .int .i64 1] 24)) := ((Below.refl _ _).alloc (Nat.le_refl _) _).alloc (by simp) _
        have hx0 : Blk ((w2.alloc (.cells #[.int .i64 (X.2.1.1 : Int), .int .i64 (X.2.1.2 : Int)] 24)).alloc (.cells #[.int .i64 1, .int .i64 1] 24)) p 24 #[.int .i64 1, .int .i64 1] := blk_at (by simp [hp])
        have hpw : w2.heap.size ≤ p := by omega
        rw [← hp]
        have HB0 := Lib.hid hb0; have HX0 := Lib.hid hx0
        clear hp hb0 hx0
        go_loopg [11] (s.size + 1) (fun gg s11 wr => ∃ j : Nat, j ≤ i ∧ gg = s.size + 1 - j ∧ s11 = .int .i64 (j : Int) ∧ Blk wr p 24 #[.int .i64 ((adv (1, 1) (s.data.toList.take j)).1 : Int), .int .i64 ((adv (1, 1) (s.data.toList.take j)).2 : Int)] ∧ Below w2.heap.size w2 wr)
        case atStart => exact ⟨0, Nat.zero_le _, by omega, rfl, HX0.out, HB0.out⟩
        case round =>
          clear HX0 HB0
          obtain ⟨j, hj, hg, rfl, hb, hu⟩ := hrel
          have HG := Lib.hid hg; have HU := Lib.hid hu
          clear hg hu
          obtain ⟨b', off, rfl, hb', c0, c1, c2, c3⟩ := (HTR.out.under HU.out).2.2 k hkl
          rw [← HTK.out] at c0 c1 c2 c3
          have d0 := hb.cell 0; have d1 := hb.cell 1; have z0 := hb.frozen 0; have z1 := hb.frozen 1
          simp at d0 d1
          have HB := Lib.hid hb
          have hplt : p < wr.heap.size := hb.lt
          have hblt : b' < wr.heap.size := by have := HU.out.size; omega
          clear hb
          have hkz : (k : Int) < (X.1.length : Int) := by omega
          by_cases hji : j < i
          · have hjz : (j : Int) < (s.size : Int) := by omega
            have hjl : j < s.data.toList.length := by rw [← size_list]; omega
            have hcj : s.data.toList[j]? = some s[j] := List.getElem?_eq_getElem hjl
            have hst := adv_take _ _ _ hcj
            have hal := adv_le (s.data.toList.take j) (1, 1) (Nat.le_refl _)
            rw [List.length_take, Nat.min_eq_left (by omega)] at hal
            have hne : ¬ (((adv (1, 1) (s.data.toList.take j)).1 : Int) = t.line ∧ ((adv (1, 1) (s.data.toList.take j)).2 : Int) = t.col) := by
              rintro ⟨h1, h2⟩
              rw [HI1.out] at h1; rw [HI2.out] at h2
              have := adv_inj s.data.toList j i (by omega) (by rw [← size_list]; omega) (by omega) (by omega)
              omega
            have HST := Lib.hid hst
            clear hst hcj
            have HI1' := HI1; have HI2' := HI2
            generalize adv (1, 1) (s.data.toList.take j) = q at *
            generalize hch : s[j] = ch at *
            have hchz : (s[j].toNat : Int) = (ch.toNat : Int) := by rw [hch]
            have hcs : (¬ (q.1 : Int) = t.line ∧ ((q.1 : Int) == t.line) = false) ∨ ((q.1 : Int) = t.line ∧ ¬ (q.2 : Int) = t.col ∧ ((q.2 : Int) == t.col) = false) := by
              by_cases h : (q.1 : Int) = t.line
              · exact Or.inr ⟨h, fun h2 => hne ⟨h, h2⟩, by simpa using fun h2 => hne ⟨h, h2⟩⟩
              · exact Or.inl ⟨h, by simpa using h⟩
            clear hne
            have hnl : ((s[j].toNat : Int) = 10 ∧ ch = 10) ∨ (¬ (s[j].toNat : Int) = 10 ∧ ((s[j].toNat : Int) == 10) = false ∧ ¬ ch = 10) := by
              by_cases h : ch = 10
              · exact Or.inl ⟨by rw [hchz, h]; rfl, h⟩
              · have h' : ¬ (s[j].toNat : Int) = 10 := by rw [hchz]; exact fun e => h (UInt8.toNat_inj.1 (by show ch.toNat = 10; omega))
                exact Or.inr ⟨h', by simpa using h', h⟩
            rcases hcs with ⟨hq1, hq1'⟩ | ⟨hq1, hq2, hq2'⟩
            all_goals rcases hnl with ⟨hcz, h10⟩ | ⟨hcz, hcz', h10⟩
            all_goals
              go_wp2_with fail
              go_quiet (fail)
              go_wp2_with fail
              go_roundg (s.size + 1 - (j + 1))
              case measure => have := HG.out; omega
              case rel =>
                refine ⟨j + 1, by omega, rfl, by go_num, ?_, ?_⟩
                · first | rw [HST.out, if_pos h10] | rw [HST.out, if_neg h10]
                  dsimp only
                  have hbd := HB.out.below (below_drewN wr nq) hplt
                  first
                    | (rw [show ((q.1 + 1 : Nat) : Int) = (q.1 : Int) + 1 by omega]; exact (hbd.set_ 0 _).set_ 1 _)
                    | (rw [show ((q.1 + 1 : Nat) : Int) = t.line + 1 by omega]; exact (hbd.set_ 0 _).set_ 1 _)
                    | (rw [show ((q.2 + 1 : Nat) : Int) = (q.2 : Int) + 1 by omega]; exact hbd.set_ 1 _)
                · have hud := HU.out.trans ((below_drewN wr nq).mono HU.out.size)
                  first
                    | exact (hud.setCell hpw _).setCell hpw _
                    | exact hud.setCell hpw _
          · obtain rfl : j = i := by omega
            rw [← HI1.out] at d0
            rw [← HI2.out] at d1
            have HB' := HB.out
            rw [← HI1.out, ← HI2.out] at HB'
            have HBL := Lib.hid HB'
            clear HB' HB
            go_wp2_with fail
            go_quiet (fail)
            go_wp2_with fail
            have hudn : Below w2.heap.size w2 (wr.drewN nq) := HU.out.trans ((below_drewN wr nq).mono HU.out.size)
            have hbdn := HBL.out.below (below_drewN wr nq) hplt
            have HUD := Lib.hid hudn; have HBD := Lib.hid hbdn
            clear hudn hbdn c0 c1 c2 c3 d0 d1 z0 z1 HBL HU hb' hblt hplt
            go_loopg [13] (rem.size + 1) (fun gg s13 wr => ∃ n : Nat, n ≤ rem.size ∧ gg = rem.size + 1 - n ∧ s13 = .int .i64 (n : Int) ∧ (10 : UInt8) ∉ rem.data.toList.take n ∧ Blk wr p 24 #[.int .i64 t.line, .int .i64 t.col] ∧ Below w2.heap.size w2 wr)
            case atStart => exact ⟨0, Nat.zero_le _, by omega, rfl, by simp, HBD.out, HUD.out⟩
            case round =>
              clear HBD HUD
              obtain ⟨n, hn, hgn, rfl, hnn, hb, hu⟩ := hrel
              have HG2 := Lib.hid hgn; have HU := Lib.hid hu; have HB := Lib.hid hb; have HNN := Lib.hid hnn
              clear hgn hu hb hnn
              by_cases hnr : n < rem.size
              · have hnz : (n : Int) < (rem.size : Int) := by omega
                have hnl : n < rem.data.toList.length := by rw [← size_list]; omega
                have htk : rem.data.toList.take (n + 1) = rem.data.toList.take n ++ [rem[n]] := List.take_succ_eq_append_getElem hnl
                have HTK2 := Lib.hid htk
                clear htk
                by_cases h10 : (rem[n].toNat : Int) = 10
                · go_wp2_with fail
                  go_ret
                  exact ⟨rfl, HB2.out.trans (HU.out.mono HB2.out.size)⟩
                · have h10' : ((rem[n].toNat : Int) == 10) = false := by simpa using h10
                  go_wp2_with fail
                  go_roundg (rem.size + 1 - (n + 1))
                  case measure => have := HG2.out; omega
                  case rel =>
                    refine ⟨n + 1, by omega, rfl, by go_num, ?_, HB.out, HU.out⟩
                    rw [HTK2.out]
                    intro hm
                    rcases List.mem_append.1 hm with h | h
                    · exact HNN.out h
                    · have h2 := List.mem_singleton.1 h
                      exact h10 (by rw [← h2]; rfl)
              · obtain rfl : n = rem.size := by omega
                have hnz : ¬ (rem.size : Int) < (rem.size : Int) := by omega
                have hno : (10 : UInt8) ∉ rem.data.toList := by
                  have := HNN.out
                  rwa [size_list, List.take_length] at this
                have HNO := Lib.hid hno
                clear hno
                have hjs : (j : Int) ≤ (s.size : Int) := by omega
                obtain ⟨S, hS⟩ : ∃ S : ByteArray, S = s.extract 0 j ++ ⟨#[32, 9, 13, 10, 35]⟩ ++ rem ++ ⟨#[10]⟩ ++ s.extract j s.size := ⟨_, rfl⟩
                have hSl := str_between s rem j
                rw [← hS] at hSl
                obtain ⟨i', hi', h1', h2', h3', h4'⟩ := between_all s.data.toList ([9, 13, 10, 35] ++ (rem.data.toList ++ [10])) (gap_rem HNO.out) k (by rw [← HX.out]; omega) (by rw [← HX.out]; exact hkl) (by simp only [List.length_append, List.length_cons, List.length_nil]; rw [← size_list, ← size_list]; omega)
                have hg1 : (toks s.data.toList).1[k]'(by rw [← HX.out]; exact hkl) = t := by rw [HTK.out]; congr 2; exact HX.out.symm
                rw [hg1] at h1' h2'
                obtain rfl : i' = j := by
                  rw [HI1.out] at h1'; rw [HI2.out] at h2'
                  have e1 := size_list s
                  rcases Nat.le_total i' j with h | h
                  · exact adv_inj s.data.toList i' j h (by omega) (by omega) (by omega)
                  · exact (adv_inj s.data.toList j i' h (by omega) (by omega) (by omega)).symm
                rw [← hSl] at h3' h4'
                rw [← HX.out] at h4'
                have hSz : S.size ≤ 5000 := by
                  rw [size_list, hSl]
                  simp only [List.length_append, List.length_cons, List.length_nil, List.length_take, List.length_drop]
                  rw [← size_list, ← size_list]
                  omega
                have HT2 := Lib.hid (fun (W : World) (h : MaxAt W) => tokens_c S (by omega) W h)
                have hbY := toks_bulk S.data.toList
                rw [← size_list] at hbY
                generalize toks S.data.toList = Y at h3' h4' HT2 hbY
                have hYl : X.1.length = Y.1.length := by
                  have := congrArg List.length h4'
                  rw [List.length_map, List.length_map] at this
                  exact this.symm
                have hYe : ∀ q (h : q < X.1.length) (h' : q < Y.1.length), Y.1[q].kind = X.1[q].kind ∧ Y.1[q].text = X.1[q].text := by
                  intro q h h'
                  have h5 := congrArg (fun x : List (Nat × List UInt8) => x[q]?) h4'
                  simp only [List.getElem?_map, List.getElem?_eq_getElem h, List.getElem?_eq_getElem h', Option.map_some, Option.some.injEq] at h5
                  exact ⟨congrArg Prod.fst h5, by rw [ba_eq (congrArg Prod.snd h5 : Y.1[q].text.data.toList = _)]; exact (arr_self _).symm⟩
                have HYL := Lib.hid hYl; have HYE := Lib.hid hYe; have HBY := Lib.hid (show bulk Y.1 ≤ 2000000 by omega)
                have h3z : (Y.2.2 : Int) = 0 := by omega
                have HMX := Lib.hid (HM2.out.under HU.out.drew)
                have hua : Below w2.heap.size w2 (wr.alloc (.cells #[.int .i64 0, .int .i64 0] 24)) := HU.out.alloc HU.out.size _
                have HBA := Lib.hid (HB.out.alloc (.cells #[.int .i64 0, .int .i64 0] 24))
                have HMXA := Lib.hid (HM2.out.under hua.drew)
                have HUA := Lib.hid hua
                clear hua
                have hd0 := HB.out.drew.cell 0; have hd1 := HB.out.drew.cell 1
                have HS := Lib.hid hS
                clear hSl hS h4' hYl hYe hg1 h1' h2' hbY h3' hi' HT hd0 hd1
                go_upto_region 19 with fail
                go_cut [14, 16] (fun s14 s16 wx => ∃ (A' : Option Addr) (c' : Nat), s14 = .slice A' Y.1.length c' ∧ s16 = .int .i64 0 ∧ TRep wx wx.heap.size Y.1 A' c' ∧ Blk wx p 24 #[.int .i64 t.line, .int .i64 t.col] ∧ Below w2.heap.size w2 wx)
                case first =>
                 go_wp2_with fail
                 go_region_with (go_at_call 10; rw [← HS.out]; first
                  | (refine (HT2.out wr.drew HMX.out).mono ?_; rintro e w5 ⟨v5, rfl, ho5, hb5⟩; obtain ⟨A', c', rfl, htr5⟩ := trep_own ho5; have HB5 := Lib.hid (HU.out.drew.trans (hb5.mono HU.out.drew.size)); have HTR5 := Lib.hid htr5; have HBK5 := Lib.hid (HB.out.drew.below hb5 HB.out.drew.lt); clear ho5 hb5 htr5)
                  | (refine (HT2.out (wr.alloc (.cells #[.int .i64 0, .int .i64 0] 24)).drew HMXA.out).mono ?_; rintro e w5 ⟨v5, rfl, ho5, hb5⟩; obtain ⟨A', c', rfl, htr5, hap5⟩ := trep_apart ho5; have HAP := Lib.hid (fun a (h : A' = some a) => show wr.heap.size < a.block from Nat.lt_of_lt_of_le (by simp) (hap5 a h)); clear hap5; have HB5 := Lib.hid (HUA.out.drew.trans (hb5.mono HUA.out.drew.size)); have HTR5 := Lib.hid htr5; have HBK5 := Lib.hid (HBA.out.drew.below hb5 HBA.out.drew.lt); have HPB5 := Lib.hid ((Blk.new wr 24 #[.int .i64 0, .int .i64 0]).drew.below hb5 (Blk.new wr 24 #[.int .i64 0, .int .i64 0]).drew.lt); have y0 := HPB5.out.cell 0; have y1 := HPB5.out.cell 1; have y2 := HPB5.out.frozen 0; have y3 := HPB5.out.frozen 1; simp at y0 y1; clear ho5 hb5 htr5))
                 all_goals
                  go_wp2_with fail
                  go_meet
                  first
                    | (refine ⟨A', c', rfl, rfl, HTR5.out.at' ((Below.refl _ _).alloc (Nat.le_refl _) _) (by simp), HBK5.out.alloc _, HB5.out.alloc HB5.out.size _⟩; done)
                    | (have HPW := HU.out.size; exact ⟨A', c', rfl, rfl, trep_set (trep_set HTR5.out HAP.out) HAP.out, (HBK5.out.far (by have := HB.out.lt; simp only; omega) _).far (by have := HB.out.lt; simp only; omega) _, (HB5.out.setCell HPW _).setCell HPW _⟩)
                case rest =>
                  obtain ⟨A', c', rfl, rfl, htr6, hbk6, hu6⟩ := hcut
                  have HTS := Lib.hid htr6; have HBK := Lib.hid hbk6; have HU6 := Lib.hid hu6
                  clear htr6 hbk6 hu6 HU HB HMX HMXA HUA HBA HT2
                  have htc := HTR.out.at' HU6.out.drew (by have := HU6.out.size; simpa using this)
                  obtain ⟨g6, off6, e6, hg6, c0, c1, _, _⟩ := htc.2.2 k hkl
                  injection e6 with e6
                  obtain ⟨rfl, rfl, _⟩ := e6
                  rw [← HTK.out] at c0 c1
                  have d0 := HBK.out.drew.cell 0; have d1 := HBK.out.drew.cell 1
                  simp at d0 d1 c0 c1
                  have HTC := Lib.hid htc
                  have HTSc := Lib.hid (show TRep wc.drew wc.drew.heap.size Y.1 A' c' from HTS.out)
                  have HUC := Lib.hid HU6.out.drew
                  clear htc HTS
                  have hcl : ∀ W, Below wc.heap.size wc W → W.cell? ⟨p, 0, none⟩ = some (.int .i64 t.line) ∧ W.cell? ⟨p, 1, none⟩ = some (.int .i64 t.col) ∧ W.cell? ⟨b', off + k * 4, none⟩ = some (.int .i64 t.line) ∧ W.cell? ⟨b', off + k * 4 + 1, none⟩ = some (.int .i64 t.col) := fun W hW =>
                    have hp' := HBK.out.lt
                    have hg' : b' < wc.heap.size := hg6
                    ⟨(hW.cell (p := ⟨p, 0, none⟩) hp').trans d0, (hW.cell (p := ⟨p, 1, none⟩) hp').trans d1, (hW.cell (p := ⟨b', off + k * 4, none⟩) hg').trans c0, (hW.cell (p := ⟨b', off + k * 4 + 1, none⟩) hg').trans c1⟩
                  have HCL := Lib.hid hcl
                  have HUX := Lib.hid (Below.refl wc.heap.size wc)
                  clear hcl
                  go_upto_region 20 with fail
                  go_region_held3 (fun w' => w'.cell? ⟨p, 0, none⟩ = some (.int .i64 t.line) ∧ w'.cell? ⟨p, 1, none⟩ = some (.int .i64 t.col) ∧ w'.cell? ⟨b', off + k * 4, none⟩ = some (.int .i64 t.line) ∧ w'.cell? ⟨b', off + k * 4 + 1, none⟩ = some (.int .i64 t.col)) (go_keep)
                    (first
                      | (go_at_call 14; refine (same_yes X.1 Y.1 A2 A3 c2 c3 w8 HTR8.out HTS8.out HYL.out HYE.out).mono ?_; rintro e w9 ⟨rfl, hb9⟩; have HB9 := Lib.hid (HB8.out.trans (hb9.mono HB8.out.size)); clear hb9; obtain ⟨o0, o1, o2, o3⟩ := HCL.out _ HB9.out)
                      | (have hx := HB7; clear hx; go_at_call 15; refine (of_c Y.1 A' c' w7 HTS7.out HBY.out).mono ?_; rintro e w8 ⟨A3, c3, rfl, htr8, hb8⟩; have HTR8 := Lib.hid (HTR7.out.at' hb8 hb8.size); have HTS8 := Lib.hid htr8; have HB8 := Lib.hid (HB7.out.trans (hb8.mono HB7.out.size)); clear htr8 hb8; obtain ⟨o0, o1, o2, o3⟩ := HCL.out _ HB8.out)
                      | (go_at_call 15; refine (of_c X.1 _ c wc.drew HTC.out (by have := HBU.out; omega)).mono ?_; rintro e w7 ⟨A2, c2, rfl, htr7, hb7⟩; have HTR7 := Lib.hid htr7; have HTS7 := Lib.hid (HTSc.out.at' hb7 hb7.size); have HB7 := Lib.hid (HUX.out.drew.trans hb7); clear htr7 hb7; obtain ⟨o0, o1, o2, o3⟩ := HCL.out _ HB7.out))
                  all_goals
                    go_wp2_with fail
                    go_ret
                    exact ⟨rfl, HB2.out.trans ((HU6.out.trans (HB9.out.mono HU6.out.size)).mono HB2.out.size)⟩
    · have hez : ((X.2.2 : Int) == 0) = false := by simpa using he
      go_wp2_with fail
      go_ret
      exact ⟨rfl, HB2.out.alloc HB2.out.size _⟩
end Go.Proofs.YteppdnlchjpekaaDoor
