/- The document's own reading of a text in quotes. -/
import Derived.Test.YteppdnlchjpekaaDoorRd
import Derived.Test.YteppdnlchjpekaaDoorYm
namespace Go.Proofs.YteppdnlchjpekaaDoor
open Go.RowKit Lx
open Go
attribute [local go_sem] Oper.semAt_some

theorem op_bys (w : World) {o : Oper} {a : Act} {K : Act → World → Prop} {Q : Exit → Act → World → Prop} (hgd : o.guard = none) (s x : Operand)
    (ho : o.op = .call { callee := .builtin .append, args := #[s, x], argTypes := #[46, 46] })
    (B : Nat) (l m : List UInt8) (v : Value) (hs : a.eval s = v) (h : Bys B l w v) (g c : Nat) (hx : a.eval x = .slice (some ⟨g, 0, none⟩) m.length c) (hb : Blk w g 5 (Lib.byteCells m).toArray)
    (hl : l.length + m.length ≤ 1000000000) (hB : B ≤ w.heap.size)
    (hK : ∀ v' w', Bys B (l ++ m) w' v' → Below B w w' → K (a.put o.dst v') w') : Oper.wp Tryd.prog o a w K Q := by
  have h1 := step_bys (E := False) (ops := #[]) (Q := Q) w hgd s x ho B l m v hs h g c hx hb hl hB hK
  rwa [if_pos (by unfold Region.wanted; rw [hgd])] at h1
theorem byte_ne {c : UInt8} {z : Int} {d : UInt8} (hd : (d.toNat : Int) = z) (h : c ≠ d) : ¬ (c.toNat : Int) = z ∧ ((c.toNat : Int) == z) = false := by
  have h' : ¬ (c.toNat : Int) = z := fun e => h (UInt8.toNat_inj.1 (by omega))
  exact ⟨h', by rw [beq_eq_false_iff_ne]; exact h'⟩
set_option maxRecDepth 100000 in
set_option maxHeartbeats 16000000 in
theorem rquoted_c (s : ByteArray) (hs : s.size ≤ 100000) (i : Nat) (hi : i < s.size) (hc : s[i] = 34) (w : World) :
    Calls Tryd.prog 57 #[.string s, .int .i64 (i : Int)] w fun e w' => e = .returned (atV i (fFirst (s.data.toList.drop i))) ∧ Below w.heap.size w w' := by
  have hmax : maxLen = 9223372036854775807 := rfl
  have hszl := size_list s
  obtain ⟨Q, hQ⟩ : ∃ Q, Q = qGo ((s.data.toList.drop (i + 1)).length + 1) (s.data.toList.drop (i + 1)) [] 1 := ⟨_, rfl⟩
  obtain ⟨R, hR⟩ : ∃ R, R = fFirst (s.data.toList.drop i) := ⟨_, rfl⟩
  have hf := at_quote (s.data.toList.drop (i + 1))
  rw [← hQ] at hf
  rw [← hR]
  rw [drop_at s i hi, hc, hf] at hR
  have hRN : Q = none → R = (no, 4) := fun h => by rw [hR, h]
  have hRS : ∀ x, Q = some x → R = ((7, x.1, x.2), if 4096 < x.1.length then 40 else 0) := fun x h => by rw [hR, h]
  have hln : (s.data.toList.drop (i + 1)).length = s.size - (i + 1) := by rw [List.length_drop, ← hszl]
  have hbk := Blk.new w 69 #[.int .u8 0, .int .i64 0, .string ⟨#[]⟩]
  have hb0 : Below w.heap.size w (w.alloc (.cells #[.int .u8 0, .int .i64 0, .string ⟨#[]⟩] 69)) := (Below.refl _ _).alloc (Nat.le_refl _) _
  have HBK0 := Lib.hid hbk; have HB0 := Lib.hid hb0; have HQ := Lib.hid hQ; have HRN := Lib.hid hRN; have HRS := Lib.hid hRS; have HLN := Lib.hid hln
  clear hbk hb0 hQ hRN hRS hf hR hszl hln hc
  go_enter Tryd.func57, Tryd.ntmps57
  go_wp2_with fail
  generalize w.alloc (.cells #[.int .u8 0, .int .i64 0, .string ⟨#[]⟩] 69) = W0 at HBK0 HB0 ⊢
  go_loopg [6, 7, 8] (s.size + 1 - (i + 1)) (fun gg s6 s7 s8 wr => ∃ (k f : Nat) (out : List UInt8), i + 1 ≤ k ∧ k ≤ s.size ∧ gg = s.size + 1 - k ∧ s7 = .int .i64 (k : Int) ∧ Bys W0.heap.size out wr s6 ∧ out.length ≤ k ∧ s.size + 1 - k ≤ f ∧ Q = qGo f (s.data.toList.drop k) out (k - i) ∧ Below W0.heap.size W0 wr)
  case atStart => exact ⟨i + 1, s.size - (i + 1) + 1, [], Nat.le_refl _, by omega, rfl, by go_num, ⟨rfl, .inl ⟨rfl, rfl⟩⟩, Nat.zero_le _, by omega, by rw [HQ.out, HLN.out, Nat.add_sub_cancel_left], Below.refl _ _⟩
  case round =>
    obtain ⟨k, f, out, hik, hk, hg, rfl, hy, hol, hfk, hq, hu⟩ := hrel
    have HG := Lib.hid hg; have HU := Lib.hid hu; have HY := Lib.hid hy
    obtain ⟨f', rfl⟩ : ∃ n, f = n + 1 := ⟨f - 1, by omega⟩
    have HBK := Lib.hid (HBK0.out.below hu HBK0.out.lt)
    have HB := Lib.hid (HB0.out.trans (hu.mono HB0.out.size))
    have d0 := HBK.out.cell 0; have d1 := HBK.out.cell 1; have d2 := HBK.out.cell 2; have z0 := HBK.out.frozen 0; have z1 := HBK.out.frozen 1; have z2 := HBK.out.frozen 2
    simp at d0 d1 d2
    clear hg hu hy HQ HLN
    by_cases hks : k < s.size
    · have hkz : (k : Int) < (s.size : Int) := by omega
      have hdr := drop_at s k hks
      rw [hdr] at hq
      have HQ := Lib.hid hq; have HDR := Lib.hid hdr
      clear hq hdr
      obtain ⟨c, hcc⟩ : ∃ c, c = s[k] := ⟨_, rfl⟩
      have hcz : (s[k].toNat : Int) = (c.toNat : Int) := by rw [hcc]
      rw [← hcc] at HQ HDR
      have HCC := Lib.hid hcc
      clear hcc
      by_cases h34 : c = 34
      · have hz : (s[k].toNat : Int) = 34 := by rw [hcz, h34]; rfl
        have hres : Q = some (out, k - i + 1) := by rw [HQ.out, h34]; exact q_34 _ _ _ _
        have hRR := HRS.out _ hres
        obtain ⟨A, c6, hA⟩ := bys_shape HY.out
        have hcv := conv_bys HY.out
        rw [hA] at hcv
        have HRR := Lib.hid hRR; have HCV := Lib.hid hcv; have HA := Lib.hid hA
        clear hres hRR hcv hcz h34 hA
        rw [HA.out]
        by_cases hbig : (4096 : Int) < (out.length : Int)
        · go_wp2_with fail
          refine bodyPost_ret (retG Tryd.results57 rfl rfl HBK.out.store3) rfl ⟨congrArg Ending.returned (at_err (er := 40) (by rw [HRR.out]; dsimp only; rw [if_pos (by omega)]) (by decide)), below3 HB.out (Nat.le_refl _) _ _ _⟩
        · go_wp2_with fail
          rw [HCV.out]
          simp only [Result.andThen]
          rw [Oper.upon_value]
          go_wp2_with fail
          refine bodyPost_ret (retG Tryd.results57 rfl rfl HBK.out.store3) rfl ⟨congrArg Ending.returned (at_ok (k := 7) HRR.out (if_neg (by omega)) (S := ⟨out.toArray⟩) rfl (by omega)), below3 HB.out (Nat.le_refl _) _ _ _⟩
      · obtain ⟨n34, n34'⟩ := byte_ne (z := 34) rfl h34
        rw [← hcz] at n34 n34'
        by_cases hctl : c.toNat < 32 ∨ c.toNat = 127
        · have hres : R = (no, 4) := HRN.out (by rw [HQ.out]; exact q_bad h34 (m_ctl _ hctl) _ _ _)
          have HRES := Lib.hid hres
          have hcs : (s[k].toNat : Int) < 32 ∨ (¬ (s[k].toNat : Int) < 32 ∧ (s[k].toNat : Int) = 127) := by omega
          clear hres hctl hcz h34
          rcases hcs with hz | ⟨hz, hz2⟩
          · go_wp2_with fail
            refine bodyPost_ret (retG Tryd.results57 rfl rfl HBK.out.store3) rfl ⟨congrArg Ending.returned (at_err (er := 4) (by rw [HRES.out]) (by decide)), below3 HB.out (Nat.le_refl _) _ _ _⟩
          · clear n34 n34'
            go_wp2_with fail
            refine bodyPost_ret (retG Tryd.results57 rfl rfl HBK.out.store3) rfl ⟨congrArg Ending.returned (at_err (er := 4) (by rw [HRES.out]) (by decide)), below3 HB.out (Nat.le_refl _) _ _ _⟩
        · have n32 : ¬ (s[k].toNat : Int) < 32 := by omega
          have n127 : ¬ (s[k].toNat : Int) = 127 := by omega
          have n127' : ((s[k].toNat : Int) == 127) = false := by rw [beq_eq_false_iff_ne]; exact n127
          by_cases h92 : c = 92
          · have hz : (s[k].toNat : Int) = 92 := by rw [hcz, h92]; rfl
            rw [h92] at HQ HDR
            clear n34 n34' n32 n127 n127' hcz h34 hctl
            by_cases hk1 : k + 1 < s.size
            · have hk1z : ¬ (s.size : Int) ≤ (k : Int) + 1 := by omega
              have hk1y : (k : Int) + 1 < (s.size : Int) := by omega
              have hdr := drop_at s (k + 1) hk1
              rw [hdr] at HQ
              have HDR1 := Lib.hid hdr
              clear hdr
              obtain ⟨d, hdd⟩ : ∃ d, d = s[k + 1] := ⟨_, rfl⟩
              have hdz : (s[k + 1].toNat : Int) = (d.toNat : Int) := by rw [hdd]
              rw [← hdd] at HQ HDR1
              clear hdd
              have two : ∀ b, markAt (92 :: d :: s.data.toList.drop (k + 1 + 1)) = (b, 2) → Q = qGo f' (s.data.toList.drop (k + 2)) (out ++ [b]) (k + 2 - i) := fun b hb => by
                rw [HQ.out, q_go (by decide) hb (by decide), show k - i + 2 = k + 2 - i by omega]; rfl
              have TWO := Lib.hid two
              clear two
              by_cases e34 : d = 34
              · subst e34
                have hy : (s[k + 1].toNat : Int) = 34 := hdz
                clear hdz
                have HQQ := Lib.hid (TWO.out 34 rfl)
                go_wp2_with (at_builtin; refine wpList_bys _ rfl _ _ rfl W0.heap.size out [34] _ rfl (HY.out.alloc _) wr.heap.size 1 rfl (Blk.new wr 5 #[.int .u8 34]) (by simp only [List.length_cons, List.length_nil]; omega) (by have := HU.out.size; simp; omega) ?_; intro v3 w3 hy3 hb3; have HY3 := Lib.hid hy3; have HB3 := Lib.hid ((HU.out.alloc (by have := HU.out.size; omega) _).trans hb3); clear hy3 hb3)
                go_roundg (s.size + 1 - (k + 2))
                case measure => have := HG.out; omega
                case rel => exact ⟨k + 2, f', out ++ [34], by omega, by omega, rfl, by go_num, HY3.out, by rw [List.length_append, List.length_singleton]; omega, by omega, HQQ.out, HB3.out⟩
              by_cases e92 : d = 92
              · subst e92
                have hy : (s[k + 1].toNat : Int) = 92 := hdz
                clear hdz
                have HQQ := Lib.hid (TWO.out 92 rfl)
                go_wp2_with (at_builtin; refine wpList_bys _ rfl _ _ rfl W0.heap.size out [92] _ rfl (HY.out.alloc _) wr.heap.size 1 rfl (Blk.new wr 5 #[.int .u8 92]) (by simp only [List.length_cons, List.length_nil]; omega) (by have := HU.out.size; simp; omega) ?_; intro v3 w3 hy3 hb3; have HY3 := Lib.hid hy3; have HB3 := Lib.hid ((HU.out.alloc (by have := HU.out.size; omega) _).trans hb3); clear hy3 hb3)
                go_roundg (s.size + 1 - (k + 2))
                case measure => have := HG.out; omega
                case rel => exact ⟨k + 2, f', out ++ [92], by omega, by omega, rfl, by go_num, HY3.out, by rw [List.length_append, List.length_singleton]; omega, by omega, HQQ.out, HB3.out⟩
              by_cases e110 : d = 110
              · subst e110
                have hy : (s[k + 1].toNat : Int) = 110 := hdz
                clear hdz
                have HQQ := Lib.hid (TWO.out 10 rfl)
                go_wp2_with (at_builtin; refine wpList_bys _ rfl _ _ rfl W0.heap.size out [10] _ rfl (HY.out.alloc _) wr.heap.size 1 rfl (Blk.new wr 5 #[.int .u8 10]) (by simp only [List.length_cons, List.length_nil]; omega) (by have := HU.out.size; simp; omega) ?_; intro v3 w3 hy3 hb3; have HY3 := Lib.hid hy3; have HB3 := Lib.hid ((HU.out.alloc (by have := HU.out.size; omega) _).trans hb3); clear hy3 hb3)
                go_roundg (s.size + 1 - (k + 2))
                case measure => have := HG.out; omega
                case rel => exact ⟨k + 2, f', out ++ [10], by omega, by omega, rfl, by go_num, HY3.out, by rw [List.length_append, List.length_singleton]; omega, by omega, HQQ.out, HB3.out⟩
              by_cases e116 : d = 116
              · subst e116
                have hy : (s[k + 1].toNat : Int) = 116 := hdz
                clear hdz
                have HQQ := Lib.hid (TWO.out 9 rfl)
                go_wp2_with (at_builtin; refine wpList_bys _ rfl _ _ rfl W0.heap.size out [9] _ rfl (HY.out.alloc _) wr.heap.size 1 rfl (Blk.new wr 5 #[.int .u8 9]) (by simp only [List.length_cons, List.length_nil]; omega) (by have := HU.out.size; simp; omega) ?_; intro v3 w3 hy3 hb3; have HY3 := Lib.hid hy3; have HB3 := Lib.hid ((HU.out.alloc (by have := HU.out.size; omega) _).trans hb3); clear hy3 hb3)
                go_roundg (s.size + 1 - (k + 2))
                case measure => have := HG.out; omega
                case rel => exact ⟨k + 2, f', out ++ [9], by omega, by omega, rfl, by go_num, HY3.out, by rw [List.length_append, List.length_singleton]; omega, by omega, HQQ.out, HB3.out⟩
              by_cases e120 : d = 120
              · subst e120
                have hy : (s[k + 1].toNat : Int) = 120 := hdz
                clear hdz e34 e92 e110 e116
                by_cases hk3 : k + 2 + 1 < s.size
                · have hk3z : (k : Int) + 2 + 1 < (s.size : Int) := by omega
                  have hk2z : (k : Int) + 2 < (s.size : Int) := by omega
                  have hd2 := drop_at s (k + 1 + 1) (by omega)
                  have hd3 := drop_at s (k + 1 + 1 + 1) (by omega)
                  rw [hd3] at hd2
                  rw [hd2] at HQ
                  have hm := m_x s[k + 1 + 1] s[k + 1 + 1 + 1] (s.data.toList.drop (k + 1 + 1 + 1 + 1))
                  have HH1 := Lib.hid (fun W => rhex_c (s[k + 2]'(by omega)) W)
                  have HH2 := Lib.hid (fun W => rhex_c (s[k + 2 + 1]'(by omega)) W)
                  have hix1 := ix_bd hexL (s[k + 2]'(by omega)); have hix2 := ix_bd hexL (s[k + 2 + 1]'(by omega))
                  have hl16 : (hexL.length : Int) = 16 := rfl
                  rw [hl16] at hix1 hix2
                  change _ = if Lib.indexByte hexL (s[k + 2]'(by omega)) < 0 ∨ Lib.indexByte hexL (s[k + 2 + 1]'(by omega)) < 0 then _ else _ at hm
                  have HM := Lib.hid hm
                  clear hm hd2 hd3
                  have hj1 : (s[k + 1 + 1]'(by omega)) = s[k + 2]'(by omega) := rfl
                  generalize hv1 : Lib.indexByte hexL (s[k + 2]'(by omega)) = v1 at *
                  generalize hv2 : Lib.indexByte hexL (s[k + 2 + 1]'(by omega)) = v2 at *
                  by_cases p1 : v1 < 0
                  · have q1 : ¬ (0 : Int) ≤ v1 := by omega
                    have hres : R = (no, 4) := HRN.out (by rw [HQ.out]; exact q_bad (by decide) (by rw [HM.out, if_pos (Or.inl p1)]) _ _ _)
                    have HRES := Lib.hid hres
                    clear hres p1
                    go_wp2_with fail
                    refine (HH1.out _).mono ?_
                    rintro e0 w1 ⟨rfl, rfl⟩
                    go_wp2_with fail
                    refine bodyPost_ret (retG Tryd.results57 rfl rfl HBK.out.store3) rfl ⟨congrArg Ending.returned (at_err (er := 4) (by rw [HRES.out]) (by decide)), below3 HB.out (Nat.le_refl _) _ _ _⟩
                  · have q1 : (0 : Int) ≤ v1 := by omega
                    by_cases p2 : v2 < 0
                    · have q2 : ¬ (0 : Int) ≤ v2 := by omega
                      have hres : R = (no, 4) := HRN.out (by rw [HQ.out]; exact q_bad (by decide) (by rw [HM.out, if_pos (Or.inr p2)]) _ _ _)
                      have HRES := Lib.hid hres
                      clear hres p1 p2
                      go_wp2_with fail
                      refine (HH1.out _).mono ?_
                      rintro e0 w1 ⟨rfl, rfl⟩
                      go_wp2_with fail
                      refine (HH2.out _).mono ?_
                      rintro e0 w1 ⟨rfl, rfl⟩
                      go_wp2_with fail
                      refine bodyPost_ret (retG Tryd.results57 rfl rfl HBK.out.store3) rfl ⟨congrArg Ending.returned (at_err (er := 4) (by rw [HRES.out]) (by decide)), below3 HB.out (Nat.le_refl _) _ _ _⟩
                    · have q2 : (0 : Int) ≤ v2 := by omega
                      obtain ⟨b, hbb⟩ : ∃ b, b = UInt8.ofNat (v1.toNat * 16 + v2.toNat) := ⟨_, rfl⟩
                      have hbt : (b.toNat : Int) = 16 * v1 + v2 := by
                        rw [hbb, UInt8.toNat_ofNat']
                        omega
                      have hqq : Q = qGo f' (s.data.toList.drop (k + 4)) (out ++ [b]) (k + 4 - i) := by
                        rw [HQ.out, q_go (b := b) (m := 4) (by decide) (HM.out.trans ((if_neg (by omega)).trans (by rw [hbb]))) (by decide), show k - i + 4 = k + 4 - i by omega]; rfl
                      have hvr : 0 ≤ 16 * v1 + v2 ∧ 16 * v1 + v2 ≤ 255 := by omega
                      have HQQ := Lib.hid hqq; have HBT := Lib.hid hbt
                      have ew1 : IntKind.i64.wrap ((k : Int) + 2 + 1) = (k : Int) + 2 + 1 := IntWalk.i64_in _ (by omega)
                      have ew4 : IntKind.i64.wrap (16 * v1) = 16 * v1 := IntWalk.i64_in _ (by omega)
                      have ew5 : IntKind.i64.wrap (16 * v1 + v2) = 16 * v1 + v2 := IntWalk.i64_in _ (by omega)
                      have ew6 : IntKind.u8.wrap (16 * v1 + v2) = 16 * v1 + v2 := by
                        have : IntKind.u8.wrap (16 * v1 + v2) = (16 * v1 + v2) % 256 := rfl
                        rw [this]; omega
                      have e7 : ((k : Int) + 2 + 1).toNat = k + 2 + 1 := by omega
                      have e8 : ((k : Int) + 2).toNat = k + 2 := by omega
                      have e9 : (0 : Int) ≤ (k : Int) + 2 + 1 := by omega
                      have e10 : (0 : Int) ≤ (k : Int) + 2 := by omega
                      clear hqq hbt hbb p1 p2 hv1 hv2
                      go_wp2_with fail
                      refine (HH1.out _).mono ?_
                      rintro e0 w1 ⟨rfl, rfl⟩
                      go_wp2_with fail
                      refine (HH2.out _).mono ?_
                      rintro e0 w1 ⟨rfl, rfl⟩
                      go_wp2_with fail
                      have hq1 : Calls Tryd.prog 78 #[.int .u8 ((s[k + 2]'(by omega)).toNat : Int)] wr.drew fun e w'' => e = .returned (.int .i64 v1) ∧ w'' = wr.drew := (HH1.out wr.drew).mono fun e w' h => ⟨h.1, h.2.symm⟩
                      have hq2 : Calls Tryd.prog 78 #[.int .u8 ((s[k + 2 + 1]'(by omega)).toNat : Int)] wr.drew fun e w'' => e = .returned (.int .i64 v2) ∧ w'' = wr.drew := (HH2.out wr.drew).mono fun e w' h => ⟨h.1, h.2.symm⟩
                      have HQ1 := Lib.hid hq1; have HQ2 := Lib.hid hq2
                      clear hq1 hq2
                      go_upto_region 21 with fail
                      go_cut [6] (fun s6 wx => Bys W0.heap.size (out ++ [b]) wx s6 ∧ Below W0.heap.size W0 wx)
                      case first =>
                        go_wp2_with fail
                        refine chain_region (fun _ => True) 16 (by kernel_rfl) ?_
                        refine T_take (i := 0) (v := u6) rfl (by kernel_rfl) (fun _ _ _ h => h) rfl (fun W _ => by go_simp) trivial ?_
                        refine T_take (i := 1) (v := .string s) rfl (by kernel_rfl) (fun _ _ _ h => h) rfl (fun W _ => by go_simp) trivial ?_
                        refine T_take (i := 2) (v := .int .i64 ((k : Int) + 2)) rfl (by kernel_rfl) (fun _ _ _ h => h) rfl (fun W _ => by go_simp) trivial ?_
                        refine T_take (i := 3) (v := .int .u8 ((s[k + 2]'(by omega)).toNat : Int)) rfl (by kernel_rfl) (fun _ _ _ h => h) rfl (fun W _ => by go_simp) trivial ?_
                        refine T_take (i := 6) (v := .string s) rfl (by kernel_rfl) (fun _ _ _ h => h) rfl (fun W _ => by go_simp) trivial ?_
                        refine T_take (i := 7) (v := .int .i64 ((k : Int) + 2)) rfl (by kernel_rfl) (fun _ _ _ h => h) rfl (fun W _ => by go_simp) trivial ?_
                        refine T_take (i := 8) (v := .int .i64 ((k : Int) + 2 + 1)) rfl (by kernel_rfl) (fun _ _ _ h => h) rfl (fun W _ => by go_simp) trivial ?_
                        refine T_take (i := 9) (v := .int .u8 ((s[k + 2 + 1]'(by omega)).toNat : Int)) rfl (by kernel_rfl) (fun _ _ _ h => h) rfl (fun W _ => by go_simp) trivial ?_
                        refine T_one (i := 4) rfl (by kernel_rfl) rfl ?_
                        refine op_callT #[.int .u8 ((s[k + 2]'(by omega)).toNat : Int)] (by simp [go_sem]) (enters_of Tryd.func78 (by kernel_rfl) rfl _ _) HQ1.out ?_
                        rintro e0 w1 ⟨rfl, rfl⟩
                        refine ⟨_, rfl, fun _ => trivial, ?_⟩
                        refine T_take (i := 5) (v := .int .i64 (16 * v1)) rfl (by kernel_rfl) (fun _ _ _ h => h) rfl (fun W _ => by go_simp) trivial ?_
                        refine T_one (i := 10) rfl (by kernel_rfl) rfl ?_
                        refine op_callT #[.int .u8 ((s[k + 2 + 1]'(by omega)).toNat : Int)] (by simp [go_sem]) (enters_of Tryd.func78 (by kernel_rfl) rfl _ _) HQ2.out ?_
                        rintro e0 w1 ⟨rfl, rfl⟩
                        refine ⟨_, rfl, fun _ => trivial, ?_⟩
                        refine T_take (i := 11) (v := .int .i64 (16 * v1 + v2)) rfl (by kernel_rfl) (fun _ _ _ h => h) rfl (fun W _ => by go_simp) trivial ?_
                        refine T_take (i := 12) (v := .int .u8 (16 * v1 + v2)) rfl (by kernel_rfl) (fun _ _ _ h => h) rfl (fun W _ => by go_simp) trivial ?_
                        refine T_one (i := 13) rfl (by kernel_rfl) rfl ?_
                        go_simp
                        try refine ⟨fun _ => trivial, ?_⟩
                        refine T_one (i := 14) rfl (by kernel_rfl) rfl ?_
                        refine op_bys _ rfl _ _ rfl W0.heap.size out [b] _ rfl ((HY.out : Bys _ _ wr.drew _).alloc _) wr.heap.size 1 rfl (by have := Blk.new wr.drew 5 #[.int .u8 (16 * v1 + v2)]; rw [← HBT.out] at this ⊢; exact this) (by simp only [List.length_cons, List.length_nil]; omega) (by have := HU.out.size; simp; omega) ?_
                        intro v3 w3 hy3 hb3
                        have HY3 := Lib.hid hy3; have HB3 := Lib.hid ((HU.out.drew.alloc (by have := HU.out.size; simp; omega) _).trans hb3)
                        clear hy3 hb3
                        refine ⟨fun _ => trivial, ?_⟩
                        refine T_one (i := 15) rfl (by kernel_rfl) rfl ?_
                        go_simp
                        try refine ⟨fun _ => trivial, ?_⟩
                        refine T_done (by kernel_rfl) ?_
                        go_wp2_with fail
                        go_meet
                        exact ⟨HY3.out, HB3.out⟩
                      case rest =>
                        obtain ⟨hy3, hb3⟩ := hcut
                        have HY3 := Lib.hid hy3; have HB3 := Lib.hid hb3
                        clear hy3 hb3
                        go_wp2_with fail
                        go_roundg (s.size + 1 - (k + 4))
                        case measure => have := HG.out; omega
                        case rel => exact ⟨k + 4, f', out ++ [b], by omega, by omega, rfl, by go_num, HY3.out, by rw [List.length_append, List.length_singleton]; omega, by omega, HQQ.out, HB3.out⟩
                · have hk3z : ¬ (k : Int) + 2 + 1 < (s.size : Int) := by omega
                  have hres : R = (no, 4) := HRN.out (by rw [HQ.out]; exact q_bad (by decide) (m_short _ (by rw [List.length_drop, ← size_list]; omega)) _ _ _)
                  have HRES := Lib.hid hres
                  clear hres
                  go_wp2_with fail
                  refine bodyPost_ret (retG Tryd.results57 rfl rfl HBK.out.store3) rfl ⟨congrArg Ending.returned (at_err (er := 4) (by rw [HRES.out]) (by decide)), below3 HB.out (Nat.le_refl _) _ _ _⟩
              · have hres : R = (no, 4) := HRN.out (by rw [HQ.out]; exact q_bad (by decide) (m_other _ e34 e92 e110 e116 e120) _ _ _)
                have HRES := Lib.hid hres
                obtain ⟨g34, g34'⟩ := byte_ne (z := 34) rfl e34
                obtain ⟨g92, g92'⟩ := byte_ne (z := 92) rfl e92
                obtain ⟨g110, g110'⟩ := byte_ne (z := 110) rfl e110
                obtain ⟨g116, g116'⟩ := byte_ne (z := 116) rfl e116
                obtain ⟨g120, g120'⟩ := byte_ne (z := 120) rfl e120
                rw [← hdz] at g34 g34' g92 g92' g110 g110' g116 g116' g120 g120'
                clear hres hdz e34 e92 e110 e116 e120
                go_wp2_with fail
                refine bodyPost_ret (retG Tryd.results57 rfl rfl HBK.out.store3) rfl ⟨congrArg Ending.returned (at_err (er := 4) (by rw [HRES.out]) (by decide)), below3 HB.out (Nat.le_refl _) _ _ _⟩
            · have hk1z : (s.size : Int) ≤ (k : Int) + 1 := by omega
              have hnil : s.data.toList.drop (k + 1) = [] := List.drop_eq_nil_iff.2 (by rw [← size_list]; omega)
              have hres : R = (no, 4) := HRN.out (by rw [HQ.out, hnil]; exact q_bad (by decide) rfl _ _ _)
              have HRES := Lib.hid hres
              clear hres hnil
              go_wp2_with fail
              refine bodyPost_ret (retG Tryd.results57 rfl rfl HBK.out.store3) rfl ⟨congrArg Ending.returned (at_err (er := 4) (by rw [HRES.out]) (by decide)), below3 HB.out (Nat.le_refl _) _ _ _⟩
          · obtain ⟨n92, n92'⟩ := byte_ne (z := 92) rfl h92
            rw [← hcz] at n92 n92'
            have hm := m_self (c := c) (s.data.toList.drop (k + 1)) ⟨by omega, by omega, by omega, by omega⟩
            have hqq : Q = qGo f' (s.data.toList.drop (k + 1)) (out ++ [c]) (k + 1 - i) := by
              rw [HQ.out, q_go h34 hm (by decide), show k - i + 1 = k + 1 - i by omega]; rfl
            have HQQ := Lib.hid hqq
            have HCZ := Lib.hid hcz
            clear hm hqq hctl h34 h92 hcz
            go_wp2_with (at_builtin; refine wpList_bys _ rfl _ _ rfl W0.heap.size out [c] _ rfl (HY.out.alloc _) wr.heap.size 1 rfl (by have := Blk.new wr 5 #[.int .u8 (s[k].toNat : Int)]; rw [HCZ.out] at this ⊢; exact this) (by simp only [List.length_cons, List.length_nil]; omega) (by have := HU.out.size; simp; omega) ?_; intro v3 w3 hy3 hb3; have HY3 := Lib.hid hy3; have HB3 := Lib.hid ((HU.out.alloc (by have := HU.out.size; omega) _).trans hb3); clear hy3 hb3)
            go_roundg (s.size + 1 - (k + 1))
            case measure => have := HG.out; omega
            case rel => exact ⟨k + 1, f', out ++ [c], by omega, by omega, rfl, by go_num, HY3.out, by rw [List.length_append, List.length_singleton]; omega, by omega, HQQ.out, HB3.out⟩
    · obtain rfl : k = s.size := by omega
      have hkz : ¬ (s.size : Int) < (s.size : Int) := by omega
      have hnil : s.data.toList.drop s.size = [] := List.drop_eq_nil_iff.2 (by rw [← size_list]; exact Nat.le_refl _)
      have hres : R = (no, 4) := HRN.out (by rw [hq, hnil]; rfl)
      have HRES := Lib.hid hres
      clear hres hnil hq
      go_wp2_with fail
      refine bodyPost_ret (retG Tryd.results57 rfl rfl HBK.out.store3) rfl ⟨congrArg Ending.returned (at_err (er := 4) (by rw [HRES.out]) (by decide)), below3 HB.out (Nat.le_refl _) _ _ _⟩
end Go.Proofs.YteppdnlchjpekaaDoor
