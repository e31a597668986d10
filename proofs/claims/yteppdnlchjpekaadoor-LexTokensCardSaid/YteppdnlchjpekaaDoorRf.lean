/- The document's own answer at a place that begins with a letter, a digit or _. -/
import Derived.Test.YteppdnlchjpekaaDoorRc
namespace Go.Proofs.YteppdnlchjpekaaDoor
open Go.RowKit Lx
open Go
attribute [local go_sem] Oper.semAt_some

theorem at_shape (i : Nat) (x : Fnd × Nat) : ∃ (a b : Int) (S : ByteArray) (er : Int), atV i x = .tuple #[.agg #[.int .u8 a, .int .i64 b, .string S], .int .i64 er] := by
  unfold atV
  split
  · exact ⟨_, _, _, _, rfl⟩
  · exact ⟨_, _, _, _, rfl⟩
theorem cls (c : UInt8) : (lowB c = true → digB c = false ∧ uppB c = false) ∧ (digB c = true → lowB c = false ∧ uppB c = false) ∧ (uppB c = true → lowB c = false ∧ digB c = false) := by
  unfold lowB digB uppB
  simp only [decide_eq_true_eq, decide_eq_false_iff_not]
  omega
set_option maxRecDepth 100000 in
set_option maxHeartbeats 4000000 in
theorem rat_low (s : ByteArray) (hs : s.size ≤ 100000) (i : Nat) (hi : i < s.size) (hc : lowB s[i] = true) (w : World) :
    Calls Tryd.prog 28 #[.string s, .int .i64 (i : Int)] w fun e w' => e = .returned (atV i (fFirst (s.data.toList.drop i))) ∧ Below w.heap.size w w' := by
  have hmax : maxLen = 9223372036854775807 := rfl
  have hbk := Blk.new w 69 #[.int .u8 0, .int .i64 0, .string ⟨#[]⟩]
  have hb0 : Below w.heap.size w (w.alloc (.cells #[.int .u8 0, .int .i64 0, .string ⟨#[]⟩] 69)) := (Below.refl _ _).alloc (Nat.le_refl _) _
  have HBK0 := Lib.hid hbk; have HB0 := Lib.hid hb0
  have hiz : (i : Int) < (s.size : Int) := by omega
  clear hbk hb0
  obtain ⟨a, b, S, er, hv⟩ := at_shape i (fFirst (s.data.toList.drop i))
  have HL := Lib.hid (fun W => rlow_c s[i] W)
  rw [hc] at HL
  have HN := Lib.hid (fun W => rname_c s hs i hi hc W)
  rw [hv] at HN ⊢
  clear hv hc
  go_enter Tryd.func28, Tryd.ntmps28
  go_wp2_with fail
  refine (HL.out _).mono ?_
  rintro e0 w0 ⟨rfl, rfl⟩
  go_wp2_with fail
  refine (HN.out _).mono ?_
  rintro e0 w1 ⟨rfl, hb1⟩
  have HBK := Lib.hid (HBK0.out.below hb1 HBK0.out.lt); have HB := Lib.hid (HB0.out.trans (hb1.mono (by simp)))
  clear hb1
  have d0 := HBK.out.cell 0; have d1 := HBK.out.cell 1; have d2 := HBK.out.cell 2; have z0 := HBK.out.frozen 0; have z1 := HBK.out.frozen 1; have z2 := HBK.out.frozen 2
  simp at d0 d1 d2
  go_wp2_with fail
  refine bodyPost_ret (retG Tryd.results28 rfl rfl HBK.out.store3) rfl ⟨rfl, below3 HB.out (Nat.le_refl _) _ _ _⟩
set_option maxRecDepth 100000 in
set_option maxHeartbeats 4000000 in
theorem rat_digit (s : ByteArray) (hs : s.size ≤ 100000) (i : Nat) (hi : i < s.size) (hc : digB s[i] = true) (w : World) :
    Calls Tryd.prog 28 #[.string s, .int .i64 (i : Int)] w fun e w' => e = .returned (atV i (fFirst (s.data.toList.drop i))) ∧ Below w.heap.size w w' := by
  have hmax : maxLen = 9223372036854775807 := rfl
  have hbk := Blk.new w 69 #[.int .u8 0, .int .i64 0, .string ⟨#[]⟩]
  have hb0 : Below w.heap.size w (w.alloc (.cells #[.int .u8 0, .int .i64 0, .string ⟨#[]⟩] 69)) := (Below.refl _ _).alloc (Nat.le_refl _) _
  have HBK0 := Lib.hid hbk; have HB0 := Lib.hid hb0
  have hiz : (i : Int) < (s.size : Int) := by omega
  clear hbk hb0
  obtain ⟨a, b, S, er, hv⟩ := at_shape i (fFirst (s.data.toList.drop i))
  obtain ⟨_, h2, _⟩ := cls s[i]
  have HL := Lib.hid (fun W => rlow_c s[i] W)
  rw [(h2 hc).1] at HL
  have HD := Lib.hid (fun W => rdigit_c s[i] W)
  rw [hc] at HD
  have HN := Lib.hid (fun W => rnumber_c s hs i hi hc W)
  rw [hv] at HN ⊢
  clear hv hc h2
  go_enter Tryd.func28, Tryd.ntmps28
  go_wp2_with fail
  refine (HL.out _).mono ?_
  rintro e0 w0 ⟨rfl, rfl⟩
  go_wp2_with fail
  refine (HD.out _).mono ?_
  rintro e0 w0 ⟨rfl, rfl⟩
  go_wp2_with fail
  refine (HN.out _).mono ?_
  rintro e0 w1 ⟨rfl, hb1⟩
  have HBK := Lib.hid (HBK0.out.below hb1 HBK0.out.lt); have HB := Lib.hid (HB0.out.trans (hb1.mono (by simp)))
  clear hb1
  have d0 := HBK.out.cell 0; have d1 := HBK.out.cell 1; have d2 := HBK.out.cell 2; have z0 := HBK.out.frozen 0; have z1 := HBK.out.frozen 1; have z2 := HBK.out.frozen 2
  simp at d0 d1 d2
  go_wp2_with fail
  refine bodyPost_ret (retG Tryd.results28 rfl rfl HBK.out.store3) rfl ⟨rfl, below3 HB.out (Nat.le_refl _) _ _ _⟩
set_option maxRecDepth 100000 in
set_option maxHeartbeats 4000000 in
theorem rat_upper (s : ByteArray) (hs : s.size ≤ 100000) (i : Nat) (hi : i < s.size) (hc : uppB s[i] = true) (w : World) :
    Calls Tryd.prog 28 #[.string s, .int .i64 (i : Int)] w fun e w' => e = .returned (atV i (fFirst (s.data.toList.drop i))) ∧ Below w.heap.size w w' := by
  have hmax : maxLen = 9223372036854775807 := rfl
  have hbk := Blk.new w 69 #[.int .u8 0, .int .i64 0, .string ⟨#[]⟩]
  have hb0 : Below w.heap.size w (w.alloc (.cells #[.int .u8 0, .int .i64 0, .string ⟨#[]⟩] 69)) := (Below.refl _ _).alloc (Nat.le_refl _) _
  have HBK0 := Lib.hid hbk; have HB0 := Lib.hid hb0
  have hiz : (i : Int) < (s.size : Int) := by omega
  clear hbk hb0
  obtain ⟨_, _, h3⟩ := cls s[i]
  have HL := Lib.hid (fun W => rlow_c s[i] W)
  rw [(h3 hc).1] at HL
  have HD := Lib.hid (fun W => rdigit_c s[i] W)
  rw [(h3 hc).2] at HD
  have HH := Lib.hid (fun W => rhigh_c s[i] W)
  rw [hc] at HH
  have hszl := size_list s
  obtain ⟨e, he⟩ : ∃ e, e = i + (lead (s.data.toList.drop i)).length := ⟨_, rfl⟩
  have hll := lead_len (s.data.toList.drop i)
  rw [List.length_drop] at hll
  have hes : e ≤ s.size := by omega
  have hie : i ≤ e := by omega
  have HE := Lib.hid (fun W => rend_c s hs i (by omega) W)
  rw [← he] at HE
  have ht1 : (s.extract i e).data.toList = lead (s.data.toList.drop i) := by rw [mid_list s i e hie hes, he, Nat.add_sub_cancel_left, lead_take]
  have ha : (lead (s.data.toList.drop i)).length = e - i := by omega
  obtain ⟨R, hR⟩ : ∃ R, R = fFirst (s.data.toList.drop i) := ⟨_, rfl⟩
  have hf : R = ((3, lead (s.data.toList.drop i), e - i), if 32 < e - i then 63 else 0) := by
    rw [hR, ← ha, drop_at s i hi]; exact at_var hc
  rw [← hR]
  have n34 : ¬ (s[i].toNat : Int) = 34 := fun h => by
    unfold uppB at hc
    have := of_decide_eq_true hc
    omega
  have n34' : ((s[i].toNat : Int) == 34) = false := by rw [beq_eq_false_iff_ne]; exact n34
  have HF := Lib.hid hf; have HT1 := Lib.hid ht1
  have hcs : (32 : Int) < (e : Int) - (i : Int) ∨ ¬ (32 : Int) < (e : Int) - (i : Int) := by omega
  have d0 := HBK0.out.cell 0; have d1 := HBK0.out.cell 1; have d2 := HBK0.out.cell 2; have z0 := HBK0.out.frozen 0; have z1 := HBK0.out.frozen 1; have z2 := HBK0.out.frozen 2
  simp at d0 d1 d2
  clear hf ht1 hR ha hll he hszl h3 hc
  rcases hcs with h32 | h32
  · go_enter Tryd.func28, Tryd.ntmps28
    go_wp2_with fail
    refine (HL.out _).mono ?_
    rintro e0 w0 ⟨rfl, rfl⟩
    go_wp2_with fail
    refine (HD.out _).mono ?_
    rintro e0 w0 ⟨rfl, rfl⟩
    go_wp2_with fail
    refine (HH.out _).mono ?_
    rintro e0 w0 ⟨rfl, rfl⟩
    go_wp2_with fail
    refine (HE.out _).mono ?_
    rintro e0 w0 ⟨rfl, rfl⟩
    go_wp2_with fail
    refine bodyPost_ret (retG Tryd.results28 rfl rfl (Blk.new _ _ _)) rfl ⟨congrArg Ending.returned (at_err (er := 63) (by rw [HF.out]; dsimp only; rw [if_pos (by omega)]) (by decide)), HB0.out⟩
  · go_enter Tryd.func28, Tryd.ntmps28
    go_wp2_with fail
    refine (HL.out _).mono ?_
    rintro e0 w0 ⟨rfl, rfl⟩
    go_wp2_with fail
    refine (HD.out _).mono ?_
    rintro e0 w0 ⟨rfl, rfl⟩
    go_wp2_with fail
    refine (HH.out _).mono ?_
    rintro e0 w0 ⟨rfl, rfl⟩
    go_wp2_with fail
    refine (HE.out _).mono ?_
    rintro e0 w0 ⟨rfl, rfl⟩
    go_wp2_with fail
    refine bodyPost_ret (retG Tryd.results28 rfl rfl (Blk.new _ _ _)) rfl ⟨congrArg Ending.returned (at_ok (k := 3) HF.out (if_neg (by omega)) HT1.out (by omega)), (Below.refl _ _).alloc (Nat.le_refl _) _⟩
set_option maxRecDepth 100000 in
set_option maxHeartbeats 4000000 in
theorem rat_any (s : ByteArray) (hs : s.size ≤ 100000) (i : Nat) (hi : i < s.size) (hc : s[i] = 95) (w : World) :
    Calls Tryd.prog 28 #[.string s, .int .i64 (i : Int)] w fun e w' => e = .returned (atV i (fFirst (s.data.toList.drop i))) ∧ Below w.heap.size w w' := by
  have hmax : maxLen = 9223372036854775807 := rfl
  have hbk := Blk.new w 69 #[.int .u8 0, .int .i64 0, .string ⟨#[]⟩]
  have hb0 : Below w.heap.size w (w.alloc (.cells #[.int .u8 0, .int .i64 0, .string ⟨#[]⟩] 69)) := (Below.refl _ _).alloc (Nat.le_refl _) _
  have HBK0 := Lib.hid hbk; have HB0 := Lib.hid hb0
  have hiz : (i : Int) < (s.size : Int) := by omega
  clear hbk hb0
  have HL := Lib.hid (fun W => rlow_c s[i] W)
  rw [hc] at HL
  have HD := Lib.hid (fun W => rdigit_c s[i] W)
  rw [hc] at HD
  have HH := Lib.hid (fun W => rhigh_c s[i] W)
  rw [hc] at HH
  rw [show lowB 95 = false from rfl, show ((95 : UInt8).toNat : Int) = 95 from rfl] at HL
  rw [show digB 95 = false from rfl, show ((95 : UInt8).toNat : Int) = 95 from rfl] at HD
  rw [show uppB 95 = false from rfl, show ((95 : UInt8).toNat : Int) = 95 from rfl] at HH
  have hcz : (s[i].toNat : Int) = 95 := by rw [hc]; rfl
  have hszl := size_list s
  obtain ⟨e, he⟩ : ∃ e, e = i + (lead (s.data.toList.drop i)).length := ⟨_, rfl⟩
  have hll := lead_len (s.data.toList.drop i)
  rw [List.length_drop] at hll
  have hes : e ≤ s.size := by omega
  have hie : i ≤ e := by omega
  have HE := Lib.hid (fun W => rend_c s hs i (by omega) W)
  rw [← he] at HE
  obtain ⟨R, hR⟩ : ∃ R, R = fFirst (s.data.toList.drop i) := ⟨_, rfl⟩
  have hd := drop_at s i hi
  rw [hc] at hd
  have hf1 : ¬ i + 1 < e → R = ((4, [95], 1), 0) := fun h => by
    rw [hR, hd]; exact at_any (by rw [← hd]; omega)
  have hf2 : i + 1 < e → R = (no, 4) := fun h => by
    rw [hR, hd]; exact at_any_no (by rw [← hd]; omega)
  rw [← hR]
  have HF1 := Lib.hid hf1; have HF2 := Lib.hid hf2
  have hcs : (i : Int) + 1 < (e : Int) ∨ ¬ (i : Int) + 1 < (e : Int) := by omega
  have d0 := HBK0.out.cell 0; have d1 := HBK0.out.cell 1; have d2 := HBK0.out.cell 2; have z0 := HBK0.out.frozen 0; have z1 := HBK0.out.frozen 1; have z2 := HBK0.out.frozen 2
  simp at d0 d1 d2
  clear hf1 hf2 hR hll he hszl hd hc
  rcases hcs with h32 | h32
  · go_enter Tryd.func28, Tryd.ntmps28
    go_wp2_with fail
    refine (HL.out _).mono ?_
    rintro e0 w0 ⟨rfl, rfl⟩
    go_wp2_with fail
    refine (HD.out _).mono ?_
    rintro e0 w0 ⟨rfl, rfl⟩
    go_wp2_with fail
    refine (HH.out _).mono ?_
    rintro e0 w0 ⟨rfl, rfl⟩
    go_wp2_with fail
    refine (HE.out _).mono ?_
    rintro e0 w0 ⟨rfl, rfl⟩
    go_wp2_with fail
    refine bodyPost_ret (retG Tryd.results28 rfl rfl (Blk.new _ _ _)) rfl ⟨congrArg Ending.returned (at_err (er := 4) (by rw [HF2.out (by omega)]) (by decide)), HB0.out⟩
  · go_enter Tryd.func28, Tryd.ntmps28
    go_wp2_with fail
    refine (HL.out _).mono ?_
    rintro e0 w0 ⟨rfl, rfl⟩
    go_wp2_with fail
    refine (HD.out _).mono ?_
    rintro e0 w0 ⟨rfl, rfl⟩
    go_wp2_with fail
    refine (HH.out _).mono ?_
    rintro e0 w0 ⟨rfl, rfl⟩
    go_wp2_with fail
    refine (HE.out _).mono ?_
    rintro e0 w0 ⟨rfl, rfl⟩
    go_wp2_with fail
    refine bodyPost_ret (retG Tryd.results28 rfl rfl (Blk.new _ _ _)) rfl ⟨congrArg Ending.returned (at_ok (k := 4) (HF1.out (by omega)) rfl rfl (by omega)), (Below.refl _ _).alloc (Nat.le_refl _) _⟩
end Go.Proofs.YteppdnlchjpekaaDoor
