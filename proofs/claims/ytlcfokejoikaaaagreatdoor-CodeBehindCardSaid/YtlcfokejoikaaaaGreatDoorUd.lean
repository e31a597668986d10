/- Package code: a reader's number, count, truth value, digit, whatever the bytes. -/
import Derived.Test.YtlcfokejoikaaaaGreatDoorCk
import Derived.Test.YtlcfokejoikaaaaGreatDoorUb
namespace Go.Proofs.YtlcfokejoikaaaaGreatDoor
open Go.RowKit Cp Rm
open Go
attribute [local go_sem] Oper.semAt_some

/-- What is left if it did not fail. -/
def restO {α : Type} : Option (α × List UInt8) → List UInt8
  | some x => x.2
  | none => []
instance (c : UInt8) : Decidable (digB c) := by unfold digB; infer_instance
/-- Failed it? -/
def failO {α : Type} (f : Bool) : Option (α × List UInt8) → Bool
  | some _ => f
  | none => true
theorem wrap_bd (n : Int) : -9223372036854775808 ≤ RowKit.wrap64 n ∧ RowKit.wrap64 n ≤ 9223372036854775807 := by unfold RowKit.wrap64; omega
theorem xor_msk {x m : UInt8} : (x ^^^ m ^^^ m) = x := by rw [UInt8.xor_assoc, UInt8.xor_self, UInt8.xor_zero]

set_option maxRecDepth 100000 in
set_option maxHeartbeats 2000000 in
/-- Own bytes that are not there so. -/
theorem own_bad (p B k : Nat) (m : UInt8) (r : List UInt8) (f : Bool) (w : World) (hb : ¬ (k ≤ 8 ∧ k ≤ r.length ∧ (0 < k → HeadNot m r))) (h : Rdr p B r f w) :
    Calls Tryz.prog 83 #[.pointer (some ⟨p, 0, none⟩), .int .i64 (k : Int), .int .u8 (m.toNat : Int)] w fun e w' => Reads p B w (.int .u64 0) [] true e w' := by
  have HF := Lib.hid fun w1 (h1 : Rdr p B r f w1) => fail_c p B r f w1 h1
  have H := Lib.hid h
  obtain ⟨A, c, h1, h2, h3, h4, h5⟩ := h
  have c0 := h1.cell0
  obtain ⟨n, hn⟩ : ∃ n, r.length = n := ⟨_, rfl⟩
  rw [hn] at c0 h2 hb
  by_cases hk8 : (8 : Int) < (k : Int)
  · clear h1 h4 hb hn h2
    go_enter Tryz.func83, Tryz.ntmps83
    go_wp2_with fail
    refine (HF.out _ H.out).mono ?_
    rintro e w1 ⟨rfl, hr, hg⟩
    have HR := Lib.hid hr; have HG := Lib.hid hg
    clear hr hg
    go_wp2_with fail
    go_ret
    exact ⟨rfl, HR.out, HG.out⟩
  by_cases hkn : (n : Int) < (k : Int)
  · clear h1 h4 hb hn h2
    go_enter Tryz.func83, Tryz.ntmps83
    go_wp2_with fail
    refine (HF.out _ H.out).mono ?_
    rintro e w1 ⟨rfl, hr, hg⟩
    have HR := Lib.hid hr; have HG := Lib.hid hg
    clear hr hg
    go_wp2_with fail
    go_ret
    exact ⟨rfl, HR.out, HG.out⟩
  have hk0 : 0 < k := by
    rcases Nat.eq_zero_or_pos k with h0 | h0
    · exact absurd ⟨by omega, by omega, fun h => by omega⟩ hb
    · exact h0
  cases r with
  | nil => simp at hn; omega
  | cons x r =>
  have hx : x = m := by
    by_cases hx : x = m
    · exact hx
    · exact absurd ⟨by omega, by omega, fun _ => hx⟩ hb
  subst hx
  obtain ⟨b, off, rfl, hb', hc⟩ := h4.at_ (k := 0) (by simp [Lib.byteCells])
  simp only [Nat.add_zero] at hc
  have hcx : w.cell? ⟨b, off, none⟩ = some (.int .u8 (x.toNat : Int)) := by rw [hc]; simp [Lib.byteCells]
  have hxz : ((x.toNat : Int) == (x.toNat : Int)) = true := by simp
  have hkp : (0 : Int) < (k : Int) := by omega
  have hn0 : 0 < n := by omega
  clear h1 h4 hb hn hc hk0
  go_enter Tryz.func83, Tryz.ntmps83
  go_wp2_with fail
  refine (HF.out _ H.out).mono ?_
  rintro e w1 ⟨rfl, hr, hg⟩
  have HR := Lib.hid hr; have HG := Lib.hid hg
  clear hr hg
  go_wp2_with fail
  go_ret
  exact ⟨rfl, HR.out, HG.out⟩

set_option maxRecDepth 100000 in
set_option maxHeartbeats 2000000 in
/-- Behind the end no own bytes are asked. -/
theorem own_neg (p B : Nat) (f : Bool) (w : World) (h : Rdr p B [] f w) :
    Calls Tryz.prog 83 #[.pointer (some ⟨p, 0, none⟩), .int .i64 (-128), .int .u8 0] w fun e w' => Reads p B w (.int .u64 0) [] f e w' := by
  have H := Lib.hid h
  obtain ⟨A, c, h1, h2, h3, h4, h5⟩ := h
  have c0 := h1.cell0
  simp only [List.length_nil] at c0
  clear h1 h4 h2 h3
  go_enter Tryz.func83, Tryz.ntmps83
  go_wp2_with fail
  go_loopg [7, 36] 1 (fun gg s7 s36 wr => gg = 1 ∧ s36 = .int .i64 0 ∧ s7 = .int .u64 0 ∧ wr = w)
  case atStart => exact ⟨rfl, rfl, rfl, rfl⟩
  case round =>
    obtain ⟨rfl, rfl, rfl, rfl⟩ := hrel
    go_wp2_with fail
    go_ret
    exact ⟨rfl, H.out, grown_refl _ p⟩

theorem own_all (p B k : Nat) (m : UInt8) (hm : Msk m) (r : List UInt8) (f : Bool) (w : World) (h : Rdr p B r f w) :
    Calls Tryz.prog 83 #[.pointer (some ⟨p, 0, none⟩), .int .i64 (k : Int), .int .u8 (m.toNat : Int)] w fun e w' => Reads p B w (.int .u64 (((ownG k m r).map fun x => x.1).getD 0 : Nat)) (restO (ownG k m r)) (failO f (ownG k m r)) e w' := by
  by_cases hc : k ≤ 8 ∧ k ≤ r.length ∧ (0 < k → HeadNot m r)
  · have hg : ownG k m r = some (vbe (xm m (r.take k)), r.drop k) := by
      unfold ownG
      by_cases hk : k = 0
      · subst hk; rw [if_pos rfl]; rfl
      · rw [if_neg hk, if_pos ⟨hc.1, hc.2.1, hc.2.2 (by omega)⟩]
    rw [hg]
    exact own_ok p B k m hm r f w hc.1 hc.2.1 hc.2.2 h
  · have hg : ownG k m r = none := by
      unfold ownG
      by_cases hk : k = 0
      · exact absurd ⟨by omega, by omega, fun h => by omega⟩ hc
      · rw [if_neg hk, if_neg fun h => hc ⟨h.1, h.2.1, fun _ => h.2.2⟩]
    rw [hg]
    exact own_bad p B k m r f w hc h

theorem own_lt (k : Nat) (m : UInt8) (r : List UInt8) : (((ownG k m r).map fun x => x.1).getD 0 : Nat) < 18446744073709551616 := by
  cases hq : ownG k m r with
  | none => simp
  | some y =>
    obtain ⟨n, r'⟩ := y
    obtain ⟨k1, k2, k3⟩ := own_canon' hq
    have : n < 256 ^ k := by
      unfold ownG at hq
      split at hq
      · rename_i h0
        injection hq with hq; injection hq with hq
        rw [h0, ← hq]; decide
      · split at hq
        · rename_i hc
          injection hq with hq; injection hq with hq
          rw [← hq]
          have := vbe_lt (xm m (r.take k))
          rw [xm_len, List.length_take] at this
          rwa [Nat.min_eq_left hc.2.1] at this
        · cases hq
    exact Nat.lt_of_lt_of_le this (pow_lt8 k3)
set_option maxRecDepth 100000 in
set_option maxHeartbeats 2000000 in
theorem num_walk (p B k n : Nat) (m x : UInt8) (hmx : (x.toNat < 128 ∧ m = 255) ∨ (¬ x.toNat < 128 ∧ m = 0)) (r r' : List UInt8) (f f' : Bool) (w : World) (hx : (x ^^^ m).toNat = k + 128) (hk : k ≤ 300) (hn : n < 18446744073709551616)
    (ho : ∀ w1, Rdr p B r f w1 → Calls Tryz.prog 83 #[.pointer (some ⟨p, 0, none⟩), .int .i64 (k : Int), .int .u8 (m.toNat : Int)] w1 fun e w' => Reads p B w1 (.int .u64 (n : Int)) r' f' e w') (h : Rdr p B (x :: r) f w) :
    Calls Tryz.prog 48 #[.pointer (some ⟨p, 0, none⟩)] w fun e w' => (n ≤ 9223372036854775807 → Reads p B w (.int .i64 (if x.toNat < 128 then -1 - (n : Int) else (n : Int))) r' f' e w') ∧ (¬ n ≤ 9223372036854775807 → ∃ z : Int, Reads p B w (.int .i64 z) [] true e w' ∧ -9223372036854775808 ≤ z ∧ z ≤ 9223372036854775807) := by
  have hm : Msk m := by
    rcases hmx with ⟨_, h⟩ | ⟨_, h⟩
    · exact .inr h
    · exact .inl h
  have hmk := mask_c p B (x :: r) f w h
  have HN := Lib.hid (next_cons p B m hm x r f w h)
  rw [hx] at HN
  have HO := Lib.hid ho
  have HF := Lib.hid fun w1 (h1 : Rdr p B r' f' w1) => fail_c p B r' f' w1 h1
  by_cases hn1 : n ≤ 9223372036854775807
  · have hnz : ¬ (9223372036854775807 : Int) < (n : Int) := by omega
    rcases hmx with ⟨h1, rfl⟩ | ⟨h1, rfl⟩
    · simp only [if_pos h1] at hmk ⊢
      have HM := Lib.hid hmk
      clear h hx hmk h1 hm ho
      go_enter Tryz.func48, Tryz.ntmps48
      go_wp2_with fail
      refine HM.out.mono ?_
      rintro e w0 ⟨rfl, rfl⟩
      go_wp2_with fail
      refine HN.out.mono ?_
      rintro e w1 ⟨rfl, hr, hg⟩
      have HR := Lib.hid hr; have HG := Lib.hid hg
      clear hr hg
      go_wp2_with fail
      refine (HO.out _ HR.out).mono ?_
      rintro e w2 ⟨rfl, hr, hg⟩
      have HR2 := Lib.hid hr; have HG2 := Lib.hid (grown_trans HG.out hg)
      clear hr hg
      go_wp2_with fail
      go_ret
      exact ⟨fun _ => ⟨rfl, HR2.out, HG2.out⟩, fun h => absurd hn1 h⟩
    · simp only [if_neg h1] at hmk ⊢
      have HM := Lib.hid hmk
      clear h hx hmk h1 hm ho
      go_enter Tryz.func48, Tryz.ntmps48
      go_wp2_with fail
      refine HM.out.mono ?_
      rintro e w0 ⟨rfl, rfl⟩
      go_wp2_with fail
      refine HN.out.mono ?_
      rintro e w1 ⟨rfl, hr, hg⟩
      have HR := Lib.hid hr; have HG := Lib.hid hg
      clear hr hg
      go_wp2_with fail
      refine (HO.out _ HR.out).mono ?_
      rintro e w2 ⟨rfl, hr, hg⟩
      have HR2 := Lib.hid hr; have HG2 := Lib.hid (grown_trans HG.out hg)
      clear hr hg
      go_wp2_with fail
      go_ret
      exact ⟨fun _ => ⟨rfl, HR2.out, HG2.out⟩, fun h => absurd hn1 h⟩
  · have hnz : (9223372036854775807 : Int) < (n : Int) := by omega
    rcases hmx with ⟨h1, rfl⟩ | ⟨h1, rfl⟩
    · simp only [if_pos h1] at hmk ⊢
      have HM := Lib.hid hmk
      have HNN := Lib.hid hn1
      clear h hx hmk h1 hm ho hn1
      go_enter Tryz.func48, Tryz.ntmps48
      go_wp2_with fail
      refine HM.out.mono ?_
      rintro e w0 ⟨rfl, rfl⟩
      go_wp2_with fail
      refine HN.out.mono ?_
      rintro e w1 ⟨rfl, hr, hg⟩
      have HR := Lib.hid hr; have HG := Lib.hid hg
      clear hr hg
      go_wp2_with fail
      refine (HO.out _ HR.out).mono ?_
      rintro e w2 ⟨rfl, hr, hg⟩
      have HR2 := Lib.hid hr; have HG2 := Lib.hid (grown_trans HG.out hg)
      clear hr hg
      go_wp2_with fail
      refine (HF.out _ HR2.out).mono ?_
      rintro e w3 ⟨rfl, hr, hg⟩
      have HR3 := Lib.hid hr; have HG3 := Lib.hid (grown_trans HG2.out hg)
      clear hr hg
      go_wp2_with fail
      go_ret
      refine ⟨fun h => absurd h HNN.out, fun _ => ⟨_, ⟨rfl, HR3.out, HG3.out⟩, ?_⟩⟩
      exact wrap_bd _
    · simp only [if_neg h1] at hmk ⊢
      have HM := Lib.hid hmk
      have HNN := Lib.hid hn1
      clear h hx hmk h1 hm ho hn1
      go_enter Tryz.func48, Tryz.ntmps48
      go_wp2_with fail
      refine HM.out.mono ?_
      rintro e w0 ⟨rfl, rfl⟩
      go_wp2_with fail
      refine HN.out.mono ?_
      rintro e w1 ⟨rfl, hr, hg⟩
      have HR := Lib.hid hr; have HG := Lib.hid hg
      clear hr hg
      go_wp2_with fail
      refine (HO.out _ HR.out).mono ?_
      rintro e w2 ⟨rfl, hr, hg⟩
      have HR2 := Lib.hid hr; have HG2 := Lib.hid (grown_trans HG.out hg)
      clear hr hg
      go_wp2_with fail
      refine (HF.out _ HR2.out).mono ?_
      rintro e w3 ⟨rfl, hr, hg⟩
      have HR3 := Lib.hid hr; have HG3 := Lib.hid (grown_trans HG2.out hg)
      clear hr hg
      go_wp2_with fail
      go_ret
      refine ⟨fun h => absurd h HNN.out, fun _ => ⟨_, ⟨rfl, HR3.out, HG3.out⟩, ?_⟩⟩
      exact wrap_bd _

theorem numG_cons (x : UInt8) (r : List UInt8) : numG (x :: r) = match ownG ((x ^^^ maskX x).toNat - 128) (maskX x) r with
      | none => none
      | some (n, r') => if n ≤ 9223372036854775807 then some (if x.toNat < 128 then -1 - (n : Int) else (n : Int), r') else none := by
  unfold numG
  rw [bindG_of (a := x) (s := r) rfl]
  unfold bindG
  cases ownG ((x ^^^ maskX x).toNat - 128) (maskX x) r with
  | none => rfl
  | some y => unfold whenG; rfl
theorem countG_cons (most : Int) (m x : UInt8) (r : List UInt8) : countG most m (x :: r) = match ownG (x ^^^ m).toNat m r with
      | none => none
      | some (n, r') => if n ≤ 2147483647 ∧ (n : Int) ≤ most then some (n, r') else none := by
  unfold countG
  rw [bindG_of (a := x) (s := r) rfl]
  unfold bindG
  cases ownG (x ^^^ m).toNat m r with
  | none => rfl
  | some y => unfold whenG; rfl
theorem num_all (p B : Nat) (l : List UInt8) (f : Bool) (w : World) (h : Rdr p B l f w) :
    Calls Tryz.prog 48 #[.pointer (some ⟨p, 0, none⟩)] w fun e w' => ∃ z : Int, Reads p B w (.int .i64 z) (restO (numG l)) (failO f (numG l)) e w' ∧ (-9223372036854775808 ≤ z ∧ z ≤ 9223372036854775807) ∧ ∀ x, numG l = some x → z = x.1 := by
  cases l with
  | nil =>
    have HM := Lib.hid (mask_c p B [] f w h)
    have HN := Lib.hid (next_nil p B 0 f w h)
    have HO := Lib.hid fun w1 (h1 : Rdr p B [] true w1) => own_neg p B true w1 h1
    clear h
    go_enter Tryz.func48, Tryz.ntmps48
    go_wp2_with fail
    refine HM.out.mono ?_
    rintro e w0 ⟨rfl, rfl⟩
    go_wp2_with fail
    refine HN.out.mono ?_
    rintro e w1 ⟨rfl, hr, hg⟩
    have HR := Lib.hid hr; have HG := Lib.hid hg
    clear hr hg
    go_wp2_with fail
    refine (HO.out _ HR.out).mono ?_
    rintro e w2 ⟨rfl, hr, hg⟩
    have HR2 := Lib.hid hr; have HG2 := Lib.hid (grown_trans HG.out hg)
    clear hr hg
    go_wp2_with fail
    go_ret
    exact ⟨0, ⟨rfl, HR2.out, HG2.out⟩, ⟨by decide, by decide⟩, fun x hx => by cases hx⟩
  | cons x r =>
    have hmx : (x.toNat < 128 ∧ maskX x = 255) ∨ (¬ x.toNat < 128 ∧ maskX x = 0) := by
      rcases mask_two x with ⟨h1, h2⟩ | ⟨h1, h2⟩
      · exact .inr ⟨h2, h1⟩
      · exact .inl ⟨h2, h1⟩
    have hm : Msk (maskX x) := by
      rcases hmx with ⟨_, h⟩ | ⟨_, h⟩
      · exact .inr h
      · exact .inl h
    have hge : 128 ≤ (x ^^^ maskX x).toNat := by
      rcases hmx with ⟨h1, h2⟩ | ⟨h1, h2⟩
      · rw [h2]; exact num_canon.cflip x h1
      · rw [h2, UInt8.xor_zero]; omega
    have hlt := (x ^^^ maskX x).toNat_lt
    have hg := numG_cons x r
    have hn : (((ownG ((x ^^^ maskX x).toNat - 128) (maskX x) r).map fun x => x.1).getD 0 : Nat) < 18446744073709551616 := own_lt _ _ _
    refine (num_walk p B ((x ^^^ maskX x).toNat - 128) _ (maskX x) x hmx r _ f _ w (by omega) (by omega) hn (fun w1 h1 => own_all p B _ _ hm r f w1 h1) h).mono ?_
    rintro e w' ⟨h1, h2⟩
    rw [hg]
    clear hg hn
    cases hq : ownG ((x ^^^ maskX x).toNat - 128) (maskX x) r with
    | none =>
      rw [hq] at h1
      have h1' := h1 (by simp)
      refine ⟨_, h1', ?_, fun y hy => by cases hy⟩
      split <;> exact ⟨by decide, by decide⟩
    | some y =>
      obtain ⟨n, r'⟩ := y
      rw [hq] at h1 h2
      simp only [Option.map_some, Option.getD_some] at h1 h2
      by_cases hn1 : n ≤ 9223372036854775807
      · simp only [if_pos hn1]
        refine ⟨_, h1 hn1, ?_, fun y hy => congrArg Prod.fst (Option.some.inj hy)⟩
        split <;> omega
      · simp only [if_neg hn1]
        obtain ⟨z, hz, hb⟩ := h2 hn1
        exact ⟨z, hz, hb, fun y hy => by cases hy⟩

set_option maxRecDepth 100000 in
set_option maxHeartbeats 2000000 in
theorem count_walk (p B k n : Nat) (m x : UInt8) (hm : Msk m) (most : Int) (r r' : List UInt8) (f f' : Bool) (w : World) (hx : (x ^^^ m).toNat = k) (hk : k ≤ 300) (hn : n < 18446744073709551616)
    (ho : ∀ w1, Rdr p B r f w1 → Calls Tryz.prog 83 #[.pointer (some ⟨p, 0, none⟩), .int .i64 (k : Int), .int .u8 (m.toNat : Int)] w1 fun e w' => Reads p B w1 (.int .u64 (n : Int)) r' f' e w') (h : Rdr p B (x :: r) f w) :
    Calls Tryz.prog 59 #[.pointer (some ⟨p, 0, none⟩), .int .i64 most, .int .u8 (m.toNat : Int)] w fun e w' => (n ≤ 2147483647 ∧ (n : Int) ≤ most → Reads p B w (.int .i64 (n : Int)) r' f' e w') ∧ (¬ (n ≤ 2147483647 ∧ (n : Int) ≤ most) → Reads p B w (.int .i64 0) [] true e w') := by
  have HN := Lib.hid (next_cons p B m hm x r f w h)
  rw [hx] at HN
  have HO := Lib.hid ho
  have HF := Lib.hid fun w1 (h1 : Rdr p B r' f' w1) => fail_c p B r' f' w1 h1
  clear h ho hx
  by_cases hn1 : n ≤ 2147483647
  · have hnz : ¬ (2147483647 : Int) < (n : Int) := by omega
    by_cases hn2 : (n : Int) ≤ most
    · have hlt : ¬ most < (n : Int) := by omega
      go_enter Tryz.func59, Tryz.ntmps59
      go_wp2_with fail
      refine HN.out.mono ?_
      rintro e w1 ⟨rfl, hr, hg⟩
      have HR := Lib.hid hr; have HG := Lib.hid hg
      clear hr hg
      go_wp2_with fail
      refine (HO.out _ HR.out).mono ?_
      rintro e w2 ⟨rfl, hr, hg⟩
      have HR2 := Lib.hid hr; have HG2 := Lib.hid (grown_trans HG.out hg)
      clear hr hg
      go_wp2_with fail
      go_ret
      exact ⟨fun _ => ⟨rfl, HR2.out, HG2.out⟩, fun h => absurd ⟨hn1, hn2⟩ h⟩
    · have hlt : most < (n : Int) := by omega
      have HX := Lib.hid hn2
      clear hn2
      go_enter Tryz.func59, Tryz.ntmps59
      go_wp2_with fail
      refine HN.out.mono ?_
      rintro e w1 ⟨rfl, hr, hg⟩
      have HR := Lib.hid hr; have HG := Lib.hid hg
      clear hr hg
      go_wp2_with fail
      refine (HO.out _ HR.out).mono ?_
      rintro e w2 ⟨rfl, hr, hg⟩
      have HR2 := Lib.hid hr; have HG2 := Lib.hid (grown_trans HG.out hg)
      clear hr hg
      go_wp2_with fail
      refine (HF.out _ HR2.out).mono ?_
      rintro e w3 ⟨rfl, hr, hg⟩
      have HR3 := Lib.hid hr; have HG3 := Lib.hid (grown_trans HG2.out hg)
      clear hr hg
      go_wp2_with fail
      go_ret
      exact ⟨fun h => absurd h.2 (by have := HX.out; omega), fun _ => ⟨rfl, HR3.out, HG3.out⟩⟩
  · have hnz : (2147483647 : Int) < (n : Int) := by omega
    have HX := Lib.hid hn1
    clear hn1
    go_enter Tryz.func59, Tryz.ntmps59
    go_wp2_with fail
    refine HN.out.mono ?_
    rintro e w1 ⟨rfl, hr, hg⟩
    have HR := Lib.hid hr; have HG := Lib.hid hg
    clear hr hg
    go_wp2_with fail
    refine (HO.out _ HR.out).mono ?_
    rintro e w2 ⟨rfl, hr, hg⟩
    have HR2 := Lib.hid hr; have HG2 := Lib.hid (grown_trans HG.out hg)
    clear hr hg
    go_wp2_with fail
    refine (HF.out _ HR2.out).mono ?_
    rintro e w3 ⟨rfl, hr, hg⟩
    have HR3 := Lib.hid hr; have HG3 := Lib.hid (grown_trans HG2.out hg)
    clear hr hg
    go_wp2_with fail
    go_ret
    exact ⟨fun h => absurd h.1 (by have := HX.out; omega), fun _ => ⟨rfl, HR3.out, HG3.out⟩⟩

set_option maxRecDepth 100000 in
set_option maxHeartbeats 2000000 in
theorem count_end (p B : Nat) (m : UInt8) (hm : Msk m) (most : Int) (f : Bool) (w : World) (h : Rdr p B [] f w) :
    Calls Tryz.prog 59 #[.pointer (some ⟨p, 0, none⟩), .int .i64 most, .int .u8 (m.toNat : Int)] w fun e w' => Reads p B w (.int .i64 0) [] true e w' := by
  have HN := Lib.hid (next_nil p B m f w h)
  have HO := Lib.hid fun w1 (h1 : Rdr p B [] true w1) => own_ok p B 0 m hm [] true w1 (by omega) (Nat.le_refl _) (fun h => absurd h (Nat.lt_irrefl 0)) h1
  have HF := Lib.hid fun w1 (h1 : Rdr p B [] true w1) => fail_c p B [] true w1 h1
  have e0 : vbe (xm m (([] : List UInt8).take 0)) = 0 := rfl
  rw [e0] at HO
  clear h e0 hm
  by_cases hlt : most < 0
  · go_enter Tryz.func59, Tryz.ntmps59
    go_wp2_with fail
    refine HN.out.mono ?_
    rintro e w1 ⟨rfl, hr, hg⟩
    have HR := Lib.hid hr; have HG := Lib.hid hg
    clear hr hg
    go_wp2_with fail
    refine (HO.out _ HR.out).mono ?_
    rintro e w2 ⟨rfl, hr, hg⟩
    have HR2 := Lib.hid hr; have HG2 := Lib.hid (grown_trans HG.out hg)
    clear hr hg
    go_wp2_with fail
    refine (HF.out _ HR2.out).mono ?_
    rintro e w3 ⟨rfl, hr, hg⟩
    have HR3 := Lib.hid hr; have HG3 := Lib.hid (grown_trans HG2.out hg)
    clear hr hg
    go_wp2_with fail
    go_ret
    exact ⟨rfl, HR3.out, HG3.out⟩
  · go_enter Tryz.func59, Tryz.ntmps59
    go_wp2_with fail
    refine HN.out.mono ?_
    rintro e w1 ⟨rfl, hr, hg⟩
    have HR := Lib.hid hr; have HG := Lib.hid hg
    clear hr hg
    go_wp2_with fail
    refine (HO.out _ HR.out).mono ?_
    rintro e w2 ⟨rfl, hr, hg⟩
    have HR2 := Lib.hid hr; have HG2 := Lib.hid (grown_trans HG.out hg)
    clear hr hg
    go_wp2_with fail
    go_ret
    exact ⟨rfl, HR2.out, HG2.out⟩
/-- The number that is told: none, if it failed. -/
def natO : Option (Nat × List UInt8) → Nat
  | some x => x.1
  | none => 0
theorem count_all (p B : Nat) (most : Int) (m : UInt8) (hm : Msk m) (l : List UInt8) (f : Bool) (w : World) (h : Rdr p B l f w) :
    Calls Tryz.prog 59 #[.pointer (some ⟨p, 0, none⟩), .int .i64 most, .int .u8 (m.toNat : Int)] w fun e w' => Reads p B w (.int .i64 (natO (countG most m l) : Int)) (restO (countG most m l)) (failO f (countG most m l)) e w' := by
  cases l with
  | nil => exact count_end p B m hm most f w h
  | cons x r =>
    have hlt := (x ^^^ m).toNat_lt
    have hg := countG_cons most m x r
    have hn : (((ownG (x ^^^ m).toNat m r).map fun x => x.1).getD 0 : Nat) < 18446744073709551616 := own_lt _ _ _
    rw [hg]
    clear hg
    cases hq : ownG (x ^^^ m).toNat m r with
    | none =>
      refine (count_walk p B (x ^^^ m).toNat 0 m x hm most r [] f true w rfl (by omega) (by decide) (fun w1 h1 => by have := own_all p B (x ^^^ m).toNat m hm r f w1 h1; rw [hq] at this; exact this) h).mono ?_
      rintro e w' ⟨h1, h2⟩
      by_cases hc : (0 : Nat) ≤ 2147483647 ∧ ((0 : Nat) : Int) ≤ most
      · exact h1 hc
      · exact h2 hc
    | some y =>
      obtain ⟨n, r'⟩ := y
      rw [hq] at hn
      refine (count_walk p B (x ^^^ m).toNat n m x hm most r r' f f w rfl (by omega) hn (fun w1 h1 => by have := own_all p B (x ^^^ m).toNat m hm r f w1 h1; rw [hq] at this; exact this) h).mono ?_
      rintro e w' ⟨h1, h2⟩
      by_cases hc : n ≤ 2147483647 ∧ (n : Int) ≤ most
      · simp only [if_pos hc]; exact h1 hc
      · simp only [if_neg hc]; exact h2 hc

/-- The truth value that is told: false, if it failed. -/
def boolO : Option (Bool × List UInt8) → Bool
  | some x => x.1
  | none => false
set_option maxRecDepth 100000 in
set_option maxHeartbeats 2000000 in
theorem flag_all (p B : Nat) (l : List UInt8) (f : Bool) (w : World) (h : Rdr p B l f w) :
    Calls Tryz.prog 61 #[.pointer (some ⟨p, 0, none⟩)] w fun e w' => Reads p B w (.bool (boolO (flagG l))) (restO (flagG l)) (failO f (flagG l)) e w' := by
  cases l with
  | nil =>
    have HN := Lib.hid (next_nil p B 0 f w h)
    clear h
    go_enter Tryz.func61, Tryz.ntmps61
    go_wp2_with fail
    refine HN.out.mono ?_
    rintro e w1 ⟨rfl, hr, hg⟩
    have HR := Lib.hid hr; have HG := Lib.hid hg
    clear hr hg
    go_wp2_with fail
    go_ret
    exact ⟨rfl, HR.out, HG.out⟩
  | cons x r =>
    by_cases h0 : x = 0
    · subst h0; exact flag_ok p B false r f w h
    by_cases h1 : x = 1
    · subst h1; exact flag_ok p B true r f w h
    have hx : ¬ x.toNat ≤ 1 := fun h => by
      have e0 : (0 : UInt8).toNat = 0 := rfl
      have e1 : (1 : UInt8).toNat = 1 := rfl
      rcases (by omega : x.toNat = 0 ∨ x.toNat = 1) with h | h
      · exact h0 (UInt8.toNat_inj.1 (by omega))
      · exact h1 (UInt8.toNat_inj.1 (by omega))
    have hg : flagG (x :: r) = none := by
      unfold flagG bindG headG whenG
      exact if_neg hx
    rw [hg]
    have HN := Lib.hid (next_cons p B 0 (.inl rfl) x r f w h)
    rw [show (x ^^^ 0 : UInt8) = x by simp] at HN
    have HF := Lib.hid fun w1 (h1 : Rdr p B r f w1) => fail_c p B r f w1 h1
    have hxz : (1 : Int) < (x.toNat : Int) := by omega
    have hxe : ((x.toNat : Int) == 1) = false := by rw [beq_eq_false_iff_ne]; omega
    clear h hg hx h0 h1
    go_enter Tryz.func61, Tryz.ntmps61
    go_wp2_with fail
    refine HN.out.mono ?_
    rintro e w1 ⟨rfl, hr, hg⟩
    have HR := Lib.hid hr; have HG := Lib.hid hg
    clear hr hg
    go_wp2_with fail
    refine (HF.out _ HR.out).mono ?_
    rintro e w2 ⟨rfl, hr, hg⟩
    have HR2 := Lib.hid hr; have HG2 := Lib.hid (grown_trans HG.out hg)
    clear hr hg
    go_wp2_with fail
    go_ret
    exact ⟨rfl, HR2.out, HG2.out⟩

set_option maxRecDepth 100000 in
set_option maxHeartbeats 2000000 in
theorem digit_end (p B : Nat) (m : UInt8) (f : Bool) (w : World) (h : Rdr p B [] f w) :
    Calls Tryz.prog 131 #[.pointer (some ⟨p, 0, none⟩), .int .u8 (m.toNat : Int)] w fun e w' => Reads p B w (.int .u8 0) [] true e w' := by
  have HN := Lib.hid (next_nil p B m f w h)
  have HF := Lib.hid fun w1 (h1 : Rdr p B [] true w1) => fail_c p B [] true w1 h1
  clear h
  go_enter Tryz.func131, Tryz.ntmps131
  go_wp2_with fail
  refine HN.out.mono ?_
  rintro e w1 ⟨rfl, hr, hg⟩
  have HR := Lib.hid hr; have HG := Lib.hid hg
  clear hr hg
  go_wp2_with fail
  refine (HF.out _ HR.out).mono ?_
  rintro e w2 ⟨rfl, hr, hg⟩
  have HR2 := Lib.hid hr; have HG2 := Lib.hid (grown_trans HG.out hg)
  clear hr hg
  go_wp2_with fail
  go_ret
  exact ⟨rfl, HR2.out, HG2.out⟩

set_option maxRecDepth 100000 in
set_option maxHeartbeats 2000000 in
theorem digit_cons (p B : Nat) (m x : UInt8) (hm : Msk m) (r : List UInt8) (f : Bool) (w : World) (h : Rdr p B (x :: r) f w) :
    Calls Tryz.prog 131 #[.pointer (some ⟨p, 0, none⟩), .int .u8 (m.toNat : Int)] w fun e w' => Reads p B w (.int .u8 ((x ^^^ m).toNat : Int)) (if digB (x ^^^ m) then r else []) (if digB (x ^^^ m) then f else true) e w' := by
  have HN := Lib.hid (next_cons p B m hm x r f w h)
  have HF := Lib.hid fun w1 (h1 : Rdr p B r f w1) => fail_c p B r f w1 h1
  clear h
  generalize x ^^^ m = y at HN ⊢
  by_cases hy : digB y
  · rw [if_pos hy, if_pos hy]
    obtain ⟨y1, y2⟩ := hy
    have z1 : ¬ (y.toNat : Int) < 48 := by omega
    have z2 : ¬ (57 : Int) < (y.toNat : Int) := by omega
    clear y1 y2
    go_enter Tryz.func131, Tryz.ntmps131
    go_wp2_with fail
    refine HN.out.mono ?_
    rintro e w1 ⟨rfl, hr, hg⟩
    have HR := Lib.hid hr; have HG := Lib.hid hg
    clear hr hg
    go_wp2_with fail
    go_ret
    exact ⟨rfl, HR.out, HG.out⟩
  · rw [if_neg hy, if_neg hy]
    have HY := Lib.hid hy
    clear hy
    by_cases z1 : (y.toNat : Int) < 48
    · go_enter Tryz.func131, Tryz.ntmps131
      go_wp2_with fail
      refine HN.out.mono ?_
      rintro e w1 ⟨rfl, hr, hg⟩
      have HR := Lib.hid hr; have HG := Lib.hid hg
      clear hr hg
      go_wp2_with fail
      refine (HF.out _ HR.out).mono ?_
      rintro e w2 ⟨rfl, hr, hg⟩
      have HR2 := Lib.hid hr; have HG2 := Lib.hid (grown_trans HG.out hg)
      clear hr hg
      go_wp2_with fail
      go_ret
      exact ⟨rfl, HR2.out, HG2.out⟩
    · have z2 : (57 : Int) < (y.toNat : Int) := by
        have := HY.out
        unfold digB at this
        omega
      go_enter Tryz.func131, Tryz.ntmps131
      go_wp2_with fail
      refine HN.out.mono ?_
      rintro e w1 ⟨rfl, hr, hg⟩
      have HR := Lib.hid hr; have HG := Lib.hid hg
      clear hr hg
      go_wp2_with fail
      refine (HF.out _ HR.out).mono ?_
      rintro e w2 ⟨rfl, hr, hg⟩
      have HR2 := Lib.hid hr; have HG2 := Lib.hid (grown_trans HG.out hg)
      clear hr hg
      go_wp2_with fail
      go_ret
      exact ⟨rfl, HR2.out, HG2.out⟩
end Go.Proofs.YtlcfokejoikaaaaGreatDoor
