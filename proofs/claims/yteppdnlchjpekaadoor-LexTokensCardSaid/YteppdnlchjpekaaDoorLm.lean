/- Package lex: marks of bytes. -/
import Derived.Test.YteppdnlchjpekaaDoorLa
import Derived.Test.YteppdnlchjpekaaDoorBb
import Derived.Laws.IdiomStrings
import Derived.Laws.BytesArg
namespace Go.Proofs.YteppdnlchjpekaaDoor
open Go.RowKit Lx
open Go
attribute [local go_sem] Oper.semAt_some

/-- Does a byte denote itself? -/
def selfB (c : UInt8) : Bool := decide (32 ≤ c.toNat ∧ c.toNat ≠ 34 ∧ c.toNat ≠ 92 ∧ c.toNat ≠ 127)
theorem self_c (c : UInt8) (w : World) : Calls Tryd.prog 51 #[.int .u8 (c.toNat : Int)] w fun e w' => e = .returned (.bool (selfB c)) ∧ w = w' := by
  obtain ⟨q, hq⟩ : ∃ q, q = selfB c := ⟨_, rfl⟩
  rw [← hq]
  unfold selfB at hq
  obtain ⟨z, hz⟩ : ∃ z, c.toNat = z := ⟨_, rfl⟩
  rw [hz] at hq ⊢
  have HQ := Lib.hid hq
  clear hq hz
  by_cases h1 : (32 : Int) ≤ (z : Int)
  · by_cases h2 : (z : Int) = 34
    · obtain rfl : z = 34 := by omega
      clear h1 h2
      go_enter Tryd.func51, Tryd.ntmps51
      go_wp2_with fail
      go_ret
      exact ⟨by rw [HQ.out]; rfl, rfl⟩
    · by_cases h3 : (z : Int) = 92
      · obtain rfl : z = 92 := by omega
        clear h1 h2 h3
        go_enter Tryd.func51, Tryd.ntmps51
        go_wp2_with fail
        go_ret
        exact ⟨by rw [HQ.out]; rfl, rfl⟩
      · by_cases h4 : (z : Int) = 127
        · obtain rfl : z = 127 := by omega
          clear h1 h2 h3 h4
          go_enter Tryd.func51, Tryd.ntmps51
          go_wp2_with fail
          go_ret
          exact ⟨by rw [HQ.out]; rfl, rfl⟩
        · go_enter Tryd.func51, Tryd.ntmps51
          go_wp2_with fail
          go_ret
          exact ⟨by rw [HQ.out, decide_eq_true (by omega)]; simp [h2, h3, h4], rfl⟩
  · go_enter Tryd.func51, Tryd.ntmps51
    go_wp2_with fail
    go_ret
    exact ⟨by rw [HQ.out, decide_eq_false (by omega)]; rfl, rfl⟩

/-- What a byte's mark is, by cases. -/
theorem mk_self {c : UInt8} (h : selfB c = true) : mk c = [c] := by
  unfold selfB at h
  have h := of_decide_eq_true h
  unfold mk
  rw [if_neg, if_neg, if_neg, if_neg]
  · rintro (h' | h')
    · omega
    · subst h'; simp at h
  · rintro rfl; simp at h
  · rintro rfl; simp at h
  · rintro (rfl | rfl) <;> simp at h
theorem mk_hex {c : UInt8} (h : selfB c = false) (h1 : c ≠ 34) (h2 : c ≠ 92) (h3 : c ≠ 10) (h4 : c ≠ 9) : mk c = [92, 120, hx (c.toNat / 16), hx (c.toNat % 16)] := by
  unfold selfB at h
  have h := of_decide_eq_false h
  unfold mk
  rw [if_neg (by rintro (h' | h') <;> contradiction), if_neg h3, if_neg h4, if_pos]
  have e1 : c.toNat ≠ 34 := fun e => h1 (UInt8.toNat_inj.1 e)
  have e2 : c.toNat ≠ 92 := fun e => h2 (UInt8.toNat_inj.1 e)
  by_cases h5 : c.toNat = 127
  · exact .inr (UInt8.toNat_inj.1 h5)
  · exact .inl (by omega)
theorem hx_at (n : Nat) (h : n < 16) : (⟨#[48, 49, 50, 51, 52, 53, 54, 55, 56, 57, 97, 98, 99, 100, 101, 102]⟩ : ByteArray).data[n]? = some (hx n) := by
  have : ∀ n : Fin 16, (⟨#[48, 49, 50, 51, 52, 53, 54, 55, 56, 57, 97, 98, 99, 100, 101, 102]⟩ : ByteArray).data[n.val]? = some (hx n.val) := by decide
  exact this ⟨n, h⟩

theorem hx_get (i n : Nat) (hn : n < 16) (hi : i = n) : ∀ h, (⟨#[48, 49, 50, 51, 52, 53, 54, 55, 56, 57, 97, 98, 99, 100, 101, 102]⟩ : ByteArray)[i]'h = hx n := by
  subst hi
  intro h
  have e := hx_at i hn
  rw [Array.getElem?_eq_some_iff] at e
  obtain ⟨_, e⟩ := e
  exact e
set_option maxRecDepth 100000 in
theorem bits_15 (z : Nat) (h : z < 256) : bits .and .u8 (z : Int) 15 = (z : Int) % 16 := by
  have : ∀ z : Fin 256, bits .and .u8 (z.val : Int) 15 = (z.val : Int) % 16 := by decide +kernel
  exact this ⟨z, h⟩

set_option maxRecDepth 100000 in
set_option maxHeartbeats 4000000 in
theorem mark_c (c : UInt8) (w : World) : Calls Tryd.prog 26 #[.int .u8 (c.toNat : Int)] w fun e w' => e = .returned (.string ⟨(mk c).toArray⟩) ∧ Below w.heap.size w w' := by
  have hs := self_c c w
  by_cases hq : selfB c = true
  · rw [hq] at hs
    rw [mk_self hq]
    have HS := Lib.hid hs
    clear hq hs
    go_enter Tryd.func26, Tryd.ntmps26
    go_wp2_with fail
    refine HS.out.mono ?_
    rintro e w1 ⟨rfl, rfl⟩
    have hc : (convert 46 9 (.slice (some ⟨w.heap.size, 0, none⟩) 1 1)).run Tryd.prog (w.alloc (.cells #[.int .u8 (c.toNat : Int)] 5)) = .ok (.string ⟨#[c]⟩) (w.alloc (.cells #[.int .u8 (c.toNat : Int)] 5)) := run_convert_bytes_back (P := Tryd.prog) (w.alloc (.cells #[.int .u8 (c.toNat : Int)] 5)) 46 9 5 ⟨w.heap.size, 0, none⟩ 1 [c] Tryd.underlying46 Tryd.underlying5 Tryd.underlying9 (by
      intro j hj
      have h0 : j = 0 := by simpa using hj
      subst h0
      simp [Addr.add])
    have HC := Lib.hid hc
    clear hc
    go_wp2_with fail
    rw [HC.out]
    simp only [Result.andThen]
    rw [Oper.upon_value]
    go_wp2_with fail
    go_ret
    exact ⟨rfl, (Below.refl _ _).alloc (Nat.le_refl _) _⟩
  · replace hq : selfB c = false := by simpa using hq
    rw [hq] at hs
    have hi := Tryd.strings_IndexByte ⟨#[34, 92, 10, 9]⟩ (c.toNat : Int) w
    have e0 : ((c.toNat : Int).toNat).toUInt8 = c := by simp
    rw [e0] at hi
    by_cases h34 : c = 34
    · subst h34
      have e1 : Lib.indexByte (⟨#[34, 92, 10, 9]⟩ : ByteArray).data.toList 34 = 0 := by decide
      rw [e1] at hi
      have HS := Lib.hid hs; have HI := Lib.hid hi
      clear hq hs hi e0 e1
      go_enter Tryd.func26, Tryd.ntmps26
      go_wp2_with fail
      refine HS.out.mono ?_
      rintro e w1 ⟨rfl, rfl⟩
      go_wp2_with fail
      refine HI.out.mono ?_
      rintro e w1 ⟨rfl, rfl⟩
      go_wp2_with fail
      go_ret
      exact ⟨by rfl, Below.refl _ _⟩
    by_cases h92 : c = 92
    · subst h92
      have e1 : Lib.indexByte (⟨#[34, 92, 10, 9]⟩ : ByteArray).data.toList 92 = 1 := by decide
      rw [e1] at hi
      have HS := Lib.hid hs; have HI := Lib.hid hi
      clear hq hs hi e0 e1
      go_enter Tryd.func26, Tryd.ntmps26
      go_wp2_with fail
      refine HS.out.mono ?_
      rintro e w1 ⟨rfl, rfl⟩
      go_wp2_with fail
      refine HI.out.mono ?_
      rintro e w1 ⟨rfl, rfl⟩
      go_wp2_with fail
      go_ret
      exact ⟨by rfl, Below.refl _ _⟩
    by_cases h10 : c = 10
    · subst h10
      have e1 : Lib.indexByte (⟨#[34, 92, 10, 9]⟩ : ByteArray).data.toList 10 = 2 := by decide
      rw [e1] at hi
      have HS := Lib.hid hs; have HI := Lib.hid hi
      clear hq hs hi e0 e1
      go_enter Tryd.func26, Tryd.ntmps26
      go_wp2_with fail
      refine HS.out.mono ?_
      rintro e w1 ⟨rfl, rfl⟩
      go_wp2_with fail
      refine HI.out.mono ?_
      rintro e w1 ⟨rfl, rfl⟩
      go_wp2_with fail
      go_ret
      exact ⟨by rfl, Below.refl _ _⟩
    by_cases h9 : c = 9
    · subst h9
      have e1 : Lib.indexByte (⟨#[34, 92, 10, 9]⟩ : ByteArray).data.toList 9 = 3 := by decide
      rw [e1] at hi
      have HS := Lib.hid hs; have HI := Lib.hid hi
      clear hq hs hi e0 e1
      go_enter Tryd.func26, Tryd.ntmps26
      go_wp2_with fail
      refine HS.out.mono ?_
      rintro e w1 ⟨rfl, rfl⟩
      go_wp2_with fail
      refine HI.out.mono ?_
      rintro e w1 ⟨rfl, rfl⟩
      go_wp2_with fail
      go_ret
      exact ⟨by rfl, Below.refl _ _⟩
    rw [mk_hex hq h34 h92 h10 h9]
    have e1 : Lib.indexByte (⟨#[34, 92, 10, 9]⟩ : ByteArray).data.toList c = -1 := by
      show Lib.indexByte [34, 92, 10, 9] c = -1
      simp [Lib.indexByte, Ne.symm h34, Ne.symm h92, Ne.symm h10, Ne.symm h9]
    rw [e1] at hi
    have h256 : c.toNat < 256 := c.toNat_lt
    have HS := Lib.hid hs; have HI := Lib.hid hi
    clear hq hs hi e0 e1 h34 h92 h10 h9
    generalize c.toNat = z at HS HI h256 ⊢
    have hd : 0 ≤ (z : Int) / 16 ∧ (z : Int) / 16 < 16 := by omega
    have hm : 0 ≤ (z : Int) % 16 ∧ (z : Int) % 16 < 16 := by omega
    have hbt : bits .and .u8 (z : Int) 15 = (z : Int) % 16 := bits_15 z h256
    have g1 : ∀ h, (⟨#[48, 49, 50, 51, 52, 53, 54, 55, 56, 57, 97, 98, 99, 100, 101, 102]⟩ : ByteArray)[((z : Int) / 16).toNat]'h = hx (z / 16) := hx_get _ _ (by omega) (by omega)
    have g2 : ∀ h, (⟨#[48, 49, 50, 51, 52, 53, 54, 55, 56, 57, 97, 98, 99, 100, 101, 102]⟩ : ByteArray)[((z : Int) % 16).toNat]'h = hx (z % 16) := hx_get _ _ (by omega) (by omega)
    go_enter Tryd.func26, Tryd.ntmps26
    go_wp2_with fail
    refine HS.out.mono ?_
    rintro e w1 ⟨rfl, rfl⟩
    go_wp2_with fail
    refine HI.out.mono ?_
    rintro e w1 ⟨rfl, rfl⟩
    go_wp2_with fail
    have hcv : ∀ x y : UInt8, (convert 46 9 (.slice (some ⟨w1.heap.size, 0, none⟩) 2 2)).run Tryd.prog (w1.alloc (.cells #[.int .u8 (x.toNat : Int), .int .u8 (y.toNat : Int)] 5)).drew = .ok (.string ⟨#[x, y]⟩) (w1.alloc (.cells #[.int .u8 (x.toNat : Int), .int .u8 (y.toNat : Int)] 5)).drew := fun x y =>
      run_convert_bytes_back (P := Tryd.prog) _ 46 9 5 ⟨w1.heap.size, 0, none⟩ 2 [x, y] Tryd.underlying46 Tryd.underlying5 Tryd.underlying9 (by
        intro j hj
        match j, hj with
        | 0, _ => simp [Addr.add]
        | 1, _ => simp [Addr.add])
    have h2 := hcv (hx (z / 16)) (hx (z % 16))
    clear hcv
    go_region
    go_wp2_with fail
    go_ret
    exact ⟨rfl, ((Below.refl _ _).alloc (Nat.le_refl _) _).drew⟩
end Go.Proofs.YteppdnlchjpekaaDoor
