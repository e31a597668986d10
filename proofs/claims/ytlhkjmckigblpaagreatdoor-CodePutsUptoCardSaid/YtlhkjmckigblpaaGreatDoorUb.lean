/- Plain: what was written is read so; what is read was written so. No program is spoken of. -/
import Derived.Test.YtlhkjmckigblpaaGreatDoorUa
namespace Go.Proofs.YtlhkjmckigblpaaGreatDoor
open Vp Cp
namespace Rm

/-! ### Own bytes -/
theorem be_snoc : ∀ k n, be (k + 1) n = be k (n / 256) ++ [UInt8.ofNat n]
  | 0, n => by simp [be]
  | k + 1, n => by
    rw [be, be_snoc k n, be, List.cons_append, Nat.pow_succ, Nat.mul_comm, Nat.div_div_eq_div_mul]
theorem ofNat_mod (n : Nat) : (UInt8.ofNat n).toNat = n % 256 := by rw [UInt8.toNat_ofNat']
theorem vbe_be : ∀ k n, n < 256 ^ k → vbe (be k n) = n
  | 0, n, h => by
    have : n = 0 := by simpa using h
    subst this; rfl
  | k + 1, n, h => by
    rw [Nat.pow_succ] at h
    rw [be_snoc, vbe_snoc, vbe_be k (n / 256) (by omega), ofNat_mod]
    omega
theorem be_vbe : ∀ (k : Nat) (l : List UInt8), l.length = k → be k (vbe l) = l
  | 0, l, h => by rw [List.eq_nil_of_length_eq_zero h]; rfl
  | k + 1, l, h => by
    obtain ⟨m, c, rfl⟩ : ∃ m c, l = m ++ [c] := ⟨l.dropLast, l.getLast (by intro e; rw [e] at h; simp at h), (List.dropLast_concat_getLast _).symm⟩
    have hm : m.length = k := by simp at h; exact h
    have hc := c.toNat_lt
    rw [be_snoc, vbe_snoc, show (vbe m * 256 + c.toNat) / 256 = vbe m by omega, be_vbe k m hm]
    have : UInt8.ofNat (vbe m * 256 + c.toNat) = c := by
      apply UInt8.toNat_inj.1
      rw [ofNat_mod]; omega
    rw [this]
theorem xm_xm (m : UInt8) : ∀ l, xm m (xm m l) = l
  | [] => rfl
  | x :: l => by
    have h := xm_xm m l
    unfold xm at h ⊢
    rw [List.map_cons, List.map_cons, h]
    congr 1
    rw [UInt8.xor_assoc, UInt8.xor_self, UInt8.xor_zero]
theorem xor_back {x y m : UInt8} (h : x ^^^ m = y) : x = y ^^^ m := by rw [← h, UInt8.xor_assoc, UInt8.xor_self, UInt8.xor_zero]
theorem xm_len (m : UInt8) (l : List UInt8) : (xm m l).length = l.length := by simp [xm]
theorem xm_zero : ∀ l, xm 0 l = l
  | [] => rfl
  | x :: l => by
    have h := xm_zero l
    unfold xm at h ⊢
    rw [List.map_cons, h, UInt8.xor_zero]
theorem xm_app (m : UInt8) (a b : List UInt8) : xm m (a ++ b) = xm m a ++ xm m b := by simp [xm]
theorem xm_cons (m x : UInt8) (l : List UInt8) : xm m (x :: l) = (x ^^^ m) :: xm m l := rfl
theorem comp_xm (l : List UInt8) : comp l = xm 255 l := rfl
theorem vbe_head {x : UInt8} (hx : x ≠ 0) : ∀ (k : Nat) (l : List UInt8), l.length = k → 256 ^ k ≤ vbe (x :: l)
  | 0, l, h => by
    rw [List.eq_nil_of_length_eq_zero h]
    have : x.toNat ≠ 0 := fun e => hx (UInt8.toNat_inj.1 (by rw [e]; rfl))
    simp [vbe]; omega
  | k + 1, l, h => by
    obtain ⟨m, c, rfl⟩ : ∃ m c, l = m ++ [c] := ⟨l.dropLast, l.getLast (by intro e; rw [e] at h; simp at h), (List.dropLast_concat_getLast _).symm⟩
    have := vbe_head hx k m (by simp at h; exact h)
    rw [← List.cons_append, vbe_snoc, Nat.pow_succ]
    omega
theorem pow_lt8 {k : Nat} (h : k ≤ 8) : (256 : Nat) ^ k ≤ 18446744073709551616 := by
  rw [← pow8]; exact Nat.pow_le_pow_right (by decide) h
theorem osz_is {k n : Nat} (h8 : k + 1 ≤ 8) (h1 : 256 ^ k ≤ n) (h2 : n < 256 ^ (k + 1)) : osz n = k + 1 := by
  have hn : n < 18446744073709551616 := Nat.lt_of_lt_of_le h2 (pow_lt8 h8)
  have hle := (osz_bd (k + 1) n h2 hn).1
  have hlt := osz_lt hn
  rcases Nat.lt_or_ge (osz n) (k + 1) with h | h
  · have : (256 : Nat) ^ osz n ≤ 256 ^ k := Nat.pow_le_pow_right (by decide) (by omega)
    omega
  · omega
/-- What own bytes were read: they are the number's, as many as it has. -/
theorem own_canon {k n : Nat} {m : UInt8} {l r : List UInt8} (h : ownG k m l = some (n, r)) : k = osz n ∧ l = xm m (be k n) ++ r ∧ k ≤ 8 + k * 0 + 0 ∨ k = 0 ∧ n = 0 ∧ l = r := by
  unfold ownG at h
  split at h
  · rename_i h0
    injection h with h; injection h with h1 h2
    exact .inr ⟨h0, h1.symm, h2⟩
  · rename_i h0
    split at h
    · rename_i hc
      obtain ⟨h8, hl, hh⟩ := hc
      injection h with h; injection h with h1 h2
      left
      have htl : (l.take k).length = k := by rw [List.length_take]; omega
      have hbe : be k n = xm m (l.take k) := by rw [← h1]; exact be_vbe k _ (by rw [xm_len, htl])
      refine ⟨?_, by rw [hbe, xm_xm, ← h2, List.take_append_drop], by omega⟩
      obtain ⟨j, rfl⟩ : ∃ j, k = j + 1 := ⟨k - 1, by omega⟩
      cases l with
      | nil => exact absurd hh (by simp [HeadNot])
      | cons x l =>
        have hx : x ^^^ m ≠ 0 := fun e => hh (by have := xor_back e; rwa [UInt8.zero_xor] at this)
        rw [List.take_succ_cons, xm_cons] at h1
        rw [List.take_succ_cons, List.length_cons] at htl
        have hge := vbe_head hx j (xm m (l.take j)) (by rw [xm_len]; omega)
        have hlt := vbe_lt ((x ^^^ m) :: xm m (l.take j))
        rw [List.length_cons, xm_len, show (l.take j).length = j by omega] at hlt
        rw [h1] at hge hlt
        exact (osz_is h8 hge hlt).symm
    · cases h
theorem own_canon' {k n : Nat} {m : UInt8} {l r : List UInt8} (h : ownG k m l = some (n, r)) : k = osz n ∧ l = xm m (be k n) ++ r ∧ k ≤ 8 := by
  rcases own_canon h with ⟨h1, h2, h3⟩ | ⟨h1, h2, h3⟩
  · exact ⟨h1, h2, by omega⟩
  · subst h1; subst h2; subst h3
    exact ⟨by rw [osz_zero], rfl, by omega⟩
/-- A number's own bytes are read as it. -/
theorem own_back {n : Nat} (hn : n < 18446744073709551616) (m : UInt8) (t : List UInt8) : ownG (osz n) m (xm m (be (osz n) n) ++ t) = some (n, t) := by
  unfold ownG
  by_cases h0 : n = 0
  · subst h0; rw [osz_zero, if_pos rfl]; rfl
  · have hge := osz_ge hn h0
    have hlt := osz_lt hn
    have hz : osz n ≠ 0 := fun e => by rw [e] at hlt; simp at hlt; exact h0 hlt
    have hlen : (xm m (be (osz n) n)).length = osz n := by rw [xm_len, be_len]
    have hle := osz_le hn
    rw [if_neg hz, if_pos]
    · rw [List.take_append_of_le_length (by omega), List.drop_append_of_le_length (by omega), List.take_of_length_le (by omega), List.drop_of_length_le (by omega), xm_xm, vbe_be _ _ hlt]; rfl
    · refine ⟨osz_le hn, by rw [List.length_append]; omega, ?_⟩
      obtain ⟨j, hj⟩ : ∃ j, osz n = j + 1 := ⟨osz n - 1, by omega⟩
      rw [hj] at hge hlt ⊢
      rw [be, xm_cons, List.cons_append]
      show UInt8.ofNat (n / 256 ^ j) ^^^ m ≠ m
      intro e
      have e2 := xor_back e
      rw [UInt8.xor_self] at e2
      have e3 := congrArg UInt8.toNat e2
      rw [ofNat_mod] at e3
      rw [Nat.pow_succ] at hlt
      rw [Nat.add_sub_cancel] at hge
      have h1 : 0 < n / 256 ^ j := Nat.div_pos hge (Nat.pow_pos (by decide))
      have h2 : n / 256 ^ j < 256 := (Nat.div_lt_iff_lt_mul (Nat.pow_pos (by decide))).2 (by rw [Nat.mul_comm]; exact hlt)
      rw [Nat.mod_eq_of_lt h2] at e3
      have e4 : (0 : UInt8).toNat = 0 := rfl
      omega
theorem bindG_some {α β : Type} {g : Rd_ α} {h : α → Rd_ β} {l : List UInt8} {b : β} {r : List UInt8} (e : bindG g h l = some (b, r)) : ∃ a s, g l = some (a, s) ∧ h a s = some (b, r) := by
  unfold bindG at e
  cases hq : g l with
  | none => rw [hq] at e; cases e
  | some x => rw [hq] at e; exact ⟨x.1, x.2, rfl, e⟩
theorem bindG_of {α β : Type} {g : Rd_ α} {h : α → Rd_ β} {l : List UInt8} {a : α} {s : List UInt8} (e : g l = some (a, s)) : bindG g h l = h a s := by unfold bindG; rw [e]
theorem head_some {l : List UInt8} {x : UInt8} {r : List UInt8} (e : headG l = some (x, r)) : l = x :: r := by
  cases l with
  | nil => cases e
  | cons y l => injection e with e; injection e with e1 e2; rw [e1, e2]
theorem when_some {α : Type} {c : Prop} [Decidable c] {a b : α} {l r : List UInt8} (e : whenG c a l = some (b, r)) : c ∧ a = b ∧ l = r := by
  unfold whenG at e
  split at e
  · injection e with e; injection e with e1 e2; exact ⟨by assumption, e1, e2⟩
  · cases e
theorem when_of {α : Type} {c : Prop} [Decidable c] (hc : c) (a : α) (l : List UInt8) : whenG c a l = some (a, l) := if_pos hc
theorem num_canon {l r : List UInt8} {z : Int} (h : numG l = some (z, r)) : l = numB z ++ r ∧ -9223372036854775808 ≤ z ∧ z ≤ 9223372036854775807 := by
  obtain ⟨x, l1, h1, h⟩ := bindG_some h
  obtain ⟨n, l2, h2, h⟩ := bindG_some h
  obtain ⟨h3, h4, rfl⟩ := when_some h
  rw [head_some h1]
  obtain ⟨k1, k2, k3⟩ := own_canon' h2
  rw [k2]
  unfold maskX at k1 k2 ⊢
  by_cases hx : x.toNat < 128
  · rw [if_pos hx] at h4 k1 k2 ⊢
    rw [← h4]
    refine ⟨?_, by omega, by omega⟩
    unfold numB
    rw [if_neg (by omega), show (-1 - (-1 - (n : Int))).toNat = n by omega, comp_xm, own, xm_cons, ← k1]
    rw [List.cons_append]
    rw [List.cons.injEq]
    refine ⟨?_, rfl⟩
    have : 128 ≤ (x ^^^ 255).toNat := cflip x hx
    apply xor_back
    apply UInt8.toNat_inj.1
    rw [ofNat_mod]
    have := (x ^^^ 255).toNat_lt
    omega
  · rw [if_neg hx] at h4 k1 k2 ⊢
    rw [← h4]
    refine ⟨?_, by omega, by omega⟩
    unfold numB
    rw [if_pos (by omega), Int.toNat_natCast, own, xm_zero, ← k1, List.cons_append]
    rw [List.cons.injEq]
    refine ⟨?_, rfl⟩
    apply UInt8.toNat_inj.1
    rw [ofNat_mod, UInt8.xor_zero]
    have := x.toNat_lt
    omega
where
  cflip (x : UInt8) (hx : x.toNat < 128) : 128 ≤ (x ^^^ 255).toNat := by
    have : ∀ n : Fin 256, n.val < 128 → 128 ≤ (UInt8.ofNat n.val ^^^ 255).toNat := by decide +kernel
    have h := this ⟨x.toNat, x.toNat_lt⟩ hx
    simpa using h
theorem ofn_fin : ∀ z : Fin 9, (UInt8.ofNat (128 + z.val)).toNat = 128 + z.val ∧ (UInt8.ofNat (128 + z.val) ^^^ 255).toNat = 127 - z.val ∧ (UInt8.ofNat (0 + z.val)).toNat = z.val ∧ (UInt8.ofNat (128 + z.val) ^^^ 255 ^^^ 255).toNat = 128 + z.val := by decide +kernel
theorem num_back {z : Int} (h : -9223372036854775808 ≤ z ∧ z ≤ 9223372036854775807) (t : List UInt8) : numG (numB z ++ t) = some (z, t) := by
  unfold numB
  by_cases h0 : 0 ≤ z
  · obtain ⟨n, rfl⟩ : ∃ n : Nat, z = (n : Int) := ⟨z.toNat, by omega⟩
    have hn : n < 18446744073709551616 := by omega
    have hz := osz_le hn
    obtain ⟨f1, f2, f3, f4⟩ := ofn_fin ⟨osz n, by omega⟩
    simp only at f1 f2 f3 f4
    rw [if_pos h0, Int.toNat_natCast, own, List.cons_append]
    show numG (UInt8.ofNat (128 + osz n) :: (be (osz n) n ++ t)) = _
    have hb := own_back hn 0 t
    rw [xm_zero] at hb
    have hm : maskX (UInt8.ofNat (128 + osz n)) = 0 := by unfold maskX; rw [f1, if_neg (by omega)]
    unfold numG
    rw [bindG_of (a := UInt8.ofNat (128 + osz n)) (s := be (osz n) n ++ t) rfl, hm, UInt8.xor_zero, f1, show 128 + osz n - 128 = osz n by omega, bindG_of hb, when_of (by omega), if_neg (by omega)]
  · obtain ⟨n, rfl⟩ : ∃ n : Nat, z = -1 - (n : Int) := ⟨(-1 - z).toNat, by omega⟩
    have hn : n < 18446744073709551616 := by omega
    have hz := osz_le hn
    obtain ⟨f1, f2, f3, f4⟩ := ofn_fin ⟨osz n, by omega⟩
    simp only at f1 f2 f3 f4
    rw [if_neg h0, show (-1 - (-1 - (n : Int))).toNat = n by omega, comp_xm, own, xm_cons, List.cons_append]
    have hb := own_back hn 255 t
    have hm : maskX (UInt8.ofNat (128 + osz n) ^^^ 255) = 255 := by unfold maskX; rw [f2, if_pos (by omega)]
    unfold numG
    rw [bindG_of (a := UInt8.ofNat (128 + osz n) ^^^ 255) (s := xm 255 (be (osz n) n) ++ t) rfl, hm, f4, show 128 + osz n - 128 = osz n by omega, bindG_of hb, when_of (by omega), f2, if_pos (by omega)]
theorem count_canon {most : Int} {m : UInt8} {l r : List UInt8} {n : Nat} (h : countG most m l = some (n, r)) : l = xm m (own 0 n) ++ r ∧ (n : Int) ≤ most ∧ n ≤ 2147483647 := by
  obtain ⟨x, l1, h1, h⟩ := bindG_some h
  obtain ⟨n', l2, h2, h⟩ := bindG_some h
  obtain ⟨h3, rfl, rfl⟩ := when_some h
  obtain ⟨k1, k2, k3⟩ := own_canon' h2
  rw [head_some h1, k2, own, xm_cons, List.cons_append, ← k1]
  refine ⟨?_, h3.2, h3.1⟩
  congr 1
  apply xor_back
  apply UInt8.toNat_inj.1
  rw [ofNat_mod]
  have := (x ^^^ m).toNat_lt
  omega
theorem count_back {most : Int} {n : Nat} (m : UInt8) (h1 : (n : Int) ≤ most) (h2 : n ≤ 2147483647) (t : List UInt8) : countG most m (xm m (own 0 n) ++ t) = some (n, t) := by
  have hn : n < 18446744073709551616 := by omega
  have hz := osz_le hn
  obtain ⟨f1, f2, f3, f4⟩ := ofn_fin ⟨osz n, by omega⟩
  simp only at f3
  rw [own, xm_cons, List.cons_append]
  have hb := own_back hn m t
  unfold countG
  rw [bindG_of (a := UInt8.ofNat (0 + osz n) ^^^ m) (s := xm m (be (osz n) n) ++ t) rfl, UInt8.xor_assoc, UInt8.xor_self, UInt8.xor_zero, f3, bindG_of hb, when_of ⟨h2, h1⟩]
theorem flag_canon {l r : List UInt8} {b : Bool} (h : flagG l = some (b, r)) : l = (if b then 1 else 0) :: r := by
  obtain ⟨x, l1, h1, h⟩ := bindG_some h
  obtain ⟨h3, h4, rfl⟩ := when_some h
  rw [head_some h1, ← h4]
  congr 1
  by_cases hx : x = 1
  · rw [hx]; rfl
  · rw [decide_eq_false hx]
    apply UInt8.toNat_inj.1
    have : x.toNat ≠ 1 := fun e => hx (UInt8.toNat_inj.1 e)
    show x.toNat = 0
    omega
theorem flag_back (b : Bool) (t : List UInt8) : flagG ((if b then 1 else 0) :: t) = some (b, t) := by cases b <;> rfl
theorem flag_one (t : List UInt8) : flagG (1 :: t) = some (true, t) := rfl
theorem flag_nil (t : List UInt8) : flagG (0 :: t) = some (false, t) := rfl
theorem esc_cons (c : UInt8) (l : List UInt8) : esc (c :: l) = if c = 0 then 0 :: 255 :: esc l else c :: esc l := by rw [esc]
theorem str_back {most : Int} : ∀ (t s tail : List UInt8), (s.length : Int) + (t.length : Int) ≤ most → strG most s (strB t ++ tail) = some (s ++ t, tail)
  | [], s, tail, h => by
    show strG most s (0 :: 0 :: tail) = _
    simp only [List.length_nil] at h
    rw [strG_cons, if_neg (by omega), if_pos rfl, List.append_nil]
    rfl
  | c :: t, s, tail, h => by
    have ih := fun s' hs => str_back (most := most) t s' tail hs
    unfold strB at ih ⊢
    simp only [List.length_cons] at h
    rw [esc_cons]
    by_cases hc : c = 0
    · rw [if_pos hc, List.cons_append, List.cons_append, List.cons_append, List.cons_append, strG_cons, if_neg (by omega), if_pos rfl]
      show strG most (s ++ [0]) (esc t ++ [0, 0] ++ tail) = _
      rw [ih (s ++ [0]) (by rw [List.length_append, List.length_singleton]; omega), hc, List.append_assoc]; rfl
    · rw [if_neg hc, List.cons_append, List.cons_append, strG_cons, if_neg (by omega), if_neg hc, ih (s ++ [c]) (by rw [List.length_append, List.length_singleton]; omega), List.append_assoc]; rfl
theorem str_canon {most : Int} : ∀ (k : Nat) (l s a r : List UInt8), l.length ≤ k → strG most s l = some (a, r) → ∃ t, a = s ++ t ∧ l = strB t ++ r ∧ (a.length : Int) ≤ most
  | _, [], s, a, r, _, h => by rw [strG_nil] at h; cases h
  | 0, c :: l, s, a, r, hk, _ => by simp at hk
  | k + 1, c :: l, s, a, r, hk, h => by
    simp only [List.length_cons] at hk
    rw [strG_cons] at h
    split at h
    · cases h
    · rename_i hm
      split at h
      · rename_i hc
        cases l with
        | nil => cases h
        | cons d l =>
          simp only [List.length_cons] at hk
          simp only at h
          split at h
          · rename_i hd
            injection h with h; injection h with h1 h2
            exact ⟨[], by rw [← h1, List.append_nil], by rw [hc, hd, h2]; rfl, by rw [← h1]; omega⟩
          · split at h
            · rename_i hd
              obtain ⟨t, e1, e2, e3⟩ := str_canon k l (s ++ [0]) a r (by omega) h
              refine ⟨0 :: t, by rw [e1, List.append_assoc]; rfl, ?_, e3⟩
              unfold strB at e2 ⊢
              rw [esc_cons, if_pos rfl, hc, hd, e2]; rfl
            · cases h
      · rename_i hc
        obtain ⟨t, e1, e2, e3⟩ := str_canon k l (s ++ [c]) a r (by omega) h
        refine ⟨c :: t, by rw [e1, List.append_assoc]; rfl, ?_, e3⟩
        unfold strB at e2 ⊢
        rw [esc_cons, if_neg hc, e2]; rfl
def digB (c : UInt8) : Prop := 48 ≤ c.toNat ∧ c.toNat ≤ 57
theorem dig_back (m : UInt8) : ∀ (d s t : List UInt8), (∀ c ∈ d, digB c) → digG m d.length s (xm m d ++ t) = some (s ++ d, t)
  | [], s, t, _ => by rw [List.append_nil]; rfl
  | c :: d, s, t, h => by
    have hc := h c (by simp)
    rw [xm_cons, List.cons_append, List.length_cons]
    unfold digG
    rw [bindG_of (a := c ^^^ m) (s := xm m d ++ t) rfl, UInt8.xor_assoc, UInt8.xor_self, UInt8.xor_zero, bindG_of (when_of (show 48 ≤ c.toNat ∧ c.toNat ≤ 57 from hc) _ _), dig_back m d (s ++ [c]) t (fun x hx => h x (by simp [hx])), List.append_assoc]; rfl
theorem dig_canon (m : UInt8) : ∀ (k : Nat) (s l a r : List UInt8), digG m k s l = some (a, r) → ∃ d, a = s ++ d ∧ d.length = k ∧ l = xm m d ++ r ∧ ∀ c ∈ d, digB c
  | 0, s, l, a, r, h => by
    unfold digG at h
    injection h with h; injection h with h1 h2
    exact ⟨[], by rw [← h1, List.append_nil], rfl, by rw [← h2]; rfl, fun c hc => by cases hc⟩
  | k + 1, s, l, a, r, h => by
    unfold digG at h
    obtain ⟨x, l1, h1, h⟩ := bindG_some h
    obtain ⟨_, l2, h2, h⟩ := bindG_some h
    obtain ⟨h3, _, rfl⟩ := when_some h2
    obtain ⟨d, e1, e2, e3, e4⟩ := dig_canon m k _ _ _ _ h
    refine ⟨(x ^^^ m) :: d, by rw [e1, List.append_assoc]; rfl, by rw [List.length_cons, e2], ?_, fun c hc => ?_⟩
    · rw [head_some h1, xm_cons, UInt8.xor_assoc, UInt8.xor_self, UInt8.xor_zero, e3]; rfl
    · rcases List.mem_cons.1 hc with rfl | hc
      · exact h3
      · exact e4 c hc
theorem mask_two (x : UInt8) : maskX x = 0 ∧ ¬ x.toNat < 128 ∨ maskX x = 255 ∧ x.toNat < 128 := by
  unfold maskX
  by_cases h : x.toNat < 128
  · exact .inr ⟨if_pos h, h⟩
  · exact .inl ⟨if_neg h, h⟩
theorem big_canon {l r s : List UInt8} (h : bigG l = some (s, r)) : l = bigB s ++ r ∧ s.length ≤ 201 := by
  obtain ⟨x, l1, h1, h⟩ := bindG_some h
  obtain ⟨_, l2, h2, h⟩ := bindG_some h
  obtain ⟨h3, _, rfl⟩ := when_some h2
  obtain ⟨n, l3, h4, h⟩ := bindG_some h
  obtain ⟨k1, k2, k3⟩ := count_canon h4
  obtain ⟨d, e1, e2, e3, e4⟩ := dig_canon _ _ _ _ _ _ h
  rw [head_some h1, k1, e3]
  rcases mask_two x with ⟨hm, hx⟩ | ⟨hm, hx⟩
  · rw [hm] at h3 e1 ⊢
    rw [if_neg (by decide), List.nil_append] at e1
    subst e1
    rw [UInt8.xor_zero] at h3
    refine ⟨?_, by omega⟩
    unfold bigB
    rw [if_neg, xm_zero, xm_zero, h3, e2]
    · simp
    · intro e
      cases s with
      | nil => cases e
      | cons c s =>
        injection e with e
        have := (e4 c (by simp)).1
        rw [e] at this
        exact absurd this (by decide)
  · rw [hm] at h3 e1 ⊢
    rw [if_pos rfl] at e1
    subst e1
    refine ⟨?_, by rw [List.length_append, e2]; show 1 + n ≤ 201; omega⟩
    unfold bigB
    rw [List.singleton_append, List.head?_cons, if_pos rfl, List.length_cons, Nat.add_sub_cancel, List.tail_cons, comp_xm, xm_cons, xm_app, e2, xor_back h3]
    simp
theorem big_back {s : List UInt8} (hs : s.head? = some 45 ∧ (∀ c ∈ s.tail, digB c) ∧ s.length ≤ 201 ∨ s.head? ≠ some 45 ∧ (∀ c ∈ s, digB c) ∧ s.length ≤ 200) (t : List UInt8) : bigG (bigB s ++ t) = some (s, t) := by
  rcases hs with ⟨h1, h2, h3⟩ | ⟨h1, h2, h3⟩
  · cases s with
    | nil => cases h1
    | cons c s =>
      injection h1 with h1
      subst h1
      rw [List.tail_cons] at h2
      rw [List.length_cons] at h3
      unfold bigB
      rw [List.head?_cons, if_pos rfl, List.length_cons, Nat.add_sub_cancel, List.tail_cons, comp_xm, xm_cons, xm_app, List.cons_append, List.append_assoc]
      unfold bigG
      rw [bindG_of (a := 128 ^^^ 255) (s := xm 255 (own 0 s.length) ++ (xm 255 s ++ t)) rfl]
      rw [show maskX (128 ^^^ 255) = 255 by decide, bindG_of (when_of (by decide) () _), bindG_of (count_back 255 (by omega) (by omega) _), if_pos rfl, dig_back 255 s [45] t h2]; rfl
  · unfold bigB
    rw [if_neg h1, List.cons_append, List.append_assoc]
    unfold bigG
    rw [bindG_of (a := 128) (s := own 0 s.length ++ (s ++ t)) rfl]
    have hc := count_back (most := 200) 0 (n := s.length) (by omega) (by omega) (s ++ t)
    rw [xm_zero] at hc
    have hd := dig_back 0 s [] t h2
    rw [xm_zero] at hd
    rw [show maskX 128 = 0 by decide, bindG_of (when_of (by decide) () _), bindG_of hc, if_neg (by decide), hd]; rfl
theorem list_canon {g : Rd_ V} (hg : ∀ l t r, g l = some (t, r) → l = encV t ++ r) : ∀ (k : Nat) (acc : List V) (l : List UInt8) (a : List V) (r : List UInt8), listG g k acc l = some (a, r) → ∃ b, a = acc ++ b ∧ b.length ≤ k ∧ l = tupB b ++ r
  | 0, acc, l, a, r, h => by
    unfold listG at h
    obtain ⟨b, l1, h1, h⟩ := bindG_some h
    obtain ⟨rfl, h4, rfl⟩ := when_some h
    exact ⟨[], by rw [← h4, List.append_nil], Nat.le_refl _, by rw [flag_canon h1, tupB]; rfl⟩
  | k + 1, acc, l, a, r, h => by
    unfold listG at h
    obtain ⟨b, l1, h1, h⟩ := bindG_some h
    cases b with
    | false =>
      rw [if_neg (by decide)] at h
      injection h with h; injection h with h4 h5
      exact ⟨[], by rw [← h4, List.append_nil], Nat.zero_le _, by rw [flag_canon h1, tupB, h5]; rfl⟩
    | true =>
      rw [if_pos rfl] at h
      obtain ⟨t, l2, h2, h⟩ := bindG_some h
      obtain ⟨b, e1, e2, e3⟩ := list_canon hg k _ _ _ _ h
      refine ⟨t :: b, by rw [e1, List.append_assoc]; rfl, by rw [List.length_cons]; omega, ?_⟩
      rw [flag_canon h1, hg _ _ _ h2, e3, tupB, if_pos rfl]; simp
theorem list_back {g : Rd_ V} : ∀ (b : List V) (k : Nat) (acc : List V) (t : List UInt8), (∀ x ∈ b, ∀ t, g (encV x ++ t) = some (x, t)) → b.length ≤ k → listG g k acc (tupB b ++ t) = some (acc ++ b, t)
  | [], 0, acc, t, _, _ => by rw [tupB, List.append_nil]; rfl
  | [], k + 1, acc, t, _, _ => by rw [tupB, List.append_nil]; rfl
  | x :: b, 0, acc, t, _, h => by simp at h
  | x :: b, k + 1, acc, t, hg, h => by
    rw [tupB, List.cons_append, List.append_assoc]
    unfold listG
    rw [bindG_of (flag_one _), if_pos rfl, bindG_of (hg x (by simp) _), list_back b k (acc ++ [x]) t (fun y hy => hg y (by simp [hy])) (by simpa using h), List.append_assoc]; rfl
theorem bytes_list (l : List UInt8) : (bytes l).data.toList = l := rfl
theorem bytes_of (s : ByteArray) : bytes s.data.toList = s := by cases s; simp [bytes]
theorem value_canon : ∀ (n : Nat) (l : List UInt8) (t : V) (r : List UInt8), valueG n l = some (t, r) → l = encV t ++ r
  | 0, l, t, r, h => by cases h
  | n + 1, l, t, r, h => by
    unfold valueG at h
    obtain ⟨k, l1, h1, h⟩ := bindG_some h
    rw [head_some h1]
    split at h
    · rename_i hk; subst hk
      obtain ⟨b, l2, h2, h⟩ := bindG_some h
      injection h with h; injection h with h3 h4; subst h3; subst h4
      rw [flag_canon h2, enc_eq, if_pos rfl]
      cases b <;> rfl
    split at h
    · rename_i hk; subst hk
      obtain ⟨b, l2, h2, h⟩ := bindG_some h
      injection h with h; injection h with h3 h4; subst h3; subst h4
      rw [(num_canon h2).1, enc_eq, if_neg (by decide), if_pos rfl]; rfl
    split at h
    · rename_i hk; subst hk
      obtain ⟨b, l2, h2, h⟩ := bindG_some h
      injection h with h; injection h with h3 h4; subst h3; subst h4
      rw [(big_canon h2).1, enc_eq, if_neg (by decide), if_neg (by decide), if_pos rfl]; rfl
    split at h
    · rename_i hk; subst hk
      obtain ⟨b, l2, h2, h⟩ := bindG_some h
      injection h with h; injection h with h3 h4; subst h3; subst h4
      obtain ⟨s, e1, e2, _⟩ := str_canon _ _ _ _ _ (Nat.le_refl _) h2
      rw [List.nil_append] at e1
      subst e1
      rw [e2, enc_eq, if_neg (by decide), if_neg (by decide), if_neg (by decide), if_pos rfl]; rfl
    split at h
    · rename_i hk; subst hk
      obtain ⟨b, l2, h2, h⟩ := bindG_some h
      injection h with h; injection h with h3 h4; subst h3; subst h4
      obtain ⟨d, e1, _, e2⟩ := list_canon (value_canon n) _ _ _ _ _ h2
      rw [List.nil_append] at e1
      subst e1
      rw [e2, enc_eq, if_neg (by decide), if_neg (by decide), if_neg (by decide), if_neg (by decide), if_pos rfl]; rfl
    split at h
    · rename_i hk; subst hk
      obtain ⟨b, l2, h2, h⟩ := bindG_some h
      obtain ⟨c, l3, h3, h⟩ := bindG_some h
      injection h with h; injection h with h5 h4; subst h5; subst h4
      obtain ⟨s, e1, e2, _⟩ := str_canon _ _ _ _ _ (Nat.le_refl _) h2
      rw [List.nil_append] at e1
      subst e1
      obtain ⟨d, e3, _, e4⟩ := list_canon (value_canon n) _ _ _ _ _ h3
      rw [List.nil_append] at e3
      subst e3
      rw [e2, e4, enc_eq, if_neg (by decide), if_neg (by decide), if_neg (by decide), if_neg (by decide), if_neg (by decide), if_pos rfl, bytes_list]; simp
    · cases h
end Rm
end Go.Proofs.YtlhkjmckigblpaaGreatDoor
