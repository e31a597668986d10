/- Plain facts on numbers as lists of digits, the least one first, to any base: no program is spoken of. -/
import Derived.Lib.Hide
namespace Go.Proofs.YtaapppieipfinaaGreatDoor
namespace Dig

/-- The number of a list of digits. -/
def vl (b : Nat) : List Nat → Nat
  | [] => 0
  | d :: r => d + b * vl b r
def dgF (b : Nat) : Nat → Nat → List Nat
  | 0, _ => []
  | f + 1, n => if n = 0 then [] else n % b :: dgF b f (n / b)
/-- The digits of a number, none behind the last that is not 0. -/
def dg (b n : Nat) : List Nat := dgF b n n

theorem vl_append (b : Nat) : ∀ (xs ys : List Nat), vl b (xs ++ ys) = vl b xs + b ^ xs.length * vl b ys
  | [], ys => by simp [vl]
  | d :: r, ys => by
    simp only [List.cons_append, vl, vl_append b r ys, List.length_cons, Nat.pow_succ, Nat.mul_add]
    rw [Nat.mul_comm (b ^ r.length) b, Nat.mul_assoc]; omega
theorem vl_snoc (b : Nat) (xs : List Nat) (d : Nat) : vl b (xs ++ [d]) = vl b xs + b ^ xs.length * d := by
  rw [vl_append]; simp [vl]
theorem vl_zeros (b : Nat) : ∀ xs : List Nat, (∀ d ∈ xs, d = 0) → vl b xs = 0
  | [], _ => rfl
  | d :: r, h => by
    have h0 : d = 0 := h d (by simp)
    have h1 := vl_zeros b r (fun x hx => h x (by simp [hx]))
    simp [vl, h0, h1]
theorem vl_lt (b : Nat) : ∀ xs : List Nat, (∀ d ∈ xs, d < b) → vl b xs < b ^ xs.length
  | [], _ => by simp [vl]
  | d :: r, h => by
    have h0 : d < b := h d (by simp)
    have h1 := vl_lt b r (fun x hx => h x (by simp [hx]))
    simp only [vl, List.length_cons, Nat.pow_succ]
    have h2 : b * (vl b r + 1) ≤ b * b ^ r.length := Nat.mul_le_mul_left b h1
    rw [Nat.mul_comm (b ^ r.length) b]; rw [Nat.mul_add] at h2; omega
theorem dgF_vl {b : Nat} (hb : 2 ≤ b) : ∀ (f n : Nat), n ≤ f → vl b (dgF b f n) = n
  | 0, n, h => by simp [dgF, vl]; omega
  | f + 1, n, h => by
    unfold dgF
    by_cases hn : n = 0
    · simp [hn, vl]
    · rw [if_neg hn]
      have : n / b < n := Nat.div_lt_self (by omega) hb
      simp only [vl, dgF_vl hb f (n / b) (by omega)]
      exact Nat.mod_add_div n b
theorem dg_vl {b : Nat} (hb : 2 ≤ b) (n : Nat) : vl b (dg b n) = n := dgF_vl hb n n (Nat.le_refl _)
theorem dgF_lt {b : Nat} (hb : 2 ≤ b) : ∀ (f n : Nat), ∀ d ∈ dgF b f n, d < b
  | 0, n, d, h => by simp [dgF] at h
  | f + 1, n, d, h => by
    unfold dgF at h
    by_cases hn : n = 0
    · simp [hn] at h
    · rw [if_neg hn] at h
      rcases List.mem_cons.1 h with h | h
      · rw [h]; exact Nat.mod_lt _ (by omega)
      · exact dgF_lt hb f _ d h
theorem dg_lt {b : Nat} (hb : 2 ≤ b) (n : Nat) : ∀ d ∈ dg b n, d < b := dgF_lt hb n n
/-- No digit behind the last that is not 0. -/
def Tip (ds : List Nat) : Prop := ds.getLast? ≠ some 0
theorem canon {b : Nat} (hb : 2 ≤ b) : ∀ (xs ys : List Nat), (∀ d ∈ xs, d < b) → (∀ d ∈ ys, d < b) → Tip xs → Tip ys → vl b xs = vl b ys → xs = ys
  | [], [], _, _, _, _, _ => rfl
  | [], y :: ys, _, hy, _, ty, h => by
    exfalso
    have h0 : y + b * vl b ys = 0 := h.symm
    have hy0 : y = 0 := by omega
    have hb1 : b * vl b ys = 0 := by omega
    have hv : vl b ys = 0 := by rcases Nat.mul_eq_zero.1 hb1 with h | h <;> omega
    cases ys with
    | nil => subst hy0; exact ty (by simp)
    | cons z zs =>
      have := canon hb [] (z :: zs) (by simp) (fun d hd => hy d (by simp [hd])) (by simp [Tip]) (by simpa [Tip, List.getLast?_cons] using ty) hv.symm
      cases this
  | x :: xs, [], hx, _, tx, _, h => by
    exfalso
    have h0 : x + b * vl b xs = 0 := h
    have hx0 : x = 0 := by omega
    have hb1 : b * vl b xs = 0 := by omega
    have hv : vl b xs = 0 := by rcases Nat.mul_eq_zero.1 hb1 with h | h <;> omega
    cases xs with
    | nil => subst hx0; exact tx (by simp)
    | cons z zs =>
      have := canon hb (z :: zs) [] (fun d hd => hx d (by simp [hd])) (by simp) (by simpa [Tip, List.getLast?_cons] using tx) (by simp [Tip]) hv
      cases this
  | x :: xs, y :: ys, hx, hy, tx, ty, h => by
    have h0 : x + b * vl b xs = y + b * vl b ys := h
    have lx : x < b := hx x (by simp)
    have ly : y < b := hy y (by simp)
    have e1 : x = y := by
      have := congrArg (· % b) h0
      simp only [Nat.add_mul_mod_self_left, Nat.mod_eq_of_lt lx, Nat.mod_eq_of_lt ly] at this
      exact this
    have e2 : vl b xs = vl b ys := by
      subst e1
      have : b * vl b xs = b * vl b ys := by omega
      exact Nat.eq_of_mul_eq_mul_left (by omega) this
    subst e1
    congr 1
    refine canon hb xs ys (fun d hd => hx d (by simp [hd])) (fun d hd => hy d (by simp [hd])) ?_ ?_ e2
    · cases xs with
      | nil => simp [Tip]
      | cons => simpa [Tip, List.getLast?_cons] using tx
    · cases ys with
      | nil => simp [Tip]
      | cons => simpa [Tip, List.getLast?_cons] using ty
theorem dgF_tip {b : Nat} (hb : 2 ≤ b) : ∀ (f n : Nat), n ≤ f → Tip (dgF b f n)
  | 0, n, _ => by simp [dgF, Tip]
  | f + 1, n, h => by
    unfold dgF
    by_cases hn : n = 0
    · simp [hn, Tip]
    · rw [if_neg hn]
      have hlt : n / b < n := Nat.div_lt_self (by omega) hb
      have ih := dgF_tip hb f (n / b) (by omega)
      cases e : dgF b f (n / b) with
      | nil =>
        have hv := dgF_vl hb f (n / b) (by omega)
        rw [e] at hv
        have : n / b = 0 := hv.symm
        have : n % b = n := by have := Nat.mod_add_div n b; rw [‹n / b = 0›] at this; simpa using this
        simp [Tip, this, hn]
      | cons x xs => rw [e] at ih; simpa [Tip, List.getLast?_cons] using ih
theorem dg_tip {b : Nat} (hb : 2 ≤ b) (n : Nat) : Tip (dg b n) := dgF_tip hb n n (Nat.le_refl _)
theorem dg_of {b : Nat} (hb : 2 ≤ b) {ds : List Nat} (h : ∀ d ∈ ds, d < b) (t : Tip ds) : dg b (vl b ds) = ds :=
  canon hb _ _ (dg_lt hb _) h (dg_tip hb _) t (dg_vl hb _)
theorem dg_zero (b : Nat) : dg b 0 = [] := rfl
theorem dg_nil {b : Nat} (hb : 2 ≤ b) {n : Nat} : dg b n = [] ↔ n = 0 := by
  constructor
  · intro h; have := dg_vl hb n; rw [h] at this; exact this.symm
  · rintro rfl; rfl
theorem vl_ge {b : Nat} (_hb : 2 ≤ b) {ds : List Nat} (t : Tip ds) (hne : ds ≠ []) : b ^ (ds.length - 1) ≤ vl b ds := by
  obtain ⟨l, d, rfl⟩ : ∃ l d, ds = l ++ [d] := ⟨ds.dropLast, ds.getLast hne, (List.dropLast_concat_getLast hne).symm⟩
  rw [vl_snoc]; simp only [List.length_append, List.length_cons, List.length_nil, Nat.zero_add, Nat.add_sub_cancel]
  have hd : d ≠ 0 := by intro h; exact t (by simp [h])
  have : b ^ l.length * 1 ≤ b ^ l.length * d := Nat.mul_le_mul_left _ (by omega)
  omega
theorem dg_len {b : Nat} (hb : 2 ≤ b) (n k : Nat) : (dg b n).length ≤ k ↔ n < b ^ k := by
  constructor
  · intro h
    have h1 := vl_lt b (dg b n) (dg_lt hb n)
    rw [dg_vl hb] at h1
    exact Nat.lt_of_lt_of_le h1 (Nat.pow_le_pow_right (by omega) h)
  · intro h
    by_cases hn : dg b n = []
    · simp [hn]
    · have h1 := vl_ge hb (dg_tip hb n) hn
      rw [dg_vl hb] at h1
      rcases Nat.lt_or_ge k (dg b n).length with hk | hk
      · have := Nat.pow_le_pow_right (n := b) (by omega) (show k ≤ (dg b n).length - 1 by omega)
        omega
      · exact hk
/-- What is left when the noughts behind place k are cut. -/
theorem cut_zeros {b : Nat} (hb : 2 ≤ b) {ds : List Nat} {k : Nat} (hk : k ≤ ds.length) (h : ∀ d ∈ ds, d < b) (hz : ∀ j, k ≤ j → ∀ d, ds[j]? = some d → d = 0)
    (ht : ∀ d, ds[k - 1]? = some d → 0 < k → d ≠ 0) : ds.take k = dg b (vl b ds) := by
  have e : vl b ds = vl b (ds.take k) := by
    conv => lhs; rw [← List.take_append_drop k ds, vl_append]
    rw [vl_zeros b (ds.drop k)]
    · simp
    · intro d hd
      obtain ⟨j, hj⟩ := List.mem_iff_getElem?.1 hd
      rw [List.getElem?_drop] at hj
      exact hz _ (by omega) d hj
  rw [e, dg_of hb (fun d hd => h d (List.mem_of_mem_take hd))]
  intro hl
  rw [List.getLast?_eq_getElem?, List.length_take, Nat.min_eq_left hk, List.getElem?_take] at hl
  split at hl
  · exact ht 0 hl (by omega) rfl
  · cases hl
end Dig
end Go.Proofs.YtaapppieipfinaaGreatDoor
