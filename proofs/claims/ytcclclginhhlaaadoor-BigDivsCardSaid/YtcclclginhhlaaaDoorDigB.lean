/- Plain facts on sums, differences, products and quotients of numbers as lists of digits: no program is spoken of. -/
import Derived.Test.YtcclclginhhlaaaDoorDig
namespace Go.Proofs.YtcclclginhhlaaaDoor
namespace Dig

theorem vl_takeD (b : Nat) (ys : List Nat) (i : Nat) : vl b (ys.take (i + 1)) = vl b (ys.take i) + b ^ i * ys.getD i 0 := by
  by_cases hi : i < ys.length
  · rw [List.take_succ_eq_append_getElem hi, vl_snoc, List.length_take, Nat.min_eq_left (by omega)]
    simp [List.getD_eq_getElem?_getD, hi]
  · rw [List.take_of_length_le (by omega), List.take_of_length_le (by omega)]
    simp [List.getD_eq_getElem?_getD, List.getElem?_eq_none (by omega : ys.length ≤ i)]
theorem vl_dropD (b : Nat) (ys : List Nat) (i : Nat) : vl b (ys.drop i) = ys.getD i 0 + b * vl b (ys.drop (i + 1)) := by
  by_cases hi : i < ys.length
  · rw [List.drop_eq_getElem_cons hi]
    simp [vl, List.getD_eq_getElem?_getD, hi]
  · rw [List.drop_eq_nil_of_le (by omega), List.drop_eq_nil_of_le (by omega)]
    simp [vl, List.getD_eq_getElem?_getD, List.getElem?_eq_none (by omega : ys.length ≤ i)]
theorem vl_split (b : Nat) (ys : List Nat) (i : Nat) (hi : i ≤ ys.length) : vl b ys = vl b (ys.take i) + b ^ i * vl b (ys.drop i) := by
  conv => lhs; rw [← List.take_append_drop i ys, vl_append]
  rw [List.length_take, Nat.min_eq_left hi]
theorem vl_set (b : Nat) (xs : List Nat) (i d : Nat) (hi : i < xs.length) : vl b (xs.set i d) + b ^ i * xs.getD i 0 = vl b xs + b ^ i * d := by
  rw [vl_split b (xs.set i d) i (by simp; omega), vl_split b xs i (by omega), vl_dropD b (xs.set i d) i, vl_dropD b xs i]
  rw [List.take_set_of_le (Nat.le_refl i), List.drop_set_of_lt (by omega)]
  have : (xs.set i d).getD i 0 = d := by simp [List.getD_eq_getElem?_getD, hi]
  rw [this]
  simp only [Nat.mul_add]
  omega

/-- One step of a sum on paper. -/
theorem add_step {b : Nat} {xs ys acc : List Nat} {i c : Nat} (hi : acc.length = i)
    (h : vl b acc + b ^ i * c = vl b (xs.take i) + vl b (ys.take i)) :
    vl b (acc ++ [(c + xs.getD i 0 + ys.getD i 0) % b]) + b ^ (i + 1) * ((c + xs.getD i 0 + ys.getD i 0) / b) = vl b (xs.take (i + 1)) + vl b (ys.take (i + 1)) := by
  rw [vl_takeD, vl_takeD, vl_snoc, hi, Nat.pow_succ, Nat.mul_assoc, Nat.add_assoc, ← Nat.mul_add, Nat.mod_add_div, Nat.mul_add, Nat.mul_add]
  omega
/-- One step of a difference on paper. -/
theorem sub_step {b : Nat} {xs ys acc : List Nat} {i q d q' : Nat} (hi : acc.length = i) (hd : d + ys.getD i 0 + q = xs.getD i 0 + b * q')
    (h : vl b acc + vl b (ys.take i) = vl b (xs.take i) + b ^ i * q) :
    vl b (acc ++ [d]) + vl b (ys.take (i + 1)) = vl b (xs.take (i + 1)) + b ^ (i + 1) * q' := by
  rw [vl_takeD, vl_takeD, vl_snoc, hi, Nat.pow_succ, Nat.mul_assoc]
  have e : b ^ i * (d + ys.getD i 0 + q) = b ^ i * (xs.getD i 0 + b * q') := by rw [hd]
  simp only [Nat.mul_add] at e
  omega
theorem sub_digit {x y q t b : Nat} (hx : x < b) (_hy : y < b) (hq : q ≤ 1) (ht : t + q + y = x + b) :
    t % b + y + q = x + b * (1 - t / b) ∧ t / b ≤ 1 := by
  have h1 : t < b * 2 := by omega
  have h2 : t / b < 2 := Nat.div_lt_of_lt_mul h1
  have h3 := Nat.mod_add_div t b
  rcases Nat.eq_zero_or_pos (t / b) with h | h
  · rw [h] at h3 ⊢; simp at h3 ⊢; omega
  · have h4 : t / b = 1 := by omega
    rw [h4] at h3 ⊢; simp at h3 ⊢; omega
theorem sub_end {b : Nat} {xs ys acc : List Nat} {q : Nat} (hi : acc.length = xs.length) (hl : ys.length ≤ xs.length) (hb : ∀ d ∈ acc, d < b) (hle : vl b ys ≤ vl b xs)
    (h : vl b acc + vl b (ys.take xs.length) = vl b (xs.take xs.length) + b ^ xs.length * q) : vl b acc = vl b xs - vl b ys := by
  rw [List.take_of_length_le hl, List.take_length] at h
  have hlt := vl_lt b acc hb
  rw [hi] at hlt
  rcases Nat.eq_zero_or_pos q with h0 | h0
  · subst h0; omega
  · have : b ^ xs.length * 1 ≤ b ^ xs.length * q := Nat.mul_le_mul_left _ h0
    omega
/-- One step of a product on paper. -/
theorem mul_step {b : Nat} {xs ys P : List Nat} {i j c : Nat} (hij : i + j < P.length)
    (h : vl b P + b ^ (i + j) * c = vl b (xs.take i) * vl b ys + b ^ i * (xs.getD i 0 * vl b (ys.take j))) :
    vl b (P.set (i + j) ((c + (xs.getD i 0 * ys.getD j 0 + P.getD (i + j) 0)) % b)) + b ^ (i + (j + 1)) * ((c + (xs.getD i 0 * ys.getD j 0 + P.getD (i + j) 0)) / b) =
      vl b (xs.take i) * vl b ys + b ^ i * (xs.getD i 0 * vl b (ys.take (j + 1))) := by
  have h1 := vl_set b P (i + j) ((c + (xs.getD i 0 * ys.getD j 0 + P.getD (i + j) 0)) % b) hij
  have h2 := Nat.mod_add_div (c + (xs.getD i 0 * ys.getD j 0 + P.getD (i + j) 0)) b
  generalize hT : (c + (xs.getD i 0 * ys.getD j 0 + P.getD (i + j) 0)) = T at *
  have h3 : b ^ (i + j) * (T % b + b * (T / b)) = b ^ (i + j) * T := by rw [h2]
  rw [← Nat.add_assoc, Nat.pow_succ, Nat.mul_assoc, vl_takeD]
  have h4 : b ^ (i + j) * T = b ^ (i + j) * c + (b ^ i * (xs.getD i 0 * (b ^ j * ys.getD j 0)) + b ^ (i + j) * P.getD (i + j) 0) := by
    rw [← hT, Nat.mul_add, Nat.mul_add, Nat.pow_add]
    congr 2
    generalize b ^ i = p; generalize b ^ j = r; generalize xs.getD i 0 = x; generalize ys.getD j 0 = y
    rw [Nat.mul_assoc, Nat.mul_left_comm r x y]
  simp only [Nat.mul_add] at *
  omega
theorem mul_last {b : Nat} {xs ys P : List Nat} {i c : Nat} (hij : i + ys.length < P.length) (h0 : P.getD (i + ys.length) 0 = 0)
    (h : vl b P + b ^ (i + ys.length) * c = vl b (xs.take i) * vl b ys + b ^ i * (xs.getD i 0 * vl b (ys.take ys.length))) :
    vl b (P.set (i + ys.length) c) = vl b (xs.take (i + 1)) * vl b ys := by
  have h1 := vl_set b P (i + ys.length) c hij
  rw [h0] at h1
  rw [List.take_length] at h
  rw [vl_takeD, Nat.add_mul, Nat.mul_assoc]
  omega
theorem mul_bound {c x y p b : Nat} (hc : c < b) (hx : x < b) (hy : y < b) (hp : p < b) : c + (x * y + p) < b * b := by
  obtain ⟨n, rfl⟩ : ∃ n, b = n + 1 := ⟨b - 1, by omega⟩
  have h := Nat.mul_le_mul (show x ≤ n by omega) (show y ≤ n by omega)
  have : (n + 1) * (n + 1) = n * n + n + n + 1 := by rw [Nat.add_mul, Nat.mul_add]; omega
  omega
theorem mem_set {xs : List Nat} {i d b : Nat} (h : ∀ x ∈ xs, x < b) (hd : d < b) : ∀ x ∈ xs.set i d, x < b := by
  intro x hx
  rcases List.mem_or_eq_of_mem_set hx with h1 | h1
  · exact h x h1
  · omega
theorem getD_ltB {ds : List Nat} {b : Nat} (hb : 0 < b) (h : ∀ d ∈ ds, d < b) (i : Nat) : ds.getD i 0 < b := by
  by_cases hi : i < ds.length
  · have e : ds.getD i 0 = ds[i] := by simp [hi]
    rw [e]; exact h _ (List.getElem_mem hi)
  · simp [List.getD_eq_getElem?_getD, List.getElem?_eq_none (by omega : ds.length ≤ i)]; exact hb
theorem lget_set_ne {xs : List Nat} {i k d : Nat} (h : i ≠ k) : (xs.set i d).getD k 0 = xs.getD k 0 := by
  simp [List.getD_eq_getElem?_getD, List.getElem?_set_ne h]

/-- The head of a number, cut at place e. -/
theorem head_of {b : Nat} (hb : 0 < b) {xs : List Nat} (h : ∀ d ∈ xs, d < b) (e : Nat) (he : e ≤ xs.length) : vl b xs / b ^ e = vl b (xs.drop e) := by
  rw [vl_split b xs e he]
  have h1 := vl_lt b (xs.take e) (fun d hd => h d (List.mem_of_mem_take hd))
  rw [List.length_take, Nat.min_eq_left he] at h1
  rw [Nat.add_comm, Nat.mul_add_div (Nat.pow_pos hb), Nat.div_eq_of_lt h1]; rfl
/-- The guess of one part of a quotient is not too low. -/
theorem guess_ge {b A V t l first : Nat} (ht : 0 < t) (htv : t * b ^ l ≤ V) (hf : A / b ^ l = first) (hlt : A < V * b) (hb : 0 < b) : A / V ≤ min (first / t) (b - 1) := by
  have hV : 0 < V := Nat.lt_of_lt_of_le (Nat.mul_pos ht (Nat.pow_pos hb)) htv
  have h1 : A / V < b := Nat.div_lt_of_lt_mul hlt
  refine Nat.le_min.2 ⟨(Nat.le_div_iff_mul_le ht).2 ?_, by omega⟩
  rw [← hf]
  refine (Nat.le_div_iff_mul_le (Nat.pow_pos hb)).2 ?_
  have h2 := Nat.div_mul_le_self A V
  have h3 : A / V * (t * b ^ l) ≤ A / V * V := Nat.mul_le_mul_left _ htv
  rw [Nat.mul_assoc]; omega
/-- One step of a division on paper. -/
theorem div_step {b V T p : Nat} (hV : 0 < V) : (p + b * T) / V = (p + b * (T % V)) / V + b * (T / V) ∧ (p + b * T) % V = (p + b * (T % V)) % V := by
  have e : p + b * T = p + b * (T % V) + V * (b * (T / V)) := by
    have := Nat.mod_add_div T V
    conv => lhs; rw [← this, Nat.mul_add, ← Nat.add_assoc]
    rw [Nat.mul_left_comm b V]
  constructor
  · rw [e, Nat.add_mul_div_left _ _ hV]
  · rw [e, Nat.add_mul_mod_self_left]
theorem rest_lt {b V T p : Nat} (hp : p < b) (hV : 0 < V) : p + b * (T % V) < V * b := by
  have h := Nat.mod_lt T hV
  obtain ⟨n, rfl⟩ : ∃ n, V = n + 1 := ⟨V - 1, by omega⟩
  have h2 : b * (T % (n + 1)) ≤ b * n := Nat.mul_le_mul_left _ (by omega)
  rw [Nat.add_mul, Nat.mul_comm n b]; omega
end Dig
end Go.Proofs.YtcclclginhhlaaaDoor
