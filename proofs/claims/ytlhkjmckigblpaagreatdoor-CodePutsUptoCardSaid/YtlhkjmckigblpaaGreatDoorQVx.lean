/- Plain facts: digits, numbers' texts, and that how values stand is an order (PDig, PPlain, PTxt, Vx made one). -/
import Derived.Lib.Hide
import Derived.Test.YtlhkjmckigblpaaGreatDoorKb
import Derived.Test.YtlhkjmckigblpaaGreatDoorVo
namespace Go.Proofs.YtlhkjmckigblpaaGreatDoor
namespace Dig

/-- The number of a list of digits. -/
def vl (b : Nat) : List Nat → Nat
  | [] => 0
  | d :: r => d + b * vl b r
def dgF (b : Nat) : Nat → Nat → List Nat
  | 0, _ => []
  | f + 1, n => if n = 0 then [] else n % b :: dgF b f (n / b)
/-- The digits of a number, none behind the last that is not 0. -/
def dg (b n : Nat) : List Nat := dgF b n n

theorem vl_append (b : Nat) : ∀ (xs ys : List Nat), vl b (xs ++ ys) = vl b xs + b ^ xs.length * vl b ys
  | [], ys => by simp [vl]
  | d :: r, ys => by
    simp only [List.cons_append, vl, vl_append b r ys, List.length_cons, Nat.pow_succ, Nat.mul_add]
    rw [Nat.mul_comm (b ^ r.length) b, Nat.mul_assoc]; omega
theorem vl_snoc (b : Nat) (xs : List Nat) (d : Nat) : vl b (xs ++ [d]) = vl b xs + b ^ xs.length * d := by
  rw [vl_append]; simp [vl]
theorem vl_zeros (b : Nat) : ∀ xs : List Nat, (∀ d ∈ xs, d = 0) → vl b xs = 0
  | [], _ => rfl
  | d :: r, h => by
    have h0 : d = 0 := h d (by simp)
    have h1 := vl_zeros b r (fun x hx => h x (by simp [hx]))
    simp [vl, h0, h1]
theorem vl_lt (b : Nat) : ∀ xs : List Nat, (∀ d ∈ xs, d < b) → vl b xs < b ^ xs.length
  | [], _ => by simp [vl]
  | d :: r, h => by
    have h0 : d < b := h d (by simp)
    have h1 := vl_lt b r (fun x hx => h x (by simp [hx]))
    simp only [vl, List.length_cons, Nat.pow_succ]
    have h2 : b * (vl b r + 1) ≤ b * b ^ r.length := Nat.mul_le_mul_left b h1
    rw [Nat.mul_comm (b ^ r.length) b]; rw [Nat.mul_add] at h2; omega
theorem dgF_vl {b : Nat} (hb : 2 ≤ b) : ∀ (f n : Nat), n ≤ f → vl b (dgF b f n) = n
  | 0, n, h => by simp [dgF, vl]; omega
  | f + 1, n, h => by
    unfold dgF
    by_cases hn : n = 0
    · simp [hn, vl]
    · rw [if_neg hn]
      have : n / b < n := Nat.div_lt_self (by omega) hb
      simp only [vl, dgF_vl hb f (n / b) (by omega)]
      exact Nat.mod_add_div n b
theorem dg_vl {b : Nat} (hb : 2 ≤ b) (n : Nat) : vl b (dg b n) = n := dgF_vl hb n n (Nat.le_refl _)
theorem dgF_lt {b : Nat} (hb : 2 ≤ b) : ∀ (f n : Nat), ∀ d ∈ dgF b f n, d < b
  | 0, n, d, h => by simp [dgF] at h
  | f + 1, n, d, h => by
    unfold dgF at h
    by_cases hn : n = 0
    · simp [hn] at h
    · rw [if_neg hn] at h
      rcases List.mem_cons.1 h with h | h
      · rw [h]; exact Nat.mod_lt _ (by omega)
      · exact dgF_lt hb f _ d h
theorem dg_lt {b : Nat} (hb : 2 ≤ b) (n : Nat) : ∀ d ∈ dg b n, d < b := dgF_lt hb n n
/-- No digit behind the last that is not 0. -/
def Tip (ds : List Nat) : Prop := ds.getLast? ≠ some 0
theorem canon {b : Nat} (hb : 2 ≤ b) : ∀ (xs ys : List Nat), (∀ d ∈ xs, d < b) → (∀ d ∈ ys, d < b) → Tip xs → Tip ys → vl b xs = vl b ys → xs = ys
  | [], [], _, _, _, _, _ => rfl
  | [], y :: ys, _, hy, _, ty, h => by
    exfalso
    have h0 : y + b * vl b ys = 0 := h.symm
    have hy0 : y = 0 := by omega
    have hb1 : b * vl b ys = 0 := by omega
    have hv : vl b ys = 0 := by rcases Nat.mul_eq_zero.1 hb1 with h | h <;> omega
    cases ys with
    | nil => subst hy0; exact ty (by simp)
    | cons z zs =>
      have := canon hb [] (z :: zs) (by simp) (fun d hd => hy d (by simp [hd])) (by simp [Tip]) (by simpa [Tip, List.getLast?_cons] using ty) hv.symm
      cases this
  | x :: xs, [], hx, _, tx, _, h => by
    exfalso
    have h0 : x + b * vl b xs = 0 := h
    have hx0 : x = 0 := by omega
    have hb1 : b * vl b xs = 0 := by omega
    have hv : vl b xs = 0 := by rcases Nat.mul_eq_zero.1 hb1 with h | h <;> omega
    cases xs with
    | nil => subst hx0; exact tx (by simp)
    | cons z zs =>
      have := canon hb (z :: zs) [] (fun d hd => hx d (by simp [hd])) (by simp) (by simpa [Tip, List.getLast?_cons] using tx) (by simp [Tip]) hv
      cases this
  | x :: xs, y :: ys, hx, hy, tx, ty, h => by
    have h0 : x + b * vl b xs = y + b * vl b ys := h
    have lx : x < b := hx x (by simp)
    have ly : y < b := hy y (by simp)
    have e1 : x = y := by
      have := congrArg (· % b) h0
      simp only [Nat.add_mul_mod_self_left, Nat.mod_eq_of_lt lx, Nat.mod_eq_of_lt ly] at this
      exact this
    have e2 : vl b xs = vl b ys := by
      subst e1
      have : b * vl b xs = b * vl b ys := by omega
      exact Nat.eq_of_mul_eq_mul_left (by omega) this
    subst e1
    congr 1
    refine canon hb xs ys (fun d hd => hx d (by simp [hd])) (fun d hd => hy d (by simp [hd])) ?_ ?_ e2
    · cases xs with
      | nil => simp [Tip]
      | cons => simpa [Tip, List.getLast?_cons] using tx
    · cases ys with
      | nil => simp [Tip]
      | cons => simpa [Tip, List.getLast?_cons] using ty
theorem dgF_tip {b : Nat} (hb : 2 ≤ b) : ∀ (f n : Nat), n ≤ f → Tip (dgF b f n)
  | 0, n, _ => by simp [dgF, Tip]
  | f + 1, n, h => by
    unfold dgF
    by_cases hn : n = 0
    · simp [hn, Tip]
    · rw [if_neg hn]
      have hlt : n / b < n := Nat.div_lt_self (by omega) hb
      have ih := dgF_tip hb f (n / b) (by omega)
      cases e : dgF b f (n / b) with
      | nil =>
        have hv := dgF_vl hb f (n / b) (by omega)
        rw [e] at hv
        have : n / b = 0 := hv.symm
        have : n % b = n := by have := Nat.mod_add_div n b; rw [‹n / b = 0›] at this; simpa using this
        simp [Tip, this, hn]
      | cons x xs => rw [e] at ih; simpa [Tip, List.getLast?_cons] using ih
theorem dg_tip {b : Nat} (hb : 2 ≤ b) (n : Nat) : Tip (dg b n) := dgF_tip hb n n (Nat.le_refl _)
theorem dg_of {b : Nat} (hb : 2 ≤ b) {ds : List Nat} (h : ∀ d ∈ ds, d < b) (t : Tip ds) : dg b (vl b ds) = ds :=
  canon hb _ _ (dg_lt hb _) h (dg_tip hb _) t (dg_vl hb _)
theorem dg_zero (b : Nat) : dg b 0 = [] := rfl
theorem dg_nil {b : Nat} (hb : 2 ≤ b) {n : Nat} : dg b n = [] ↔ n = 0 := by
  constructor
  · intro h; have := dg_vl hb n; rw [h] at this; exact this.symm
  · rintro rfl; rfl
theorem vl_ge {b : Nat} (_hb : 2 ≤ b) {ds : List Nat} (t : Tip ds) (hne : ds ≠ []) : b ^ (ds.length - 1) ≤ vl b ds := by
  obtain ⟨l, d, rfl⟩ : ∃ l d, ds = l ++ [d] := ⟨ds.dropLast, ds.getLast hne, (List.dropLast_concat_getLast hne).symm⟩
  rw [vl_snoc]; simp only [List.length_append, List.length_cons, List.length_nil, Nat.zero_add, Nat.add_sub_cancel]
  have hd : d ≠ 0 := by intro h; exact t (by simp [h])
  have : b ^ l.length * 1 ≤ b ^ l.length * d := Nat.mul_le_mul_left _ (by omega)
  omega
theorem dg_len {b : Nat} (hb : 2 ≤ b) (n k : Nat) : (dg b n).length ≤ k ↔ n < b ^ k := by
  constructor
  · intro h
    have h1 := vl_lt b (dg b n) (dg_lt hb n)
    rw [dg_vl hb] at h1
    exact Nat.lt_of_lt_of_le h1 (Nat.pow_le_pow_right (by omega) h)
  · intro h
    by_cases hn : dg b n = []
    · simp [hn]
    · have h1 := vl_ge hb (dg_tip hb n) hn
      rw [dg_vl hb] at h1
      rcases Nat.lt_or_ge k (dg b n).length with hk | hk
      · have := Nat.pow_le_pow_right (n := b) (by omega) (show k ≤ (dg b n).length - 1 by omega)
        omega
      · exact hk
/-- What is left when the noughts behind place k are cut. -/
theorem cut_zeros {b : Nat} (hb : 2 ≤ b) {ds : List Nat} {k : Nat} (hk : k ≤ ds.length) (h : ∀ d ∈ ds, d < b) (hz : ∀ j, k ≤ j → ∀ d, ds[j]? = some d → d = 0)
    (ht : ∀ d, ds[k - 1]? = some d → 0 < k → d ≠ 0) : ds.take k = dg b (vl b ds) := by
  have e : vl b ds = vl b (ds.take k) := by
    conv => lhs; rw [← List.take_append_drop k ds, vl_append]
    rw [vl_zeros b (ds.drop k)]
    · simp
    · intro d hd
      obtain ⟨j, hj⟩ := List.mem_iff_getElem?.1 hd
      rw [List.getElem?_drop] at hj
      exact hz _ (by omega) d hj
  rw [e, dg_of hb (fun d hd => h d (List.mem_of_mem_take hd))]
  intro hl
  rw [List.getLast?_eq_getElem?, List.length_take, Nat.min_eq_left hk, List.getElem?_take] at hl
  split at hl
  · exact ht 0 hl (by omega) rfl
  · cases hl
end Dig
end Go.Proofs.YtlhkjmckigblpaaGreatDoor

namespace Go.Proofs.YtlhkjmckigblpaaGreatDoor
open Go.RowKit
open Pl Dig

def sgn (b : Bool) (n : Nat) : Int := if b then -(n : Int) else n
theorem sgn_abs (b : Bool) (n : Nat) : (sgn b n).natAbs = n := by unfold sgn; split <;> simp

def dig (c : UInt8) : Nat := c.toNat - 48
def frm (s : ByteArray) : Nat := if negB s then 1 else 0
def digs (s : ByteArray) (j : Nat) : List Nat := (s.data.toList.drop j).reverse.map dig


theorem digs_len (s : ByteArray) (j : Nat) : (digs s j).length = s.size - j := by rw [size_len]; simp [digs]
theorem digs_step {s : ByteArray} {k : Nat} (hk : k < s.size) : digs s k = digs s (k + 1) ++ [dig s[k]] := by
  unfold digs
  rw [List.drop_eq_getElem_cons (by rw [← size_len]; exact hk)]
  simp; rfl
theorem digs_lt {s : ByteArray} {f : Nat} (h : ∀ j, (hj : j < s.size) → f ≤ j → isDig s[j] = true) {d : Nat} (hd : d ∈ digs s f) : d < 10 := by
  unfold digs at hd
  rw [List.mem_map] at hd
  obtain ⟨c, hc, rfl⟩ := hd
  rw [List.mem_reverse] at hc
  obtain ⟨i, hi⟩ := List.mem_iff_getElem?.1 hc
  rw [List.getElem?_drop] at hi
  obtain ⟨hlt, he⟩ := List.getElem?_eq_some_iff.1 hi
  have := h (f + i) (by rw [size_len]; exact hlt) (by omega)
  have e : s[f + i]'(by rw [size_len]; exact hlt) = c := he
  rw [e] at this
  unfold isDig at this; unfold dig
  have := of_decide_eq_true this; omega

def valL (l : List UInt8) : Int := sgn (decide (l.head? = some 45)) (vl 10 ((mag l).reverse.map dig))

theorem chk_good {l : List UInt8} (h : chk l = 0) : mag l ≠ [] ∧ ¬ ((mag l).head? = some 48 ∧ l ≠ [48]) ∧ (mag l).all isDig = true ∧ (mag l).length ≤ 200 := by
  unfold chk at h
  split at h
  · cases h
  · split at h
    · cases h
    · split at h
      · cases h
      · split at h
        · cases h
        · rename_i h1 h2 h3 h4
          exact ⟨h1, h2, by simpa using h3, by omega⟩
theorem mag_drop (s : ByteArray) : mag s.data.toList = s.data.toList.drop (frm s) := by
  unfold mag frm negB
  by_cases h : s.data.toList.head? = some 45 <;> simp [h]
theorem val_digs (s : ByteArray) : sgn (negB s) (vl 10 (digs s (frm s))) = valL s.data.toList := by
  unfold valL negB digs; rw [mag_drop]
theorem mag_len_le (l : List UInt8) : l.length ≤ (mag l).length + 1 := by unfold mag; split <;> simp; omega
theorem good_size {s : ByteArray} (h : chk s.data.toList = 0) : s.size ≤ 201 ∧ 0 < s.size := by
  obtain ⟨h1, _, _, h4⟩ := chk_good h
  have := mag_len_le s.data.toList
  rw [← size_len] at this
  refine ⟨by omega, ?_⟩
  rw [size_len]
  rcases Nat.eq_zero_or_pos s.data.toList.length with h0 | h0
  · have := List.eq_nil_of_length_eq_zero h0
    rw [this] at h1; exact absurd rfl h1
  · exact h0
theorem good_digs {s : ByteArray} (h : chk s.data.toList = 0) : ∀ j, (hj : j < s.size) → frm s ≤ j → isDig s[j] = true := by
  intro j hj hf
  obtain ⟨_, _, h3, _⟩ := chk_good h
  rw [mag_drop, List.all_eq_true] at h3
  refine h3 _ ?_
  rw [List.mem_iff_getElem?]
  refine ⟨j - frm s, ?_⟩
  rw [List.getElem?_drop, show frm s + (j - frm s) = j from by omega, List.getElem?_eq_getElem (by rw [← size_len]; exact hj)]
  rfl
theorem val_len {l : List UInt8} (h : chk l = 0) : (dg 10 (valL l).natAbs).length ≤ 200 := by
  obtain ⟨_, _, h3, h4⟩ := chk_good h
  unfold valL; rw [sgn_abs, dg_len (by decide)]
  have := vl_lt 10 ((mag l).reverse.map dig) (fun d hd => by
    rw [List.mem_map] at hd
    obtain ⟨c, hc, rfl⟩ := hd
    rw [List.all_eq_true] at h3
    have := h3 c (by simpa using hc)
    unfold isDig at this; unfold dig; have := of_decide_eq_true this; omega)
  exact Nat.lt_of_lt_of_le this (Nat.pow_le_pow_right (by decide) (by simpa using h4))

theorem vl_drop_step (b : Nat) {ds : List Nat} {k : Nat} (hk : k < ds.length) : vl b (ds.drop k) = ds[k] + b * vl b (ds.drop (k + 1)) := by
  rw [List.drop_eq_getElem_cons hk]; rfl
theorem vl_drop_le {b : Nat} (hb : 2 ≤ b) (ds : List Nat) (k : Nat) : vl b (ds.drop k) ≤ vl b ds := by
  conv => rhs; rw [← List.take_append_drop k ds, vl_append]
  have : 1 * vl b (ds.drop k) ≤ b ^ (ds.take k).length * vl b (ds.drop k) := Nat.mul_le_mul_right _ (Nat.pow_pos (by omega))
  omega
def horStep (a : Nat) (c : UInt8) : Nat := a * 10 + dig c
def hor (acc : Nat) (l : List UInt8) : Nat := l.foldl horStep acc
theorem hor_nil (acc : Nat) : hor acc [] = acc := by unfold hor; rw [List.foldl_nil]
theorem hor_cons (acc : Nat) (c : UInt8) (r : List UInt8) : hor acc (c :: r) = hor (acc * 10 + dig c) r := by unfold hor; rw [List.foldl_cons]; rfl
theorem hor_ge : ∀ (l : List UInt8) (acc : Nat), acc ≤ hor acc l
  | [], acc => by rw [hor_nil]; exact Nat.le_refl _
  | c :: r, acc => by
    rw [hor_cons]
    have := hor_ge r (acc * 10 + dig c)
    omega
theorem hor_snoc (acc : Nat) (l : List UInt8) (c : UInt8) : hor acc (l ++ [c]) = hor acc l * 10 + dig c := by
  unfold hor; rw [List.foldl_append, List.foldl_cons, List.foldl_nil]; rfl
theorem hor_vl (l : List UInt8) : vl 10 (l.reverse.map dig) = hor 0 l := by
  obtain ⟨m, rfl⟩ : ∃ m, l = m.reverse := ⟨l.reverse, by simp⟩
  induction m with
  | nil => rfl
  | cons c r ih =>
    rw [List.reverse_reverse] at ih ⊢
    rw [List.map_cons, List.reverse_cons, hor_snoc, ← ih]
    simp only [vl]; omega
def pairE (a b : List UInt8) : Int := if chk a ≠ 0 then chk a else chk b

theorem pairE_zero {a b : List UInt8} : pairE a b = 0 ↔ chk a = 0 ∧ chk b = 0 := by
  unfold pairE; split
  · rename_i h; constructor
    · intro h2; exact absurd h2 h
    · intro h2; exact absurd h2.1 h
  · rename_i h
    have h' : chk a = 0 := by simpa using h
    simp [h']
def cmpI (x y : Int) : Int := if x < y then -1 else if y < x then 1 else 0

/-- The order of numbers' texts. -/
def zcmp (a b : List UInt8) : Int := cmpI (valL a) (valL b)
end Go.Proofs.YtlhkjmckigblpaaGreatDoor

namespace Go.Proofs.YtlhkjmckigblpaaGreatDoor
open Pl Dig

def chr (d : Nat) : UInt8 := UInt8.ofNat (48 + d)
theorem chr_nat {d : Nat} (h : d < 10) : (chr d).toNat = 48 + d := by
  unfold chr; rw [UInt8.toNat_ofNat']; omega
def txt (z : Int) : List UInt8 := if z = 0 then [48] else (if z < 0 then [45] else []) ++ (dg 10 z.natAbs).reverse.map chr

/-- The digits of a number, the first one first. -/
def bodyT (n : Nat) : List UInt8 := (dg 10 n).reverse.map chr
theorem chr_dig {d : Nat} (h : d < 10) : isDig (chr d) = true := by
  unfold isDig; rw [chr_nat h]; simp; omega
theorem dig_chr {d : Nat} (h : d < 10) : dig (chr d) = d := by
  unfold dig; rw [chr_nat h]; omega
theorem body_dig (n : Nat) : (bodyT n).all isDig = true := by
  rw [List.all_eq_true]
  intro c hc
  simp only [bodyT, List.mem_map, List.mem_reverse] at hc
  obtain ⟨d, hd, rfl⟩ := hc
  exact chr_dig (dg_lt (by decide) n d hd)
theorem body_len (n : Nat) : (bodyT n).length = (dg 10 n).length := by simp [bodyT]
theorem body_back (n : Nat) : (bodyT n).reverse.map dig = dg 10 n := by
  unfold bodyT
  rw [← List.map_reverse, List.reverse_reverse, List.map_map]
  conv => rhs; rw [← List.map_id (dg 10 n)]
  exact List.map_congr_left fun d hd => dig_chr (dg_lt (by decide) n d hd)
/-- What a text of digits begins with. -/
theorem body_head {n : Nat} (hn : n ≠ 0) : ∃ d, d < 10 ∧ d ≠ 0 ∧ (bodyT n).head? = some (chr d) := by
  have h1 : dg 10 n ≠ [] := by rw [ne_eq, dg_nil (by decide)]; exact hn
  have ht := dg_tip (b := 10) (by decide) n
  unfold Tip at ht
  refine ⟨(dg 10 n).getLast h1, dg_lt (by decide) n _ (List.getLast_mem h1), fun h0 => ht ?_, ?_⟩
  · rw [List.getLast?_eq_some_getLast h1, h0]
  · unfold bodyT
    rw [List.head?_map, List.head?_reverse, List.getLast?_eq_some_getLast h1]; rfl
theorem chr_eq {d e : Nat} (hd : d < 10) (h : (chr d).toNat = e) : 48 + d = e := by rw [← h, chr_nat hd]
theorem txt_zero : txt 0 = [48] := rfl
theorem txt_ne {z : Int} (hz : z ≠ 0) : txt z = (if z < 0 then [45] else []) ++ bodyT z.natAbs := by unfold txt; rw [if_neg hz]; rfl
theorem mag_txt {z : Int} (hz : z ≠ 0) : mag (txt z) = bodyT z.natAbs ∧ ((txt z).head? = some 45 ↔ z < 0) ∧ (mag (txt z)).head? ≠ some 48 ∧ mag (txt z) ≠ [] := by
  obtain ⟨d, hd, hd0, hh⟩ := body_head (n := z.natAbs) (by omega)
  have hne45 : chr d ≠ 45 := fun h => by have := chr_eq hd (congrArg UInt8.toNat h); simp at this; omega
  have hne48 : chr d ≠ 48 := fun h => by have := chr_eq hd (congrArg UInt8.toNat h); simp at this; omega
  have hb : bodyT z.natAbs ≠ [] := by intro h; rw [h] at hh; cases hh
  rw [txt_ne hz]
  by_cases hn : z < 0
  · rw [if_pos hn]
    have e : mag ([45] ++ bodyT z.natAbs) = bodyT z.natAbs := by unfold mag; simp
    rw [e]
    exact ⟨rfl, by simp [hn], by rw [hh]; intro h; injection h with h; exact hne48 h, hb⟩
  · rw [if_neg hn, List.nil_append]
    have e : mag (bodyT z.natAbs) = bodyT z.natAbs := by unfold mag; rw [hh, if_neg (by intro h; injection h with h; exact hne45 h)]
    rw [e]
    refine ⟨rfl, ?_, by rw [hh]; intro h; injection h with h; exact hne48 h, hb⟩
    rw [hh]
    exact ⟨fun h => by injection h with h; exact absurd h hne45, fun h => absurd h hn⟩
/-- Whether a number's text is one, as it must be. -/
theorem chk_txt (z : Int) : chk (txt z) = if 200 < (dg 10 z.natAbs).length then 80 else 0 := by
  by_cases hz : z = 0
  · subst hz; rfl
  · obtain ⟨h1, _, h3, h4⟩ := mag_txt hz
    rw [chk_end h4 (fun h => h3 h.1) (by rw [h1]; exact body_dig _), h1, body_len]
/-- The number of a number's text. -/
theorem val_txt (z : Int) : valL (txt z) = z := by
  by_cases hz : z = 0
  · subst hz; rfl
  · obtain ⟨h1, h2, _, _⟩ := mag_txt hz
    unfold valL
    rw [h1, body_back, dg_vl (by decide)]
    unfold sgn
    by_cases hn : z < 0
    · rw [decide_eq_true (h2.2 hn)]; simp; omega
    · rw [decide_eq_false (fun h => hn (h2.1 h))]; simp; omega
theorem chr_of_dig {c : UInt8} (h : isDig c = true) : chr (dig c) = c := by
  unfold isDig at h
  have h := of_decide_eq_true h
  have hd : dig c < 10 := by unfold dig; omega
  apply UInt8.toNat.inj
  rw [chr_nat hd]; unfold dig; omega
/-- A number's own text. -/
theorem txt_val {l : List UInt8} (h : chk l = 0) : txt (valL l) = l := by
  by_cases h48 : l = [48]
  · subst h48; rfl
  · obtain ⟨h1, h2, h3, _⟩ := chk_good h
    have hhead : (mag l).head? ≠ some 48 := fun hh => h2 ⟨hh, h48⟩
    obtain ⟨c, r, hm⟩ : ∃ c r, mag l = c :: r := by
      cases hm : mag l with
      | nil => exact absurd hm h1
      | cons c r => exact ⟨c, r, rfl⟩
    have hall : ∀ x ∈ mag l, isDig x = true := by rwa [List.all_eq_true] at h3
    have hc48 : c ≠ 48 := by rintro rfl; rw [hm] at hhead; exact hhead rfl
    have hcd : isDig c = true := hall c (by rw [hm]; simp)
    have hds : ∀ d ∈ (mag l).reverse.map dig, d < 10 := by
      intro d hd
      simp only [List.mem_map, List.mem_reverse] at hd
      obtain ⟨x, hx, rfl⟩ := hd
      have := of_decide_eq_true (hall x hx)
      unfold dig; omega
    have hc0 : dig c ≠ 0 := by
      have := of_decide_eq_true hcd
      intro h0
      apply hc48
      apply UInt8.toNat.inj
      unfold dig at h0
      show c.toNat = 48
      omega
    have htip : Tip ((mag l).reverse.map dig) := by
      unfold Tip
      rw [hm, List.reverse_cons, List.map_append, List.map_cons, List.map_nil, List.getLast?_append]
      simp
      exact hc0
    have hdg := dg_of (b := 10) (by decide) hds htip
    have hpos : 0 < vl 10 ((mag l).reverse.map dig) := by
      have := vl_ge (b := 10) (by decide) htip (by rw [hm]; simp)
      exact Nat.lt_of_lt_of_le (Nat.pow_pos (by decide)) this
    have hbody : bodyT (vl 10 ((mag l).reverse.map dig)) = mag l := by
      unfold bodyT
      rw [hdg, ← List.map_reverse, List.reverse_reverse, List.map_map]
      conv => rhs; rw [← List.map_id (mag l)]
      exact List.map_congr_left fun x hx => chr_of_dig (hall x hx)
    have hz : valL l ≠ 0 := by
      unfold valL sgn; split <;> omega
    rw [txt_ne hz]
    have habs : (valL l).natAbs = vl 10 ((mag l).reverse.map dig) := by unfold valL; rw [sgn_abs]
    rw [habs, hbody]
    by_cases hn : l.head? = some 45
    · have hlt : valL l < 0 := by unfold valL sgn; rw [decide_eq_true hn, if_pos rfl]; omega
      rw [if_pos hlt]
      unfold mag
      rw [if_pos hn]
      cases l with
      | nil => cases hn
      | cons x r => injection hn with hn; subst hn; rfl
    · have hlt : ¬ valL l < 0 := by unfold valL sgn; rw [decide_eq_false hn]; simp
      rw [if_neg hlt]
      unfold mag
      rw [if_neg hn]; rfl
theorem val_inj {k l : List UInt8} (hk : chk k = 0) (hl : chk l = 0) (h : valL k = valL l) : k = l := by rw [← txt_val hk, ← txt_val hl, h]
end Go.Proofs.YtlhkjmckigblpaaGreatDoor

namespace Go.Proofs.YtlhkjmckigblpaaGreatDoor
open Vp Pl

/-- Three comparisons are handed on. -/
def Tri (x y z : Int) : Prop := x ≤ 0 → y ≤ 0 → z ≤ 0 ∧ ((x < 0 ∨ y < 0) → z < 0) ∧ (x = 0 → y = 0 → z = 0)
def One3 (x : Int) : Prop := x = -1 ∨ x = 0 ∨ x = 1
def lx (p q : Int) : Int := if p ≠ 0 then p else q
theorem Tri.lx {x y z x' y' z' : Int} (h : Tri x y z) (h' : Tri x' y' z') : Tri (lx x x') (lx y y') (lx z z') := by
  unfold Tri Go.Proofs.YtlhkjmckigblpaaGreatDoor.lx at *
  split <;> split <;> split <;> omega
theorem One3.lx {x x' : Int} (h : One3 x) (h' : One3 x') : One3 (lx x x') := by
  unfold Go.Proofs.YtlhkjmckigblpaaGreatDoor.lx; split <;> assumption
theorem lx_neg {x x' y y' : Int} (h : x = -y) (h' : x' = -y') : lx x x' = - lx y y' := by
  unfold lx; split <;> split <;> omega
theorem cmpI_tri (a b c : Int) : Tri (cmpI a b) (cmpI b c) (cmpI a c) := by
  unfold Tri cmpI; repeat' split
  all_goals omega
theorem cmpI_one (a b : Int) : One3 (cmpI a b) := by
  unfold One3 cmpI; repeat' split
  all_goals omega
theorem cmpI_neg (a b : Int) : cmpI a b = - cmpI b a := by
  unfold cmpI; repeat' split
  all_goals omega
theorem cmpI_zero {a b : Int} (h : cmpI a b = 0) : a = b := by
  unfold cmpI at h
  split at h
  · omega
  · split at h <;> omega
theorem cb_cons (a b : UInt8) (xs bs : List UInt8) : Lib.compareBytes (a :: xs) (b :: bs) = lx (cmpI a.toNat b.toNat) (Lib.compareBytes xs bs) := by
  rw [Lib.compareBytes, lx, cmpI]
  simp only [UInt8.lt_iff_toNat_lt]
  repeat' split
  all_goals first | rfl | omega
theorem cb_one : ∀ a b : List UInt8, One3 (Lib.compareBytes a b)
  | [], [] => .inr (.inl rfl)
  | [], _ :: _ => .inl rfl
  | _ :: _, [] => .inr (.inr rfl)
  | a :: xs, b :: bs => by rw [cb_cons]; exact (cmpI_one _ _).lx (cb_one xs bs)
theorem cb_neg : ∀ a b : List UInt8, Lib.compareBytes a b = - Lib.compareBytes b a
  | [], [] => rfl
  | [], _ :: _ => rfl
  | _ :: _, [] => rfl
  | a :: xs, b :: bs => by rw [cb_cons, cb_cons]; exact lx_neg (cmpI_neg _ _) (cb_neg xs bs)
theorem cb_tri : ∀ a b c : List UInt8, Tri (Lib.compareBytes a b) (Lib.compareBytes b c) (Lib.compareBytes a c)
  | [], [], [] => by simp [Tri, Lib.compareBytes]
  | [], [], _ :: _ => by simp [Tri, Lib.compareBytes]
  | [], _ :: _, [] => by simp [Tri, Lib.compareBytes]
  | [], _ :: _, _ :: _ => by simp [Tri, Lib.compareBytes]
  | _ :: _, [], [] => by simp [Tri, Lib.compareBytes]
  | _ :: _, [], _ :: _ => by simp [Tri, Lib.compareBytes]
  | _ :: _, _ :: _, [] => by simp [Tri, Lib.compareBytes]
  | a :: xs, b :: bs, c :: cs => by rw [cb_cons, cb_cons, cb_cons]; exact (cmpI_tri _ _ _).lx (cb_tri xs bs cs)
theorem lx_zero {p q : Int} (h : lx p q = 0) : p = 0 ∧ q = 0 := by
  unfold lx at h; split at h
  · exact absurd h (by assumption)
  · rename_i hp; exact ⟨by omega, h⟩
theorem cb_zero : ∀ a b : List UInt8, Lib.compareBytes a b = 0 → a = b
  | [], [], _ => rfl
  | [], _ :: _, h => absurd h (by simp [Lib.compareBytes])
  | _ :: _, [], h => absurd h (by simp [Lib.compareBytes])
  | a :: xs, b :: bs, h => by
    rw [cb_cons] at h
    obtain ⟨h1, h2⟩ := lx_zero h
    have := cmpI_zero h1
    rw [cb_zero xs bs h2, show a = b from UInt8.toNat.inj (by omega)]

theorem vcmpI (a b : Int) : Vp.cmpI a b = cmpI a b := rfl
/-- What stands behind the kinds. -/
def behind (k : Nat) (n n' : Int) (s s' : List UInt8) (q : Int) : Int :=
  if k = 1 ∨ k = 2 then cmpI n n' else if k = 3 then zcmp s s' else lx (Lib.compareBytes s s') q
theorem cmpV_eq (k k' : Nat) (n n' : Int) (s s' : ByteArray) (l l' : List V) :
    cmpV zcmp (.mk k n s l) (.mk k' n' s' l') = lx (cmpI k k') (behind k n n' s.data.toList s'.data.toList (cmpL zcmp l l')) := by
  rw [cmpV, lx, behind]
  simp only [vcmpI]
  by_cases h : k = k'
  · subst h
    have : cmpI (k : Int) k = 0 := by unfold cmpI; simp
    simp only [this, ne_eq, not_true_eq_false, if_false, lx]
  · have : cmpI (k : Int) k' ≠ 0 := fun e => h (by have := cmpI_zero e; omega)
    simp only [this, ne_eq, h, not_false_eq_true, if_true]
theorem cmpL_cons (x y : V) (xs ys : List V) : cmpL zcmp (x :: xs) (y :: ys) = lx (cmpV zcmp x y) (cmpL zcmp xs ys) := by rw [cmpL, lx]
theorem cmpL_nil : cmpL zcmp [] [] = 0 := by rw [cmpL]
theorem cmpL_less (y : V) (ys : List V) : cmpL zcmp [] (y :: ys) = -1 := by rw [cmpL]
theorem cmpL_more (x : V) (xs : List V) : cmpL zcmp (x :: xs) [] = 1 := by rw [cmpL]
theorem behind_one (k : Nat) (n n' : Int) (s s' : List UInt8) {q : Int} (hq : One3 q) : One3 (behind k n n' s s' q) := by
  unfold behind; split
  · exact cmpI_one _ _
  · split
    · exact cmpI_one _ _
    · exact (cb_one _ _).lx hq
theorem behind_neg (k : Nat) (n n' : Int) (s s' : List UInt8) {q q' : Int} (hq : q = - q') : behind k n n' s s' q = - behind k n' n s' s q' := by
  unfold behind; split
  · exact cmpI_neg _ _
  · split
    · exact cmpI_neg _ _
    · exact lx_neg (cb_neg _ _) hq
theorem behind_tri (k : Nat) (n n' n'' : Int) (s s' s'' : List UInt8) {x y z : Int} (h : Tri x y z) : Tri (behind k n n' s s' x) (behind k n' n'' s' s'' y) (behind k n n'' s s'' z) := by
  unfold behind; split
  · exact cmpI_tri _ _ _
  · split
    · exact cmpI_tri _ _ _
    · exact (cb_tri _ _ _).lx h
theorem cmpL_one_of : ∀ (a b : List V), (∀ t ∈ a, ∀ t', One3 (cmpV zcmp t t')) → One3 (cmpL zcmp a b)
  | [], [], _ => by rw [cmpL_nil]; exact .inr (.inl rfl)
  | [], _ :: _, _ => by rw [cmpL_less]; exact .inl rfl
  | _ :: _, [], _ => by rw [cmpL_more]; exact .inr (.inr rfl)
  | x :: xs, y :: ys, h => by rw [cmpL_cons]; exact (h x (by simp) y).lx (cmpL_one_of xs ys fun t ht => h t (by simp [ht]))
theorem cmpV_one (t : V) : ∀ t', One3 (cmpV zcmp t t') := by
  induction t using V.ind with
  | h k n s l ih =>
  rintro ⟨k', n', s', l'⟩
  rw [cmpV_eq]; exact (cmpI_one _ _).lx (behind_one _ _ _ _ _ (cmpL_one_of l l' ih))
theorem cmpL_neg_of : ∀ (a b : List V), (∀ t ∈ a, ∀ t', cmpV zcmp t t' = - cmpV zcmp t' t) → cmpL zcmp a b = - cmpL zcmp b a
  | [], [], _ => by rw [cmpL_nil]; rfl
  | [], _ :: _, _ => by rw [cmpL_less, cmpL_more]
  | _ :: _, [], _ => by rw [cmpL_less, cmpL_more]; rfl
  | x :: xs, y :: ys, h => by rw [cmpL_cons, cmpL_cons]; exact lx_neg (h x (by simp) y) (cmpL_neg_of xs ys fun t ht => h t (by simp [ht]))
theorem cmpV_neg (t : V) : ∀ t', cmpV zcmp t t' = - cmpV zcmp t' t := by
  induction t using V.ind with
  | h k n s l ih =>
  rintro ⟨k', n', s', l'⟩
  rw [cmpV_eq, cmpV_eq]
  by_cases hk : k = k'
  · subst hk; exact lx_neg (cmpI_neg _ _) (behind_neg _ _ _ _ _ (cmpL_neg_of l l' ih))
  · have h1 : cmpI (k : Int) k' ≠ 0 := fun e => hk (by have := cmpI_zero e; omega)
    have h2 := cmpI_neg (k : Int) k'
    unfold lx
    rw [if_pos h1, if_pos (by omega), h2]
theorem cmpL_tri_of : ∀ (a b c : List V), (∀ t ∈ a, ∀ t' t'', Tri (cmpV zcmp t t') (cmpV zcmp t' t'') (cmpV zcmp t t'')) → Tri (cmpL zcmp a b) (cmpL zcmp b c) (cmpL zcmp a c)
  | [], [], [], _ => by simp [Tri, cmpL_nil]
  | [], [], _ :: _, _ => by simp [Tri, cmpL_nil, cmpL_less]
  | [], _ :: _, [], _ => by simp [Tri, cmpL_more, cmpL_less]
  | [], _ :: _, _ :: _, _ => by simp [Tri, cmpL_less]
  | _ :: _, [], [], _ => by simp [Tri, cmpL_nil, cmpL_more]
  | _ :: _, [], _ :: _, _ => by simp [Tri, cmpL_more, cmpL_less]
  | _ :: _, _ :: _, [], _ => by simp [Tri, cmpL_more]
  | x :: xs, y :: ys, z :: zs, h => by
    rw [cmpL_cons, cmpL_cons, cmpL_cons]; exact (h x (by simp) y z).lx (cmpL_tri_of xs ys zs fun t ht => h t (by simp [ht]))
theorem cmpV_tri (t : V) : ∀ t' t'', Tri (cmpV zcmp t t') (cmpV zcmp t' t'') (cmpV zcmp t t'') := by
  induction t using V.ind with
  | h k n s l ih =>
  rintro ⟨k', n', s', l'⟩ ⟨k'', n'', s'', l''⟩
  rw [cmpV_eq, cmpV_eq, cmpV_eq]
  by_cases hk : k = k'
  · subst hk
    exact (cmpI_tri _ _ _).lx (behind_tri _ _ _ _ _ _ _ (cmpL_tri_of l l' l'' ih))
  · have h1 : cmpI (k : Int) k' ≠ 0 := fun e => hk (by have := cmpI_zero e; omega)
    have h2 := cmpI_tri (k : Int) k' k''
    have h3 : cmpI (k' : Int) k'' = 0 → (k' : Int) = k'' := cmpI_zero
    unfold Tri lx at *
    by_cases h4 : (k' : Int) = k''
    · have : cmpI (k' : Int) k'' = 0 := by rw [h4]; unfold cmpI; simp
      rw [h4] at h1 ⊢
      split <;> split <;> omega
    · have h5 : cmpI (k' : Int) k'' ≠ 0 := fun e => h4 (h3 e)
      rw [if_pos h1, if_pos h5]
      split <;> omega

theorem cmpL_one (a b : List V) : One3 (cmpL zcmp a b) := cmpL_one_of a b fun t _ => cmpV_one t
theorem cmpL_neg (a b : List V) : cmpL zcmp a b = - cmpL zcmp b a := cmpL_neg_of a b fun t _ => cmpV_neg t
theorem cmpL_tri (a b c : List V) : Tri (cmpL zcmp a b) (cmpL zcmp b c) (cmpL zcmp a c) := cmpL_tri_of a b c fun t _ => cmpV_tri t
theorem cmpR_one (a b : List V) : One3 (cmpR zcmp a b) := by
  have := cmpL_one a b
  unfold cmpR; unfold One3 at *
  repeat' split
  all_goals omega
theorem cmpR_neg (a b : List V) : cmpR zcmp a b = - cmpR zcmp b a := by
  have := cmpL_neg a b
  unfold cmpR
  cases invL a <;> cases invL b <;> simp <;> omega
theorem cmpR_tri (a b c : List V) : Tri (cmpR zcmp a b) (cmpR zcmp b c) (cmpR zcmp a c) := by
  have := cmpL_tri a b c
  unfold cmpR; unfold Tri at *
  cases invL a <;> cases invL b <;> cases invL c <;> simp <;> omega
theorem cmpR_self (a : List V) : cmpR zcmp a a = 0 := by have := cmpR_neg a a; omega

/-- Nothing in the value is of a wrong form, or too long. -/
def Fine (t : V) : Prop := some_ (bad Pl.chk) t = false ∧ some_ (long Pl.chk) t = false
theorem Fine.parts {k : Nat} {n : Int} {s : ByteArray} {l : List V} (h : Fine (.mk k n s l)) : bad Pl.chk (.mk k n s l) = false ∧ long Pl.chk (.mk k n s l) = false ∧ ∀ t ∈ l, Fine t := by
  obtain ⟨h1, h2⟩ := h
  rw [some_eq, Bool.or_eq_false_iff] at h1 h2
  refine ⟨h1.1, h2.1, fun t ht => ⟨?_, ?_⟩⟩
  · have h3 := h1.2; rw [List.any_eq_false] at h3; exact Bool.eq_false_iff.2 (h3 t ht)
  · have h3 := h2.2; rw [List.any_eq_false] at h3; exact Bool.eq_false_iff.2 (h3 t ht)
theorem data_inj {s s' : ByteArray} (h : s.data.toList = s'.data.toList) : s = s' := ByteArray.ext (Array.ext' h)
theorem size_zero {s : ByteArray} (h : s.size = 0) : s.data.toList = [] := List.eq_nil_of_length_eq_zero (by simpa using h)
theorem cmpL_same_of : ∀ (a b : List V), (∀ t ∈ a, ∀ t', Fine t → Fine t' → cmpV zcmp t t' = 0 → t = t') → (∀ t ∈ a, Fine t) → (∀ t ∈ b, Fine t) → cmpL zcmp a b = 0 → a = b
  | [], [], _, _, _, _ => rfl
  | [], _ :: _, _, _, _, h => by rw [cmpL_less] at h; omega
  | _ :: _, [], _, _, _, h => by rw [cmpL_more] at h; omega
  | x :: xs, y :: ys, ih, ha, hb, h => by
    rw [cmpL_cons] at h
    obtain ⟨h1, h2⟩ := lx_zero h
    rw [ih x (by simp) y (ha x (by simp)) (hb y (by simp)) h1, cmpL_same_of xs ys (fun t ht => ih t (by simp [ht])) (fun t ht => ha t (by simp [ht])) (fun t ht => hb t (by simp [ht])) h2]
theorem cmpV_same (t : V) : ∀ t', Fine t → Fine t' → cmpV zcmp t t' = 0 → t = t' := by
  induction t using V.ind with
  | h k n s l ih =>
  rintro ⟨k', n', s', l'⟩ h h' h0
  obtain ⟨b1, g1, p1⟩ := h.parts
  obtain ⟨b2, g2, p2⟩ := h'.parts
  rw [cmpV_eq] at h0
  obtain ⟨hk', h1⟩ := lx_zero h0
  clear h0
  have hk := cmpI_zero hk'
  clear hk'
  obtain rfl : k = k' := by omega
  clear hk
  have hbig : ∀ {u : ByteArray}, Pl.chk u.data.toList ≠ 4 → Pl.chk u.data.toList ≠ 80 → Pl.chk u.data.toList = 0 := fun {u} a b => by
    rcases chk_three u.data.toList with h | h | h
    · exact h
    · exact absurd h a
    · exact absurd h b
  have hcases : k = 1 ∨ k = 2 ∨ k = 3 ∨ k = 4 ∨ k = 5 ∨ k = 6 ∨ (k ≠ 1 ∧ k ≠ 2 ∧ k ≠ 3 ∧ k ≠ 4 ∧ k ≠ 5 ∧ k ≠ 6) := by omega
  rcases hcases with rfl | rfl | rfl | rfl | rfl | rfl | hne
  · have hn := cmpI_zero (show cmpI n n' = 0 by simpa [behind] using h1)
    simp only [bad, Bool.or_eq_false_iff, Bool.not_eq_false', List.isEmpty_iff, decide_eq_false_iff_not, Decidable.not_not] at b1 b2
    rw [hn, b1.2, b2.2, data_inj ((size_zero b1.1.2).trans (size_zero b2.1.2).symm)]
  · have hn := cmpI_zero (show cmpI n n' = 0 by simpa [behind] using h1)
    simp only [bad, Bool.or_eq_false_iff, Bool.not_eq_false', List.isEmpty_iff, decide_eq_false_iff_not, Decidable.not_not] at b1 b2
    rw [hn, b1.2, b2.2, data_inj ((size_zero b1.1).trans (size_zero b2.1).symm)]
  · have hn := cmpI_zero (show cmpI (valL s.data.toList) (valL s'.data.toList) = 0 by simpa [behind, zcmp] using h1)
    simp only [bad, Bool.or_eq_false_iff, Bool.not_eq_false', List.isEmpty_iff, decide_eq_false_iff_not, Decidable.not_not] at b1 b2
    simp only [long, decide_eq_false_iff_not] at g1 g2
    rw [b1.1.1, b2.1.1, b1.1.2, b2.1.2, data_inj (val_inj (hbig b1.2 g1) (hbig b2.2 g2) hn)]
  · have hs := show lx (Lib.compareBytes s.data.toList s'.data.toList) (cmpL zcmp l l') = 0 by simpa [behind] using h1
    simp only [bad, Bool.or_eq_false_iff, Bool.not_eq_false', List.isEmpty_iff, decide_eq_false_iff_not, Decidable.not_not] at b1 b2
    rw [b1.1, b2.1, b1.2, b2.2, data_inj (cb_zero _ _ (lx_zero hs).1)]
  · have hs := show lx (Lib.compareBytes s.data.toList s'.data.toList) (cmpL zcmp l l') = 0 by simpa [behind] using h1
    simp only [bad, Bool.or_eq_false_iff, decide_eq_false_iff_not, Decidable.not_not] at b1 b2
    rw [b1.1.1, b2.1.1, data_inj (cb_zero _ _ (lx_zero hs).1), cmpL_same_of l l' ih p1 p2 (lx_zero hs).2]
  · have hs := show lx (Lib.compareBytes s.data.toList s'.data.toList) (cmpL zcmp l l') = 0 by simpa [behind] using h1
    simp only [bad, Bool.or_eq_false_iff, decide_eq_false_iff_not, Decidable.not_not] at b1 b2
    rw [b1.1, b2.1, data_inj (cb_zero _ _ (lx_zero hs).1), cmpL_same_of l l' ih p1 p2 (lx_zero hs).2]
  · have : bad Pl.chk (.mk k n s l) = true := by unfold bad; split <;> simp_all
    rw [this] at b1; exact absurd b1 (by simp)
theorem invL_fine {l : List V} (h : invL l = false) : ∀ t ∈ l, Fine t := by
  intro t ht
  unfold invL at h
  rw [List.any_eq_false] at h
  have := h t ht
  have h0 : chkV t = 0 := by simpa using this
  obtain ⟨_, h2, h3⟩ := valid_parts h0
  exact ⟨h2, h3⟩
theorem cmpL_same {a b : List V} (ha : invL a = false) (hb : invL b = false) : cmpL zcmp a b = 0 ↔ a = b :=
  ⟨cmpL_same_of a b (fun t _ => cmpV_same t) (invL_fine ha) (invL_fine hb), fun h => by subst h; have := cmpL_neg a a; omega⟩
theorem cmpR_same {a b : List V} (ha : invL a = false) (hb : invL b = false) : cmpR zcmp a b = 0 ↔ a = b := by
  unfold cmpR; rw [ha, hb]; simpa using cmpL_same ha hb
end Go.Proofs.YtlhkjmckigblpaaGreatDoor
