/- Plain: the text of a value; values that may be have the same text only if they are the same. No program is spoken of. -/
import Derived.Test.YtibpebhepoeikaaDoorVk
import Derived.Test.YtibpebhepoeikaaDoorVp
import Derived.Lib.ItoaNum
namespace Go.Proofs.YtibpebhepoeikaaDoor
open Pl Vp
namespace Tx

/-! ### Quoting -/
def hexd (n : Nat) : UInt8 := if n < 10 then UInt8.ofNat (48 + n) else UInt8.ofNat (87 + n)
def quoteB (c : UInt8) : List UInt8 :=
  if c.toNat = 34 then [92, 34] else if c.toNat = 92 then [92, 92] else if c.toNat = 10 then [92, 110] else if c.toNat = 9 then [92, 116]
  else if c.toNat < 32 ∨ 126 < c.toNat then [92, 120, hexd (c.toNat / 16), hexd (c.toNat % 16)] else [c]
def quoteL : List UInt8 → List UInt8
  | [] => []
  | c :: l => quoteB c ++ quoteL l
theorem quoteL_snoc (c : UInt8) : ∀ l : List UInt8, quoteL (l ++ [c]) = quoteL l ++ quoteB c
  | [] => by simp [quoteL]
  | x :: l => by rw [List.cons_append, quoteL, quoteL, quoteL_snoc c l, List.append_assoc]
theorem hexd_inj : ∀ a b : Fin 16, hexd a.val = hexd b.val → a = b := by decide +kernel
theorem hexd_inj' {a b : Nat} (ha : a < 16) (hb : b < 16) (h : hexd a = hexd b) : a = b := by
  have := hexd_inj ⟨a, ha⟩ ⟨b, hb⟩ h
  simpa using this
theorem quoteB_cases (c : UInt8) : (c.toNat = 34 ∧ quoteB c = [92, 34]) ∨ (c.toNat = 92 ∧ quoteB c = [92, 92]) ∨ (c.toNat = 10 ∧ quoteB c = [92, 110]) ∨ (c.toNat = 9 ∧ quoteB c = [92, 116]) ∨
    (quoteB c = [92, 120, hexd (c.toNat / 16), hexd (c.toNat % 16)]) ∨ (c.toNat ≠ 92 ∧ c.toNat ≠ 34 ∧ quoteB c = [c]) := by
  unfold quoteB
  by_cases h1 : c.toNat = 34
  · simp [h1]
  by_cases h2 : c.toNat = 92
  · simp [h2]
  by_cases h3 : c.toNat = 10
  · simp [h3]
  by_cases h4 : c.toNat = 9
  · simp [h4]
  by_cases h5 : c.toNat < 32 ∨ 126 < c.toNat
  · simp [h1, h2, h3, h4, h5]
  · simp [h1, h2, h3, h4, h5]
theorem quoteB_len (c : UInt8) : (quoteB c).length ≤ 4 := by
  rcases quoteB_cases c with ⟨a, e⟩ | ⟨a, e⟩ | ⟨a, e⟩ | ⟨a, e⟩ | e | ⟨a, a', e⟩ <;> rw [e] <;> simp
theorem quoteL_len : ∀ l : List UInt8, (quoteL l).length ≤ 4 * l.length
  | [] => by simp [quoteL]
  | c :: l => by rw [quoteL, List.length_append, List.length_cons]; have := quoteB_len c; have := quoteL_len l; omega
theorem quoteL_take (l : List UInt8) (k : Nat) : (quoteL (l.take k)).length ≤ (quoteL l).length := by
  induction l generalizing k with
  | nil => simp
  | cons x xs ih =>
    cases k with
    | zero => simp [quoteL]
    | succ k => rw [List.take_succ_cons, quoteL, quoteL]; have := ih k; simp only [List.length_append]; omega
theorem byte_inj {a b : UInt8} (h : a.toNat = b.toNat) : a = b := UInt8.toNat_inj.1 h
theorem quoteB_inj {c d : UInt8} {x y : List UInt8} (h : quoteB c ++ x = quoteB d ++ y) : c = d ∧ x = y := by
  have lt1 := c.toNat_lt; have lt2 := d.toNat_lt
  rcases quoteB_cases c with ⟨a, e⟩ | ⟨a, e⟩ | ⟨a, e⟩ | ⟨a, e⟩ | e | ⟨a, a', e⟩ <;> rcases quoteB_cases d with ⟨b, f⟩ | ⟨b, f⟩ | ⟨b, f⟩ | ⟨b, f⟩ | f | ⟨b, b', f⟩ <;> rw [e, f] at h <;> simp at h
  all_goals first
    | exact ⟨byte_inj (by omega), h⟩
    | exact ⟨h.1, h.2⟩
    | (obtain ⟨h, _⟩ := h; subst h; simp at a; done)
    | (obtain ⟨h, _⟩ := h; subst h; simp at b; done)
    | skip
  obtain ⟨h1, h2, h3⟩ := h
  have q1 := hexd_inj' (by omega) (by omega) h1
  have q2 := hexd_inj' (by omega) (by omega) h2
  exact ⟨byte_inj (by omega), h3⟩
theorem quoteB_head (c : UInt8) : ∃ a l, quoteB c = a :: l ∧ a ≠ 34 := by
  rcases quoteB_cases c with ⟨a, e⟩ | ⟨a, e⟩ | ⟨a, e⟩ | ⟨a, e⟩ | e | ⟨a, a', e⟩ <;> rw [e]
  all_goals first
    | exact ⟨92, _, rfl, by decide⟩
    | exact ⟨c, _, rfl, fun h => a' (by rw [h]; rfl)⟩
theorem quoteL_inj : ∀ (l m x y : List UInt8), quoteL l ++ 34 :: x = quoteL m ++ 34 :: y → l = m ∧ x = y
  | [], [], x, y, h => by simpa [quoteL] using h
  | [], c :: m, x, y, h => by
    obtain ⟨a, t, e, hne⟩ := quoteB_head c
    rw [quoteL, quoteL, e] at h
    simp at h
    exact absurd h.1.symm hne
  | c :: l, [], x, y, h => by
    obtain ⟨a, t, e, hne⟩ := quoteB_head c
    rw [quoteL, quoteL, e] at h
    simp at h
    exact absurd h.1 hne
  | c :: l, d :: m, x, y, h => by
    rw [quoteL, quoteL, List.append_assoc, List.append_assoc] at h
    obtain ⟨rfl, h2⟩ := quoteB_inj h
    obtain ⟨rfl, h3⟩ := quoteL_inj l m x y h2
    exact ⟨rfl, h3⟩

/-! ### Numbers -/
def dgt (c : UInt8) : Nat := c.toNat - 48
def horStp (a : Nat) (c : UInt8) : Nat := a * 10 + dgt c
def horT (acc : Nat) (l : List UInt8) : Nat := l.foldl horStp acc
theorem horT_snoc (c : UInt8) (l : List UInt8) (acc : Nat) : horT acc (l ++ [c]) = horT acc l * 10 + dgt c := by
  unfold horT
  rw [List.foldl_append, List.foldl_cons, List.foldl_nil]; rfl
theorem horT_one (c : UInt8) (acc : Nat) : horT acc [c] = acc * 10 + dgt c := by
  unfold horT
  rw [List.foldl_cons, List.foldl_nil]; rfl
theorem ofNat_dig {d : Nat} (hd : d < 10) : isDig (UInt8.ofNat (48 + d)) = true := by
  unfold isDig
  have : (UInt8.ofNat (48 + d)).toNat = 48 + d := by rw [UInt8.toNat_ofNat']; omega
  rw [this]; exact decide_eq_true (by omega)
theorem ofNat_dgt {d : Nat} (hd : d < 10) : dgt (UInt8.ofNat (48 + d)) = d := by
  unfold dgt
  have : (UInt8.ofNat (48 + d)).toNat = 48 + d := by rw [UInt8.toNat_ofNat']; omega
  rw [this]; omega
theorem decDigits_dig (u : Nat) : (Lib.decDigits u).all isDig = true ∧ Lib.decDigits u ≠ [] := by
  induction u using Nat.strongRecOn with
  | ind u ih =>
    have one : ∀ d, d < 10 → isDig (UInt8.ofNat (48 + d)) = true := fun d hd => ofNat_dig hd
    rw [Lib.decDigits]
    split
    · rename_i h
      exact ⟨by rw [List.all_cons, one u h]; rfl, by simp⟩
    · rename_i h
      exact ⟨by rw [List.all_append, (ih (u / 10) (by omega)).1, List.all_cons, one (u % 10) (by omega)]; rfl, by simp⟩
theorem decDigits_val (u : Nat) : horT 0 (Lib.decDigits u) = u := by
  induction u using Nat.strongRecOn with
  | ind u ih =>
    have one : ∀ d, d < 10 → dgt (UInt8.ofNat (48 + d)) = d := fun d hd => ofNat_dgt hd
    rw [Lib.decDigits]
    split
    · rename_i h
      rw [horT_one, one u h]; omega
    · rename_i h
      rw [horT_snoc, ih (u / 10) (by omega), one (u % 10) (by omega)]; omega
theorem itoa_inj {a b : Int} (h : Lib.itoa a = Lib.itoa b) : a = b := by
  have no : ∀ u l, Lib.decDigits u ≠ 45 :: l := fun u l e => by
    have := (decDigits_dig u).1
    rw [e] at this
    simp [isDig] at this
  unfold Lib.itoa at h
  split at h <;> split at h
  · injection h with _ h
    have := congrArg (horT 0) h
    rw [decDigits_val, decDigits_val] at this; omega
  · exact absurd h.symm (no _ _)
  · exact absurd h (no _ _)
  · have := congrArg (horT 0) h
    rw [decDigits_val, decDigits_val] at this; omega

/-! ### Texts -/
mutual
def txtV : V → List UInt8
  | .mk k n s l => if k = 1 then (if n = 1 then tTrue else tFalse) else if k = 2 then Lib.itoa n else if k = 3 then s.data.toList ++ [98] else if k = 4 then 34 :: (quoteL s.data.toList ++ [34])
    else if k = 5 then 40 :: (txtR false l ++ [41]) else if k = 6 then s.data.toList ++ (if l.isEmpty then [] else 40 :: (txtR false l ++ [41])) else []
def txtR : Bool → List V → List UInt8
  | _, [] => []
  | f, v :: vs => (if f then [44, 32] else []) ++ txtV v ++ txtR true vs
end
theorem txt_eq (k : Nat) (n : Int) (s : ByteArray) (l : List V) : txtV (.mk k n s l) = if k = 1 then (if n = 1 then tTrue else tFalse) else if k = 2 then Lib.itoa n else if k = 3 then s.data.toList ++ [98] else if k = 4 then 34 :: (quoteL s.data.toList ++ [34])
    else if k = 5 then 40 :: (txtR false l ++ [41]) else if k = 6 then s.data.toList ++ (if l.isEmpty then [] else 40 :: (txtR false l ++ [41])) else [] := by rw [txtV]
theorem txtR_snoc (v : V) : ∀ (l : List V) (f : Bool), txtR f (l ++ [v]) = txtR f l ++ ((if f || !l.isEmpty then [44, 32] else []) ++ txtV v)
  | [], f => by rw [List.nil_append, txtR, txtR, txtR]; simp
  | x :: xs, f => by
    rw [List.cons_append, txtR, txtR, txtR_snoc v xs true]
    simp
theorem txtR_take (f : Bool) : ∀ (l : List V) (k : Nat), (txtR f (l.take k)).length ≤ (txtR f l).length := by
  intro l
  induction l generalizing f with
  | nil => intro k; simp
  | cons x xs ih =>
    intro k
    cases k with
    | zero => simp [txtR]
    | succ k =>
      rw [List.take_succ_cons, txtR, txtR]
      have := ih true k
      simp only [List.length_append]; omega

/-- What may stand behind a value's text. -/
def Stop (r : List UInt8) : Prop := r = [] ∨ ∃ c q, r = c :: q ∧ (c = 41 ∨ c = 44)
/-- A byte that ends a word. -/
def ends (c : UInt8) : Bool := decide (c.toNat = 34 ∨ c.toNat = 40 ∨ c.toNat = 41 ∨ c.toNat = 44)
def Stops (r : List UInt8) : Prop := r = [] ∨ ∃ c q, r = c :: q ∧ ends c = true
theorem Stop.stops {r : List UInt8} (h : Stop r) : Stops r := by
  rcases h with rfl | ⟨c, q, rfl, h⟩
  · exact .inl rfl
  · refine .inr ⟨c, q, rfl, ?_⟩
    rcases h with rfl | rfl <;> decide
theorem word_inj : ∀ (a b r q : List UInt8), (a.all fun c => !ends c) = true → (b.all fun c => !ends c) = true → Stops r → Stops q → a ++ r = b ++ q → a = b ∧ r = q
  | [], [], r, q, _, _, _, _, h => ⟨rfl, h⟩
  | [], d :: b, r, q, _, hb, hr, _, h => by
    simp at hb h
    rcases hr with rfl | ⟨c, q', rfl, hc⟩
    · simp at h
    · simp at h
      rw [h.1] at hc; rw [hc] at hb; simp at hb
  | c :: a, [], r, q, ha, _, _, hq, h => by
    simp at ha h
    rcases hq with rfl | ⟨d, q', rfl, hd⟩
    · simp at h
    · simp at h
      rw [← h.1] at hd; rw [hd] at ha; simp at ha
  | c :: a, d :: b, r, q, ha, hb, hr, hq, h => by
    rw [List.all_cons, Bool.and_eq_true] at ha hb
    simp at h
    obtain ⟨rfl, h⟩ := h
    obtain ⟨rfl, h2⟩ := word_inj a b r q ha.2 hb.2 hr hq h
    exact ⟨rfl, h2⟩

/-- The word with which a value's text begins. -/
def word : V → List UInt8
  | .mk k n s _ => if k = 1 then (if n = 1 then tTrue else tFalse) else if k = 2 then Lib.itoa n else if k = 3 then s.data.toList ++ [98] else s.data.toList
def signed (l : List UInt8) : Prop := ∃ c r, l = c :: r ∧ (isDig c = true ∨ c = 45) ∧ r.all isDig = true
theorem signed_itoa (n : Int) : signed (Lib.itoa n) := by
  unfold Lib.itoa
  split
  · exact ⟨45, _, rfl, .inr rfl, (decDigits_dig _).1⟩
  · have h := decDigits_dig n.toNat
    match he : Lib.decDigits n.toNat, h with
    | c :: r, h =>
      rw [List.all_cons, Bool.and_eq_true] at h
      exact ⟨c, r, rfl, .inl h.1.1, h.1.2⟩
theorem signed_chk {l : List UInt8} (h : chk l ≠ 4) : signed l := by
  have h1 : mag l ≠ [] := fun e => h (chk_nil e)
  have h2 : (mag l).all isDig = true := by
    cases hh : (mag l).all isDig with
    | true => rfl
    | false => exact absurd (chk_bad hh) h
  unfold mag at h1 h2
  match l with
  | [] => exact absurd rfl h1
  | c :: r =>
    by_cases hc : c = 45
    · subst hc
      simp at h2
      exact ⟨45, r, rfl, .inr rfl, by simpa using h2⟩
    · simp [hc] at h2
      exact ⟨c, r, rfl, .inl h2.1, by simpa using h2.2⟩
theorem dig_ends {c : UInt8} (h : isDig c = true) : ends c = false := by
  unfold isDig at h; unfold ends
  simp only [decide_eq_true_eq] at h
  simp only [decide_eq_false_iff_not]; omega
theorem all_mono {p q : UInt8 → Bool} (h : ∀ c, p c = true → q c = true) : ∀ l : List UInt8, l.all p = true → l.all q = true := by
  intro l hl
  rw [List.all_eq_true] at hl ⊢
  exact fun c hc => h c (hl c hc)
theorem signed_ends {l : List UInt8} (h : signed l) : (l.all fun c => !ends c) = true := by
  obtain ⟨c, r, rfl, hc, hr⟩ := h
  rw [List.all_cons, Bool.and_eq_true]
  refine ⟨?_, all_mono (fun c hc => by rw [dig_ends hc]; rfl) r hr⟩
  rcases hc with hc | rfl
  · rw [dig_ends hc]; rfl
  · decide
theorem part_ends {c : UInt8} (h : partB c = true) : ends c = false := by
  unfold partB at h; unfold ends
  simp only [decide_eq_true_eq] at h
  simp only [decide_eq_false_iff_not]; omega
theorem name_ends {l : List UInt8} (h : name l = true) : (l.all fun c => !ends c) = true := by
  unfold name at h
  match l, h with
  | c :: r, h =>
    simp only [Bool.and_eq_true] at h
    exact all_mono (fun c hc => by rw [part_ends hc]; rfl) _ h.2
theorem name_head {l : List UInt8} (h : name l = true) : ∃ c r, l = c :: r ∧ small c = true := by
  unfold name at h
  match l, h with
  | c :: r, h =>
    simp only [Bool.and_eq_true] at h
    exact ⟨c, r, rfl, h.1.2⟩
theorem cut_app : ∀ {l m o : List UInt8}, cut l = some (m, o) → l = m ++ 46 :: o
  | [], m, o, h => by simp [cut] at h
  | c :: l, m, o, h => by
    rw [cut] at h
    split at h
    · rename_i hc
      injection h with h; injection h with h1 h2
      subst h1; subst h2; subst hc; rfl
    · cases hq : cut l with
      | none => rw [hq] at h; simp at h
      | some x =>
        rw [hq] at h
        simp at h
        obtain ⟨rfl, rfl⟩ := h
        rw [List.cons_append, ← cut_app (m := x.1) (o := x.2) hq]
theorem cons_ends {l : List UInt8} (h : cons l = true) : (l.all fun c => !ends c) = true := by
  unfold cons at h
  split at h
  · rename_i m o hc
    rw [Bool.and_eq_true] at h
    rw [cut_app hc, List.all_append, List.all_cons, name_ends h.1, name_ends h.2]; decide
  · rw [Bool.and_eq_true, Bool.and_eq_true] at h
    exact name_ends h.1.1
theorem cons_head {l : List UInt8} (h : cons l = true) : ∃ c r, l = c :: r ∧ small c = true := by
  unfold cons at h
  split at h
  · rename_i m o hc
    rw [Bool.and_eq_true] at h
    obtain ⟨c, r, e, hs⟩ := name_head h.1
    exact ⟨c, r ++ 46 :: o, by rw [cut_app hc, e]; rfl, hs⟩
  · rw [Bool.and_eq_true, Bool.and_eq_true] at h
    exact name_head h.1.1
theorem cons_tTrue : cons tTrue = false := by decide
theorem cons_tFalse : cons tFalse = false := by decide
theorem not_small {c : UInt8} (h : isDig c = true ∨ c = 45) : small c = false := by
  rcases h with h | rfl
  · unfold isDig at h; unfold small
    simp only [decide_eq_true_eq] at h
    simp only [decide_eq_false_iff_not]; omega
  · decide

/-- A value that is as its kind asks. -/
theorem bad_of {k : Nat} {n : Int} {s : ByteArray} {l : List V} (h : bad chk (.mk k n s l) = false) :
    (k = 1 ∧ (n = 0 ∨ n = 1) ∧ s = ⟨#[]⟩ ∧ l = []) ∨ (k = 2 ∧ s = ⟨#[]⟩ ∧ l = []) ∨ (k = 3 ∧ n = 0 ∧ l = [] ∧ chk s.data.toList ≠ 4) ∨ (k = 4 ∧ n = 0 ∧ l = []) ∨ (k = 5 ∧ n = 0 ∧ s = ⟨#[]⟩ ∧ l.length ≠ 1) ∨ (k = 6 ∧ n = 0 ∧ cons s.data.toList = true) := by
  have sz : ∀ {s : ByteArray}, s.size = 0 → s = ⟨#[]⟩ := fun {s} h => by
    have h0 : s.data.toList.length = 0 := by rw [Array.length_toList]; exact h
    exact ByteArray.ext (Array.ext' (List.eq_nil_of_length_eq_zero h0))
  match k, h with
  | 0, h => simp [bad] at h
  | 1, h =>
    simp [bad] at h
    exact .inl ⟨rfl, by obtain ⟨⟨h1, _⟩, _⟩ := h; by_cases h0 : n = 0; exact .inl h0; exact .inr (h1 h0), sz (by simpa using h.1.2), h.2⟩
  | 2, h => simp [bad] at h; exact .inr (.inl ⟨rfl, sz (by simpa using h.1), h.2⟩)
  | 3, h => simp [bad] at h; exact .inr (.inr (.inl ⟨rfl, h.1.1, h.1.2, h.2⟩))
  | 4, h => simp [bad] at h; exact .inr (.inr (.inr (.inl ⟨rfl, h.1, h.2⟩)))
  | 5, h => simp [bad] at h; exact .inr (.inr (.inr (.inr (.inl ⟨rfl, h.1.1, sz (by simpa using h.1.2), h.2⟩))))
  | 6, h => simp [bad] at h; exact .inr (.inr (.inr (.inr (.inr ⟨rfl, h.1, h.2⟩))))
  | k + 7, h => simp [bad] at h
theorem arr_ext {s t : ByteArray} (h : s.data.toList = t.data.toList) : s = t := ByteArray.ext (Array.ext' h)

/-- The first byte of a text. -/
theorem txt_head {t : V} (h : bad chk t = false) : ∃ c r, txtV t = c :: r ∧ c ≠ 41 ∧ c ≠ 44 := by
  obtain ⟨k, n, s, l⟩ := t
  have sm : ∀ {c : UInt8}, small c = true → c ≠ 41 ∧ c ≠ 44 := fun {c} hc => by
    constructor <;> (rintro rfl; revert hc; decide)
  have sg : ∀ {l : List UInt8}, signed l → ∃ c r, l = c :: r ∧ c ≠ 41 ∧ c ≠ 44 := fun {l} hl => by
    obtain ⟨c, r, rfl, hc, _⟩ := hl
    refine ⟨c, r, rfl, ?_⟩
    constructor <;> (rintro rfl; revert hc; decide)
  rw [txt_eq]
  rcases bad_of h with ⟨rfl, h1, _, _⟩ | ⟨rfl, _, _⟩ | ⟨rfl, _, _, hc⟩ | ⟨rfl, _, _⟩ | ⟨rfl, _, _, _⟩ | ⟨rfl, _, hc⟩
  · rcases h1 with rfl | rfl
    · exact ⟨102, _, rfl, by decide⟩
    · exact ⟨116, _, rfl, by decide⟩
  · exact sg (signed_itoa n)
  · obtain ⟨c, r, e, h2⟩ := sg (signed_chk hc)
    exact ⟨c, r ++ [98], by simp [e], h2⟩
  · exact ⟨34, _, rfl, by decide⟩
  · exact ⟨40, _, rfl, by decide⟩
  · obtain ⟨c, r, e, h2⟩ := cons_head hc
    simp only [show (6 : Nat) ≠ 1 by decide, show (6 : Nat) ≠ 2 by decide, show (6 : Nat) ≠ 3 by decide, show (6 : Nat) ≠ 4 by decide, show (6 : Nat) ≠ 5 by decide, if_false, if_true]
    rw [e]
    exact ⟨c, _, rfl, sm h2⟩

/-- Which word it is tells the kind, the number and the text. -/
theorem word_tells {k k' : Nat} {n n' : Int} {s s' : ByteArray} {l l' : List V} (h : bad chk (.mk k n s l) = false) (h' : bad chk (.mk k' n' s' l') = false) (hk : k ≠ 4 ∧ k ≠ 5) (hk' : k' ≠ 4 ∧ k' ≠ 5)
    (he : word (.mk k n s l) = word (.mk k' n' s' l')) : k = k' ∧ n = n' ∧ s = s' := by
  have lst : ∀ {a : List UInt8} {b : UInt8}, signed (a ++ [b]) → a ≠ [] → isDig b = true := fun {a b} hs ha => by
    obtain ⟨c, r, e, _, hr⟩ := hs
    match a, ha with
    | x :: a, _ =>
      rw [List.cons_append] at e
      injection e with _ e
      rw [← e, List.all_append] at hr
      simp at hr
      exact hr.2
  have ne : ∀ {a : List UInt8}, signed a → a ≠ [] := fun {a} hs => by
    obtain ⟨c, r, rfl, _⟩ := hs; simp
  have sgc : ∀ {a : List UInt8}, signed a → ∀ {b : List UInt8}, (∃ c r, b = c :: r ∧ small c = true) → a ≠ b := fun {a} hs {b} hb e => by
    obtain ⟨c, r, rfl, hc, _⟩ := hs
    obtain ⟨d, q, rfl, hd⟩ := hb
    injection e with e _
    have := not_small (c := d) (by rw [← e]; exact hc)
    rw [this] at hd; cases hd
  have hT : ∃ c r, tTrue = c :: r ∧ small c = true := ⟨116, _, rfl, by decide⟩
  have hF : ∃ c r, tFalse = c :: r ∧ small c = true := ⟨102, _, rfl, by decide⟩
  have hw : ∀ n : Int, ∃ c r, (if n = 1 then tTrue else tFalse) = c :: r ∧ small c = true := fun n => by split; exact hT; exact hF
  have sap : ∀ {a : List UInt8}, signed a → ∀ {b : List UInt8}, (∃ c r, b = c :: r ∧ small c = true) → a ++ [98] ≠ b := fun {a} hs {b} hb e => by
    obtain ⟨c, r, rfl, hc, _⟩ := hs
    obtain ⟨d, q, rfl, hd⟩ := hb
    injection e with e _
    have := not_small (c := d) (by rw [← e]; exact hc)
    rw [this] at hd; cases hd
  rcases bad_of h with ⟨rfl, h1, rfl, _⟩ | ⟨rfl, rfl, _⟩ | ⟨rfl, rfl, _, hc⟩ | ⟨rfl, _, _⟩ | ⟨rfl, _, _, _⟩ | ⟨rfl, rfl, hc⟩ <;>
    rcases bad_of h' with ⟨rfl, h1', rfl, _⟩ | ⟨rfl, rfl, _⟩ | ⟨rfl, rfl, _, hc'⟩ | ⟨rfl, _, _⟩ | ⟨rfl, _, _, _⟩ | ⟨rfl, rfl, hc'⟩
  all_goals first
    | exact absurd rfl hk.1
    | exact absurd rfl hk.2
    | exact absurd rfl hk'.1
    | exact absurd rfl hk'.2
    | skip
  · refine ⟨rfl, ?_, rfl⟩
    rcases h1 with rfl | rfl <;> rcases h1' with rfl | rfl
    · rfl
    · exact absurd (show tFalse = tTrue from he) (by decide)
    · exact absurd (show tTrue = tFalse from he) (by decide)
    · rfl
  · exact absurd he.symm (sgc (signed_itoa n') (hw n))
  · exact absurd he.symm (sap (signed_chk hc') (hw n))
  · exfalso
    replace he : (if n = 1 then tTrue else tFalse) = s'.data.toList := he
    rw [← he] at hc'
    split at hc'
    · rw [cons_tTrue] at hc'; cases hc'
    · rw [cons_tFalse] at hc'; cases hc'
  · exact absurd he (sgc (signed_itoa n) (hw n'))
  · exact ⟨rfl, itoa_inj he, rfl⟩
  · exfalso
    replace he : Lib.itoa n = s'.data.toList ++ [98] := he
    have h1 := lst (he ▸ signed_itoa n) (ne (signed_chk hc'))
    revert h1; decide
  · exact absurd he (sgc (signed_itoa n) (cons_head hc'))
  · exact absurd he (sap (signed_chk hc) (hw n'))
  · exfalso
    replace he : s.data.toList ++ [98] = Lib.itoa n' := he
    have h1 := lst (he ▸ signed_itoa n') (ne (signed_chk hc))
    revert h1; decide
  · replace he : s.data.toList ++ [98] = s'.data.toList ++ [98] := he
    exact ⟨rfl, rfl, arr_ext (List.append_cancel_right he)⟩
  · exact absurd he (sap (signed_chk hc) (cons_head hc'))
  · exfalso
    replace he : s.data.toList = (if n' = 1 then tTrue else tFalse) := he
    rw [he] at hc
    split at hc
    · rw [cons_tTrue] at hc; cases hc
    · rw [cons_tFalse] at hc; cases hc
  · exact absurd he.symm (sgc (signed_itoa n') (cons_head hc))
  · exact absurd he.symm (sap (signed_chk hc') (cons_head hc))
  · exact ⟨rfl, rfl, arr_ext he⟩

/-- A text that begins with a word: the word, and what stands behind it. -/
def tail_ : V → List UInt8
  | .mk k _ _ l => if k = 6 then (if l.isEmpty then [] else 40 :: (txtR false l ++ [41])) else []
theorem tail_eq (k : Nat) (n : Int) (s : ByteArray) (l : List V) : tail_ (.mk k n s l) = if k = 6 then (if l.isEmpty then [] else 40 :: (txtR false l ++ [41])) else [] := rfl
theorem txt_word {k : Nat} {n : Int} {s : ByteArray} {l : List V} (h : bad chk (.mk k n s l) = false) (hk : k ≠ 4 ∧ k ≠ 5) : txtV (.mk k n s l) = word (.mk k n s l) ++ tail_ (.mk k n s l) ∧ ((word (.mk k n s l)).all fun c => !ends c) = true := by
  rw [txt_eq]
  rcases bad_of h with ⟨rfl, h1, _, _⟩ | ⟨rfl, _, _⟩ | ⟨rfl, _, _, hc⟩ | ⟨rfl, _, _⟩ | ⟨rfl, _, _, _⟩ | ⟨rfl, _, hc⟩
  · rcases h1 with rfl | rfl
    · exact ⟨by simp [word, tail_], show (tFalse.all fun c => !ends c) = true by decide⟩
    · exact ⟨by simp [word, tail_], show (tTrue.all fun c => !ends c) = true by decide⟩
  · exact ⟨by simp [word, tail_], signed_ends (signed_itoa n)⟩
  · refine ⟨by simp [word, tail_], ?_⟩
    show ((s.data.toList ++ [98]).all fun c => !ends c) = true
    rw [List.all_append, signed_ends (signed_chk hc)]; decide
  · exact absurd rfl hk.1
  · exact absurd rfl hk.2
  · exact ⟨by simp [word, tail_], cons_ends hc⟩
theorem tail_stops {t : V} {r : List UInt8} (h : Stop r) : Stops (tail_ t ++ r) := by
  obtain ⟨k, n, s, l⟩ := t
  rw [tail_eq]
  by_cases h6 : k = 6
  · rw [if_pos h6]
    cases l with
    | nil => simpa using h.stops
    | cons v vs => exact .inr ⟨40, _, rfl, by decide⟩
  · rw [if_neg h6]; simpa using h.stops

def fine (t : V) : Bool := !some_ (bad chk) t
theorem fine_of {k : Nat} {n : Int} {s : ByteArray} {l : List V} (h : fine (.mk k n s l) = true) : bad chk (.mk k n s l) = false ∧ ∀ t ∈ l, fine t = true := by
  unfold fine at h
  rw [some_eq, Bool.not_eq_true', Bool.or_eq_false_iff] at h
  refine ⟨h.1, fun t ht => ?_⟩
  have h2 : l.any (some_ (bad chk)) = false := h.2
  rw [List.any_eq_false] at h2
  unfold fine
  simpa using h2 t ht
theorem fine_bad {t : V} (h : fine t = true) : bad chk t = false := by
  obtain ⟨k, n, s, l⟩ := t
  exact (fine_of h).1

/-- Rows: what their texts say, if it says so of their values. -/
theorem txtR_inj : ∀ (l m : List V) (f : Bool) (r q : List UInt8), (∀ t ∈ l, fine t = true) → (∀ t ∈ m, fine t = true) →
    (∀ t ∈ l, ∀ (t' : V) (r q : List UInt8), fine t' = true → Stop r → Stop q → txtV t ++ r = txtV t' ++ q → t = t' ∧ r = q) → txtR f l ++ 41 :: r = txtR f m ++ 41 :: q → l = m ∧ r = q
  | [], [], f, r, q, _, _, _, h => by simpa [txtR] using h
  | [], v :: m, f, r, q, _, hm, _, h => by
    exfalso
    obtain ⟨c, x, e, h1, _⟩ := txt_head (fine_bad (hm v (by simp)))
    rw [txtR, txtR, e] at h
    cases f
    · simp at h; exact h1 h.1.symm
    · simp at h
  | v :: l, [], f, r, q, hl, _, _, h => by
    exfalso
    obtain ⟨c, x, e, h1, _⟩ := txt_head (fine_bad (hl v (by simp)))
    rw [txtR, txtR, e] at h
    cases f
    · simp at h; exact h1 h.1
    · simp at h
  | v :: l, u :: m, f, r, q, hl, hm, ih, h => by
    have key : txtV v ++ (txtR true l ++ 41 :: r) = txtV u ++ (txtR true m ++ 41 :: q) := by
      rw [txtR, txtR] at h
      simpa using h
    have st : ∀ (l : List V) (r : List UInt8), Stop (txtR true l ++ 41 :: r) := fun l r => by
      cases l with
      | nil => exact .inr ⟨41, r, rfl, .inl rfl⟩
      | cons v vs => rw [txtR]; exact .inr ⟨44, _, rfl, .inr rfl⟩
    obtain ⟨rfl, h2⟩ := ih v (by simp) u _ _ (hm u (by simp)) (st l r) (st m q) key
    obtain ⟨rfl, h3⟩ := txtR_inj l m true r q (fun t ht => hl t (by simp [ht])) (fun t ht => hm t (by simp [ht])) (fun t ht => ih t (by simp [ht])) h2
    exact ⟨rfl, h3⟩

/-- The theorem: a text that is followed by an end tells its value. -/
theorem txt_inj (t : V) : fine t = true → ∀ (t' : V) (r q : List UInt8), fine t' = true → Stop r → Stop q → txtV t ++ r = txtV t' ++ q → t = t' ∧ r = q := by
  induction t using V.ind with
  | h k n s l ih =>
  intro hf t' r q hf' hr hq h
  obtain ⟨k', n', s', l'⟩ := t'
  obtain ⟨hb, hl⟩ := fine_of hf
  obtain ⟨hb', hl'⟩ := fine_of hf'
  have ih' : ∀ t ∈ l, ∀ (t' : V) (r q : List UInt8), fine t' = true → Stop r → Stop q → txtV t ++ r = txtV t' ++ q → t = t' ∧ r = q := fun t ht => ih t ht (hl t ht)
  have noW : ∀ {k : Nat} {n : Int} {s : ByteArray} {l : List V} {r x : List UInt8} {c : UInt8}, bad chk (.mk k n s l) = false → k ≠ 4 ∧ k ≠ 5 → ends c = true → txtV (.mk k n s l) ++ r = c :: x → False := fun {k n s l r x c} hb hk hc e => by
    obtain ⟨e1, e2⟩ := txt_word hb hk
    have hne : word (.mk k n s l) ≠ [] := by
      rcases bad_of hb with ⟨rfl, h1, _, _⟩ | ⟨rfl, _, _⟩ | ⟨rfl, _, _, hc⟩ | ⟨rfl, _, _⟩ | ⟨rfl, _, _, _⟩ | ⟨rfl, _, hc⟩
      · show (if n = 1 then tTrue else tFalse) ≠ []
        split <;> decide
      · obtain ⟨c, r, e, _⟩ := signed_itoa n
        show Lib.itoa n ≠ []
        rw [e]; simp
      · show s.data.toList ++ [98] ≠ []
        simp
      · exact absurd rfl hk.1
      · exact absurd rfl hk.2
      · obtain ⟨c, r, e, _⟩ := cons_head hc
        show s.data.toList ≠ []
        rw [e]; simp
    match hw : word (.mk k n s l), hne with
    | d :: y, _ =>
      rw [e1, hw] at e
      rw [hw, List.all_cons] at e2
      injection e with e _
      rw [e, hc] at e2
      simp at e2
  by_cases hk4 : k = 4
  · subst hk4
    rw [txt_eq] at h
    by_cases hk4' : k' = 4
    · subst hk4'
      rw [txt_eq] at h
      simp at h
      obtain ⟨h1, h2⟩ := quoteL_inj _ _ _ _ h
      rcases bad_of hb with ⟨h, _⟩ | ⟨h, _⟩ | ⟨h, _⟩ | ⟨_, rfl, rfl⟩ | ⟨h, _⟩ | ⟨h, _⟩
      all_goals first
        | exact absurd h (by decide)
        | skip
      rcases bad_of hb' with ⟨h, _⟩ | ⟨h, _⟩ | ⟨h, _⟩ | ⟨_, rfl, rfl⟩ | ⟨h, _⟩ | ⟨h, _⟩
      all_goals first
        | exact absurd h (by decide)
        | skip
      exact ⟨by rw [arr_ext h1], h2⟩
    · exfalso
      by_cases hk5' : k' = 5
      · subst hk5'
        rw [txt_eq] at h
        simp at h
      · exact noW hb' ⟨hk4', hk5'⟩ (c := 34) (by decide) h.symm
  by_cases hk5 : k = 5
  · subst hk5
    rw [txt_eq] at h
    by_cases hk5' : k' = 5
    · subst hk5'
      rw [txt_eq] at h
      simp at h
      obtain ⟨h1, h2⟩ := txtR_inj l l' false r q hl hl' ih' h
      rcases bad_of hb with ⟨h, _⟩ | ⟨h, _⟩ | ⟨h, _⟩ | ⟨h, _⟩ | ⟨_, rfl, rfl, _⟩ | ⟨h, _⟩
      all_goals first
        | exact absurd h (by decide)
        | skip
      rcases bad_of hb' with ⟨h, _⟩ | ⟨h, _⟩ | ⟨h, _⟩ | ⟨h, _⟩ | ⟨_, rfl, rfl, _⟩ | ⟨h, _⟩
      all_goals first
        | exact absurd h (by decide)
        | skip
      exact ⟨by rw [h1], h2⟩
    · exfalso
      by_cases hk4' : k' = 4
      · subst hk4'
        rw [txt_eq] at h
        simp at h
      · exact noW hb' ⟨hk4', hk5'⟩ (c := 40) (by decide) h.symm
  by_cases hk4' : k' = 4
  · exfalso
    subst hk4'
    rw [txt_eq 4] at h
    exact noW hb ⟨hk4, hk5⟩ (c := 34) (by decide) h
  by_cases hk5' : k' = 5
  · exfalso
    subst hk5'
    rw [txt_eq 5] at h
    exact noW hb ⟨hk4, hk5⟩ (c := 40) (by decide) h
  obtain ⟨e1, e2⟩ := txt_word hb ⟨hk4, hk5⟩
  obtain ⟨e1', e2'⟩ := txt_word hb' ⟨hk4', hk5'⟩
  rw [e1, e1', List.append_assoc, List.append_assoc] at h
  obtain ⟨hw, ht⟩ := word_inj _ _ _ _ e2 e2' (tail_stops hr) (tail_stops hq) h
  obtain ⟨rfl, rfl, rfl⟩ := word_tells hb hb' ⟨hk4, hk5⟩ ⟨hk4', hk5'⟩ hw
  have nl : ∀ {l : List V} {n : Int} {s : ByteArray}, bad chk (.mk k n s l) = false → k ≠ 6 → l = [] := fun {l n s} hb h6 => by
    rcases bad_of hb with ⟨_, _, _, h⟩ | ⟨_, _, h⟩ | ⟨_, _, h, _⟩ | ⟨h, _⟩ | ⟨h, _⟩ | ⟨h, _⟩
    · exact h
    · exact h
    · exact h
    · exact absurd h hk4
    · exact absurd h hk5
    · exact absurd h h6
  by_cases h6 : k = 6
  · subst h6
    rw [tail_eq, tail_eq, if_pos rfl, if_pos rfl] at ht
    have stop : ∀ {r : List UInt8} {x : List UInt8}, Stop r → r ≠ 40 :: x := fun {r x} h e => by
      rcases h with rfl | ⟨c, q, rfl, h⟩
      · cases e
      · injection e with e _
        subst e
        revert h; decide
    cases l with
    | nil =>
      cases l' with
      | nil => exact ⟨rfl, by simpa using ht⟩
      | cons v vs =>
        simp at ht
        exact absurd ht (stop hr)
    | cons v vs =>
      cases l' with
      | nil =>
        simp at ht
        exact absurd ht.symm (stop hq)
      | cons v' vs' =>
        simp only [List.isEmpty_cons, Bool.false_eq_true, if_false, List.cons_append, List.append_assoc, List.nil_append, List.cons.injEq, true_and] at ht
        obtain ⟨h1, h2⟩ := txtR_inj _ _ false r q hl hl' ih' ht
        exact ⟨by rw [h1], h2⟩
  · obtain rfl := nl hb h6
    obtain rfl := nl hb' h6
    rw [tail_eq, if_neg h6] at ht
    exact ⟨rfl, by simpa using ht⟩
theorem txt_only {t t' : V} (h : fine t = true) (h' : fine t' = true) (he : txtV t = txtV t') : t = t' :=
  (txt_inj t h t' [] [] h' (.inl rfl) (.inl rfl) (by rw [he])).1
theorem txt_some {t : V} (h : fine t = true) : txtV t ≠ [] := by
  obtain ⟨c, r, e, _⟩ := txt_head (fine_bad h)
  rw [e]; simp
end Tx
end Go.Proofs.YtibpebhepoeikaaDoor
