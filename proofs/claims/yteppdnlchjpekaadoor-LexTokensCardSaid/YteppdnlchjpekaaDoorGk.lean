/- What stands at a place, by the kinds of its first byte: plain. -/
import Derived.Test.YteppdnlchjpekaaDoorGi
namespace Go.Proofs.YteppdnlchjpekaaDoor
open Go.RowKit Lx
open Go
namespace Lx
def uppB (c : UInt8) : Bool := decide (65 ≤ c.toNat ∧ c.toNat ≤ 90)
theorem low_part {c : UInt8} (h : lowB c = true) : partB c = true := by
  unfold lowB at h; unfold partB
  simp only [decide_eq_true_eq] at h ⊢
  exact Or.inl h
theorem dig_part {c : UInt8} (h : digB c = true) : partB c = true := by
  unfold digB at h; unfold partB
  simp only [decide_eq_true_eq] at h ⊢
  exact Or.inr (Or.inr (Or.inl h))
theorem upp_part {c : UInt8} (h : uppB c = true) : partB c = true := by
  unfold uppB at h; unfold partB
  simp only [decide_eq_true_eq] at h ⊢
  exact Or.inr (Or.inl h)
theorem lead_part {c : UInt8} (h : partB c = true) (r : List UInt8) : lead (c :: r) = c :: lead r := by
  unfold lead; rw [List.takeWhile_cons, h, if_pos rfl]
/-- A word begins with a small letter. -/
theorem word_head {c : UInt8} {l : List UInt8} (h : lowB c = false) : isW (c :: l) = false := by
  cases hq : isW (c :: l) with
  | false => rfl
  | true =>
    have hm : (c :: l) ∈ wordL := List.contains_iff_mem.1 hq
    have : ∀ w ∈ wordL, ∀ c, w.head? = some c → lowB c = true := by
      intro w hw c hc
      have h2 : wordL.all (fun w => (w.head?.map lowB).getD true) = true := by decide
      have h3 := List.all_eq_true.1 h2 w hw
      rw [hc] at h3
      simpa using h3
    rw [this _ hm c rfl] at h; exact absurd h (by decide)
theorem word_nil : isW [] = false := by decide
theorem no46 {l : List UInt8} (h : ∀ x ∈ l, partB x = true) : (46 : UInt8) ∉ l := fun hm => absurd (h 46 hm) (by decide)
theorem index46 : ∀ (b Y : List UInt8), (46 : UInt8) ∉ b → Lib.index (b ++ 46 :: Y) [46] = (b.length : Int)
  | [], Y, _ => by unfold Lib.index; rfl
  | c :: b, Y, h => by
    have ih := index46 b Y (fun hh => h (by simp [hh]))
    have hc : c ≠ 46 := fun e => h (by simp [e])
    rw [List.cons_append]
    unfold Lib.index
    rw [ih]
    have h1 : ([46] : List UInt8).isPrefixOf (c :: (b ++ 46 :: Y)) = false := by simp [List.isPrefixOf, Ne.symm hc]
    have h2 : ((b.length : Int) == -1) = false := by rw [beq_eq_false_iff_ne]; omega
    simp [h1, h2]
theorem index46_no : ∀ (b : List UInt8), (46 : UInt8) ∉ b → Lib.index b [46] = -1
  | [], _ => by unfold Lib.index; rfl
  | c :: b, h => by
    have ih := index46_no b (fun hh => h (by simp [hh]))
    have hc : c ≠ 46 := fun e => h (by simp [e])
    unfold Lib.index
    rw [ih]
    have h1 : ([46] : List UInt8).isPrefixOf (c :: b) = false := by simp [List.isPrefixOf, Ne.symm hc]
    simp [h1]
/-- The excess of a text without a point. -/
theorem exc_one {k : Nat} {l : List UInt8} (hk : k = 2 ∨ k = 3 ∨ k = 9) (h : ∀ x ∈ l, partB x = true) : exc k l = if 32 < l.length then 63 else 0 := by
  have e : Lib.cut l [46] = (l, [], false) := by unfold Lib.cut; rw [index46_no l (no46 h), if_neg (by omega)]
  unfold exc
  rw [if_pos hk, e]
  simp
theorem exc_two {a b : List UInt8} (h : ∀ x ∈ a, partB x = true) : exc 2 (a ++ 46 :: b) = if 32 < a.length ∨ 32 < b.length then 63 else 0 := by
  have e : Lib.cut (a ++ 46 :: b) [46] = (a, b, true) := by
    unfold Lib.cut
    rw [index46 a b (no46 h), if_pos (by omega)]
    simp
  unfold exc
  rw [if_pos (Or.inl rfl), e]
  dsimp only
  by_cases h1 : 32 < a.length ∨ 32 < b.length
  · rw [if_pos h1, if_pos (by omega)]
  · rw [if_neg h1, if_neg (by omega)]
/-- A name, or a word. -/
theorem at_word {c : UInt8} {r : List UInt8} (hw : isW (lead (c :: r)) = true) : fFirst (c :: r) = ((1, lead (c :: r), (lead (c :: r)).length), 0) := by
  have hx : fd 0 (c :: r) = (1, lead (c :: r), (lead (c :: r)).length) := by show fWord _ = _; unfold fWord; rw [hw]; rfl
  have hl : 0 < (lead (c :: r)).length := by
    rcases Nat.eq_zero_or_pos (lead (c :: r)).length with h | h
    · rw [List.length_eq_zero_iff.1 h] at hw; exact absurd hw (by decide)
    · exact h
  rw [first_at (k := 0) (by decide) (fun j hj => absurd hj (Nat.not_lt_zero _)) (by rw [hx]; exact hl), hx]
  rfl
theorem at_plain {c : UInt8} {r : List UInt8} (hc : lowB c = true) (hw : isW (lead (c :: r)) = false) : plainN (c :: r) = lead (c :: r) := by
  unfold plainN
  rw [lead_part (low_part hc)] at hw ⊢
  simp [hc, hw]
theorem at_name {c : UInt8} {r : List UInt8} (hc : lowB c = true) (hw : isW (lead (c :: r)) = false) (hf : fieldN ((c :: r).drop (lead (c :: r)).length) = []) :
    fFirst (c :: r) = ((2, lead (c :: r), (lead (c :: r)).length), if 32 < (lead (c :: r)).length then 63 else 0) := by
  have hp := at_plain hc hw
  have hne : lead (c :: r) ≠ [] := by rw [lead_part (low_part hc)]; simp
  have hx : fd 1 (c :: r) = (2, lead (c :: r), (lead (c :: r)).length) := by
    show fName _ = _; unfold fName nameOf; rw [hp, if_neg hne, if_pos hf]
  have h0 : (fd 0 (c :: r)).2.2 = 0 := by show (fWord _).2.2 = 0; unfold fWord; rw [hw]; rfl
  rw [first_at (k := 1) (by decide) ?_ (by rw [hx]; exact List.length_pos_iff.2 hne), hx]
  · dsimp only; rw [exc_one (Or.inl rfl) (lead_parts _)]
  · intro j hj
    match j, hj with
    | 0, _ => exact h0
    | j + 1, hj => omega
theorem at_names {c : UInt8} {r : List UInt8} (hc : lowB c = true) (hw : isW (lead (c :: r)) = false) {B : List UInt8} (hB : fieldN ((c :: r).drop (lead (c :: r)).length) = B) (hf : B ≠ []) :
    fFirst (c :: r) = ((2, lead (c :: r) ++ 46 :: B, (lead (c :: r)).length + (1 + B.length)), if 32 < (lead (c :: r)).length ∨ 32 < B.length then 63 else 0) := by
  have hp := at_plain hc hw
  have hne : lead (c :: r) ≠ [] := by rw [lead_part (low_part hc)]; simp
  have hx : fd 1 (c :: r) = (2, lead (c :: r) ++ 46 :: B, (lead (c :: r)).length + (1 + B.length)) := by
    show fName _ = _; unfold fName nameOf; rw [hp, if_neg hne, hB, if_neg hf]
  have h0 : (fd 0 (c :: r)).2.2 = 0 := by show (fWord _).2.2 = 0; unfold fWord; rw [hw]; rfl
  rw [first_at (k := 1) (by decide) ?_ (by rw [hx]; dsimp only; omega), hx]
  · dsimp only; rw [exc_two (lead_parts _)]
  · intro j hj
    match j, hj with
    | 0, _ => exact h0
    | j + 1, hj => omega
theorem field_some {d : UInt8} {u : List UInt8} (hd : lowB d = true) (hw : isW (lead (d :: u)) = false) : fieldN (46 :: d :: u) = lead (d :: u) := by
  unfold fieldN
  simp only [if_true]
  exact at_plain hd hw
theorem field_word {d : UInt8} {u : List UInt8} (hw : isW (lead (d :: u)) = true) : fieldN (46 :: d :: u) = [] := by
  unfold fieldN plainN
  simp only [if_true]
  cases hl : lead (d :: u) with
  | nil => rfl
  | cons x y => rw [hl] at hw; simp [hw]
theorem field_low {d : UInt8} {u : List UInt8} (hd : lowB d = false) : fieldN (46 :: d :: u) = [] := by
  unfold fieldN plainN
  simp only [if_true]
  cases hq : partB d with
  | false => rw [lead_np hq]
  | true => rw [lead_part hq]; simp [hd]
theorem field_46 : fieldN [46] = [] := by decide
/-- Behind the finders of what begins with letters. -/
theorem before5 {l : List UInt8} (h0 : isW (lead l) = false) (h1 : plainN l = []) (h2 : fieldN l = []) : (fd 0 l).2.2 = 0 ∧ (fd 1 l).2.2 = 0 ∧ (fd 2 l).2.2 = 0 := by
  refine ⟨?_, ?_, ?_⟩
  · show (fWord _).2.2 = 0; unfold fWord; rw [h0]; rfl
  · show (fName _).2.2 = 0; rw [fname_no h1]; rfl
  · show (fField _).2.2 = 0; rw [ffield_no h2]; rfl
theorem plain_low {c : UInt8} {r : List UInt8} (hc : lowB c = false) : plainN (c :: r) = [] := by
  unfold plainN
  cases hq : partB c with
  | false => rw [lead_np hq]
  | true => rw [lead_part hq]; simp [hc]
theorem fvar_no {c : UInt8} {r : List UInt8} (hc : uppB c = false) : fVar (c :: r) = no := by
  unfold fVar
  cases hq : partB c with
  | false => rw [lead_np hq]
  | true =>
    rw [lead_part hq]
    unfold uppB at hc
    have : ¬ (65 ≤ c.toNat ∧ c.toNat ≤ 90) := by simpa using hc
    simp only
    rw [if_neg this]
theorem at_var {c : UInt8} {r : List UInt8} (hc : uppB c = true) : fFirst (c :: r) = ((3, lead (c :: r), (lead (c :: r)).length), if 32 < (lead (c :: r)).length then 63 else 0) := by
  have hl : lowB c = false := by
    unfold uppB at hc; unfold lowB
    simp only [decide_eq_true_eq] at hc
    simp only [decide_eq_false_iff_not]; omega
  have e := lead_part (upp_part hc) r
  have hx : fd 3 (c :: r) = (3, lead (c :: r), (lead (c :: r)).length) := by
    show fVar _ = _
    unfold fVar
    rw [e]
    unfold uppB at hc
    dsimp only
    rw [if_pos (by simpa using hc)]
  obtain ⟨h0, h1, h2⟩ := before5 (l := c :: r) (by rw [e]; exact word_head hl) (plain_low hl) (field_np (part_not46 (upp_part hc)))
  rw [first_at (k := 3) (by decide) ?_ (by rw [hx, e]; exact Nat.succ_pos _), hx]
  · dsimp only; rw [exc_one (Or.inr (Or.inl rfl)) (lead_parts _)]
  · intro j hj
    match j, hj with
    | 0, _ => exact h0
    | 1, _ => exact h1
    | 2, _ => exact h2
    | j + 3, hj => omega
theorem part_sign {c : UInt8} {r : List UInt8} (h : partB c = true) : fSign (c :: r) = no := by
  refine sign_no fun g hm => ?_
  cases hq : Lib.hasPrefix (c :: r) g with
  | false => rfl
  | true =>
    have hp : g <+: c :: r := List.isPrefixOf_iff_prefix.1 hq
    obtain ⟨hne, _, hl⟩ := sign_facts g hm
    have hs : signs.all (fun g => (g.head?.map fun c => !partB c).getD true) = true := by decide
    have h3 := List.all_eq_true.1 hs g hm
    obtain ⟨Z, hZ⟩ := hp
    cases g with
    | nil => exact absurd rfl hne
    | cons x g =>
      rw [List.cons_append] at hZ
      injection hZ with h1 _
      subst h1
      simp [h] at h3
theorem fquote_no {c : UInt8} {r : List UInt8} (h : c ≠ 34) : fQuote (c :: r) = no := by unfold fQuote; simp [h]
/-- Only _. -/
theorem at_any {r : List UInt8} (hl : (lead (95 :: r)).length ≤ 1) : fFirst (95 :: r) = ((4, [95], 1), 0) := by
  have e := lead_part (c := 95) (by decide) r
  have h1 : lead (95 :: r) = [95] := by
    rw [e] at hl ⊢
    rw [List.length_cons] at hl
    rw [List.length_eq_zero_iff.1 (by omega : (lead r).length = 0)]
  have hx : fd 4 (95 :: r) = (4, [95], 1) := by show fAny _ = _; unfold fAny; rw [h1]; rfl
  obtain ⟨h0, h1', h2⟩ := before5 (l := 95 :: r) (by rw [h1]; decide) (plain_low (by decide)) (field_np (by decide))
  rw [first_at (k := 4) (by decide) ?_ (by rw [hx]; decide), hx]
  · rfl
  · intro j hj
    match j, hj with
    | 0, _ => exact h0
    | 1, _ => exact h1'
    | 2, _ => exact h2
    | 3, _ => show (fVar _).2.2 = 0; rw [fvar_no (by decide)]; rfl
    | j + 4, hj => omega
theorem fnum_no {c : UInt8} {r : List UInt8} (hp : partB c = true) (hd : digB c = false) : fNum (c :: r) = no := by
  unfold fNum
  rw [lead_part hp]
  have hn : numB (Lib.trimSuffix (c :: lead r) [98]) = false := by
    unfold Lib.trimSuffix
    split
    · cases hl : lead r with
      | nil => rfl
      | cons x y =>
        have : (c :: x :: y).take ((c :: x :: y).length - ([98] : List UInt8).length) = c :: (x :: y).take y.length := by simp
        rw [this]
        unfold numB
        simp [hd]
    · unfold numB; simp [hd]
  rw [hn]; rfl
theorem at_any_no {r : List UInt8} (hl : 1 < (lead (95 :: r)).length) : fFirst (95 :: r) = (no, 4) := by
  have e := lead_part (c := 95) (by decide) r
  obtain ⟨h0, h1', h2⟩ := before5 (l := 95 :: r) (by rw [e]; exact word_head (by decide)) (plain_low (by decide)) (field_np (by decide))
  refine first_no fun j hj => ?_
  match j, hj with
  | 0, _ => exact h0
  | 1, _ => exact h1'
  | 2, _ => exact h2
  | 3, _ => show (fVar _).2.2 = 0; rw [fvar_no (by decide)]; rfl
  | 4, _ =>
    show (fAny _).2.2 = 0
    unfold fAny
    rw [if_neg]
    · rfl
    · intro h; rw [h] at hl; exact absurd hl (by decide)
  | 5, _ => show (fNum _).2.2 = 0; rw [fnum_no (by decide) (by decide)]; rfl
  | 6, _ => show (fQuote _).2.2 = 0; rw [fquote_no (by decide)]; rfl
  | 7, _ => show (fSign _).2.2 = 0; rw [part_sign (by decide)]; rfl
  | j + 8, hj => omega
/-- Numbers: the digits, what of letters stands behind them. -/
def digs (l : List UInt8) : List UInt8 := l.takeWhile digB
theorem digs_lead (l : List UInt8) : ∃ E, lead l = digs l ++ E ∧ (∀ e E', E = e :: E' → digB e = false) := by
  induction l with
  | nil => exact ⟨[], rfl, fun e E' h => by cases h⟩
  | cons c l ih =>
    obtain ⟨E, h1, h2⟩ := ih
    cases hd : digB c with
    | true =>
      refine ⟨E, ?_, h2⟩
      rw [lead_part (dig_part hd), h1]
      unfold digs
      rw [List.takeWhile_cons, hd, if_pos rfl]; rfl
    | false =>
      refine ⟨lead (c :: l), ?_, fun e E' h => ?_⟩
      · unfold digs; rw [List.takeWhile_cons, hd]; rfl
      · cases hq : partB c with
        | false => rw [lead_np hq] at h; cases h
        | true => rw [lead_part hq] at h; injection h with h _; rw [← h]; exact hd
theorem digs_all (l : List UInt8) : ∀ x ∈ digs l, digB x = true := by
  intro x hx
  exact List.all_eq_true.1 (List.all_takeWhile (p := digB) (l := l)) x hx
theorem num_digs {D : List UInt8} (h : ∀ x ∈ D, digB x = true) (hne : D ≠ []) : numB D = !(decide (1 < D.length) && D.head? == some 48) := by
  unfold numB
  have ha : D.all digB = true := List.all_eq_true.2 h
  rw [ha]
  match D, hne with
  | [c], _ =>
    by_cases hc : c = 48
    · subst hc; decide
    · simp [hc]
  | c :: d :: D, _ =>
    have h1 : decide (1 < (c :: d :: D).length) = true := by simp
    have h2 : ((c :: d :: D) == [48]) = false := by simp
    have h3 : ((c :: d :: D) != []) = true := by simp
    rw [h1, h2, h3, List.head?_cons]
    rfl
theorem before_num {c : UInt8} {r : List UInt8} (hd : digB c = true) : ∀ j, j < 5 → (fd j (c :: r)).2.2 = 0 := by
  have hl : lowB c = false := by
    unfold digB at hd; unfold lowB
    simp only [decide_eq_true_eq] at hd
    simp only [decide_eq_false_iff_not]; omega
  have hu : uppB c = false := by
    unfold digB at hd; unfold uppB
    simp only [decide_eq_true_eq] at hd
    simp only [decide_eq_false_iff_not]; omega
  have h95 : c ≠ 95 := by rintro rfl; revert hd; decide
  obtain ⟨h0, h1', h2⟩ := before5 (l := c :: r) (by rw [lead_part (dig_part hd)]; exact word_head hl) (plain_low hl) (field_np (part_not46 (dig_part hd)))
  intro j hj
  match j, hj with
  | 0, _ => exact h0
  | 1, _ => exact h1'
  | 2, _ => exact h2
  | 3, _ => show (fVar _).2.2 = 0; rw [fvar_no hu]; rfl
  | 4, _ =>
    show (fAny _).2.2 = 0
    unfold fAny
    rw [lead_part (dig_part hd), if_neg]
    · rfl
    · intro h; injection h with h _; exact h95 h
  | j + 5, hj => omega
/-- A number, as the document reads one. -/
theorem at_num {c : UInt8} {r : List UInt8} (hd : digB c = true) {E : List UInt8} (hE : lead (c :: r) = digs (c :: r) ++ E) (he : ∀ e E', E = e :: E' → digB e = false) :
    fFirst (c :: r) = if (1 < (digs (c :: r)).length ∧ c = 48) ∨ (E ≠ [] ∧ E ≠ [98]) then (no, 4) else ((if E = [] then 5 else 6, digs (c :: r), (lead (c :: r)).length), if 200 < (digs (c :: r)).length then 80 else 0) := by
  have hDa := digs_all (c :: r)
  have hD : digs (c :: r) = c :: digs r := by unfold digs; rw [List.takeWhile_cons, hd, if_pos rfl]
  have hb := before_num (r := r) hd
  have hpos : 0 < (lead (c :: r)).length := by rw [lead_part (dig_part hd)]; exact Nat.succ_pos _
  have hno : fNum (c :: r) = no → fFirst (c :: r) = (no, 4) := fun h => by
    refine first_no fun j hj => ?_
    rcases Nat.lt_or_ge j 5 with h5 | h5
    · exact hb j h5
    · match j, hj, h5 with
      | 5, _, _ => show (fNum _).2.2 = 0; rw [h]; rfl
      | 6, _, _ => show (fQuote _).2.2 = 0; rw [fquote_no (part_not34 (dig_part hd))]; rfl
      | 7, _, _ => show (fSign _).2.2 = 0; rw [part_sign (dig_part hd)]; rfl
      | j + 8, hj, _ => omega
  have hyes : ∀ k, (k = 5 ∨ k = 6) → fNum (c :: r) = (k, digs (c :: r), (lead (c :: r)).length) → fFirst (c :: r) = ((k, digs (c :: r), (lead (c :: r)).length), if 200 < (digs (c :: r)).length then 80 else 0) := fun k hk h => by
    have hx : fd 5 (c :: r) = (k, digs (c :: r), (lead (c :: r)).length) := h
    rw [first_at (k := 5) (by decide) hb (by rw [hx]; exact hpos), hx]
    dsimp only
    unfold exc
    rw [if_neg (by omega), if_pos hk]
  have hnd := num_digs hDa (by rw [hD]; simp)
  have hhd : (digs (c :: r)).head? = some c := by rw [hD]; rfl
  rw [hhd] at hnd
  have hlast : ∀ x ∈ digs (c :: r), x ≠ 98 := fun x hx h => by subst h; exact absurd (hDa 98 hx) (by decide)
  generalize digs (c :: r) = D at *
  match E, hE, he with
  | [], hE, _ =>
    rw [List.append_nil] at hE
    have hsf : Lib.hasSuffix D [98] = false := by
      cases hq : Lib.hasSuffix D [98] with
      | false => rfl
      | true =>
        obtain ⟨a, ha⟩ : [98] <:+ D := List.isSuffixOf_iff_suffix.1 hq
        exact absurd rfl (hlast 98 (by rw [← ha]; simp))
    by_cases hc : 1 < D.length ∧ c = 48
    · rw [if_pos (Or.inl hc)]
      refine hno ?_
      unfold fNum
      rw [hE, trim_same hsf, hnd]
      simp [hc]
    · rw [if_neg (by simp only [ne_eq, not_true_eq_false, false_and, or_false]; exact hc)]
      refine hyes 5 (Or.inl rfl) ?_
      have hb' : (!(decide (1 < D.length) && some c == some 48)) = true := by
        simp only [Bool.not_eq_true', Bool.and_eq_false_iff, decide_eq_false_iff_not, beq_eq_false_iff_ne, ne_eq, Option.some.injEq]
        by_cases h1 : 1 < D.length
        · exact Or.inr fun h2 => hc ⟨h1, h2⟩
        · exact Or.inl h1
      unfold fNum
      rw [hE, trim_same hsf, hnd, hb', if_pos rfl, hsf]
      rfl
  | e :: E', hE, he =>
    by_cases h98 : e :: E' = [98]
    · rw [h98] at hE ⊢
      have hsf : Lib.hasSuffix (lead (c :: r)) [98] = true := List.isSuffixOf_iff_suffix.2 ⟨D, hE.symm⟩
      have hts : Lib.trimSuffix (lead (c :: r)) [98] = D := by
        have := suffix_split hsf
        rw [hE] at this
        have h2 := List.append_cancel_right this
        rw [hE]; exact h2
      by_cases hc : 1 < D.length ∧ c = 48
      · rw [if_pos (Or.inl hc)]
        refine hno ?_
        unfold fNum
        rw [hts, hnd]
        simp [hc]
      · rw [if_neg (by simp only [ne_eq, not_true_eq_false, and_false, or_false]; exact hc), if_neg (by simp)]
        refine hyes 6 (Or.inr rfl) ?_
        have hb' : (!(decide (1 < D.length) && some c == some 48)) = true := by
          simp only [Bool.not_eq_true', Bool.and_eq_false_iff, decide_eq_false_iff_not, beq_eq_false_iff_ne, ne_eq, Option.some.injEq]
          by_cases h1 : 1 < D.length
          · exact Or.inr fun h2 => hc ⟨h1, h2⟩
          · exact Or.inl h1
        unfold fNum
        rw [hts, hnd, hb', if_pos rfl, hsf]
        rfl
    · rw [if_pos (Or.inr ⟨by simp, h98⟩)]
      refine hno ?_
      have hed := he e E' rfl
      have hmem : e ∈ Lib.trimSuffix (lead (c :: r)) [98] := by
        rw [hE]
        unfold Lib.trimSuffix
        split
        · cases E' with
          | nil =>
            rename_i hsf
            obtain ⟨a, ha⟩ : [98] <:+ D ++ [e] := List.isSuffixOf_iff_suffix.1 hsf
            have h2 := (List.append_inj' ha rfl).2
            injection h2 with h2 _
            exact absurd (by rw [← h2]) h98
          | cons x y =>
            have : (D ++ e :: x :: y).take ((D ++ e :: x :: y).length - ([98] : List UInt8).length) = D ++ e :: (x :: y).take y.length := by
              rw [show (D ++ e :: x :: y).length - ([98] : List UInt8).length = D.length + (y.length + 1) by simp only [List.length_append, List.length_cons, List.length_nil]; omega]
              rw [List.take_append, List.take_of_length_le (Nat.le_add_right _ _), Nat.add_sub_cancel_left, List.take_succ_cons]
            rw [this]; simp
        · simp
      have hn : numB (Lib.trimSuffix (lead (c :: r)) [98]) = false := by
        unfold numB
        have : (Lib.trimSuffix (lead (c :: r)) [98]).all digB = false := by
          rw [List.all_eq_false]; exact ⟨e, hmem, by simp [hed]⟩
        rw [this]; rfl
      unfold fNum
      rw [hn]; rfl
/-- A text in quotes. -/
theorem at_quote (r : List UInt8) : fFirst (34 :: r) = match qGo (r.length + 1) r [] 1 with | some x => ((7, x.1, x.2), if 4096 < x.1.length then 40 else 0) | none => (no, 4) := by
  have hl : lead (34 :: r) = [] := lead_np np34
  have hb : ∀ j, j < 6 → (fd j (34 :: r)).2.2 = 0 := by
    intro j hj
    match j, hj with
    | 0, _ => show (fWord _).2.2 = 0; unfold fWord; rw [hl]; rfl
    | 1, _ => show (fName _).2.2 = 0; rw [fname_no (plain_nil hl)]; rfl
    | 2, _ => show (fField _).2.2 = 0; rw [ffield_no (field_np (by decide))]; rfl
    | 3, _ => show (fVar _).2.2 = 0; unfold fVar; rw [hl]; rfl
    | 4, _ => show (fAny _).2.2 = 0; unfold fAny; rw [hl]; rfl
    | 5, _ => show (fNum _).2.2 = 0; unfold fNum; rw [hl]; rfl
    | j + 6, hj => omega
  have hq : fd 6 (34 :: r) = fdOf (qGo (r.length + 1) r [] 1) := by rw [fd_q]; unfold fQuote; simp
  cases h : qGo (r.length + 1) r [] 1 with
  | none =>
    rw [h] at hq
    refine first_no fun j hj => ?_
    rcases Nat.lt_or_ge j 6 with h6 | h6
    · exact hb j h6
    · match j, hj, h6 with
      | 6, _, _ => rw [hq]; rfl
      | 7, _, _ =>
        have : fd 7 (34 :: r) = no := by
          show fSign (34 :: r) = no
          refine sign_no fun g hm => ?_
          cases hx : Lib.hasPrefix (34 :: r) g with
          | false => rfl
          | true =>
            obtain ⟨Z, hZ⟩ : g <+: 34 :: r := List.isPrefixOf_iff_prefix.1 hx
            obtain ⟨hne, h34, _⟩ := sign_facts g hm
            cases g with
            | nil => exact absurd rfl hne
            | cons x g =>
              rw [List.cons_append] at hZ
              injection hZ with h1 _
              rw [h1] at h34; exact absurd rfl h34
        rw [this]; rfl
      | j + 8, hj, _ => omega
  | some x =>
    rw [h] at hq
    have hpos := (q_local _ _ _ _ _ h).1
    have hx : fd 6 (34 :: r) = (7, x.1, x.2) := hq
    rw [first_at (k := 6) (by decide) hb (by rw [hx]; dsimp only; omega), hx]
    rfl
/-- What begins with no letter, digit, _ or quote. -/
theorem before_sign {c : UInt8} {r : List UInt8} (hp : partB c = false) (h34 : c ≠ 34) (hf : fieldN (c :: r) = []) : ∀ j, j < 7 → (fd j (c :: r)).2.2 = 0 := by
  have hl : lead (c :: r) = [] := lead_np hp
  intro j hj
  match j, hj with
  | 0, _ => show (fWord _).2.2 = 0; unfold fWord; rw [hl]; rfl
  | 1, _ => show (fName _).2.2 = 0; rw [fname_no (plain_nil hl)]; rfl
  | 2, _ => show (fField _).2.2 = 0; rw [ffield_no hf]; rfl
  | 3, _ => show (fVar _).2.2 = 0; unfold fVar; rw [hl]; rfl
  | 4, _ => show (fAny _).2.2 = 0; unfold fAny; rw [hl]; rfl
  | 5, _ => show (fNum _).2.2 = 0; unfold fNum; rw [hl]; rfl
  | 6, _ => show (fQuote _).2.2 = 0; rw [fquote_no h34]; rfl
  | j + 7, hj => omega
theorem at_field {r : List UInt8} {B : List UInt8} (hB : fieldN (46 :: r) = B) (hf : B ≠ []) : fFirst (46 :: r) = ((9, B, 1 + B.length), if 32 < B.length then 63 else 0) := by
  have hl : lead (46 :: r) = [] := lead_np np46
  have hx : fd 2 (46 :: r) = (9, B, 1 + B.length) := by show fField _ = _; unfold fField fieldOf; rw [hB, if_neg hf]
  have hps : ∀ x ∈ B, partB x = true := by
    rw [← hB]
    unfold fieldN
    simp only [if_true]
    exact plain_parts r
  rw [first_at (k := 2) (by decide) ?_ (by rw [hx]; dsimp only; omega), hx]
  · dsimp only; rw [exc_one (Or.inr (Or.inr rfl)) hps]
  · intro j hj
    match j, hj with
    | 0, _ => show (fWord _).2.2 = 0; unfold fWord; rw [hl]; rfl
    | 1, _ => show (fName _).2.2 = 0; rw [fname_no (plain_nil hl)]; rfl
    | j + 2, hj => omega
theorem at_sign {c : UInt8} {r : List UInt8} (hp : partB c = false) (h34 : c ≠ 34) (hf : fieldN (c :: r) = []) : fFirst (c :: r) = match signs.find? (fun g => Lib.hasPrefix (c :: r) g) with | some g => ((8, g, g.length), 0) | none => (no, 4) := by
  have hb := before_sign hp h34 hf
  cases hg : signs.find? (fun g => Lib.hasPrefix (c :: r) g) with
  | none =>
    have hx : fd 7 (c :: r) = no := by show fSign _ = _; unfold fSign; rw [hg]
    refine first_no fun j hj => ?_
    rcases Nat.lt_or_ge j 7 with h6 | h6
    · exact hb j h6
    · obtain rfl : j = 7 := by omega
      rw [hx]; rfl
  | some g =>
    have hx : fd 7 (c :: r) = (8, g, g.length) := by show fSign _ = _; unfold fSign; rw [hg]
    have hne := (sign_facts g (List.mem_of_find?_eq_some hg)).1
    rw [first_at (k := 7) (by decide) hb (by rw [hx]; exact List.length_pos_iff.2 hne), hx]
    rfl
end Lx
end Go.Proofs.YteppdnlchjpekaaDoor
