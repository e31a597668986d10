/- Blanks and remarks between two tokens change no kind and no text: the text as a whole. Plain. -/
import Derived.Test.YteppdnlchjpekaaDoorGi
namespace Go.Proofs.YteppdnlchjpekaaDoor
open Go.RowKit Lx
open Go
namespace Lx
/-- Behind blanks and remarks. -/
def sk (l : List UInt8) : List UInt8 := skipL (l.length + 1) l
/-- Kinds and texts of a rest's tokens; none: it fails. -/
def lexK : Nat → List UInt8 → Option (List (Nat × List UInt8))
  | 0, _ => some []
  | f + 1, r => if r = [] then some [] else if (fFirst r).2 ≠ 0 then none else (lexK f (sk (r.drop (fFirst r).1.2.2))).map fun L => ((fFirst r).1.1, (fFirst r).1.2.1) :: L
theorem lexR_K : ∀ (f : Nat) (q : Nat × Nat) (r : List UInt8) (acc : List T), (lexK f r = none ∧ (lexR f q r acc).2.2 ≠ 0) ∨ ∃ L, lexK f r = some L ∧ (lexR f q r acc).2.2 = 0 ∧ (lexR f q r acc).1.map kt = acc.map kt ++ L
  | 0, _, _, _ => Or.inr ⟨[], rfl, by rw [lexR], by rw [lexR]; simp⟩
  | f + 1, q, r, acc => by
    rw [lexK, lexR]
    by_cases hr : r = []
    · rw [if_pos hr, if_pos hr]
      exact Or.inr ⟨[], rfl, rfl, by simp⟩
    · rw [if_neg hr, if_neg hr]
      by_cases he : (fFirst r).2 ≠ 0
      · rw [if_pos he, if_pos he]
        exact Or.inl ⟨rfl, he⟩
      · rw [if_neg he, if_neg he]
        rcases lexR_K f (skipQ (adv q (r.take (fFirst r).1.2.2)) (r.drop (fFirst r).1.2.2)).1 (sk (r.drop (fFirst r).1.2.2)) (acc ++ [⟨q.1, q.2, (fFirst r).1.1, ⟨(fFirst r).1.2.1.toArray⟩⟩]) with ⟨h1, h2⟩ | ⟨L, h1, h2, h3⟩
        · exact Or.inl ⟨by rw [h1]; rfl, h2⟩
        · refine Or.inr ⟨((fFirst r).1.1, (fFirst r).1.2.1) :: L, by rw [h1]; rfl, h2, ?_⟩
          refine Eq.trans h3 ?_
          simp [kt]
theorem sk_le (l : List UInt8) : (sk l).length ≤ l.length := (skip_suf _ _).length_le
theorem lexK_fuel : ∀ (f f' : Nat) (r : List UInt8), r.length ≤ f → r.length ≤ f' → lexK f r = lexK f' r
  | 0, 0, _, _, _ => rfl
  | 0, f' + 1, r, h, _ => by
    have : r = [] := List.length_eq_zero_iff.1 (by omega)
    rw [lexK, lexK, if_pos this]
  | f + 1, 0, r, _, h => by
    have : r = [] := List.length_eq_zero_iff.1 (by omega)
    rw [lexK, lexK, if_pos this]
  | f + 1, f' + 1, r, h, h' => by
    rw [lexK, lexK]
    by_cases hr : r = []
    · rw [if_pos hr, if_pos hr]
    · rw [if_neg hr, if_neg hr]
      by_cases he : (fFirst r).2 ≠ 0
      · rw [if_pos he, if_pos he]
      · rw [if_neg he, if_neg he]
        have h1 := (first_size r).2.1 (by omega)
        have h2 := (first_size r).1
        have h3 := sk_le (r.drop (fFirst r).1.2.2)
        rw [List.length_drop] at h3
        rw [lexK_fuel f f' _ (by omega) (by omega)]
/-- Blanks and remarks. -/
inductive Gap : List UInt8 → Prop
  | nil : Gap []
  | blank (c : UInt8) (g : List UInt8) : blanks.contains c = true → Gap g → Gap (c :: g)
  | rem (b g : List UInt8) : (10 : UInt8) ∉ b → Gap g → Gap (35 :: (b ++ 10 :: g))
theorem Gap.app {a b : List UInt8} (ha : Gap a) (hb : Gap b) : Gap (a ++ b) := by
  induction ha with
  | nil => exact hb
  | blank c g h _ ih => exact .blank c _ h ih
  | rem b' g h _ ih =>
    have := Gap.rem b' _ h ih
    simpa using this
theorem gap_blanks : ∀ l : List UInt8, (∀ c ∈ l, blanks.contains c = true) → Gap l
  | [], _ => .nil
  | c :: l, h => .blank c l (h c (by simp)) (gap_blanks l fun x hx => h x (by simp [hx]))
theorem gap_last {g : List UInt8} (h : Gap g) (h0 : g ≠ []) : ∃ c, g[g.length - 1]? = some c ∧ partB c = false := by
  induction h with
  | nil => exact absurd rfl h0
  | blank c g hc hg ih =>
    by_cases hn : g = []
    · subst hn
      refine ⟨c, rfl, ?_⟩
      have : c ∈ blanks := List.contains_iff_mem.1 hc
      simp [blanks] at this
      rcases this with rfl | rfl | rfl | rfl <;> decide
    · obtain ⟨d, h1, h2⟩ := ih hn
      refine ⟨d, ?_, h2⟩
      have := List.length_pos_iff.2 hn
      rw [List.length_cons, show g.length + 1 - 1 = (g.length - 1) + 1 by omega, List.getElem?_cons_succ]
      exact h1
  | rem b g hb hg ih =>
    by_cases hn : g = []
    · subst hn
      refine ⟨10, ?_, by decide⟩
      simp
    · obtain ⟨d, h1, h2⟩ := ih hn
      refine ⟨d, ?_, h2⟩
      have := List.length_pos_iff.2 hn
      have e : (35 :: (b ++ 10 :: g) : List UInt8).length - 1 = (35 :: (b ++ [10]) : List UInt8).length + (g.length - 1) := by simp; omega
      rw [e, show (35 :: (b ++ 10 :: g) : List UInt8) = (35 :: (b ++ [10])) ++ g by simp, List.getElem?_append_right (Nat.le_add_right _ _), Nat.add_sub_cancel_left]
      exact h1
theorem index10 : ∀ (b Y : List UInt8), (10 : UInt8) ∉ b → Lib.index (b ++ 10 :: Y) [10] = (b.length : Int)
  | [], Y, _ => by unfold Lib.index; rfl
  | c :: b, Y, h => by
    have ih := index10 b Y (fun hh => h (by simp [hh]))
    have hc : c ≠ 10 := fun e => h (by simp [e])
    rw [List.cons_append]
    unfold Lib.index
    rw [ih]
    have h1 : ([10] : List UInt8).isPrefixOf (c :: (b ++ 10 :: Y)) = false := by simp [List.isPrefixOf, Ne.symm hc]
    have h2 : ((b.length : Int) == -1) = false := by rw [beq_eq_false_iff_ne]; omega
    simp [h1, h2]
theorem index10_no : ∀ (b : List UInt8), (10 : UInt8) ∉ b → Lib.index b [10] = -1
  | [], _ => by unfold Lib.index; rfl
  | c :: b, h => by
    have ih := index10_no b (fun hh => h (by simp [hh]))
    have hc : c ≠ 10 := fun e => h (by simp [e])
    unfold Lib.index
    rw [ih]
    have h1 : ([10] : List UInt8).isPrefixOf (c :: b) = false := by simp [List.isPrefixOf, Ne.symm hc]
    simp [h1]
theorem cut_rem (b Y : List UInt8) (h : (10 : UInt8) ∉ b) : (Lib.cut (b ++ 10 :: Y) [10]).2.1 = Y := by
  unfold Lib.cut
  rw [index10 b Y h, if_pos (by omega)]
  simp
theorem cut_no (b : List UInt8) (h : (10 : UInt8) ∉ b) : (Lib.cut b [10]).2.1 = [] := by
  unfold Lib.cut
  rw [index10_no b h, if_neg (by omega)]
theorem skip_fuel : ∀ (f f' : Nat) (l : List UInt8), l.length < f → l.length < f' → skipL f l = skipL f' l
  | 0, _, _, h, _ => absurd h (Nat.not_lt_zero _)
  | _, 0, _, _, h => absurd h (Nat.not_lt_zero _)
  | f + 1, f' + 1, l, h, h' => by
    rw [skipL, skipL]
    by_cases hd : (Lib.trimLeftS l blanks).head? = some 35
    · rw [if_pos hd, if_pos hd]
      have h1 := (trim_suf l).length_le
      have h2 : (Lib.cut (Lib.trimLeftS l blanks) [10]).2.1.length < (Lib.trimLeftS l blanks).length := cut_less (by intro e; rw [e] at hd; cases hd)
      exact skip_fuel f f' _ (by omega) (by omega)
    · rw [if_neg hd, if_neg hd]
theorem sk_eq (l : List UInt8) : sk l = if (Lib.trimLeftS l blanks).head? = some 35 then sk (Lib.cut (Lib.trimLeftS l blanks) [10]).2.1 else Lib.trimLeftS l blanks := by
  show skipL (l.length + 1) l = _
  rw [skipL]
  by_cases hd : (Lib.trimLeftS l blanks).head? = some 35
  · rw [if_pos hd, if_pos hd]
    have h1 := (trim_suf l).length_le
    have h2 : (Lib.cut (Lib.trimLeftS l blanks) [10]).2.1.length < (Lib.trimLeftS l blanks).length := cut_less (by intro e; rw [e] at hd; cases hd)
    exact skip_fuel _ _ _ (by omega) (by omega)
  · rw [if_neg hd, if_neg hd]
theorem trim_blank {c : UInt8} (h : blanks.contains c = true) (l : List UInt8) : Lib.trimLeftS (c :: l) blanks = Lib.trimLeftS l blanks := by
  unfold Lib.trimLeftS; rw [List.dropWhile_cons, h]; rfl
theorem trim_not {c : UInt8} (h : blanks.contains c = false) (l : List UInt8) : Lib.trimLeftS (c :: l) blanks = c :: l := by
  unfold Lib.trimLeftS; rw [List.dropWhile_cons, h]; rfl
theorem sk_gap {g : List UInt8} (h : Gap g) (X : List UInt8) : sk (g ++ X) = sk X := by
  induction h with
  | nil => rfl
  | blank c g hc _ ih => rw [← ih, List.cons_append, sk_eq, trim_blank hc, ← sk_eq]
  | rem b g hb _ ih =>
    rw [← ih, List.cons_append, sk_eq, trim_not (by decide), List.head?_cons, if_pos rfl, List.append_assoc, List.cons_append]
    rw [show (35 :: (b ++ 10 :: (g ++ X)) : List UInt8) = (35 :: b) ++ 10 :: (g ++ X) from rfl, cut_rem]
    intro hm
    rcases List.mem_cons.1 hm with h | h
    · exact absurd h (by decide)
    · exact hb h
theorem split10 {t : List UInt8} (h : (10 : UInt8) ∈ t) : ∃ b Y, t = b ++ 10 :: Y ∧ (10 : UInt8) ∉ b := by
  induction t with
  | nil => cases h
  | cons c t ih =>
    by_cases hc : c = 10
    · exact ⟨[], t, by rw [hc]; rfl, by simp⟩
    · have : (10 : UInt8) ∈ t := by
        rcases List.mem_cons.1 h with h | h
        · exact absurd h.symm hc
        · exact h
      obtain ⟨b, Y, e, hb⟩ := ih this
      refine ⟨c :: b, Y, by rw [e]; rfl, ?_⟩
      intro hm
      rcases List.mem_cons.1 hm with h | h
      · exact hc h.symm
      · exact hb h
theorem sk_split : ∀ (n : Nat) (l : List UInt8), l.length ≤ n → sk l = [] ∨ ∃ g, Gap g ∧ l = g ++ sk l ∧ ∃ c r, sk l = c :: r ∧ blanks.contains c = false ∧ c ≠ 35
  | 0, l, h => by
    have : l = [] := List.length_eq_zero_iff.1 (by omega)
    subst this
    exact Or.inl rfl
  | n + 1, l, h => by
    have hw : l = l.takeWhile (blanks.contains ·) ++ Lib.trimLeftS l blanks := (List.takeWhile_append_dropWhile).symm
    have hg : Gap (l.takeWhile (blanks.contains ·)) := gap_blanks _ fun c hc => by
      have := List.all_takeWhile (p := (blanks.contains ·)) (l := l)
      exact List.all_eq_true.1 this c hc
    have hnb : ∀ c r, Lib.trimLeftS l blanks = c :: r → blanks.contains c = false := fun c r e => by
      have := List.head_dropWhile_not (p := (blanks.contains ·)) (l := l) (by show Lib.trimLeftS l blanks ≠ []; rw [e]; simp)
      have e2 : (List.dropWhile (blanks.contains ·) l).head (by show Lib.trimLeftS l blanks ≠ []; rw [e]; simp) = c := by
        have : ∀ (t : List UInt8) (h : t ≠ []), t = c :: r → t.head h = c := by rintro t h rfl; rfl
        exact this _ _ e
      rw [e2] at this
      simpa using this
    generalize Lib.trimLeftS l blanks = t at hw hnb
    have hskl : sk l = sk t := by rw [hw, sk_gap hg]
    cases t with
    | nil => left; rw [hskl]; rfl
    | cons c u =>
      have hc := hnb c u rfl
      by_cases h35 : c = 35
      · subst h35
        by_cases hm : (10 : UInt8) ∈ u
        · obtain ⟨b, Y, rfl, hb⟩ := split10 hm
          have hg2 : Gap (35 :: (b ++ [10])) := Gap.rem b [] hb .nil
          have e3 : (35 :: (b ++ 10 :: Y) : List UInt8) = (35 :: (b ++ [10])) ++ Y := by simp
          have hsk : sk l = sk Y := by rw [hskl, e3, sk_gap hg2]
          have hlen : Y.length ≤ n := by
            have := congrArg List.length hw
            simp only [List.length_append, List.length_cons] at this
            omega
          rcases sk_split n Y hlen with h1 | ⟨g, h1, h2, h3⟩
          · left; rw [hsk, h1]
          · right
            refine ⟨l.takeWhile (blanks.contains ·) ++ ((35 :: (b ++ [10])) ++ g), hg.app (hg2.app h1), ?_, ?_⟩
            · rw [hsk, List.append_assoc, List.append_assoc, ← h2, ← e3]
              exact hw
            · rw [hsk]; exact h3
        · left
          rw [hskl, sk_eq, trim_not (by decide), List.head?_cons, if_pos rfl, cut_no]
          · rfl
          · intro h
            rcases List.mem_cons.1 h with h | h
            · exact absurd h (by decide)
            · exact hm h
      · right
        have hsc : sk (c :: u) = c :: u := by rw [sk_eq, trim_not hc, if_neg (by simp [h35])]
        refine ⟨_, hg, ?_, c, u, ?_, hc, h35⟩
        · rw [hskl, hsc]; exact hw
        · rw [hskl, hsc]
theorem sk_fine {c : UInt8} {r : List UInt8} (hb : blanks.contains c = false) (h : c ≠ 35) : sk (c :: r) = c :: r := by
  rw [sk_eq, trim_not hb, if_neg (by simp [h])]
/-- Where the token of that number begins. -/
def st : Nat → List UInt8 → Nat
  | 0, _ => 0
  | k + 1, r => (r.length - (sk (r.drop (fFirst r).1.2.2)).length) + st k (sk (r.drop (fFirst r).1.2.2))
/-- One step of reading. -/
theorem lexK_step {f k : Nat} {r : List UInt8} {L : List (Nat × List UInt8)} (h : lexK f r = some L) (hk : k < L.length) : ∃ f', f = f' + 1 ∧ r ≠ [] ∧ (fFirst r).2 = 0 ∧ ∃ L', lexK f' (sk (r.drop (fFirst r).1.2.2)) = some L' ∧ L = ((fFirst r).1.1, (fFirst r).1.2.1) :: L' := by
  cases f with
  | zero =>
    rw [lexK] at h
    injection h with h
    subst h
    exact absurd hk (Nat.not_lt_zero _)
  | succ f =>
    rw [lexK] at h
    by_cases hr : r = []
    · rw [if_pos hr] at h
      injection h with h
      subst h
      exact absurd hk (Nat.not_lt_zero _)
    · rw [if_neg hr] at h
      by_cases he : (fFirst r).2 ≠ 0
      · rw [if_pos he] at h; cases h
      · rw [if_neg he] at h
        obtain ⟨L', h1, h2⟩ := Option.map_eq_some_iff.1 h
        exact ⟨f, rfl, hr, by omega, L', h1, h2.symm⟩
theorem lexK_some {f k : Nat} {r : List UInt8} {L : List (Nat × List UInt8)} (h : lexK f r = some L) (hk : k < L.length) : r ≠ [] := by
  obtain ⟨_, _, h1, _⟩ := lexK_step h hk
  exact h1
/-- What a step leaves: the gap, the rest. -/
theorem step_parts {r r' : List UInt8} {n : Nat} (hr' : r' = sk (r.drop n)) (h0 : r' ≠ []) (hn : n ≤ r.length) : ∃ g, Gap g ∧ r.drop n = g ++ r' ∧ sk r' = r' ∧ r.length = n + g.length + r'.length ∧ r.drop (n + g.length) = r' ∧ ∀ m, r.take (n + g.length + m) = r.take n ++ (g ++ r'.take m) ∧ r.drop (n + g.length + m) = r'.drop m := by
  rcases sk_split _ (r.drop n) (Nat.le_refl _) with h | ⟨g, hg, he, c, u, e, hb, h35⟩
  · rw [← hr'] at h; exact absurd h h0
  · rw [← hr'] at he e
    have hl : r.length = n + g.length + r'.length := by
      have := congrArg List.length he
      rw [List.length_drop, List.length_append] at this
      omega
    have hd : r.drop (n + g.length) = r' := by rw [← List.drop_drop, he, List.drop_left]
    refine ⟨g, hg, he, by rw [e]; exact sk_fine hb h35, hl, hd, fun m => ⟨?_, ?_⟩⟩
    · rw [Nat.add_assoc, List.take_add, he, List.take_append, List.take_of_length_le (Nat.le_add_right _ _), Nat.add_sub_cancel_left]
    · rw [← List.drop_drop, hd]
theorem st_amid : ∀ (k f : Nat) (r : List UInt8) (L : List (Nat × List UInt8)), lexK f r = some L → k < L.length → ¬ Amid r (st k r) ∧ st k r < r.length
  | 0, f, r, L, h, hk => ⟨fun ⟨_, _, h1, _⟩ => absurd h1 (by rw [st]; decide), List.length_pos_iff.2 (lexK_some h hk)⟩
  | k + 1, f, r, L, h, hk => by
    obtain ⟨f', rfl, hr, he, L', h1, rfl⟩ := lexK_step h hk
    have hk' : k < L'.length := by rw [List.length_cons] at hk; omega
    obtain ⟨ih, ihl⟩ := st_amid k f' _ L' h1 hk'
    have hn := (first_size r).1
    obtain ⟨g, hg, hd, _, hl, hdr, _⟩ := step_parts rfl (lexK_some h1 hk') hn
    have h0 := (first_size r).2.1 he
    have hend := first_end he
    rw [st]
    generalize (fFirst r).1.2.2 = n at *
    generalize sk (r.drop n) = r' at *
    have hm : r.length - r'.length + st k r' = n + g.length + st k r' := by omega
    rw [hm]
    refine ⟨?_, by omega⟩
    intro hA
    rcases Nat.eq_zero_or_pos (st k r') with hz | hz
    · rw [hz, Nat.add_zero] at hA
      by_cases hg0 : g = []
      · rw [hg0] at hA
        exact hend hA
      · obtain ⟨c, hc, hp⟩ := gap_last hg hg0
        obtain ⟨a, b, _, h3, _, h5, _⟩ := hA
        have hgl := List.length_pos_iff.2 hg0
        have : r[n + (g.length - 1)]? = some c := by
          rw [← List.getElem?_drop, hd, List.getElem?_append_left (by omega)]; exact hc
        rw [show n + g.length - 1 = n + (g.length - 1) by omega, this] at h3
        injection h3 with h3
        subst h3
        rw [hp] at h5; exact absurd h5 (by decide)
    · refine ih ?_
      obtain ⟨a, b, h2, h3, h4, h5, h6⟩ := hA
      have key : ∀ j, r'[j]? = r[n + g.length + j]? := fun j => by rw [← List.getElem?_drop, hdr]
      refine ⟨a, b, hz, ?_, ?_, h5, h6⟩
      · rw [key, show n + g.length + (st k r' - 1) = n + g.length + st k r' - 1 by omega]; exact h3
      · rw [key]; exact h4
/-- What is put ahead of a token changes no kind and no text. -/
theorem lexK_cut (J : List UInt8) (hJ : Gap (32 :: J)) : ∀ (k f f' : Nat) (r : List UInt8) (L : List (Nat × List UInt8)), sk r = r → r.length ≤ f → lexK f r = some L → k < L.length → (r.take (st k r) ++ 32 :: (J ++ r.drop (st k r))).length ≤ f' → lexK f' (sk (r.take (st k r) ++ 32 :: (J ++ r.drop (st k r)))) = some L
  | 0, f, f', r, L, hs, hrf, h, hk, hf => by
    rw [st, List.take_zero, List.drop_zero, List.nil_append] at hf ⊢
    rw [show (32 :: (J ++ r) : List UInt8) = (32 :: J) ++ r from rfl] at hf ⊢
    rw [sk_gap hJ, hs]
    rw [List.length_append] at hf
    rw [lexK_fuel f' f r (by omega) hrf]
    exact h
  | k + 1, f, f', r, L, hs, hrf, h, hk, hf => by
    have hA := st_amid (k + 1) f r L h hk
    obtain ⟨f0, rfl, hr, he, L', h1, rfl⟩ := lexK_step h hk
    have hk' : k < L'.length := by rw [List.length_cons] at hk; omega
    have hn := (first_size r).1
    have h0 := (first_size r).2.1 he
    have hcut := fun hm => first_cut he (m := st (k + 1) r) hm hA.1 (J ++ r.drop (st (k + 1) r))
    obtain ⟨g, hg, hd, hss, hl, hdr, hpt⟩ := step_parts rfl (lexK_some h1 hk') hn
    have hm : st (k + 1) r = (fFirst r).1.2.2 + g.length + st k (sk (r.drop (fFirst r).1.2.2)) := by rw [st]; omega
    have hT := hcut (by omega)
    have hX := hpt (st k (sk (r.drop (fFirst r).1.2.2)))
    rw [← hm] at hX
    have ih := lexK_cut J hJ k f0 (f' - 1) (sk (r.drop (fFirst r).1.2.2)) L' hss (by omega) h1 hk'
    have hTs : sk (r.take (st (k + 1) r) ++ 32 :: (J ++ r.drop (st (k + 1) r))) = r.take (st (k + 1) r) ++ 32 :: (J ++ r.drop (st (k + 1) r)) := by
      obtain ⟨m', hm'⟩ : ∃ m', st (k + 1) r = m' + 1 := ⟨st (k + 1) r - 1, by omega⟩
      rw [hm']
      rcases sk_split _ r (Nat.le_refl _) with h2 | ⟨_, _, _, c, u, e, hb, h35⟩
      · rw [hs] at h2; exact absurd h2 hr
      · rw [hs] at e
        rw [e, List.take_succ_cons, List.cons_append]
        exact sk_fine hb h35
    rw [hTs]
    generalize hTT : r.take (st (k + 1) r) ++ 32 :: (J ++ r.drop (st (k + 1) r)) = T at hT hf ⊢
    have hTe : T = r.take (fFirst r).1.2.2 ++ (g ++ ((sk (r.drop (fFirst r).1.2.2)).take (st k (sk (r.drop (fFirst r).1.2.2))) ++ 32 :: (J ++ (sk (r.drop (fFirst r).1.2.2)).drop (st k (sk (r.drop (fFirst r).1.2.2)))))) := by
      rw [← hTT, hX.1, hX.2]; simp
    have hTd : T.drop (fFirst r).1.2.2 = g ++ ((sk (r.drop (fFirst r).1.2.2)).take (st k (sk (r.drop (fFirst r).1.2.2))) ++ 32 :: (J ++ (sk (r.drop (fFirst r).1.2.2)).drop (st k (sk (r.drop (fFirst r).1.2.2))))) := by
      rw [hTe, List.drop_append_of_le_length (by rw [List.length_take]; omega), List.drop_of_length_le (by rw [List.length_take]; omega), List.nil_append]
    have hTl : T.length = (fFirst r).1.2.2 + (g.length + ((sk (r.drop (fFirst r).1.2.2)).take (st k (sk (r.drop (fFirst r).1.2.2))) ++ 32 :: (J ++ (sk (r.drop (fFirst r).1.2.2)).drop (st k (sk (r.drop (fFirst r).1.2.2))))).length) := by
      rw [hTe, List.length_append, List.length_append, List.length_take, Nat.min_eq_left hn]
    have hTn : T ≠ [] := by intro e; rw [e] at hTl; simp at hTl
    obtain ⟨f1, rfl⟩ : ∃ n, f' = n + 1 := ⟨f' - 1, by omega⟩
    rw [Nat.add_sub_cancel] at ih
    rw [lexK, if_neg hTn, hT, if_neg (by omega), hTd, sk_gap hg, ih (by omega)]
    rfl
/-- Behind blanks and remarks a list of tokens goes on. -/
theorem lexR_pre : ∀ (f : Nat) (q : Nat × Nat) (r : List UInt8) (acc : List T), (lexR f q r acc).2.2 = 0 → acc <+: (lexR f q r acc).1
  | 0, _, _, acc, _ => by rw [lexR]; exact List.prefix_refl _
  | f + 1, q, r, acc, h => by
    rw [lexR] at h ⊢
    split
    · exact List.prefix_refl _
    · rename_i hr
      rw [if_neg hr] at h
      split
      · rename_i he
        rw [if_pos he] at h
        exact absurd h he
      · rename_i he
        rw [if_neg he] at h
        exact (List.prefix_append _ _).trans (lexR_pre f _ _ _ h)
/-- The place of the token of that number. -/
theorem lexR_at : ∀ (k f : Nat) (q : Nat × Nat) (r : List UInt8) (acc : List T), (lexR f q r acc).2.2 = 0 → ∀ h : acc.length + k < (lexR f q r acc).1.length, (lexR f q r acc).1[acc.length + k].line = ((adv q (r.take (st k r))).1 : Int) ∧ (lexR f q r acc).1[acc.length + k].col = ((adv q (r.take (st k r))).2 : Int)
  | k, 0, q, r, acc, h0, h => by
    exfalso; rw [lexR] at h; dsimp only at h; omega
  | k, f + 1, q, r, acc, h0, h => by
    by_cases hr : r = []
    · exfalso; rw [lexR, if_pos hr] at h; dsimp only at h; omega
    · by_cases he : (fFirst r).2 ≠ 0
      · exfalso; rw [lexR, if_neg hr, if_pos he] at h0; exact he h0
      · have e : lexR (f + 1) q r acc = lexR f (skipQ (adv q (r.take (fFirst r).1.2.2)) (r.drop (fFirst r).1.2.2)).1 (sk (r.drop (fFirst r).1.2.2)) (acc ++ [⟨q.1, q.2, (fFirst r).1.1, ⟨(fFirst r).1.2.1.toArray⟩⟩]) := by rw [lexR, if_neg hr, if_neg he]; rfl
        rw [e] at h0
        have hp := lexR_pre _ _ _ _ h0
        cases k with
        | zero =>
          have : (lexR (f + 1) q r acc).1[acc.length + 0] = ⟨q.1, q.2, (fFirst r).1.1, ⟨(fFirst r).1.2.1.toArray⟩⟩ := by
            apply Option.some.inj
            rw [← List.getElem?_eq_getElem, e]
            obtain ⟨Z, hZ⟩ := hp
            rw [← hZ, List.append_assoc, List.getElem?_append_right (by omega)]
            simp
          rw [this, st, List.take_zero]
          exact ⟨rfl, rfl⟩
        | succ k =>
          have hlen : (acc ++ [(⟨q.1, q.2, (fFirst r).1.1, ⟨(fFirst r).1.2.1.toArray⟩⟩ : T)]).length + k = acc.length + (k + 1) := by rw [List.length_append, List.length_singleton]; omega
          have ih := lexR_at k f (skipQ (adv q (r.take (fFirst r).1.2.2)) (r.drop (fFirst r).1.2.2)).1 (sk (r.drop (fFirst r).1.2.2)) _ h0 (by rw [hlen, ← e]; exact h)
          have hget : (lexR (f + 1) q r acc).1[acc.length + (k + 1)] = (lexR f (skipQ (adv q (r.take (fFirst r).1.2.2)) (r.drop (fFirst r).1.2.2)).1 (sk (r.drop (fFirst r).1.2.2)) (acc ++ [⟨q.1, q.2, (fFirst r).1.1, ⟨(fFirst r).1.2.1.toArray⟩⟩])).1[(acc ++ [(⟨q.1, q.2, (fFirst r).1.1, ⟨(fFirst r).1.2.1.toArray⟩⟩ : T)]).length + k]'(by rw [hlen, ← e]; exact h) := by
            apply Option.some.inj
            rw [← List.getElem?_eq_getElem, ← List.getElem?_eq_getElem, e, hlen]
          rw [hget]
          have hpl : adv (skipQ (adv q (r.take (fFirst r).1.2.2)) (r.drop (fFirst r).1.2.2)).1 ((sk (r.drop (fFirst r).1.2.2)).take (st k (sk (r.drop (fFirst r).1.2.2)))) = adv q (r.take (st (k + 1) r)) := by
            have hn := (first_size r).1
            have hs := suf_drop (skip_suf ((r.drop (fFirst r).1.2.2).length + 1) (r.drop (fFirst r).1.2.2))
            have hle := (skip_suf ((r.drop (fFirst r).1.2.2).length + 1) (r.drop (fFirst r).1.2.2)).length_le
            show adv (adv (adv q (r.take (fFirst r).1.2.2)) ((r.drop (fFirst r).1.2.2).take ((r.drop (fFirst r).1.2.2).length - (sk (r.drop (fFirst r).1.2.2)).length))) _ = _
            rw [st]
            change _ = (sk (r.drop (fFirst r).1.2.2)) at hs
            change (sk (r.drop (fFirst r).1.2.2)).length ≤ _ at hle
            change List.drop (_ - (sk (r.drop (fFirst r).1.2.2)).length) _ = _ at hs
            generalize sk (r.drop (fFirst r).1.2.2) = r' at hs hle ⊢
            generalize (fFirst r).1.2.2 = n at *
            rw [← adv_app, ← adv_app]
            congr 1
            rw [List.length_drop] at hle hs ⊢
            rw [show r.length - r'.length + st k r' = n + ((r.length - n - r'.length) + st k r') by omega, List.take_add, List.take_add, hs]
          rw [← hpl]
          exact ih
theorem take_pre {s g r : List UInt8} (h : s = g ++ r) (m : Nat) : s.take (g.length + m) = g ++ r.take m ∧ s.drop (g.length + m) = r.drop m := by
  subst h
  exact ⟨by rw [List.take_append, List.take_of_length_le (Nat.le_add_right _ _), Nat.add_sub_cancel_left], by rw [← List.drop_drop, List.drop_left]⟩
/-- All of it: where the token begins in the text; the text with blanks and a remark there. -/
theorem between_all (s J : List UInt8) (hJ : Gap (32 :: J)) (k : Nat) (h0 : (toks s).2.2 = 0) (hk : k < (toks s).1.length) (hlen : s.length + J.length + 1 ≤ 65536) :
    ∃ i, i < s.length ∧ (toks s).1[k].line = ((adv (1, 1) (s.take i)).1 : Int) ∧ (toks s).1[k].col = ((adv (1, 1) (s.take i)).2 : Int) ∧
      (toks (s.take i ++ 32 :: (J ++ s.drop i))).2.2 = 0 ∧ (toks (s.take i ++ 32 :: (J ++ s.drop i))).1.map kt = (toks s).1.map kt := by
  have e : toks s = lexR (s.length + 1) (skipQ (1, 1) s).1 (sk s) [] := by unfold toks; rw [if_neg (by omega)]; rfl
  rw [e] at h0
  have hk' : ([] : List T).length + k < (lexR (s.length + 1) (skipQ (1, 1) s).1 (sk s) []).1.length := by rw [← e]; simpa using hk
  have hat := lexR_at k _ _ _ _ h0 hk'
  rcases lexR_K (s.length + 1) (skipQ (1, 1) s).1 (sk s) [] with ⟨_, h2⟩ | ⟨L, h1, _, h3⟩
  · exact absurd h0 h2
  rw [List.map_nil, List.nil_append] at h3
  have hkL : k < L.length := by
    rw [← h3, List.length_map]
    simpa using hk'
  have hr0 := lexK_some h1 hkL
  rcases sk_split _ s (Nat.le_refl _) with h | ⟨g, hg, hs, c, u, hcu, hb, h35⟩
  · exact absurd h hr0
  have hss : sk (sk s) = sk s := by rw [hcu]; exact sk_fine hb h35
  obtain ⟨_, hst⟩ := st_amid k _ _ _ h1 hkL
  have hl : s.length = g.length + (sk s).length := by have := congrArg List.length hs; rwa [List.length_append] at this
  obtain ⟨ht, hd⟩ := take_pre hs (st k (sk s))
  refine ⟨g.length + st k (sk s), by omega, ?_, ?_, ?_⟩
  · have hg1 : (toks s).1[k] = (lexR (s.length + 1) (skipQ (1, 1) s).1 (sk s) []).1[([] : List T).length + k]'hk' := by
      apply Option.some.inj
      rw [← List.getElem?_eq_getElem, ← List.getElem?_eq_getElem, e]
      simp
    rw [hg1, hat.1, ht, adv_app]
    have : (skipQ (1, 1) s).1 = adv (1, 1) g := by
      show adv (1, 1) (s.take (s.length - (sk s).length)) = _
      rw [hl, Nat.add_sub_cancel]
      conv => lhs; rw [hs]
      rw [List.take_left]
    rw [this]
  · have hg1 : (toks s).1[k] = (lexR (s.length + 1) (skipQ (1, 1) s).1 (sk s) []).1[([] : List T).length + k]'hk' := by
      apply Option.some.inj
      rw [← List.getElem?_eq_getElem, ← List.getElem?_eq_getElem, e]
      simp
    rw [hg1, hat.2, ht, adv_app]
    have : (skipQ (1, 1) s).1 = adv (1, 1) g := by
      show adv (1, 1) (s.take (s.length - (sk s).length)) = _
      rw [hl, Nat.add_sub_cancel]
      conv => lhs; rw [hs]
      rw [List.take_left]
    rw [this]
  · rw [ht, hd]
    have hX : g ++ (sk s).take (st k (sk s)) ++ 32 :: (J ++ (sk s).drop (st k (sk s))) = g ++ ((sk s).take (st k (sk s)) ++ 32 :: (J ++ (sk s).drop (st k (sk s)))) := by rw [List.append_assoc]
    have hXl : (g ++ ((sk s).take (st k (sk s)) ++ 32 :: (J ++ (sk s).drop (st k (sk s))))).length = s.length + J.length + 1 := by
      simp only [List.length_append, List.length_cons, List.length_take, List.length_drop]; omega
    rw [hX]
    generalize hTT : g ++ ((sk s).take (st k (sk s)) ++ 32 :: (J ++ (sk s).drop (st k (sk s)))) = X at hXl ⊢
    have hcut := lexK_cut J hJ k _ (X.length + 1) (sk s) L hss (by omega) h1 hkL (by have h9 := congrArg List.length hTT; rw [show (g ++ ((sk s).take (st k (sk s)) ++ 32 :: (J ++ (sk s).drop (st k (sk s))))).length = g.length + ((sk s).take (st k (sk s)) ++ 32 :: (J ++ (sk s).drop (st k (sk s)))).length from List.length_append] at h9; omega)
    have hsX : sk X = sk ((sk s).take (st k (sk s)) ++ 32 :: (J ++ (sk s).drop (st k (sk s)))) := by rw [← hTT, sk_gap hg]
    rw [← hsX] at hcut
    have e2 : toks X = lexR (X.length + 1) (skipQ (1, 1) X).1 (sk X) [] := by unfold toks; rw [if_neg (by omega)]; rfl
    rw [e2, e]
    rcases lexR_K (X.length + 1) (skipQ (1, 1) X).1 (sk X) [] with ⟨h4, _⟩ | ⟨L2, h4, h5, h6⟩
    · rw [hcut] at h4; cases h4
    · rw [hcut] at h4
      injection h4 with h4
      subst h4
      refine ⟨h5, ?_⟩
      rw [h6, h3]; rfl
end Lx
end Go.Proofs.YteppdnlchjpekaaDoor
