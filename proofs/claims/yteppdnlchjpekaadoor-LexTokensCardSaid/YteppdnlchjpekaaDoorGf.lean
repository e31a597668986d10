/- The text of a text's tokens is read as the same kinds and texts: plain. -/
import Derived.Test.YteppdnlchjpekaaDoorGd
namespace Go.Proofs.YteppdnlchjpekaaDoor
open Go.RowKit Lx
open Go
namespace Lx
/-- What may stand behind a token's text. -/
def Tail (R : List UInt8) : Prop := R = [] ∨ ∃ R', R = 32 :: R'
theorem lead_tail {R : List UInt8} (h : Tail R) : lead R = [] := by
  rcases h with rfl | ⟨R', rfl⟩
  · rfl
  · unfold lead
    rw [List.takeWhile_cons]; rfl
theorem lead_parts (l : List UInt8) : ∀ x ∈ lead l, partB x = true := by
  induction l with
  | nil => intro x hx; cases hx
  | cons c l ih =>
    intro x hx
    unfold lead at ih hx
    rw [List.takeWhile_cons] at hx
    split at hx
    · rename_i hc
      rcases List.mem_cons.1 hx with rfl | h
      · exact hc
      · exact ih x h
    · cases hx
theorem lead_app {a : List UInt8} (ha : ∀ x ∈ a, partB x = true) (R : List UInt8) (hR : lead R = []) : lead (a ++ R) = a := by
  induction a with
  | nil => exact hR
  | cons c a ih =>
    have h := ih fun x hx => ha x (by simp [hx])
    unfold lead at h ⊢
    rw [List.cons_append, List.takeWhile_cons, ha c (by simp), if_pos rfl, h]
theorem lead_np {c : UInt8} {r : List UInt8} (h : partB c = false) : lead (c :: r) = [] := by
  unfold lead
  rw [List.takeWhile_cons, h]; rfl
theorem plain_parts (l : List UInt8) : ∀ x ∈ plainN l, partB x = true := by
  intro x hx
  have h := lead_parts l
  unfold plainN at hx
  split at hx
  · cases hx
  · rename_i c r hl
    split at hx
    · rw [hl] at h; exact h x hx
    · cases hx
theorem plain_lead {l m : List UInt8} (h : lead l = lead m) : plainN l = plainN m := by unfold plainN; rw [h]
theorem plain_self {l : List UInt8} (h : plainN l ≠ []) : plainN l = lead l := by
  unfold plainN at h ⊢
  cases hl : lead l with
  | nil => rfl
  | cons c r =>
    rw [hl] at h
    dsimp only at h ⊢
    split
    · rfl
    · rename_i hc; rw [if_neg hc] at h; exact absurd rfl h
theorem plain_app {l R : List UInt8} (h : plainN l ≠ []) (hR : lead R = []) : plainN (plainN l ++ R) = plainN l := by
  refine plain_lead ?_
  rw [lead_app (plain_parts l) R hR, plain_self h]
theorem field_np {c : UInt8} {r : List UInt8} (h : c ≠ 46) : fieldN (c :: r) = [] := by
  unfold fieldN; simp [h]
theorem field_tail {R : List UInt8} (h : Tail R) : fieldN R = [] := by
  rcases h with rfl | ⟨R', rfl⟩
  · rfl
  · exact field_np (by decide)
theorem plain_nil {l : List UInt8} (h : lead l = []) : plainN l = [] := by unfold plainN; rw [h]
theorem part_not46 {c : UInt8} (h : partB c = true) : c ≠ 46 := by rintro rfl; revert h; decide
theorem part_not34 {c : UInt8} (h : partB c = true) : c ≠ 34 := by rintro rfl; revert h; decide
theorem part_head {c : UInt8} (h : partB c = true) : blanks.contains c = false ∧ c ≠ 35 := by
  constructor
  · cases hb : blanks.contains c with
    | false => rfl
    | true =>
      have : c ∈ blanks := List.contains_iff_mem.1 hb
      simp [blanks] at this
      rcases this with rfl | rfl | rfl | rfl <;> revert h <;> decide
  · rintro rfl; revert h; decide
theorem field_self {l : List UInt8} (h : fieldN l ≠ []) : ∃ r, l = 46 :: r ∧ fieldN l = plainN r ∧ plainN r ≠ [] := by
  unfold fieldN at h
  match l, h with
  | [], h => exact absurd rfl h
  | c :: r, h =>
    dsimp only at h
    split at h
    · rename_i hc
      refine ⟨r, by rw [hc], ?_, h⟩
      unfold fieldN; simp [hc]
    · exact absurd rfl h
theorem np46 : partB 46 = false := by decide
theorem fd_q (l : List UInt8) : fd 6 l = fQuote l := rfl
theorem np34 : partB 34 = false := by decide
theorem fword_l {l m : List UInt8} (h : lead l = lead m) : fWord l = fWord m := by unfold fWord; rw [h]
theorem fvar_l {l m : List UInt8} (h : lead l = lead m) : fVar l = fVar m := by unfold fVar; rw [h]
theorem fany_l {l m : List UInt8} (h : lead l = lead m) : fAny l = fAny m := by unfold fAny; rw [h]
theorem fnum_l {l m : List UInt8} (h : lead l = lead m) : fNum l = fNum m := by unfold fNum; rw [h]
theorem fname_no {l : List UInt8} (h : plainN l = []) : fName l = no := by unfold fName nameOf; rw [h]; rfl
theorem ffield_no {l : List UInt8} (h : fieldN l = []) : fField l = no := by unfold fField fieldOf; rw [h]; rfl
/-- What a token is shown as. -/
def shw (x : Fnd) : List UInt8 := if x.1 = 6 then x.2.1 ++ [98] else if x.1 = 7 then quo x.2.1 else if x.1 = 9 then 46 :: x.2.1 else x.2.1
theorem shown_shw (t : T) (n : Nat) : t.shown = shw (t.kind, t.text.data.toList, n) := rfl
/-- Shown, it is found again. -/
def Again (x : Fnd) : Prop := ∀ R, Tail R → fFirst (shw x ++ R) = ((x.1, x.2.1, (shw x).length), 0)
def Fine (x : Fnd) : Prop := ∃ c r, shw x = c :: r ∧ blanks.contains c = false ∧ c ≠ 35
theorem fine_parts {x : Fnd} {a : List UInt8} (h : shw x = a) (ha : ∀ x ∈ a, partB x = true) (h0 : a ≠ []) : Fine x := by
  match a, h0 with
  | [], h0 => exact absurd rfl h0
  | c :: r, _ => exact ⟨c, r, h, part_head (ha c (by simp))⟩
theorem name_no {l : List UInt8} (h : (fName l).2.2 = 0) : plainN l = [] := by
  unfold fName nameOf at h
  split at h
  · assumption
  · rename_i ha
    split at h
    · exact absurd (List.length_eq_zero_iff.1 h) ha
    · dsimp only at h; omega
theorem field_no {l : List UInt8} (h : (fField l).2.2 = 0) : fieldN l = [] := by
  unfold fField fieldOf at h
  split at h
  · assumption
  · dsimp only at h; omega
/-- What is found by the leading letters alone. -/
theorem again_lead {l : List UInt8} {k : Nat} (hk : k = 0 ∨ k = 3 ∨ k = 4 ∨ k = 5) (hn : ∀ j, j < k → (fd j l).2.2 = 0) (hs : shw (fd k l) = lead l) (hz : (fd k l).2.2 = (lead l).length) (h0 : 0 < (fd k l).2.2) (he : exc (fd k l).1 (fd k l).2.1 = 0) : Again (fd k l) ∧ Fine (fd k l) := by
  have hne : lead l ≠ [] := by intro h; rw [hz, h] at h0; exact absurd h0 (by decide)
  refine ⟨fun R hR => ?_, fine_parts hs (lead_parts l) hne⟩
  have hl : lead (lead l ++ R) = lead l := lead_app (lead_parts l) R (lead_tail hR)
  have hf : fieldN (lead l ++ R) = [] := by
    have hp := lead_parts l
    match hL : lead l, hne with
    | c :: r, _ => rw [hL] at hp; exact field_np (part_not46 (hp c (by simp)))
  have hN : 1 < k → fName (lead l ++ R) = no := fun h => fname_no (by rw [plain_lead hl]; exact name_no (hn 1 h))
  have hF : fField (lead l ++ R) = no := ffield_no hf
  have hall : fd k (lead l ++ R) = fd k l := by
    rcases hk with rfl | rfl | rfl | rfl
    · exact fword_l hl
    · exact fvar_l hl
    · exact fany_l hl
    · exact fnum_l hl
  rw [hs, first_at (k := k) (by omega) ?_ (by rw [hall]; exact h0), hall, he, ← hz]
  intro j hj
  have hold := hn j hj
  match j, hj, hold with
  | 0, _, hold => exact (congrArg (fun x : Fnd => x.2.2) (fword_l hl)).trans hold
  | 1, hj, _ => exact congrArg (fun x : Fnd => x.2.2) (hN hj)
  | 2, _, _ => exact congrArg (fun x : Fnd => x.2.2) hF
  | 3, _, hold => exact (congrArg (fun x : Fnd => x.2.2) (fvar_l hl)).trans hold
  | 4, _, hold => exact (congrArg (fun x : Fnd => x.2.2) (fany_l hl)).trans hold
  | j + 5, hj, _ => omega
theorem suffix_split {L : List UInt8} (h : Lib.hasSuffix L [98] = true) : Lib.trimSuffix L [98] ++ [98] = L := by
  unfold Lib.trimSuffix
  rw [if_pos h]
  have h' : [98] <:+ L := List.isSuffixOf_iff_suffix.1 h
  obtain ⟨a, rfl⟩ := h'
  simp
theorem trim_same {L : List UInt8} (h : Lib.hasSuffix L [98] = false) : Lib.trimSuffix L [98] = L := by
  unfold Lib.trimSuffix
  simp [h]
theorem hx_ix : ∀ m : Fin 16, Lib.indexByte hexL (hx m.val) = (m.val : Int) := by decide
theorem hx_at (m : Nat) (h : m < 16) : Lib.indexByte hexL (hx m) = (m : Int) := hx_ix ⟨m, h⟩
theorem mark_x (c : UInt8) (X : List UInt8) : markAt (92 :: 120 :: hx (c.toNat / 16) :: hx (c.toNat % 16) :: X) = (c, 4) := by
  have hc : c.toNat < 256 := c.toNat_lt
  have h1 := hx_at (c.toNat / 16) (by omega)
  have h2 := hx_at (c.toNat % 16) (by omega)
  have e : markAt (92 :: 120 :: hx (c.toNat / 16) :: hx (c.toNat % 16) :: X) = if Lib.indexByte hexL (hx (c.toNat / 16)) < 0 ∨ Lib.indexByte hexL (hx (c.toNat % 16)) < 0 then (0, 0) else (UInt8.ofNat ((Lib.indexByte hexL (hx (c.toNat / 16))).toNat * 16 + (Lib.indexByte hexL (hx (c.toNat % 16))).toNat), 4) := rfl
  rw [e, h1, h2, if_neg (by omega)]
  have : (((c.toNat / 16 : Nat) : Int)).toNat * 16 + (((c.toNat % 16 : Nat) : Int)).toNat = c.toNat := by omega
  rw [this]
  simp
theorem mark_mk (c : UInt8) (X : List UInt8) : markAt (mk c ++ X) = (c, (mk c).length) ∧ ∃ d r, mk c = d :: r ∧ d ≠ 34 := by
  by_cases h1 : c = 34 ∨ c = 92
  · have e : mk c = [92, c] := by unfold mk; rw [if_pos h1]
    rw [e]
    refine ⟨?_, 92, [c], rfl, by decide⟩
    rcases h1 with rfl | rfl <;> rfl
  by_cases h2 : c = 10
  · subst h2
    exact ⟨rfl, 92, [110], rfl, by decide⟩
  by_cases h3 : c = 9
  · subst h3
    exact ⟨rfl, 92, [116], rfl, by decide⟩
  by_cases h4 : c.toNat < 32 ∨ c = 127
  · have e : mk c = [92, 120, hx (c.toNat / 16), hx (c.toNat % 16)] := by unfold mk; rw [if_neg h1, if_neg h2, if_neg h3, if_pos h4]
    rw [e]
    exact ⟨mark_x c X, 92, _, rfl, by decide⟩
  · have e : mk c = [c] := by unfold mk; rw [if_neg h1, if_neg h2, if_neg h3, if_neg h4]
    rw [e]
    refine ⟨?_, c, [], rfl, fun h => h1 (Or.inl h)⟩
    have h5 : 32 ≤ c.toNat ∧ c.toNat ≠ 34 ∧ c.toNat ≠ 92 ∧ c.toNat ≠ 127 := by
      refine ⟨by omega, fun h => h1 (Or.inl (UInt8.toNat_inj.1 h)), fun h => h1 (Or.inr (UInt8.toNat_inj.1 h)), fun h => h4 (Or.inr (UInt8.toNat_inj.1 h))⟩
    show markAt (c :: X) = _
    unfold markAt
    dsimp only
    rw [if_pos h5]; rfl
theorem q_back : ∀ (t : List UInt8) (f : Nat) (R out : List UInt8) (k : Nat), t.length < f → qGo f (mks t ++ 34 :: R) out k = some (out ++ t, k + (mks t).length + 1)
  | _, 0, _, _, _, h => absurd h (Nat.not_lt_zero _)
  | [], f + 1, R, out, k, _ => by
    show qGo (f + 1) (34 :: R) out k = _
    rw [qGo, if_pos rfl]
    simp [mks]
  | c :: t, f + 1, R, out, k, h => by
    obtain ⟨hm, d, r, hd, h34⟩ := mark_mk c (mks t ++ 34 :: R)
    have e : mks (c :: t) ++ 34 :: R = mk c ++ (mks t ++ 34 :: R) := by simp [mks]
    have e2 : (mks (c :: t)).length = (mk c).length + (mks t).length := by simp [mks]
    have hg : qGo (f + 1) (mk c ++ (mks t ++ 34 :: R)) out k = qGo f ((mk c ++ (mks t ++ 34 :: R)).drop (markAt (mk c ++ (mks t ++ 34 :: R))).2) (out ++ [(markAt (mk c ++ (mks t ++ 34 :: R))).1]) (k + (markAt (mk c ++ (mks t ++ 34 :: R))).2) := by
      have h1 := (mk_len c).1
      have hne : ¬ (markAt (mk c ++ (mks t ++ 34 :: R))).2 = 0 := by rw [hm]; show ¬ (mk c).length = 0; omega
      rw [hd, List.cons_append] at hne ⊢
      rw [qGo, if_neg h34, if_neg hne]
    rw [e, hg, hm, e2]
    dsimp only
    rw [List.drop_left, q_back t f R _ _ (by rw [List.length_cons] at h; omega)]
    simp
    omega
theorem quo_again {x : Fnd} (h7 : x.1 = 7) (he : exc x.1 x.2.1 = 0) : Again x ∧ Fine x := by
  have hs : shw x = 34 :: (mks x.2.1 ++ [34]) := by unfold shw; rw [if_neg (by omega), if_pos h7]; rfl
  refine ⟨fun R hR => ?_, 34, _, hs, by decide, by decide⟩
  rw [hs]
  have eA : (34 :: (mks x.2.1 ++ [34]) : List UInt8) ++ R = 34 :: (mks x.2.1 ++ 34 :: R) := by simp
  rw [eA]
  have hl : lead (34 :: (mks x.2.1 ++ 34 :: R)) = [] := lead_np np34
  have h6 : fd 6 (34 :: (mks x.2.1 ++ 34 :: R)) = (7, x.2.1, (34 :: (mks x.2.1 ++ [34]) : List UInt8).length) := by
    rw [fd_q]
    unfold fQuote
    dsimp only
    rw [if_pos rfl, q_back x.2.1 _ R [] 1 (by have := (mks_len x.2.1).1; rw [List.length_append]; omega)]
    simp [fdOf]; omega
  rw [first_at (k := 6) (by omega) ?_ (by rw [h6]; simp), h6]
  · dsimp only
    rw [h7] at he
    rw [he, h7]
  · intro j hj
    match j, hj with
    | 0, _ => show (fWord _).2.2 = 0; unfold fWord; rw [hl]; rfl
    | 1, _ => show (fName _).2.2 = 0; rw [fname_no (plain_nil hl)]; rfl
    | 2, _ => show (fField _).2.2 = 0; rw [ffield_no (field_np (by decide))]; rfl
    | 3, _ => show (fVar _).2.2 = 0; unfold fVar; rw [hl]; rfl
    | 4, _ => show (fAny _).2.2 = 0; unfold fAny; rw [hl]; rfl
    | 5, _ => show (fNum _).2.2 = 0; unfold fNum; rw [hl]; rfl
    | j + 6, hj => omega
theorem sign_again {l : List UInt8} {g : List UInt8} (hg : signs.find? (fun g => Lib.hasPrefix l g) = some g) : Again (8, g, g.length) ∧ Fine (8, g, g.length) := by
  have hm : g ∈ signs := List.mem_of_find?_eq_some hg
  have heads : ∀ g ∈ signs, ∃ c r, g = c :: r ∧ partB c = false ∧ c ≠ 34 ∧ blanks.contains c = false ∧ c ≠ 35 ∧ (c = 46 → r = []) := by
    intro g hm
    simp only [signs, List.mem_cons, List.not_mem_nil, or_false] at hm
    rcases hm with rfl | rfl | rfl | rfl | rfl | rfl | rfl | rfl | rfl | rfl | rfl | rfl | rfl | rfl | rfl | rfl | rfl | rfl | rfl | rfl | rfl <;> exact ⟨_, _, rfl, by decide, by decide, by decide, by decide, by decide⟩
  have fs : ∀ g ∈ signs, ∀ R, Tail R → fSign (g ++ R) = (8, g, g.length) := by
    intro g hm R hR
    simp only [signs, List.mem_cons, List.not_mem_nil, or_false] at hm
    rcases hR with rfl | ⟨R', rfl⟩
    · rcases hm with rfl | rfl | rfl | rfl | rfl | rfl | rfl | rfl | rfl | rfl | rfl | rfl | rfl | rfl | rfl | rfl | rfl | rfl | rfl | rfl | rfl <;> rfl
    · rcases hm with rfl | rfl | rfl | rfl | rfl | rfl | rfl | rfl | rfl | rfl | rfl | rfl | rfl | rfl | rfl | rfl | rfl | rfl | rfl | rfl | rfl <;> rfl
  obtain ⟨c, r, hcr, hp, h34, hb, h35, h46⟩ := heads g hm
  have hs : shw (8, g, g.length) = g := rfl
  refine ⟨fun R hR => ?_, c, r, hs.trans hcr, hb, h35⟩
  rw [hs]
  have h7 : fd 7 (g ++ R) = (8, g, g.length) := fs g hm R hR
  have hl : lead (g ++ R) = [] := by rw [hcr]; exact lead_np hp
  have hF : fieldN (g ++ R) = [] := by
    by_cases h : c = 46
    · rw [hcr, h46 h, h]
      show fieldN (46 :: R) = []
      unfold fieldN
      dsimp only
      rw [if_pos rfl, plain_nil (lead_tail hR)]
    · rw [hcr]; exact field_np h
  have hQ : fQuote (g ++ R) = no := by rw [hcr]; unfold fQuote; simp [h34]
  rw [first_at (k := 7) (by omega) ?_ (by rw [h7, hcr]; exact Nat.succ_pos _), h7]
  · rfl
  · intro j hj
    match j, hj with
    | 0, _ => show (fWord _).2.2 = 0; unfold fWord; rw [hl]; rfl
    | 1, _ => show (fName _).2.2 = 0; rw [fname_no (plain_nil hl)]; rfl
    | 2, _ => show (fField _).2.2 = 0; rw [ffield_no hF]; rfl
    | 3, _ => show (fVar _).2.2 = 0; unfold fVar; rw [hl]; rfl
    | 4, _ => show (fAny _).2.2 = 0; unfold fAny; rw [hl]; rfl
    | 5, _ => show (fNum _).2.2 = 0; unfold fNum; rw [hl]; rfl
    | 6, _ => show (fQuote _).2.2 = 0; rw [hQ]; rfl
    | j + 7, hj => omega
theorem field_again {l : List UInt8} (h : fieldN l ≠ []) (he : exc (fField l).1 (fField l).2.1 = 0) : Again (fField l) ∧ Fine (fField l) := by
  obtain ⟨r, rfl, hr, hr0⟩ := field_self h
  have hx : fField (46 :: r) = (9, plainN r, 1 + (plainN r).length) := by unfold fField fieldOf; rw [if_neg h, hr]
  rw [hx] at he ⊢
  have hs : shw (9, plainN r, 1 + (plainN r).length) = 46 :: plainN r := rfl
  refine ⟨fun R hR => ?_, 46, _, hs, by decide, by decide⟩
  rw [hs]
  have hl : lead (46 :: plainN r ++ R) = [] := lead_np np46
  have hf : fieldN (46 :: plainN r ++ R) = plainN r := by
    rw [List.cons_append]
    unfold fieldN
    dsimp only
    rw [if_pos rfl, plain_app hr0 (lead_tail hR)]
  have h2 : fd 2 (46 :: plainN r ++ R) = (9, plainN r, 1 + (plainN r).length) := by
    show fField _ = _
    unfold fField fieldOf
    rw [hf, if_neg hr0]
  rw [first_at (k := 2) (by omega) ?_ (by rw [h2]; dsimp only; omega), h2]
  · rw [he]
    dsimp only
    rw [List.length_cons, Nat.add_comm]
  · intro j hj
    match j, hj with
    | 0, _ => show (fWord _).2.2 = 0; unfold fWord; rw [hl]; rfl
    | 1, _ => show (fName _).2.2 = 0; rw [fname_no (plain_nil hl)]; rfl
    | j + 2, hj => omega
theorem name_again {l : List UInt8} (h : plainN l ≠ []) (hw : (fWord l).2.2 = 0) (he : exc (fName l).1 (fName l).2.1 = 0) : Again (fName l) ∧ Fine (fName l) := by
  have hpl := plain_self h
  have hpp := plain_parts l
  have hwl : isW (plainN l) = false := by
    cases hq : isW (plainN l) with
    | false => rfl
    | true =>
      unfold fWord at hw
      rw [← hpl, hq, if_pos rfl] at hw
      exact absurd (List.length_eq_zero_iff.1 hw) h
  have hx : fName l = nameOf (plainN l) (fieldN (l.drop (plainN l).length)) := rfl
  by_cases hf : fieldN (l.drop (plainN l).length) = []
  · have hx2 : fName l = (2, plainN l, (plainN l).length) := by rw [hx, nameOf, if_neg h, if_pos hf]
    rw [hx2] at he ⊢
    have hs : shw (2, plainN l, (plainN l).length) = plainN l := rfl
    refine ⟨fun R hR => ?_, fine_parts hs hpp h⟩
    rw [hs]
    have hp := plain_app h (lead_tail hR)
    have hl : lead (plainN l ++ R) = plainN l := lead_app hpp R (lead_tail hR)
    have h1 : fd 1 (plainN l ++ R) = (2, plainN l, (plainN l).length) := by
      show fName _ = _
      unfold fName nameOf
      rw [hp, if_neg h, List.drop_left, field_tail hR, if_pos rfl]
    rw [first_at (k := 1) (by omega) ?_ (by rw [h1]; exact List.length_pos_iff.2 h), h1, he]
    intro j hj
    match j, hj with
    | 0, _ => show (fWord _).2.2 = 0; unfold fWord; rw [hl, hwl]; rfl
    | j + 1, hj => omega
  · obtain ⟨r, hr, hfr, hr0⟩ := field_self hf
    have hx2 : fName l = (2, plainN l ++ 46 :: plainN r, (plainN l).length + (1 + (plainN r).length)) := by rw [hx, nameOf, if_neg h, if_neg hf, hfr]
    rw [hx2] at he ⊢
    have hs : shw (2, plainN l ++ 46 :: plainN r, (plainN l).length + (1 + (plainN r).length)) = plainN l ++ 46 :: plainN r := rfl
    refine ⟨fun R hR => ?_, ?_⟩
    · rw [hs]
      have e : (plainN l ++ 46 :: plainN r) ++ R = plainN l ++ (46 :: (plainN r ++ R)) := by simp
      rw [e]
      have hlt : lead (46 :: (plainN r ++ R)) = [] := lead_np np46
      have hp := plain_app h hlt
      have hl : lead (plainN l ++ (46 :: (plainN r ++ R))) = plainN l := lead_app hpp _ hlt
      have hf2 : fieldN (46 :: (plainN r ++ R)) = plainN r := by
        unfold fieldN
        dsimp only
        rw [if_pos rfl, plain_app hr0 (lead_tail hR)]
      have h1 : fd 1 (plainN l ++ (46 :: (plainN r ++ R))) = (2, plainN l ++ 46 :: plainN r, (plainN l).length + (1 + (plainN r).length)) := by
        show fName _ = _
        unfold fName nameOf
        rw [hp, if_neg h, List.drop_left, hf2, if_neg hr0]
      rw [first_at (k := 1) (by omega) ?_ (by rw [h1]; dsimp only; omega), h1, he]
      · dsimp only
        rw [List.length_append, List.length_cons, Nat.add_comm 1]
      · intro j hj
        match j, hj with
        | 0, _ => show (fWord _).2.2 = 0; unfold fWord; rw [hl, hwl]; rfl
        | j + 1, hj => omega
    · match hP : plainN l, h with
      | c :: q, _ =>
        rw [hP] at hpp
        exact ⟨c, q ++ 46 :: plainN r, rfl, part_head (hpp c (by simp))⟩
theorem first_again {l : List UInt8} (he : (fFirst l).2 = 0) : Again (fFirst l).1 ∧ Fine (fFirst l).1 := by
  unfold fFirst at he ⊢
  split at he
  · rename_i k hk
    dsimp only at he ⊢
    obtain ⟨h0, hk8, hn⟩ := List.find?_range_eq_some.1 hk
    have h0 : 0 < (fd k l).2.2 := by simpa using h0
    have hn : ∀ j, j < k → (fd j l).2.2 = 0 := fun j hj => by have := hn j hj; simpa using this
    have hk8 : k < 8 := by simpa using hk8
    match k, hk8 with
    | 0, _ =>
      have hw : isW (lead l) = true := by
        cases hq : isW (lead l) with
        | true => rfl
        | false => have : fd 0 l = no := by show fWord l = no; unfold fWord; rw [hq]; rfl
                   rw [this] at h0; exact absurd h0 (by decide)
      have hx : fd 0 l = (1, lead l, (lead l).length) := by show fWord l = _; unfold fWord; rw [hw]; rfl
      exact again_lead (Or.inl rfl) hn (by rw [hx]; rfl) (by rw [hx]) h0 he
    | 1, _ =>
      have h : plainN l ≠ [] := by intro h; rw [show fd 1 l = no from fname_no h] at h0; exact absurd h0 (by decide)
      exact name_again h (hn 0 (by decide)) he
    | 2, _ =>
      have h : fieldN l ≠ [] := by intro h; rw [show fd 2 l = no from ffield_no h] at h0; exact absurd h0 (by decide)
      exact field_again h he
    | 3, _ =>
      have hx : fd 3 l = (3, lead l, (lead l).length) := by
        have h0' : 0 < (fVar l).2.2 := h0
        show fVar l = _
        unfold fVar at h0' ⊢
        cases hl : lead l with
        | nil => rw [hl] at h0'; exact absurd h0' (by decide)
        | cons c r =>
          rw [hl] at h0'
          dsimp only at h0' ⊢
          split
          · rfl
          · rename_i h; rw [if_neg h] at h0'; exact absurd h0' (by decide)
      exact again_lead (Or.inr (Or.inl rfl)) hn (by rw [hx]; rfl) (by rw [hx]) h0 he
    | 4, _ =>
      have hx : fd 4 l = (4, lead l, (lead l).length) := by
        have h0' : 0 < (fAny l).2.2 := h0
        show fAny l = _
        unfold fAny at h0' ⊢
        split
        · rename_i h; rw [h]; rfl
        · rename_i h; rw [if_neg h] at h0'; exact absurd h0' (by decide)
      exact again_lead (Or.inr (Or.inr (Or.inl rfl))) hn (by rw [hx]; rfl) (by rw [hx]) h0 he
    | 5, _ =>
      have hx : fd 5 l = (if Lib.hasSuffix (lead l) [98] then 6 else 5, Lib.trimSuffix (lead l) [98], (lead l).length) := by
        have h0' : 0 < (fNum l).2.2 := h0
        show fNum l = _
        unfold fNum at h0' ⊢
        split
        · rfl
        · rename_i h; rw [if_neg h] at h0'; exact absurd h0' (by decide)
      refine again_lead (Or.inr (Or.inr (Or.inr rfl))) hn ?_ (by rw [hx]) h0 he
      rw [hx]
      cases hb : Lib.hasSuffix (lead l) [98] with
      | true => exact suffix_split hb
      | false => exact trim_same hb
    | 6, _ =>
      have h7 : (fd 6 l).1 = 7 := by
        have h0' : 0 < (fQuote l).2.2 := h0
        show (fQuote l).1 = 7
        unfold fQuote at h0' ⊢
        cases l with
        | nil => exact absurd h0' (by decide)
        | cons c r =>
          dsimp only at h0' ⊢
          split
          · rename_i hc
            rw [if_pos hc] at h0'
            cases hq : qGo (r.length + 1) r [] 1 with
            | none => rw [hq] at h0'; exact absurd h0' (by decide)
            | some x => rfl
          · rename_i hc
            rw [if_neg hc] at h0'
            exact absurd h0' (by decide)
      exact quo_again h7 he
    | 7, _ =>
      have h0' : 0 < (fSign l).2.2 := h0
      cases hg : signs.find? (fun g => Lib.hasPrefix l g) with
      | none => unfold fSign at h0'; rw [hg] at h0'; exact absurd h0' (by decide)
      | some g =>
        have hx : fd 7 l = (8, g, g.length) := by show fSign l = _; unfold fSign; rw [hg]
        rw [hx]
        exact sign_again hg
    | k + 8, hk => omega
  · dsimp only at he
    omega
/-- A token that was found. -/
def Good (t : T) : Prop := Again (t.kind, t.text.data.toList, 0) ∧ Fine (t.kind, t.text.data.toList, 0)
theorem again_size {k n m : Nat} {l : List UInt8} (h : Again (k, l, n) ∧ Fine (k, l, n)) : Again (k, l, m) ∧ Fine (k, l, m) := h
theorem lexR_good : ∀ (f : Nat) (q : Nat × Nat) (r : List UInt8) (acc : List T), (∀ t ∈ acc, Good t) → ∀ t ∈ (lexR f q r acc).1, Good t
  | 0, _, _, acc, h => by rw [lexR]; exact h
  | f + 1, q, r, acc, h => by
    rw [lexR]
    split
    · exact h
    · split
      · intro t ht; cases ht
      · rename_i he
        refine lexR_good f _ _ _ ?_
        intro t ht
        rcases List.mem_append.1 ht with h' | h'
        · exact h t h'
        · rw [List.mem_singleton.1 h']
          exact again_size (n := (fFirst r).1.2.2) (first_again (by omega))
theorem toks_good (s : List UInt8) : ∀ t ∈ (toks s).1, Good t := by
  unfold toks
  split
  · intro t ht; cases ht
  · exact lexR_good _ _ _ _ (fun t ht => by cases ht)
def behind (l : List T) : List UInt8 := l.flatMap fun t => 32 :: t.shown
theorem behind_tail (l : List T) : Tail (behind l) := by
  cases l with
  | nil => exact Or.inl rfl
  | cons t l => exact Or.inr ⟨t.shown ++ behind l, by unfold behind; rw [List.flatMap_cons]; rfl⟩
theorem show_fine {t : T} (h : Good t) : ∃ c r, t.shown = c :: r ∧ blanks.contains c = false ∧ c ≠ 35 := h.2
theorem skip_fine {c : UInt8} {r : List UInt8} {f : Nat} (hb : blanks.contains c = false) (h : c ≠ 35) : skipL f (c :: r) = c :: r := by
  have e : Lib.trimLeftS (c :: r) blanks = c :: r := by unfold Lib.trimLeftS; rw [List.dropWhile_cons, hb]; rfl
  cases f with
  | zero => rfl
  | succ f =>
    rw [skipL, e, if_neg]
    simp [h]
theorem skip_show (l : List T) (h : ∀ t ∈ l, Good t) (f : Nat) : skipL f (show_ l) = show_ l := by
  cases l with
  | nil =>
    cases f with
    | zero => rfl
    | succ f => rfl
  | cons t l =>
    obtain ⟨c, r, e, hb, h35⟩ := show_fine (h t (by simp))
    show skipL f (t.shown ++ behind l) = t.shown ++ behind l
    rw [e, List.cons_append]
    exact skip_fine hb h35
theorem skip_behind (l : List T) (h : ∀ t ∈ l, Good t) (f : Nat) : skipL (f + 1) (behind l) = show_ l := by
  cases l with
  | nil => rfl
  | cons t l =>
    obtain ⟨c, r, e, hb, h35⟩ := show_fine (h t (by simp))
    have e1 : behind (t :: l) = 32 :: (t.shown ++ behind l) := by unfold behind; rw [List.flatMap_cons]; rfl
    have e2 : show_ (t :: l) = t.shown ++ behind l := rfl
    rw [e1, e2, e, List.cons_append]
    have e3 : Lib.trimLeftS (32 :: c :: (r ++ behind l)) blanks = c :: (r ++ behind l) := by
      unfold Lib.trimLeftS
      rw [List.dropWhile_cons, show blanks.contains (32 : UInt8) = true from rfl, if_pos rfl, List.dropWhile_cons, hb]; rfl
    rw [skipL, e3, if_neg]
    simp [h35]
def kt (t : T) : Nat × List UInt8 := (t.kind, t.text.data.toList)
theorem lexR_back : ∀ (l : List T) (f : Nat) (q : Nat × Nat) (acc : List T), (∀ t ∈ l, Good t) → l.length ≤ f → (lexR f q (show_ l) acc).2.2 = 0 ∧ (lexR f q (show_ l) acc).1.map kt = acc.map kt ++ l.map kt
  | [], f, q, acc, _, _ => by
    cases f with
    | zero => rw [lexR]; simp
    | succ f => rw [lexR]; simp [show_]
  | t :: l, 0, _, _, _, h => by simp at h
  | t :: l, f + 1, q, acc, hg, hf => by
    have ht := hg t (by simp)
    have hl : ∀ t ∈ l, Good t := fun x hx => hg x (by simp [hx])
    have e2 : show_ (t :: l) = t.shown ++ behind l := rfl
    have hfi : fFirst (show_ (t :: l)) = ((t.kind, t.text.data.toList, t.shown.length), 0) := ht.1 (behind l) (behind_tail l)
    have hne : show_ (t :: l) ≠ [] := by
      obtain ⟨c, r, e, _⟩ := show_fine ht
      rw [e2, e]; simp
    rw [lexR, if_neg hne, hfi]
    dsimp only
    rw [if_neg (by simp)]
    have hd : (skipQ (adv q ((show_ (t :: l)).take t.shown.length)) ((show_ (t :: l)).drop t.shown.length)).2 = show_ l := by
      rw [e2, List.drop_left]
      exact skip_behind l hl _
    rw [hd]
    obtain ⟨h1, h2⟩ := lexR_back l f (skipQ (adv q ((show_ (t :: l)).take t.shown.length)) ((show_ (t :: l)).drop t.shown.length)).1
      (acc ++ [⟨q.1, q.2, t.kind, ⟨t.text.data.toList.toArray⟩⟩]) hl (by rw [List.length_cons] at hf; omega)
    refine ⟨h1, ?_⟩
    rw [h2]
    simp [kt]
theorem show_many (l : List T) (h : ∀ t ∈ l, Good t) : l.length ≤ (show_ l).length := by
  have aux : ∀ l : List T, l.length ≤ (behind l).length := by
    intro l
    induction l with
    | nil => exact Nat.le_refl _
    | cons t l ih =>
      have e1 : behind (t :: l) = 32 :: (t.shown ++ behind l) := by unfold behind; rw [List.flatMap_cons]; rfl
      rw [e1]; simp only [List.length_cons, List.length_append]; omega
  cases l with
  | nil => exact Nat.le_refl _
  | cons t l =>
    obtain ⟨c, r, e, _⟩ := show_fine (h t (by simp))
    show _ ≤ (t.shown ++ behind l).length
    have := aux l
    rw [e]; simp only [List.length_cons, List.length_append]; omega
theorem back_all (s : List UInt8) (hs : s.length ≤ 8000) : Back s := by
  intro h0
  have hb := toks_bulk s
  have hg := toks_good s
  generalize (toks s).1 = l at hb hg
  have hl := show_len l
  have hm := show_many l hg
  have e : toks (show_ l) = lexR ((show_ l).length + 1) (skipQ (1, 1) (show_ l)).1 (show_ l) [] := by
    unfold toks
    rw [if_neg (by omega), show (skipQ (1, 1) (show_ l)).2 = show_ l from skip_show l hg _]
  obtain ⟨h1, h2⟩ := lexR_back l ((show_ l).length + 1) (skipQ (1, 1) (show_ l)).1 [] hg (by omega)
  rw [← e] at h1 h2
  rw [List.map_nil, List.nil_append] at h2
  have hlen : l.length = (toks (show_ l)).1.length := by
    have := congrArg List.length h2
    rw [List.length_map, List.length_map] at this
    exact this.symm
  refine ⟨h1, hlen, fun j hj hj' => ?_⟩
  have hk : kt (toks (show_ l)).1[j] = kt l[j] := by
    have := congrArg (fun x : List (Nat × List UInt8) => x[j]?) h2
    simp only [List.getElem?_map, List.getElem?_eq_getElem hj, List.getElem?_eq_getElem hj', Option.map_some, Option.some.injEq] at this
    exact this
  have hk1 : (toks (show_ l)).1[j].kind = l[j].kind := congrArg Prod.fst hk
  have hk2 : (toks (show_ l)).1[j].text.data.toList = l[j].text.data.toList := congrArg Prod.snd hk
  exact ⟨hk1, by rw [ba_eq hk2, ← ba_eq rfl]⟩
end Lx
end Go.Proofs.YteppdnlchjpekaaDoor
