/- Plain: what a reader of bytes tells, and that it does not hang on what stands behind. No program is spoken of. -/
import Derived.Test.YtlhkjmckigblpaaGreatDoorYa
namespace Go.Proofs.YtlhkjmckigblpaaGreatDoor
open Vp

/-- The number that bytes are, the greatest first. -/
def vbe (l : List UInt8) : Nat := l.foldl (fun a c => a * 256 + c.toNat) 0
theorem vbe_snoc (l : List UInt8) (c : UInt8) : vbe (l ++ [c]) = vbe l * 256 + c.toNat := by
  unfold vbe
  rw [List.foldl_append, List.foldl_cons, List.foldl_nil]
theorem vbe_nil : vbe [] = 0 := rfl
theorem vbe_lt (l : List UInt8) : vbe l < 256 ^ l.length := by
  suffices h : ∀ (n : Nat) (l : List UInt8), l.length = n → vbe l < 256 ^ n from h _ l rfl
  intro n
  induction n with
  | zero => intro l hl; rw [List.eq_nil_of_length_eq_zero hl]; decide
  | succ n ih =>
    intro l hl
    obtain ⟨m, c, rfl⟩ : ∃ m c, l = m ++ [c] := ⟨l.dropLast, l.getLast (by intro e; rw [e] at hl; simp at hl), (List.dropLast_concat_getLast _).symm⟩
    have := ih m (by simp at hl; exact hl)
    rw [vbe_snoc, Nat.pow_succ]
    have := c.toNat_lt
    omega
/-- There is a first byte, and it is another one. -/
def HeadNot (m : UInt8) : List UInt8 → Prop
  | [] => False
  | x :: _ => x ≠ m
instance (m : UInt8) (l : List UInt8) : Decidable (HeadNot m l) := by cases l <;> unfold HeadNot <;> infer_instance
def xm (m : UInt8) (l : List UInt8) : List UInt8 := l.map fun c => c ^^^ m
theorem xm_take (m : UInt8) (l : List UInt8) {k : Nat} (h : k < l.length) : xm m (l.take (k + 1)) = xm m (l.take k) ++ [l[k] ^^^ m] := by
  rw [List.take_succ_eq_append_getElem h, xm, List.map_append]; rfl
namespace Rm

/-! ### Readers -/
abbrev Rd_ (α : Type) := List UInt8 → Option (α × List UInt8)
def bindG {α β : Type} (g : Rd_ α) (h : α → Rd_ β) : Rd_ β := fun l => match g l with
  | none => none
  | some (a, r) => h a r
/-- What it tells does not hang on what stands behind; who fails alone fails with it, too, or has read of it. -/
def Loc {α : Type} (g : Rd_ α) : Prop :=
  (∀ l a r, g l = some (a, r) → r.length ≤ l.length ∧ ∀ t, g (l ++ t) = some (a, r ++ t)) ∧ ∀ l t a r, g l = none → g (l ++ t) = some (a, r) → r.length < t.length
theorem Loc.ret {α : Type} (a : α) : Loc (fun l => some (a, l)) :=
  ⟨fun l b r h => by injection h with h; injection h with h1 h2; subst h1; subst h2; exact ⟨Nat.le_refl _, fun t => rfl⟩, fun l t b r h => by cases h⟩
theorem Loc.no {α : Type} : Loc (fun _ : List UInt8 => (none : Option (α × List UInt8))) := ⟨fun l a r h => (by cases h), fun l t a r _ h => (by cases h)⟩
theorem Loc.bind {α β : Type} {g : Rd_ α} {h : α → Rd_ β} (hg : Loc g) (hh : ∀ a, Loc (h a)) : Loc (bindG g h) := by
  refine ⟨fun l b r e => ?_, fun l t b r e e2 => ?_⟩
  · unfold bindG at e
    cases hq : g l with
    | none => rw [hq] at e; cases e
    | some x =>
      obtain ⟨a, s⟩ := x
      rw [hq] at e
      simp only at e
      obtain ⟨l1, l2⟩ := hg.1 l a s hq
      obtain ⟨k1, k2⟩ := (hh a).1 s b r e
      refine ⟨Nat.le_trans k1 l1, fun t => ?_⟩
      unfold bindG
      rw [l2 t]
      exact k2 t
  · unfold bindG at e e2
    cases hq : g l with
    | none =>
      cases hq2 : g (l ++ t) with
      | none => rw [hq2] at e2; cases e2
      | some x =>
        obtain ⟨a, s⟩ := x
        rw [hq2] at e2
        simp only at e2
        have h1 := hg.2 l t a s hq hq2
        obtain ⟨k1, _⟩ := (hh a).1 s b r e2
        omega
    | some x =>
      obtain ⟨a, s⟩ := x
      rw [hq] at e
      simp only at e
      obtain ⟨l1, l2⟩ := hg.1 l a s hq
      rw [l2 t] at e2
      simp only at e2
      exact (hh a).2 s t b r e e2
/-- The next byte. -/
def headG : Rd_ UInt8
  | [] => none
  | x :: r => some (x, r)
theorem Loc.head : Loc headG := by
  refine ⟨fun l a r e => ?_, fun l t a r e e2 => ?_⟩
  · cases l with
    | nil => cases e
    | cons x l => injection e with e; injection e with e1 e2; subst e1; subst e2; exact ⟨by simp, fun t => rfl⟩
  · cases l with
    | cons x l => cases e
    | nil =>
      cases t with
      | nil => cases e2
      | cons y t => injection e2 with e2; injection e2 with e1 e2; subst e2; simp
/-- So many own bytes, the first of them none that could be left out. -/
def ownG (k : Nat) (m : UInt8) : Rd_ Nat := fun l => if k = 0 then some (0, l) else if k ≤ 8 ∧ k ≤ l.length ∧ HeadNot m l then some (vbe (xm m (l.take k)), l.drop k) else none
theorem headNot_app {m : UInt8} {l t : List UInt8} (h : l ≠ []) : HeadNot m (l ++ t) ↔ HeadNot m l := by
  cases l with
  | nil => exact absurd rfl h
  | cons x l => exact Iff.rfl
theorem Loc.own (k : Nat) (m : UInt8) : Loc (ownG k m) := by
  by_cases hk : k = 0
  · have : ownG k m = fun l => some (0, l) := by funext l; unfold ownG; rw [if_pos hk]
    rw [this]; exact Loc.ret 0
  refine ⟨fun l a r e => ?_, fun l t a r e e2 => ?_⟩
  · unfold ownG at e
    rw [if_neg hk] at e
    split at e
    · rename_i hc
      obtain ⟨h1, h2, h3⟩ := hc
      injection e with e; injection e with e1 e2; subst e1; subst e2
      refine ⟨by simp, fun t => ?_⟩
      unfold ownG
      rw [if_neg hk, if_pos ⟨h1, by rw [List.length_append]; omega, (headNot_app (by intro e; rw [e] at h2; simp at h2; omega)).2 h3⟩]
      rw [List.take_append_of_le_length h2, List.drop_append_of_le_length h2]
    · cases e
  · unfold ownG at e e2
    rw [if_neg hk] at e e2
    split at e2
    · rename_i hc
      obtain ⟨h1, h2, h3⟩ := hc
      injection e2 with e2; injection e2 with e3 e2; subst e3; subst e2
      split at e
      · cases e
      · rename_i hn
        have hkl : ¬ k ≤ l.length := by
          intro hkl
          apply hn
          exact ⟨h1, hkl, (headNot_app (by intro e; rw [e] at hkl; simp at hkl; omega)).1 h3⟩
        rw [List.length_append] at h2
        rw [List.length_drop, List.length_append]; omega
    · cases e2
def maskX (x : UInt8) : UInt8 := if x.toNat < 128 then 255 else 0
def whenG {α : Type} (c : Prop) [Decidable c] (a : α) : Rd_ α := fun l => if c then some (a, l) else none
theorem Loc.when {α : Type} (c : Prop) [Decidable c] (a : α) : Loc (whenG c a) := by
  by_cases hc : c
  · have : whenG c a = fun l => some (a, l) := by funext l; unfold whenG; rw [if_pos hc]
    rw [this]; exact Loc.ret a
  · have : whenG c a = fun _ => none := by funext l; unfold whenG; rw [if_neg hc]
    rw [this]; exact Loc.no
def numG : Rd_ Int := bindG headG fun x => bindG (ownG ((x ^^^ maskX x).toNat - 128) (maskX x)) fun n => whenG (n ≤ 9223372036854775807) (if x.toNat < 128 then -1 - (n : Int) else (n : Int))
def countG (most : Int) (m : UInt8) : Rd_ Nat := bindG headG fun x => bindG (ownG (x ^^^ m).toNat m) fun n => whenG (n ≤ 2147483647 ∧ (n : Int) ≤ most) n
def flagG : Rd_ Bool := bindG headG fun x => whenG (x.toNat ≤ 1) (decide (x = 1))
/-- A text, behind what is read of it. -/
def strG (most : Int) : List UInt8 → Rd_ (List UInt8)
  | _, [] => none
  | s, c :: l => if most < (s.length : Int) then none else if c = 0 then (match l with
      | [] => none
      | d :: r => if d = 0 then some (s, r) else if d = 255 then strG most (s ++ [0]) r else none) else strG most (s ++ [c]) l
def digG (m : UInt8) : Nat → List UInt8 → Rd_ (List UInt8)
  | 0, s => fun l => some (s, l)
  | k + 1, s => bindG headG fun x => bindG (whenG (48 ≤ (x ^^^ m).toNat ∧ (x ^^^ m).toNat ≤ 57) ()) fun _ => digG m k (s ++ [x ^^^ m])
def bigG : Rd_ (List UInt8) := bindG headG fun x => bindG (whenG (x ^^^ maskX x = 128) ()) fun _ => bindG (countG 200 (maskX x)) fun n => digG (maskX x) n (if maskX x = 255 then [45] else [])
/-- A list, each read so, so many more at most. -/
def listG (g : Rd_ V) : Nat → List V → Rd_ (List V)
  | 0, acc => bindG flagG fun b => whenG (b = false) acc
  | k + 1, acc => bindG flagG fun b => if b then bindG g fun t => listG g k (acc ++ [t]) else fun l => some (acc, l)
def bytes (l : List UInt8) : ByteArray := ⟨l.toArray⟩
def valueG : Nat → Rd_ V
  | 0 => fun _ => none
  | n + 1 => bindG headG fun k =>
    if k = 1 then bindG flagG fun b => fun l => some (.mk 1 (if b then 1 else 0) (bytes []) [], l)
    else if k = 2 then bindG numG fun z => fun l => some (.mk 2 z (bytes []) [], l)
    else if k = 3 then bindG bigG fun s => fun l => some (.mk 3 0 (bytes s) [], l)
    else if k = 4 then bindG (strG 4096 []) fun s => fun l => some (.mk 4 0 (bytes s) [], l)
    else if k = 5 then bindG (listG (valueG n) 16 []) fun t => fun l => some (.mk 5 0 (bytes []) t, l)
    else if k = 6 then bindG (strG 65 []) fun s => bindG (listG (valueG n) 8 []) fun t => fun l => some (.mk 6 0 (bytes s) t, l)
    else fun _ => none
theorem Loc.num : Loc numG := Loc.bind Loc.head fun _ => Loc.bind (Loc.own _ _) fun _ => Loc.when _ _
theorem Loc.count (most : Int) (m : UInt8) : Loc (countG most m) := Loc.bind Loc.head fun _ => Loc.bind (Loc.own _ _) fun _ => Loc.when _ _
theorem Loc.flag : Loc flagG := Loc.bind Loc.head fun _ => Loc.when _ _
theorem Loc.dig (m : UInt8) : ∀ (k : Nat) (s : List UInt8), Loc (digG m k s)
  | 0, s => Loc.ret s
  | k + 1, _ => Loc.bind Loc.head fun _ => Loc.bind (Loc.when _ _) fun _ => Loc.dig m k _
theorem Loc.big : Loc bigG := Loc.bind Loc.head fun _ => Loc.bind (Loc.when _ _) fun _ => Loc.bind (Loc.count _ _) fun _ => Loc.dig _ _ _
theorem Loc.list {g : Rd_ V} (hg : Loc g) : ∀ (k : Nat) (acc : List V), Loc (listG g k acc)
  | 0, acc => Loc.bind Loc.flag fun _ => Loc.when _ _
  | k + 1, acc => Loc.bind Loc.flag fun b => by
    cases b
    · exact Loc.ret acc
    · exact Loc.bind hg fun t => Loc.list hg k _
theorem strG_nil (most : Int) (s : List UInt8) : strG most s [] = none := by rw [strG]
theorem strG_cons (most : Int) (s : List UInt8) (c : UInt8) (l : List UInt8) : strG most s (c :: l) = if most < (s.length : Int) then none else if c = 0 then (match l with
      | [] => none
      | d :: r => if d = 0 then some (s, r) else if d = 255 then strG most (s ++ [0]) r else none) else strG most (s ++ [c]) l := by cases l <;> rfl
theorem str_short (most : Int) : ∀ (t a r s : List UInt8), strG most s t = some (a, r) → r.length < t.length
  | [], _, _, _, e => by rw [strG_nil] at e; cases e
  | c :: l, a, r, s, e => by
    rw [strG_cons] at e
    split at e
    · cases e
    · split at e
      · cases l with
        | nil => cases e
        | cons d l =>
          simp only at e
          split at e
          · injection e with e; injection e with e3 e; subst e; simp only [List.length_cons]; omega
          · split at e
            · have := str_short most l a r _ e; simp only [List.length_cons]; omega
            · cases e
      · have := str_short most l a r _ e; simp only [List.length_cons]; omega
theorem str_loc (most : Int) : ∀ (n : Nat) (l : List UInt8), l.length ≤ n → ∀ (s : List UInt8), (∀ a r, strG most s l = some (a, r) → r.length ≤ l.length ∧ ∀ t, strG most s (l ++ t) = some (a, r ++ t)) ∧ ∀ t a r, strG most s l = none → strG most s (l ++ t) = some (a, r) → r.length < t.length
  | n, [], _, s => by
    refine ⟨fun a r e => (by rw [strG_nil] at e; cases e), fun t a r _ e => ?_⟩
    rw [List.nil_append] at e
    exact str_short most t a r s e
  | 0, _ :: _, h, _ => by simp at h
  | n + 1, c :: l, h, s => by
    simp only [List.length_cons] at h
    by_cases h1 : most < (s.length : Int)
    · refine ⟨fun a r e => ?_, fun t a r _ e => ?_⟩
      · rw [strG_cons, if_pos h1] at e; cases e
      · rw [List.cons_append, strG_cons, if_pos h1] at e; cases e
    · by_cases h2 : c = 0
      · cases l with
        | nil =>
          refine ⟨fun a r e => ?_, fun t a r _ e => ?_⟩
          · rw [strG_cons, if_neg h1, if_pos h2] at e; cases e
          · rw [List.cons_append, List.nil_append, strG_cons, if_neg h1, if_pos h2] at e
            cases t with
            | nil => cases e
            | cons d t =>
              simp only at e
              split at e
              · injection e with e; injection e with e3 e; subst e; simp
              · split at e
                · have := str_short most t a r _ e; simp; omega
                · cases e
        | cons d l =>
          simp only [List.length_cons] at h
          by_cases h3 : d = 0
          · refine ⟨fun a r e => ?_, fun t a r e _ => ?_⟩
            · rw [strG_cons, if_neg h1, if_pos h2] at e
              simp only [if_pos h3] at e
              injection e with e; injection e with e3 e; subst e3; subst e
              refine ⟨by simp only [List.length_cons]; omega, fun t => ?_⟩
              rw [List.cons_append, List.cons_append, strG_cons, if_neg h1, if_pos h2]
              simp only [if_pos h3]
            · rw [strG_cons, if_neg h1, if_pos h2] at e
              simp only [if_pos h3] at e
              cases e
          · by_cases h4 : d = 255
            · obtain ⟨i1, i2⟩ := str_loc most n l (by omega) (s ++ [0])
              refine ⟨fun a r e => ?_, fun t a r e e2 => ?_⟩
              · rw [strG_cons, if_neg h1, if_pos h2] at e
                simp only [if_neg h3, if_pos h4] at e
                obtain ⟨j1, j2⟩ := i1 a r e
                refine ⟨by simp only [List.length_cons]; omega, fun t => ?_⟩
                rw [List.cons_append, List.cons_append, strG_cons, if_neg h1, if_pos h2]
                simp only [if_neg h3, if_pos h4]
                exact j2 t
              · rw [strG_cons, if_neg h1, if_pos h2] at e
                rw [List.cons_append, List.cons_append, strG_cons, if_neg h1, if_pos h2] at e2
                simp only [if_neg h3, if_pos h4] at e e2
                exact i2 t a r e e2
            · refine ⟨fun a r e => ?_, fun t a r _ e2 => ?_⟩
              · rw [strG_cons, if_neg h1, if_pos h2] at e
                simp only [if_neg h3, if_neg h4] at e
                cases e
              · rw [List.cons_append, List.cons_append, strG_cons, if_neg h1, if_pos h2] at e2
                simp only [if_neg h3, if_neg h4] at e2
                cases e2
      · obtain ⟨i1, i2⟩ := str_loc most n l (by omega) (s ++ [c])
        refine ⟨fun a r e => ?_, fun t a r e e2 => ?_⟩
        · rw [strG_cons, if_neg h1, if_neg h2] at e
          obtain ⟨j1, j2⟩ := i1 a r e
          refine ⟨by simp only [List.length_cons]; omega, fun t => ?_⟩
          rw [List.cons_append, strG_cons, if_neg h1, if_neg h2]
          exact j2 t
        · rw [strG_cons, if_neg h1, if_neg h2] at e
          rw [List.cons_append, strG_cons, if_neg h1, if_neg h2] at e2
          exact i2 t a r e e2
theorem Loc.str (most : Int) (s : List UInt8) : Loc (strG most s) :=
  ⟨fun l a r e => (str_loc most l.length l (Nat.le_refl _) s).1 a r e, fun l t a r e e2 => (str_loc most l.length l (Nat.le_refl _) s).2 t a r e e2⟩
theorem Loc.value : ∀ n, Loc (valueG n)
  | 0 => Loc.no
  | n + 1 => Loc.bind Loc.head fun k => by
    split
    · exact Loc.bind Loc.flag fun _ => Loc.ret _
    split
    · exact Loc.bind Loc.num fun _ => Loc.ret _
    split
    · exact Loc.bind Loc.big fun _ => Loc.ret _
    split
    · exact Loc.bind (Loc.str _ _) fun _ => Loc.ret _
    split
    · exact Loc.bind (Loc.list (Loc.value n) _ _) fun _ => Loc.ret _
    split
    · exact Loc.bind (Loc.str _ _) fun _ => Loc.bind (Loc.list (Loc.value n) _ _) fun _ => Loc.ret _
    · exact Loc.no
end Rm
end Go.Proofs.YtlhkjmckigblpaaGreatDoor
