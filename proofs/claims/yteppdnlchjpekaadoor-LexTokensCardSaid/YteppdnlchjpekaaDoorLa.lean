/- Package lex: how a byte, a text, a token, tokens are written: plain. -/
import Derived.Test.YteppdnlchjpekaaDoorKb
namespace Go.Proofs.YteppdnlchjpekaaDoor
namespace Lx

/-- A hexadecimal digit. -/
def hx (n : Nat) : UInt8 := if n < 10 then UInt8.ofNat (48 + n) else UInt8.ofNat (87 + n)
/-- The mark of a byte. -/
def mk (c : UInt8) : List UInt8 :=
  if c = 34 ∨ c = 92 then [92, c] else if c = 10 then [92, 110] else if c = 9 then [92, 116] else if c.toNat < 32 ∨ c = 127 then [92, 120, hx (c.toNat / 16), hx (c.toNat % 16)] else [c]
def mks (s : List UInt8) : List UInt8 := s.flatMap mk
/-- A text in quotes. -/
def quo (s : List UInt8) : List UInt8 := 34 :: (mks s ++ [34])
/-- A token: its place, its kind, its text. -/
structure T where
  line : Int
  col : Int
  kind : Nat
  text : ByteArray
instance : Inhabited T := ⟨⟨0, 0, 0, ⟨#[]⟩⟩⟩
def T.shown (t : T) : List UInt8 :=
  if t.kind = 6 then t.text.data.toList ++ [98] else if t.kind = 7 then quo t.text.data.toList else if t.kind = 9 then 46 :: t.text.data.toList else t.text.data.toList
/-- Tokens, one behind the other, a space between two. -/
def show_ : List T → List UInt8
  | [] => []
  | t :: l => t.shown ++ l.flatMap fun t => 32 :: t.shown
/-- How much tokens are. -/
def bulk (l : List T) : Nat := l.foldl (fun n t => n + 1 + t.text.size) 0

theorem mk_len (c : UInt8) : 1 ≤ (mk c).length ∧ (mk c).length ≤ 4 := by
  unfold mk
  (repeat' split) <;> simp only [List.length_cons, List.length_nil] <;> omega
theorem mks_len : ∀ s : List UInt8, s.length ≤ (mks s).length ∧ (mks s).length ≤ 4 * s.length
  | [] => by simp [mks]
  | c :: s => by
    have h1 := mks_len s
    have h2 := mk_len c
    have e : mks (c :: s) = mk c ++ mks s := by simp [mks]
    rw [e, List.length_append, List.length_cons]; omega
theorem mks_snoc (s : List UInt8) (c : UInt8) : mks (s ++ [c]) = mks s ++ mk c := by simp [mks]
theorem quo_len (s : List UInt8) : (quo s).length ≤ 4 * s.length + 2 := by
  have := mks_len s
  simp [quo]; omega
theorem shown_len (t : T) : t.shown.length ≤ 4 * t.text.size + 2 := by
  have h := quo_len t.text.data.toList
  have e : t.text.size = t.text.data.toList.length := by rw [Array.length_toList]; rfl
  unfold T.shown
  (repeat' split) <;> (try simp only [List.length_append, List.length_cons, List.length_nil]) <;> omega
theorem bulk_cons (t : T) (l : List T) : bulk (t :: l) = 1 + t.text.size + bulk l := by
  have aux : ∀ (l : List T) (n : Nat), l.foldl (fun n t => n + 1 + t.text.size) n = n + l.foldl (fun n t => n + 1 + t.text.size) 0 := by
    intro l
    induction l with
    | nil => intro n; simp
    | cons x l ih => intro n; simp only [List.foldl_cons]; rw [ih, ih (0 + 1 + x.text.size)]; omega
  unfold bulk
  rw [List.foldl_cons, aux]
theorem bulk_snoc (t : T) : ∀ l : List T, bulk (l ++ [t]) = bulk l + 1 + t.text.size := by
  intro l; unfold bulk; rw [List.foldl_append]; rfl
theorem show_len : ∀ l : List T, (show_ l).length ≤ 4 * bulk l
  | [] => by simp [show_]
  | t :: l => by
    have h1 := shown_len t
    have aux : ∀ l : List T, (l.flatMap fun t => 32 :: t.shown).length ≤ 4 * bulk l := by
      intro l
      induction l with
      | nil => simp
      | cons x l ih =>
        have := shown_len x
        rw [bulk_cons, List.flatMap_cons, List.length_append, List.length_cons]; omega
    have := aux l
    rw [bulk_cons, show_, List.length_append]; omega
theorem show_snoc (l : List T) (t : T) : show_ (l ++ [t]) = show_ l ++ ((if l.isEmpty then [] else [32]) ++ t.shown) := by
  cases l with
  | nil => simp [show_]
  | cons x l => simp [show_]
theorem bulk_take (l : List T) (k : Nat) : bulk (l.take k) ≤ bulk l := by
  induction l generalizing k with
  | nil => simp
  | cons x l ih =>
    cases k with
    | zero => simp [bulk]
    | succ k => rw [List.take_succ_cons, bulk_cons, bulk_cons]; have := ih k; omega
theorem text_bulk {l : List T} {k : Nat} (hk : k < l.length) : l[k].text.size + 1 ≤ bulk l := by
  have h := bulk_take l (k + 1)
  have e : l.take (k + 1) = l.take k ++ [l[k]] := List.take_succ_eq_append_getElem hk
  rw [e, bulk_snoc] at h; omega
theorem len_bulk (l : List T) : l.length ≤ bulk l := by
  induction l with
  | nil => simp
  | cons x l ih => rw [bulk_cons, List.length_cons]; omega
end Lx
open Go.RowKit Lx
open Go
/-- Tokens lie in the world, in blocks below B. -/
def TRep (w : World) (B : Nat) (l : List T) (A : Option Addr) (c : Nat) : Prop :=
  l.length ≤ c ∧ c ≤ maxLen ∧ ∀ j (hj : j < l.length), ∃ b off, A = some ⟨b, off, none⟩ ∧ b < B ∧ w.cell? ⟨b, off + j * 4, none⟩ = some (.int .i64 l[j].line) ∧ w.cell? ⟨b, off + j * 4 + 1, none⟩ = some (.int .i64 l[j].col) ∧
    w.cell? ⟨b, off + j * 4 + 2, none⟩ = some (.int .u8 (l[j].kind : Int)) ∧ w.cell? ⟨b, off + j * 4 + 3, none⟩ = some (.string l[j].text)
theorem TRep.under {w w' : World} {B : Nat} {l : List T} {A : Option Addr} {c : Nat} (h : TRep w B l A c) (hb : Below B w w') : TRep w' B l A c := by
  obtain ⟨h1, h2, h3⟩ := h
  refine ⟨h1, h2, fun j hj => ?_⟩
  obtain ⟨b, off, e1, e2, c0, c1, c2, c3⟩ := h3 j hj
  exact ⟨b, off, e1, e2, (hb.cell (p := ⟨b, _, none⟩) e2).trans c0, (hb.cell (p := ⟨b, _, none⟩) e2).trans c1, (hb.cell (p := ⟨b, _, none⟩) e2).trans c2, (hb.cell (p := ⟨b, _, none⟩) e2).trans c3⟩
theorem TRep.more {w : World} {B B' : Nat} {l : List T} {A : Option Addr} {c : Nat} (h : TRep w B l A c) (hb : B ≤ B') : TRep w B' l A c := by
  obtain ⟨h1, h2, h3⟩ := h
  refine ⟨h1, h2, fun j hj => ?_⟩
  obtain ⟨b, off, e1, e2, h⟩ := h3 j hj
  exact ⟨b, off, e1, by omega, h⟩

end Go.Proofs.YteppdnlchjpekaaDoor
