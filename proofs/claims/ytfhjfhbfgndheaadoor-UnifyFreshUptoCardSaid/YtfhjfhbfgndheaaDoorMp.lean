/- A map in memory, as a function of its keys. -/
import Derived.Test.YtfhjfhbfgndheaaDoorKb
import Derived.Maps.Own
import Derived.Maps.OwnSet
import Derived.Maps.Views
import Derived.StringKeys
import Derived.Carry
namespace Go.Proofs.YtfhjfhbfgndheaaDoor
open Go.RowKit
open Go
namespace Gm
open Go.Maps

def MapR {H κ α : Type} (P : Program) (kt : TypeId) (R : Value → Option (DataW H × List MemPlace)) (ke : κ → Lit) (en : α → DataW H) (w : World) (b n : Nat) (f : κ → Option α) : Prop :=
  ∃ D, w.ownsMap P kt R b n D ∧ ∀ k, Maps.has D (ke k) = (f k).isSome ∧ ∀ z, D.atKey (ke k) z = ((f k).map en).getD z
section
variable {H κ α : Type} {P : Program} {kt : TypeId} {R : Value → Option (DataW H × List MemPlace)} {ke : κ → Lit} {en : α → DataW H} {w : World} {b n : Nat} {f : κ → Option α}
theorem MapR.new (w : World) : MapR P kt R ke en (w.alloc (.map #[] 0)) w.heap.size 0 (fun _ : κ => (none : Option α)) :=
  ⟨.map [], World.ownsMap_made w P kt R, fun _ => ⟨rfl, fun _ => rfl⟩⟩
theorem MapR.keep {w' : World} (h : MapR P kt R ke en w b n f) (hb : w'.heap[b]? = w.heap[b]?) : MapR P kt R ke en w' b n f := by
  obtain ⟨D, ⟨es, clock, h1, h2⟩, h3⟩ := h
  exact ⟨D, ⟨es, clock, hb.trans h1, h2⟩, h3⟩
theorem MapR.lt (h : MapR P kt R ke en w b n f) : b < w.heap.size := by obtain ⟨_, h, _⟩ := h; exact h.lt
theorem MapR.mono (h : MapR P kt R ke en w b n f) {m : Nat} (hm : n ≤ m) : MapR P kt R ke en w b m f := by obtain ⟨D, h, h2⟩ := h; exact ⟨D, h.mono hm, h2⟩
theorem MapR.congr {g : κ → Option α} (h : MapR P kt R ke en w b n f) (e : ∀ k, f k = g k) : MapR P kt R ke en w b n g := by rw [← funext e]; exact h
theorem MapR.look_ok {t e : TypeId} (h : MapR P kt R ke en w b n f) (K : Maps.Keyed P kt) (ht : P.underlying t = some (.map kt e)) {z : Value} (hz : (zeroValue e).run P w = .ok z w) {zd : DataW H} {zp : List MemPlace} (hzd : R z = some (zd, zp))
    {key : Value} (k : κ) (hkey : keyOf P kt key = some (ke k)) : ∃ v ps, (Instr.lookup t (.map (some b)) key true).run P w = .ok (.tuple #[v, .bool (f k).isSome]) w ∧ R v = some (((f k).map en).getD zd, ps) := by
  obtain ⟨D, h1, h2⟩ := h
  obtain ⟨v, ps, e1, e2⟩ := h1.look_ok K ht hz hzd hkey
  rw [(h2 k).1] at e1
  rw [(h2 k).2] at e2
  exact ⟨v, ps, e1, e2⟩
theorem MapR.look {t e : TypeId} (h : MapR P kt R ke en w b n f) (K : Maps.Keyed P kt) (ht : P.underlying t = some (.map kt e)) {z : Value} (hz : (zeroValue e).run P w = .ok z w) {zd : DataW H} {zp : List MemPlace} (hzd : R z = some (zd, zp))
    {key : Value} (k : κ) (hkey : keyOf P kt key = some (ke k)) : ∃ v ps, (Instr.lookup t (.map (some b)) key false).run P w = .ok v w ∧ R v = some (((f k).map en).getD zd, ps) := by
  obtain ⟨D, h1, h2⟩ := h
  obtain ⟨v, ps, e1, e2⟩ := h1.lookup K ht hz hzd hkey
  rw [(h2 k).2] at e2
  exact ⟨v, ps, e1, e2⟩
theorem MapR.put [DecidableEq κ] {t e : TypeId} (h : MapR P kt R ke en w b n f) (K : Maps.Keyed P kt) (ht : P.underlying t = some (.map kt e)) (hn : n < maxLen) (hk : ∀ k, WideAt.IsKeyLit (ke k)) (hinj : ∀ k k', ke k = ke k' → k = k')
    {key val : Value} (k : κ) (a : α) (hkey : keyOf P kt key = some (ke k)) {ps : List MemPlace} (hv : R val = some (en a, ps)) :
    ∃ w', (Instr.mapUpdate t (.map (some b)) key val).run P w = .ok () w' ∧ MapR P kt R ke en w' b (n + 1) (fun k' => if k' = k then some a else f k') ∧ w.grownBy w' (some b) := by
  obtain ⟨D, h1, h2⟩ := h
  obtain ⟨w', e1, e2, e3⟩ := h1.update K ht hn hkey hv
  refine ⟨w', e1, ⟨_, e2, fun k' => ?_⟩, e3⟩
  simp only []
  by_cases hkk : k' = k
  · subst hkk
    rw [if_pos rfl]
    exact ⟨Maps.has_put_same h1.isMap (hk _) _, fun z => Maps.atKey_put_same h1.isMap (hk _) _ z⟩
  · rw [if_neg hkk]
    have hne : ke k' ≠ ke k := fun e => hkk (hinj _ _ e)
    exact ⟨(Maps.has_put_other hne _).trans (h2 k').1, fun z => (Maps.atKey_put_other hne _ z).trans ((h2 k').2 z)⟩
theorem MapR.del [DecidableEq κ] {t e : TypeId} (h : MapR P kt R ke en w b n f) (K : Maps.Keyed P kt) (ht : P.underlying t = some (.map kt e)) (hinj : ∀ k k', ke k = ke k' → k = k')
    {key : Value} (k : κ) (hkey : keyOf P kt key = some (ke k)) (ty : TypeId) :
    ∃ w', (Builtin.delete_ #[t, kt] ty #[.map (some b), key]).run P w = .ok (.tuple #[]) w' ∧ MapR P kt R ke en w' b n (fun k' => if k' = k then none else f k') ∧ w.grownBy w' (some b) := by
  obtain ⟨D, h1, h2⟩ := h
  obtain ⟨w', e1, e2, e3⟩ := h1.drop K ht hkey ty
  refine ⟨w', e1, ⟨_, e2, fun k' => ?_⟩, e3.grown⟩
  simp only []
  by_cases hkk : k' = k
  · subst hkk
    rw [if_pos rfl]
    exact ⟨Maps.has_del_same, fun z => Maps.atKey_del_same z⟩
  · rw [if_neg hkk]
    have hne : ke k' ≠ ke k := fun e => hkk (hinj _ _ e)
    exact ⟨(Maps.has_del_other hne).trans (h2 k').1, fun z => (Maps.atKey_del_other hne z).trans ((h2 k').2 z)⟩
end
/-- Keys that are texts, elements that are truth values or integers. -/
def kS (s : ByteArray) : Lit := .string s.data.toList
def kI (n : Int) : Lit := .int .i64 n
def eB (b : Bool) : DataW Unit := .lit (.bool b)
def eI (n : Int) : DataW Unit := .lit (.int .i64 n)
theorem kS_inj (a b : ByteArray) (h : kS a = kS b) : a = b := by
  injection h with h
  exact ByteArray.ext (Array.ext' h)
theorem kI_inj (a b : Int) (h : kI a = kI b) : a = b := by
  injection h
theorem kS_key (a : ByteArray) : WideAt.IsKeyLit (kS a) := trivial
theorem kI_key (a : Int) : WideAt.IsKeyLit (kI a) := trivial
end Gm
end Go.Proofs.YtfhjfhbfgndheaaDoor
