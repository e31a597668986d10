/- How a value lies in memory, and that what a caller hands in lies so. -/
import Derived.ChangeArms
import Derived.DataReads
import Derived.Below
import Derived.Test.YtibpebhepoeikaaDoorVp
import Derived.Deep.Slices
namespace Go.Proofs.YtibpebhepoeikaaDoor
open Go.RowKit Go.ChangeShapes Go.WideShapes Go.Deep Vp
open Go

/-- A value's tree lies in the world, in blocks below B. -/
inductive VRep (w : World) (B : Nat) : V → Value → Prop
  | mk {k : Nat} {n : Int} {s : ByteArray} {l : List V} {A : Option Addr} {c : Nat} (E : Nat → Value) (hk : k < 256) (hn : -9223372036854775808 ≤ n ∧ n ≤ 9223372036854775807) (hs : s.size ≤ maxLen)
    (hc : l.length ≤ c) (hm : c ≤ maxLen)
    (hcell : ∀ j, j < l.length → ∃ b off, A = some ⟨b, off, none⟩ ∧ b < B ∧ ∀ i x, (E j).cells[i]? = some x → w.cell? ⟨b, off + j * 4 + i, none⟩ = some x)
    (hel : ∀ j (hj : j < l.length), VRep w B l[j] (E j)) :
    VRep w B (.mk k n s l) (.agg #[.int .u8 (k : Int), .int .i64 n, .string s, .slice A l.length c])

/-- A row's values lie in the world. -/
def RRep (w : World) (B : Nat) (l : List V) (A : Option Addr) (c : Nat) : Prop :=
  l.length ≤ c ∧ c ≤ maxLen ∧ ∃ E : Nat → Value, (∀ j, j < l.length → ∃ b off, A = some ⟨b, off, none⟩ ∧ b < B ∧ ∀ i x, (E j).cells[i]? = some x → w.cell? ⟨b, off + j * 4 + i, none⟩ = some x) ∧
    ∀ j (hj : j < l.length), VRep w B l[j] (E j)

theorem VRep.of_row {w : World} {B k : Nat} {n : Int} {s : ByteArray} {l : List V} {A : Option Addr} {c : Nat} (hk : k < 256) (hn : -9223372036854775808 ≤ n ∧ n ≤ 9223372036854775807) (hs : s.size ≤ maxLen) (h : RRep w B l A c) :
    VRep w B (.mk k n s l) (.agg #[.int .u8 (k : Int), .int .i64 n, .string s, .slice A l.length c]) := by
  obtain ⟨h1, h2, E, h3, h4⟩ := h
  exact .mk E hk hn hs h1 h2 h3 h4
theorem VRep.open_ {w : World} {B : Nat} {t : V} {u : Value} (h : VRep w B t u) : ∃ (k : Nat) (n : Int) (s : ByteArray) (l : List V) (A : Option Addr) (c : Nat), t = .mk k n s l ∧ u = .agg #[.int .u8 (k : Int), .int .i64 n, .string s, .slice A l.length c] ∧
    k < 256 ∧ (-9223372036854775808 ≤ n ∧ n ≤ 9223372036854775807) ∧ s.size ≤ maxLen ∧ RRep w B l A c := by
  cases h with
  | mk E hk hn hs hc hm hcell hel => exact ⟨_, _, _, _, _, _, rfl, rfl, hk, hn, hs, hc, hm, E, hcell, hel⟩
theorem VRep.under {w w' : World} {B : Nat} {t : V} {u : Value} (h : VRep w B t u) (hb : Below B w w') : VRep w' B t u := by
  induction h with
  | mk E hk hn hs hc hm hcell _ ih =>
    refine .mk E hk hn hs hc hm (fun j hj => ?_) ih
    obtain ⟨b, off, h1, h2, h3⟩ := hcell j hj
    exact ⟨b, off, h1, h2, fun i x hx => (hb.cell (p := ⟨b, off + j * 4 + i, none⟩) h2).trans (h3 i x hx)⟩
theorem VRep.more {w : World} {B B' : Nat} {t : V} {u : Value} (h : VRep w B t u) (hb : B ≤ B') : VRep w B' t u := by
  induction h with
  | mk E hk hn hs hc hm hcell _ ih =>
    refine .mk E hk hn hs hc hm (fun j hj => ?_) ih
    obtain ⟨b, off, h1, h2, h3⟩ := hcell j hj
    exact ⟨b, off, h1, by omega, h3⟩
theorem RRep.under {w w' : World} {B : Nat} {l : List V} {A : Option Addr} {c : Nat} (h : RRep w B l A c) (hb : Below B w w') : RRep w' B l A c := by
  obtain ⟨h1, h2, E, h3, h4⟩ := h
  refine ⟨h1, h2, E, fun j hj => ?_, fun j hj => (h4 j hj).under hb⟩
  obtain ⟨b, off, e1, e2, e3⟩ := h3 j hj
  exact ⟨b, off, e1, e2, fun i x hx => (hb.cell (p := ⟨b, off + j * 4 + i, none⟩) e2).trans (e3 i x hx)⟩
theorem RRep.more {w : World} {B B' : Nat} {l : List V} {A : Option Addr} {c : Nat} (h : RRep w B l A c) (hb : B ≤ B') : RRep w B' l A c := by
  obtain ⟨h1, h2, E, h3, h4⟩ := h
  refine ⟨h1, h2, E, fun j hj => ?_, fun j hj => (h4 j hj).more hb⟩
  obtain ⟨b, off, e1, e2, e3⟩ := h3 j hj
  exact ⟨b, off, e1, by omega, e3⟩
theorem RRep.nil {w : World} {B : Nat} {A : Option Addr} {c : Nat} (hm : c ≤ maxLen) : RRep w B [] A c :=
  ⟨Nat.zero_le _, hm, fun _ => .int .i64 0, fun _ hj => absurd hj (Nat.not_lt_zero _), fun _ hj => absurd hj (Nat.not_lt_zero _)⟩
theorem VRep.cells4 {w : World} {B : Nat} {t : V} {u : Value} (h : VRep w B t u) : ∃ a b c d, u = .agg #[a, b, c, d] ∧ u.cells = #[a, b, c, d] := by
  cases h; exact ⟨_, _, _, _, rfl, rfl⟩
/-- One element of a row: its four cells, and that they are a value's. -/
theorem RRep.at_ {w : World} {B : Nat} {l : List V} {A : Option Addr} {c j : Nat} (h : RRep w B l A c) (hj : j < l.length) :
    ∃ b off, A = some ⟨b, off, none⟩ ∧ b < B ∧ ∃ (k : Nat) (n : Int) (s : ByteArray) (l' : List V) (A' : Option Addr) (c' : Nat), l[j] = .mk k n s l' ∧
      VRep w B l[j] (.agg #[.int .u8 (k : Int), .int .i64 n, .string s, .slice A' l'.length c']) ∧
      w.cell? ⟨b, off + j * 4, none⟩ = some (.int .u8 (k : Int)) ∧ w.cell? ⟨b, off + j * 4 + 1, none⟩ = some (.int .i64 n) ∧ w.cell? ⟨b, off + j * 4 + 2, none⟩ = some (.string s) ∧ w.cell? ⟨b, off + j * 4 + 3, none⟩ = some (.slice A' l'.length c') := by
  obtain ⟨h1, h2, E, h3, h4⟩ := h
  obtain ⟨b, off, e1, e2, e3⟩ := h3 j hj
  have hv := h4 j hj
  obtain ⟨k, n, s, l', A', c', ht, hu, _⟩ := hv.open_
  rw [hu] at hv e3
  exact ⟨b, off, e1, e2, k, n, s, l', A', c', ht, hv, e3 0 _ rfl, e3 1 _ rfl, e3 2 _ rfl, e3 3 _ rfl⟩

section
variable {H : Type} {enc : TypeId × Value → H} {P : Program} {w : World} {spare : Nat → Bool} {held : Bool}
theorem open_row_of {tV tL : TypeId} (u3 : P.underlying tL = some (.slice tV)) (c4 : P.cellsOf tV = 4) (fuel : Nat)
    (ih : ∀ m, m < fuel → ∀ (cs : List Value) (x : DataW H × List MemPlace), DataW.trod enc P w 0 spare held m tV cs = some x → ∃ t : V, VRep w w.heap.size t (.agg cs.toArray) ∧ (Value.agg cs.toArray).cells.toList = cs)
    (cs : List Value) (x : DataW H × List MemPlace) (h : DataW.trod enc P w 0 spare held fuel tL cs = some x) : ∃ (l : List V) (A : Option Addr) (c : Nat), cs = [.slice A l.length c] ∧ RRep w w.heap.size l A c := by
  rcases DataW.trod_slice u3 h with ⟨rfl, _⟩ | ⟨a, len, cap, elems, rest, n, hn, rfl, _, _, hlc, hcm, hlen, hel, _⟩
  · exact ⟨[], none, 0, rfl, RRep.nil (by decide)⟩
  · rw [c4] at hel
    obtain ⟨F, hF⟩ := choose_lt (α := V × Value) (n := len) (p := fun i y => VRep w w.heap.size y.1 y.2 ∧ ∃ b off, a = ⟨b, off, none⟩ ∧ b < w.heap.size ∧ ∀ k z, y.2.cells[k]? = some z → w.cell? ⟨b, off + i * 4 + k, none⟩ = some z) (fun i hi => by
      have h1 := hel i hi
      rw [List.getElem?_eq_getElem (by omega)] at h1
      obtain ⟨cs', h2, h3⟩ := Option.bind_eq_some_iff.1 h1
      obtain ⟨_, hl4, hc4⟩ := World.cells?_some h2
      obtain ⟨t, ht, hcs⟩ := ih n (by omega) cs' _ h3
      refine ⟨(t, .agg cs'.toArray), ht, ?_⟩
      have hspot : a.spot = none ∧ a.block < w.heap.size := by
        have h0 := hel 0 (by omega)
        rw [List.getElem?_eq_getElem (by omega)] at h0
        obtain ⟨cs0, h02, _⟩ := Option.bind_eq_some_iff.1 h0
        obtain ⟨_, hl0, hc0⟩ := World.cells?_some h02
        have h00 := hc0 0 (by omega)
        rw [List.getElem?_eq_getElem (by omega)] at h00
        have e0 : (a.add (0 * 4)).add 0 = a := by simp [Addr.add]
        rw [e0] at h00
        unfold World.cell? at h00
        split at h00
        · rename_i hb
          refine ⟨?_, ?_⟩
          · cases hs : a.spot with
            | none => rfl
            | some q => simp [hs] at h00
          · rw [Array.getElem?_eq_some_iff] at hb
            exact hb.1
        · simp at h00
      refine ⟨a.block, a.off, by cases a; simp_all, hspot.2, fun k z hz => ?_⟩
      have hk : (Value.agg cs'.toArray).cells.toList[k]? = some z := by simpa using hz
      rw [hcs] at hk
      have hk4 : k < 4 := by
        rw [List.getElem?_eq_some_iff] at hk
        obtain ⟨h, _⟩ := hk; omega
      have := hc4 k hk4
      rw [hk, add_add] at this
      rw [← this]
      congr 1
      unfold Addr.add
      split
      · rename_i hz0
        have : i * 4 = 0 ∧ k = 0 := by omega
        cases a; simp_all
      · simp [Nat.add_assoc])
    refine ⟨(List.range len).map fun i => (F i).1, some a, cap, by simp, by simpa using hlc, hcm, fun i => (F i).2, ?_, ?_⟩
    · intro j hj
      obtain ⟨_, b, off, rfl, hb, hc⟩ := hF j (by simpa using hj)
      exact ⟨b, off, rfl, hb, hc⟩
    · intro j hj
      have := (hF j (by simpa using hj)).1
      simpa using this
/-- What a caller hands in as a value: its tree. -/
theorem open_val {tV tL t0 t1 t2 : TypeId} {f0 f1 f2 f3 : Field} (hV : P.underlying tV = some (.struct #[f0, f1, f2, f3])) (c4 : P.cellsOf tV = 4)
    (o0 : f0.offset = 0) (o1 : f1.offset = 1) (o2 : f2.offset = 2) (o3 : f3.offset = 3) (c0 : P.cellsOf t0 = 1) (c1 : P.cellsOf t1 = 1) (c2 : P.cellsOf t2 = 1) (c3 : P.cellsOf tL = 1)
    (e0 : f0.type = t0) (e1 : f1.type = t1) (e2 : f2.type = t2) (e3 : f3.type = tL)
    (u0 : P.underlying t0 = some (.int .u8)) (u1 : P.underlying t1 = some (.int .i64)) (u2 : P.underlying t2 = some .string) (u3 : P.underlying tL = some (.slice tV)) :
    ∀ (fuel : Nat) (cs : List Value) (x : DataW H × List MemPlace), DataW.trod enc P w 0 spare held fuel tV cs = some x → ∃ t : V, VRep w w.heap.size t (.agg cs.toArray) ∧ (Value.agg cs.toArray).cells.toList = cs := by
  intro fuel
  induction fuel using Nat.strongRecOn with
  | ind fuel ih =>
    intro cs x h
    obtain ⟨xs, n, rfl, rfl, hl, hlen, hf⟩ := DataW.trod_struct hV h
    rw [c4] at hl
    match cs, hl with
    | [a, b, c, d], _ =>
      have hx : xs.length = 4 := hlen
      have g0 := hf 0 f0 rfl; have g1 := hf 1 f1 rfl; have g2 := hf 2 f2 rfl; have g3 := hf 3 f3 rfl
      rw [List.getElem?_eq_getElem (by omega), e0, o0, c0] at g0
      rw [List.getElem?_eq_getElem (by omega), e1, o1, c1] at g1
      rw [List.getElem?_eq_getElem (by omega), e2, o2, c2] at g2
      rw [List.getElem?_eq_getElem (by omega), e3, o3, c3] at g3
      obtain ⟨k, hk, _, wk⟩ := DataW.trod_int u0 g0
      obtain ⟨m, hm, _, wm⟩ := DataW.trod_int u1 g1
      obtain ⟨s, hs, _, ws⟩ := DataW.trod_string u2 g2
      obtain ⟨l, A, cc, hd, hr⟩ := open_row_of u3 c4 n (fun m hm => ih m (by omega)) _ _ g3
      simp at hk hm hs hd
      subst hk; subst hm; subst hs; subst hd
      have hk' : 0 ≤ k ∧ k < 256 := by
        simp only [Lit.wf, Bool.and_eq_true, decide_eq_true_eq] at wk
        have h1 : IntKind.u8.min = 0 := by decide
        have h2 : IntKind.u8.max = 255 := by decide
        omega
      have hm' : -9223372036854775808 ≤ m ∧ m ≤ 9223372036854775807 := by
        simp only [Lit.wf, Bool.and_eq_true, decide_eq_true_eq] at wm
        have h1 : IntKind.i64.min = -9223372036854775808 := by decide
        have h2 : IntKind.i64.max = 9223372036854775807 := by decide
        omega
      refine ⟨.mk k.toNat m s l, ?_, rfl⟩
      have := VRep.of_row (k := k.toNat) (by omega) hm' ws hr
      rwa [Int.toNat_of_nonneg hk'.1] at this
end
end Go.Proofs.YtibpebhepoeikaaDoor
