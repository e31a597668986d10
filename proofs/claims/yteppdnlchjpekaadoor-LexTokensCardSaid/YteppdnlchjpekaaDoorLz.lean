/- Package lex: the text of tokens. -/
import Derived.Test.YteppdnlchjpekaaDoorLw
import Derived.Laws.MakeOwn
import Derived.Lib.Join
namespace Go.Proofs.YteppdnlchjpekaaDoor
open Go.RowKit Lx
open Go
attribute [local go_sem] Oper.semAt_some

/-- Block g holds as many texts as there are tokens; the first k are the tokens' own. -/
def Txs (W : World) (g : Nat) (l : List T) (k : Nat) : Prop := ∃ cs : Array Value, Blk W g 9 cs ∧ cs.size = l.length ∧ ∀ j (hj : j < l.length), j < k → cs[j]? = some (.string ⟨(l[j]).shown.toArray⟩)
theorem Txs.under {W W' : World} {g : Nat} {l : List T} {k : Nat} (h : Txs W g l k) (hb : Below W.heap.size W W') : Txs W' g l k := by
  obtain ⟨cs, h1, h2⟩ := h
  exact ⟨cs, h1.below hb h1.lt, h2⟩
theorem Txs.alloc {W : World} {g : Nat} {l : List T} {k : Nat} (h : Txs W g l k) (o : Obj) : Txs (W.alloc o) g l k := by
  obtain ⟨cs, h1, h2⟩ := h
  exact ⟨cs, h1.alloc o, h2⟩
theorem Txs.put {W : World} {g : Nat} {l : List T} {k : Nat} (h : Txs W g l k) (hk : k < l.length) : Txs (W.setCell ⟨g, k, none⟩ (.string ⟨(l[k]).shown.toArray⟩)) g l (k + 1) := by
  obtain ⟨cs, h1, h2, h3⟩ := h
  refine ⟨_, h1.set_ k _, by simpa using h2, fun j hj hjk => ?_⟩
  rw [Array.getElem?_setIfInBounds]
  by_cases hkj : k = j
  · subst hkj
    rw [if_pos rfl, if_pos (by omega)]
  · rw [if_neg hkj]
    exact h3 j hj (by omega)
theorem join_show (l : List T) : Lib.join (l.map T.shown) [32] = show_ l := by
  cases l with
  | nil => rfl
  | cons t l =>
    show [32].intercalate (t.shown :: l.map T.shown) = _
    rw [show_]
    induction l generalizing t with
    | nil => simp [List.intercalate]
    | cons x l ih =>
      have := ih x
      simp only [List.map_cons, List.flatMap_cons] at this ⊢
      rw [show ([32] : List UInt8).intercalate (t.shown :: x.shown :: l.map T.shown) = t.shown ++ ([32] ++ ([32] : List UInt8).intercalate (x.shown :: l.map T.shown)) by simp [List.intercalate], this]
      simp
theorem info_str : (Tryd.prog.info? 9).map (fun i => (i.zero, i.size, i.bytes)) = some (some (.string ⟨#[]⟩), 1, 16) := by kernel_rfl

set_option maxRecDepth 100000 in
set_option maxHeartbeats 4000000 in
theorem show_c (l : List T) (A : Option Addr) (c : Nat) (w : World) (hR : TRep w w.heap.size l A c) (hb : bulk l ≤ 2000000) :
    Calls Tryd.prog 11 #[.slice A l.length c] w fun e w' => e = .returned (.string ⟨(show_ l).toArray⟩) ∧ Below w.heap.size w w' := by
  obtain ⟨i0, hi, hz0, hz1, hz2⟩ := info_parts info_str
  have hlb := len_bulk l
  have hmk : ∀ u : World, (Instr.makeSlice 55 (.int .i64 (l.length : Int)) (.int .i64 (l.length : Int))).run Tryd.prog u =
      .ok (.slice (some ⟨u.heap.size, 0, none⟩) l.length l.length) (u.alloc (.cells (madeCells #[.string ⟨#[]⟩] l.length) 9)) := fun u => by
    have h := run_make (P := Tryd.prog) u 55 9 i0 (.string ⟨#[]⟩) Tryd.underlying55 hi hz0 .i64 .i64 (l.length : Int) (l.length : Int) (by omega) (Int.le_refl _) (by rw [hz2]; omega) (by omega)
    simpa [hz1, Value.cells] using h
  have ht0 : Txs (w.alloc (.cells (madeCells #[.string ⟨#[]⟩] l.length) 9)) w.heap.size l 0 := ⟨_, Blk.new w _ _, size_madeCells _ _, fun _ _ h => absurd h (Nat.not_lt_zero _)⟩
  have hu0 : Below w.heap.size w (w.alloc (.cells (madeCells #[.string ⟨#[]⟩] l.length) 9)) := (Below.refl _ _).alloc (Nat.le_refl _) _
  have hlen := hR.1; have hcap := hR.2.1
  have hmax : maxLen = 9223372036854775807 := rfl
  have HMK := Lib.hid (hmk w); have HT0 := Lib.hid ht0; have HU0 := Lib.hid hu0; have HR := Lib.hid hR
  clear hmk ht0 hu0 hR hi hz0 hz1 hz2
  go_enter Tryd.func11, Tryd.ntmps11
  go_wp2_with fail
  rw [HMK.out]
  simp only [Result.andThen]
  rw [Oper.upon_value]
  go_wp2_with fail
  go_loopg [11] (l.length + 1) (fun gg s11 wr => ∃ k : Nat, k ≤ l.length ∧ gg = l.length + 1 - k ∧ s11 = .int .i64 (k : Int) ∧ Txs wr w.heap.size l k ∧ Below w.heap.size w wr)
  case atStart => exact ⟨0, Nat.zero_le _, by omega, rfl, HT0.out, HU0.out⟩
  case round =>
    clear HT0 HU0 HMK
    obtain ⟨k, hk, hg, rfl, ht, hu⟩ := hrel
    have HG := Lib.hid hg; have HT := Lib.hid ht; have HU := Lib.hid hu
    clear hg ht hu
    by_cases hlt : k < l.length
    · have hltz : (k : Int) < (l.length : Int) := by omega
      obtain ⟨b', off, rfl, hb', c0, c1, c2, c3⟩ := (HR.out.under HU.out).2.2 k hlt
      have hsz := text_bulk hlt
      have HTX := Lib.hid (HT.out.alloc (.cells #[.int .i64 l[k].line, .int .i64 l[k].col, .int .u8 (l[k].kind : Int), .string l[k].text] 44))
      have hbx := Blk.new wr 44 #[.int .i64 l[k].line, .int .i64 l[k].col, .int .u8 (l[k].kind : Int), .string l[k].text]
      have HUA := Lib.hid (HU.out.alloc (by have := HU.out.size; omega) (.cells #[.int .i64 l[k].line, .int .i64 l[k].col, .int .u8 (l[k].kind : Int), .string l[k].text] 44))
      have hsh := shown_c l[k] (by omega) (wr.alloc (.cells #[.int .i64 l[k].line, .int .i64 l[k].col, .int .u8 (l[k].kind : Int), .string l[k].text] 44))
      unfold tv at hsh
      have HSH := Lib.hid hsh
      have d0 := hbx.cell 0; have d1 := hbx.cell 1; have d2 := hbx.cell 2; have d3 := hbx.cell 3
      simp at d0 d1 d2 d3
      clear hbx hsh hsz
      go_wp2_with fail
      refine HSH.out.mono ?_
      rintro e w2 ⟨rfl, hb2⟩
      have ht2 := HTX.out.under hb2
      have HP := Lib.hid (ht2.put hlt)
      have HU2 := Lib.hid (HUA.out.trans (hb2.mono HUA.out.size))
      obtain ⟨cs, hcb, hcs, _⟩ := ht2
      have x0 : w2.cell? ⟨w.heap.size, k, none⟩ = some (cs[k]'(by omega)) := by rw [hcb.cell]; simp
      have x1 := hcb.frozen k
      clear hb2 hcb
      go_wp2_with fail
      go_roundg (l.length + 1 - (k + 1))
      case measure => have := HG.out; omega
      case rel =>
        refine ⟨k + 1, by omega, rfl, by go_num, HP.out, ?_⟩
        exact HU2.out.setCell (p := ⟨w.heap.size, k, none⟩) (Nat.le_refl _) _
    · have hltz : ¬ (k : Int) < (l.length : Int) := by omega
      obtain rfl : k = l.length := by omega
      have hjn : Calls Tryd.prog 23 #[.slice (some ⟨w.heap.size, 0, none⟩) l.length l.length, .string ⟨#[32]⟩] wr fun e w' => e = .returned (.string ⟨(show_ l).toArray⟩) ∧ Below wr.heap.size wr w' := by
        obtain ⟨cs, hcb, hcs, hce⟩ := HT.out
        have e0 : (l.map fun t => (⟨t.shown.toArray⟩ : ByteArray)).map (·.data.toList) = l.map T.shown := by simp [List.map_map, Function.comp_def]
        have hj := Tryd.strings_Join w.heap.size 0 l.length (l.map fun t => (⟨t.shown.toArray⟩ : ByteArray)) ⟨#[32]⟩ wr (fun j x hx => by
          rw [List.getElem?_map] at hx
          obtain ⟨t, ht, rfl⟩ := Option.map_eq_some_iff.1 hx
          obtain ⟨hjl, rfl⟩ := List.getElem?_eq_some_iff.1 ht
          rw [Nat.zero_add, hcb.cell]
          exact hce j hjl hjl) hcb.lt (by rw [List.length_map]; omega) (by rw [List.length_map]; exact Nat.le_refl _) (by
          rw [e0, show (⟨#[32]⟩ : ByteArray).data.toList = [32] from rfl, join_show]
          have := show_len l; omega)
        rw [e0, show (⟨#[32]⟩ : ByteArray).data.toList = [32] from rfl, join_show, List.length_map] at hj
        exact hj
      have HJ := Lib.hid hjn
      clear hjn
      go_wp2_with fail
      refine HJ.out.mono ?_
      rintro e w2 ⟨rfl, hb2⟩
      have HU2 := Lib.hid (HU.out.trans (hb2.mono HU.out.size))
      clear hb2
      go_wp2_with fail
      go_ret
      exact ⟨rfl, HU2.out⟩
end Go.Proofs.YteppdnlchjpekaaDoor
