/- Package lex: a text in quotes. -/
import Derived.Test.YteppdnlchjpekaaDoorLm
namespace Go.Proofs.YteppdnlchjpekaaDoor
open Go.RowKit Lx
open Go
attribute [local go_sem] Oper.semAt_some

theorem byteCells_app (a c : List UInt8) : Lib.byteCells (a ++ c) = Lib.byteCells a ++ Lib.byteCells c := by simp [Lib.byteCells]
theorem strCells_eq (s : ByteArray) : Lib.strCells s = Lib.byteCells s.data.toList := by simp [Lib.strCells]; rfl
theorem byteCells_len (a : List UInt8) : (Lib.byteCells a).length = a.length := by simp [Lib.byteCells]
theorem size_list (s : ByteArray) : s.size = s.data.toList.length := by rw [Array.length_toList]; rfl
theorem ownsRow_under {B : Nat} {e : TypeId} {k : Nat} {v : Value} {n : Nat} {xs : List Value} {w w' : World} (h : w.ownsRow B e k v n xs) (hb : Below w.heap.size w w') : w'.ownsRow B e k v n xs := by
  obtain ⟨h1, h2⟩ := h
  refine ⟨h1, h2.imp id ?_⟩
  rintro ⟨g, cap, cur, e1, e2, e3, e4⟩
  have hlt : g < w.heap.size := by
    rcases Nat.lt_or_ge g w.heap.size with h' | h'
    · exact h'
    · simp [Array.getElem?_eq_none h'] at e3
  exact ⟨g, cap, cur, e1, e2, (hb.block g hlt).trans e3, e4⟩
theorem builder_under {T e : TypeId} {B b : Nat} {bs : List Value} {w w' : World} (h : Lib.IsBuilder T e B b bs w) (hbl : Below w.heap.size w w') : Lib.IsBuilder T e B b bs w' := by
  have aux : ∀ p, Lib.BuilderAt T e B b p bs w → Lib.BuilderAt T e B b p bs w' := by
    rintro p ⟨hB, v, hb, hown, hne⟩
    have hlt : b < w.heap.size := by
      rcases Nat.lt_or_ge b w.heap.size with h' | h'
      · exact h'
      · simp [Array.getElem?_eq_none h'] at hb
    exact ⟨hB, v, (hbl.block b hlt).trans hb, ownsRow_under hown hbl, hne⟩
  exact h.elim (fun h => .inl (aux _ h)) (fun h => .inr (aux _ h))
/-- The builder at block B holds bs; it and all that it made lie from block B on. -/
def Bld (B : Nat) (bs : List UInt8) (W : World) : Prop := Lib.IsBuilder 60 5 B B (Lib.byteCells bs) W ∧ B ≤ W.heap.size
theorem Bld.under {B : Nat} {bs : List UInt8} {W W' : World} (h : Bld B bs W) (hb : Below W.heap.size W W') : Bld B bs W' := ⟨builder_under h.1 hb, Nat.le_trans h.2 hb.size⟩
theorem bld_new (w : World) : Bld w.heap.size [] (w.alloc (.cells #[.pointer none, .slice none 0 0] 60)) :=
  ⟨.inl ⟨Nat.le_refl _, .slice none 0 0, heap_alloc_new w _, ⟨rfl, .inl ⟨rfl, rfl⟩⟩, by simp [Value.ownBlock]⟩, by simp⟩
theorem bld_byte {B : Nat} {bs : List UInt8} {W : World} (c : UInt8) (h : Bld B bs W) (hl : bs.length ≤ 1000000000) :
    Calls Tryd.prog 24 #[.pointer (some ⟨B, 0, none⟩), .int .u8 (c.toNat : Int)] W fun e w' => e = .returned .nilIface ∧ Bld B (bs ++ [c]) w' ∧ Below B W w' := by
  refine (wbyte B B (Lib.byteCells bs) c.toNat W h.1 (by rw [byteCells_len]; omega) h.2).mono ?_
  rintro e w' ⟨rfl, h1, h2, _⟩
  refine ⟨rfl, ⟨?_, Nat.le_trans h.2 h2.size⟩, h2⟩
  rw [byteCells_app]; exact h1
theorem bld_str {B : Nat} {bs : List UInt8} {W : World} (s : ByteArray) (h : Bld B bs W) (hl : bs.length + s.size ≤ 1000000000) :
    Calls Tryd.prog 25 #[.pointer (some ⟨B, 0, none⟩), .string s] W fun e w' => e = .returned (.tuple #[.int .i64 s.size, .nilIface]) ∧ Bld B (bs ++ s.data.toList) w' ∧ Below B W w' := by
  refine (wstr B B (Lib.byteCells bs) s W h.1 (by rw [byteCells_len]; omega) h.2).mono ?_
  rintro e w' ⟨rfl, h1, h2, _⟩
  refine ⟨rfl, ⟨?_, Nat.le_trans h.2 h2.size⟩, h2⟩
  rw [byteCells_app, ← strCells_eq]; exact h1

set_option maxRecDepth 100000 in
set_option maxHeartbeats 4000000 in
theorem quote_c (s : ByteArray) (hs : s.size ≤ 20000000) (w : World) :
    Calls Tryd.prog 12 #[.string s] w fun e w' => e = .returned (.string ⟨(quo s.data.toList).toArray⟩) ∧ Below w.heap.size w w' := by
  have hbn := bld_new w
  have hb0 : Below w.heap.size w (w.alloc (.cells #[.pointer none, .slice none 0 0] 60)) := (Below.refl _ _).alloc (Nat.le_refl _) _
  have hw1 := bld_byte 34 hbn (by simp)
  have HW1 := Lib.hid hw1; have HB0 := Lib.hid hb0
  clear hbn hb0 hw1
  go_enter Tryd.func12, Tryd.ntmps12
  go_wp2_with fail
  refine HW1.out.mono ?_
  rintro e w1 ⟨rfl, hb1, hu1⟩
  have HB1 := Lib.hid hb1; have HU1 := Lib.hid (HB0.out.trans hu1)
  clear hb1 hu1
  go_wp2_with fail
  go_loopg [8] (s.size + 1) (fun gg s8 wr => ∃ k : Nat, k ≤ s.size ∧ gg = s.size + 1 - k ∧ s8 = .int .i64 (k : Int) ∧ Bld w.heap.size (34 :: mks (s.data.toList.take k)) wr ∧ Below w.heap.size w wr)
  case atStart => exact ⟨0, Nat.zero_le _, by omega, rfl, HB1.out, HU1.out⟩
  case round =>
    clear HB1 HU1 HW1 HB0
    obtain ⟨k, hk, hg, rfl, hb, hu⟩ := hrel
    have HG := Lib.hid hg; have HB := Lib.hid hb; have HU := Lib.hid hu
    clear hg hb hu
    by_cases hlt : k < s.size
    · have hltz : (k : Int) < (s.size : Int) := by omega
      have htk : s.data.toList.take (k + 1) = s.data.toList.take k ++ [s[k]] := List.take_succ_eq_append_getElem (by rw [← size_list]; exact hlt)
      have hmk := mks_snoc (s.data.toList.take k) s[k]
      rw [← htk] at hmk
      have hml := mks_len (s.data.toList.take k)
      have hmc := mk_len s[k]
      have htl : (s.data.toList.take k).length = k := by rw [List.length_take, ← size_list]; omega
      have hln : (34 :: mks (s.data.toList.take k)).length + (⟨(mk s[k]).toArray⟩ : ByteArray).size ≤ 1000000000 := by
        have : (⟨(mk s[k]).toArray⟩ : ByteArray).size = (mk s[k]).length := by rw [size_list]
        rw [this, List.length_cons]; omega
      have HC := Lib.hid (mark_c s[k] wr)
      have HMK := Lib.hid hmk; have HLN := Lib.hid hln
      clear htk hmk hml hmc htl hln
      go_wp2_with fail
      refine HC.out.mono ?_
      rintro e w2 ⟨rfl, hb2⟩
      have HB2 := Lib.hid (HB.out.under hb2)
      have HU2 := Lib.hid (HU.out.trans (hb2.mono HB.out.2))
      have HST := Lib.hid (bld_str ⟨(mk s[k]).toArray⟩ HB2.out HLN.out)
      clear hb2
      go_wp2_with fail
      refine HST.out.mono ?_
      rintro e w3 ⟨rfl, hb3, hu3⟩
      have HB3 := Lib.hid hb3; have HU3 := Lib.hid (HU2.out.trans hu3)
      clear hb3 hu3
      go_wp2_with fail
      go_roundg (s.size + 1 - (k + 1))
      case measure => have := HG.out; omega
      case rel =>
        refine ⟨k + 1, by omega, rfl, by go_num, ?_, HU3.out⟩
        rw [HMK.out]
        exact HB3.out
    · have hltz : ¬ (k : Int) < (s.size : Int) := by omega
      obtain rfl : k = s.size := by omega
      have htk : s.data.toList.take s.size = s.data.toList := by rw [size_list, List.take_length]
      have hml := mks_len s.data.toList
      rw [htk] at HB
      have HST := Lib.hid (bld_byte 34 HB.out (by rw [List.length_cons]; rw [← size_list] at hml; omega))
      clear htk hml
      go_wp2_with fail
      refine HST.out.mono ?_
      rintro e w3 ⟨rfl, hb3, hu3⟩
      have HU3 := Lib.hid (HU.out.trans hu3)
      have HSS := Lib.hid (Tryd.Builder_String_any w.heap.size w.heap.size _ w3 hb3.1 hb3.2)
      clear hb3 hu3
      go_wp2_with fail
      refine HSS.out.mono ?_
      rintro e w4 ⟨rfl, hu4⟩
      have HU4 := Lib.hid (HU3.out.trans hu4)
      clear hu4
      go_wp2_with fail
      go_ret
      exact ⟨rfl, HU4.out⟩
end Go.Proofs.YteppdnlchjpekaaDoor
