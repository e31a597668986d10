/- Package value: the text of any value that may be: the functions that write it. -/
import Derived.Test.YtibpebhepoeikaaDoorBb
import Derived.Test.YtibpebhepoeikaaDoorXa
import Derived.Lib.ItoaLen
import Derived.Lib.LaidTab
import Derived.Lib.AppendIntMem
namespace Go.Proofs.YtibpebhepoeikaaDoor
open Go.RowKit Vp
open Go
namespace Tx
attribute [local go_sem] Oper.semAt_some

/-- What the writing functions share. -/
def St (B b p4 p5 : Nat) (bs : List UInt8) (W : World) : Prop :=
  Lib.IsBuilder 75 5 B b (Lib.byteCells bs) W ∧ Blk W p4 76 #[.func (.func 48) #[] #[.pointer (some ⟨b, 0, none⟩), .pointer (some ⟨p5, 0, none⟩)]] ∧
    Blk W p5 59 #[.func (.func 45) #[] #[.pointer (some ⟨b, 0, none⟩), .pointer (some ⟨p4, 0, none⟩)]] ∧ B ≤ W.heap.size
theorem builder_alloc {T e : TypeId} {B b : Nat} {bs : List Value} {w : World} (h : Lib.IsBuilder T e B b bs w) (o : Obj) : Lib.IsBuilder T e B b bs (w.alloc o) := by
  have aux : ∀ p, Lib.BuilderAt T e B b p bs w → Lib.BuilderAt T e B b p bs (w.alloc o) := by
    rintro p ⟨hB, v, hb, hown, hne⟩
    have hlt : b < w.heap.size := by
      rcases Nat.lt_or_ge b w.heap.size with h' | h'
      · exact h'
      · simp [Array.getElem?_eq_none h'] at hb
    exact ⟨hB, v, (Below.heap_alloc w o b hlt).trans hb, hown.alloc o, hne⟩
  exact h.elim (fun h => .inl (aux _ h)) (fun h => .inr (aux _ h))
theorem builder_ne {T e : TypeId} {B b g : Nat} {bs : List Value} {w : World} {t : TypeId} {cs : Array Value} (h : Lib.IsBuilder T e B b bs w) (hg : Blk w g t cs) (hne : t ≠ T) : g ≠ b := by
  rintro rfl
  unfold Blk at hg
  rcases h with ⟨_, v, hb, _⟩ | ⟨_, v, hb, _⟩ <;> (rw [hg] at hb; injection hb with hb; injection hb with _ h2; exact hne h2)
theorem kept_blk {b g : Nat} {w w' : World} {t : TypeId} {cs : Array Value} (h : Lib.OthersKept 5 (some b) w w') (hg : Blk w g t cs) (hne : t ≠ 5) (hgb : g ≠ b) : Blk w' g t cs :=
  h g _ hg (by simpa using hgb) (fun c fz he => by injection he with _ h2; exact hne h2)
theorem St.alloc {B b p4 p5 : Nat} {bs : List UInt8} {W : World} (h : St B b p4 p5 bs W) (o : Obj) : St B b p4 p5 bs (W.alloc o) :=
  ⟨builder_alloc h.1 o, h.2.1.alloc o, h.2.2.1.alloc o, by have := h.2.2.2; simp; omega⟩
theorem St.writ {B b p4 p5 : Nat} {bs bs' : List UInt8} {W W' : World} (h : St B b p4 p5 bs W) (hb : Lib.IsBuilder 75 5 B b (Lib.byteCells bs') W') (hB : Below B W W') (hk : Lib.OthersKept 5 (some b) W W') : St B b p4 p5 bs' W' :=
  ⟨hb, kept_blk hk h.2.1 (by decide) (builder_ne h.1 h.2.1 (by decide)), kept_blk hk h.2.2.1 (by decide) (builder_ne h.1 h.2.2.1 (by decide)), Nat.le_trans h.2.2.2 hB.size⟩
theorem byteCells_app (a c : List UInt8) : Lib.byteCells (a ++ c) = Lib.byteCells a ++ Lib.byteCells c := by simp [Lib.byteCells]
theorem strCells_eq (s : ByteArray) : Lib.strCells s = Lib.byteCells s.data.toList := by simp [Lib.strCells]; rfl
theorem byteCells_len (a : List UInt8) : (Lib.byteCells a).length = a.length := by simp [Lib.byteCells]

theorem st_byte {B b p4 p5 : Nat} {bs : List UInt8} {W : World} (c : UInt8) (h : St B b p4 p5 bs W) (hl : bs.length ≤ 1000000000) :
    Calls Tryd.prog 46 #[.pointer (some ⟨b, 0, none⟩), .int .u8 (c.toNat : Int)] W fun e w' => e = .returned .nilIface ∧ St B b p4 p5 (bs ++ [c]) w' ∧ Below B W w' ∧ Lib.OthersKept 5 (some b) W w' := by
  refine (wbyte B b (Lib.byteCells bs) c.toNat W h.1 (by rw [byteCells_len]; omega) h.2.2.2).mono ?_
  rintro e w' ⟨rfl, h1, h2, h3⟩
  refine ⟨rfl, h.writ ?_ h2 h3, h2, h3⟩
  rw [byteCells_app]; exact h1
theorem st_str {B b p4 p5 : Nat} {bs : List UInt8} {W : World} (s : ByteArray) (h : St B b p4 p5 bs W) (hl : bs.length + s.data.toList.length ≤ 1000000000) :
    Calls Tryd.prog 47 #[.pointer (some ⟨b, 0, none⟩), .string s] W fun e w' => e = .returned (.tuple #[.int .i64 s.size, .nilIface]) ∧ St B b p4 p5 (bs ++ s.data.toList) w' ∧ Below B W w' ∧ Lib.OthersKept 5 (some b) W w' := by
  refine (wstr B b (Lib.byteCells bs) s W h.1 (by rw [byteCells_len, vsize_len]; omega) h.2.2.2).mono ?_
  rintro e w' ⟨rfl, h1, h2, h3⟩
  refine ⟨rfl, h.writ ?_ h2 h3, h2, h3⟩
  rw [byteCells_app, ← strCells_eq]; exact h1

theorem ownsRow_under {B : Nat} {e : TypeId} {k : Nat} {v : Value} {n : Nat} {xs : List Value} {w w' : World} (h : w.ownsRow B e k v n xs) (hb : Below w.heap.size w w') : w'.ownsRow B e k v n xs := by
  obtain ⟨h1, h2⟩ := h
  refine ⟨h1, h2.imp id ?_⟩
  rintro ⟨g, cap, cur, e1, e2, e3, e4⟩
  have hlt : g < w.heap.size := by
    rcases Nat.lt_or_ge g w.heap.size with h' | h'
    · exact h'
    · simp [Array.getElem?_eq_none h'] at e3
  exact ⟨g, cap, cur, e1, e2, (hb.block g hlt).trans e3, e4⟩
theorem builder_under {T e : TypeId} {B b : Nat} {bs : List Value} {w w' : World} (h : Lib.IsBuilder T e B b bs w) (hbl : Below w.heap.size w w') : Lib.IsBuilder T e B b bs w' := by
  have aux : ∀ p, Lib.BuilderAt T e B b p bs w → Lib.BuilderAt T e B b p bs w' := by
    rintro p ⟨hB, v, hb, hown, hne⟩
    have hlt : b < w.heap.size := by
      rcases Nat.lt_or_ge b w.heap.size with h' | h'
      · exact h'
      · simp [Array.getElem?_eq_none h'] at hb
    exact ⟨hB, v, (hbl.block b hlt).trans hb, ownsRow_under hown hbl, hne⟩
  exact h.elim (fun h => .inl (aux _ h)) (fun h => .inr (aux _ h))
theorem kept_under {e : TypeId} {b : Option Nat} {a w w' : World} (h : Lib.OthersKept e b a w) (hbl : Below w.heap.size w w') : Lib.OthersKept e b a w' := fun g o hg h1 h2 => by
  have h3 := h g o hg h1 h2
  have hlt : g < w.heap.size := by
    rcases Nat.lt_or_ge g w.heap.size with h' | h'
    · exact h'
    · simp [Array.getElem?_eq_none h'] at h3
  exact (hbl.block g hlt).trans h3
theorem St.under {B b p4 p5 : Nat} {bs : List UInt8} {W W' : World} (h : St B b p4 p5 bs W) (hb : Below W.heap.size W W') : St B b p4 p5 bs W' :=
  ⟨builder_under h.1 hb, h.2.1.below hb h.2.1.lt, h.2.2.1.below hb h.2.2.1.lt, Nat.le_trans h.2.2.2 hb.size⟩
/-- The table of the powers of ten stays. -/
def TabF (B : Nat) (W : World) : Prop := ∀ W', Below B W W' → Lib.TabIs Tryd.prog W' "internal/strconv.uint64pow10" .u64 Lib.pow10Tab
theorem TabF.below {B : Nat} {W W' : World} (h : TabF B W) (hb : Below B W W') : TabF B W' := fun W2 h2 => h W2 (hb.trans h2)

/-- What the function that writes a value is asked for. -/
def Writes (B b p4 p5 : Nat) (t : V) : Prop := ∀ (u : Value) (bs : List UInt8) (W : World), VRep W B t u → TabF B W → St B b p4 p5 bs W → bs.length + (txtV t).length ≤ 900000000 →
  Calls Tryd.prog 48 #[u, .pointer (some ⟨b, 0, none⟩), .pointer (some ⟨p5, 0, none⟩)] W fun e w' => e = .returned (.tuple #[]) ∧ St B b p4 p5 (bs ++ txtV t) w' ∧ Below B W w' ∧ Lib.OthersKept 5 (some b) W w'

set_option maxRecDepth 100000 in
set_option maxHeartbeats 2000000 in
theorem list_c (B b p4 p5 : Nat) (l : List V) (hw : ∀ t ∈ l, Writes B b p4 p5 t) (A : Option Addr) (c : Nat) (bs : List UInt8) (W : World) (hR : RRep W B l A c) (hTF : TabF B W) (hS : St B b p4 p5 bs W) (hlen : bs.length + (txtR false l).length + 2 ≤ 900000000) :
    Calls Tryd.prog 45 #[.slice A l.length c, .pointer (some ⟨b, 0, none⟩), .pointer (some ⟨p4, 0, none⟩)] W fun e w' => e = .returned (.tuple #[]) ∧ St B b p4 p5 (bs ++ (40 :: (txtR false l ++ [41]))) w' ∧ Below B W w' ∧ Lib.OthersKept 5 (some b) W w' := by
  have hmm := hR.1; have hmc := hR.2.1
  have hmax : maxLen = 9223372036854775807 := rfl
  have HRR := Lib.hid hR; have HS := Lib.hid hS; have HW := Lib.hid hw; have HTF := Lib.hid hTF
  clear hR hS hw hTF
  go_enter Tryd.func45, Tryd.ntmps45
  go_wp2_with fail
  refine (st_byte 40 HS.out (by omega)).mono ?_
  rintro e w1 ⟨rfl, hs1, hb1, hk1⟩
  have HS1 := Lib.hid hs1; have HB1 := Lib.hid hb1; have HK1 := Lib.hid hk1
  clear hs1 hb1 hk1
  go_wp2_with fail
  go_loopg [9] (l.length + 1) (fun gg s9 wr => ∃ k : Nat, k ≤ l.length ∧ gg = l.length + 1 - k ∧ s9 = .int .i64 (k : Int) ∧ St B b p4 p5 (bs ++ [40] ++ txtR false (l.take k)) wr ∧ Below B W wr ∧ Lib.OthersKept 5 (some b) W wr)
  case atStart => exact ⟨0, Nat.zero_le _, by omega, rfl, by rw [List.take_zero, txtR, List.append_nil]; exact HS1.out, HB1.out, HK1.out⟩
  case round =>
    obtain ⟨k, hk, hg, rfl, hs, hb, hkp⟩ := hrel
    have HG := Lib.hid hg; have HS2 := Lib.hid hs; have HB2 := Lib.hid hb; have HK2 := Lib.hid hkp
    obtain ⟨wo, hwo⟩ : ∃ wo, wo = wr := ⟨_, rfl⟩
    subst hwo
    clear hg hs hb hkp
    have hlk := txtR_take false l k
    by_cases hlt : k < l.length
    · have hltz : (k : Int) < (l.length : Int) := by omega
      obtain ⟨b', off, rfl, hb', kk, n, s, lx, Ax, cx, ht, hv, c0, c1, c2, c3⟩ := (HRR.out.under HB2.out).at_ hlt
      have htk : l.take (k + 1) = l.take k ++ [l[k]] := List.take_succ_eq_append_getElem hlt
      have hsn := txtR_snoc l[k] (l.take k) false
      rw [← htk] at hsn
      have hlk1 := txtR_take false l (k + 1)
      rw [hsn, List.length_append, List.length_append] at hlk1
      have hwr := HW.out l[k] (List.getElem_mem hlt)
      have HV := Lib.hid hv; have HT := Lib.hid ht
      clear ht hv htk
      generalize l[k] = tt at HV HT hsn hlk1 hwr
      have hbx := Blk.new wo 42 #[.int .u8 (kk : Int), .int .i64 n, .string s, .slice Ax lx.length cx]
      have HBX := Lib.hid hbx; have HWR := Lib.hid hwr; have HSN := Lib.hid hsn
      have HS3 := Lib.hid (HS2.out.alloc (.cells #[.int .u8 (kk : Int), .int .i64 n, .string s, .slice Ax lx.length cx] 42)); have HB3 := Lib.hid (HB2.out.alloc HS2.out.2.2.2 (.cells #[.int .u8 (kk : Int), .int .i64 n, .string s, .slice Ax lx.length cx] 42)); have HK3 := Lib.hid (HK2.out.alloc (.cells #[.int .u8 (kk : Int), .int .i64 n, .string s, .slice Ax lx.length cx] 42))
      have HV3 := Lib.hid (HV.out.under ((Below.refl wo.heap.size wo).alloc (Nat.le_refl _) (.cells #[.int .u8 (kk : Int), .int .i64 n, .string s, .slice Ax lx.length cx] 42) |>.mono HS2.out.2.2.2))
      clear hbx hwr hsn
      by_cases hk0 : k = 0
      · subst hk0
        simp at c0 c1 c2 c3
        have hp := HS3.out.2.1.cell 0
        simp at hp
        have d0 := HBX.out.cell 0; have d1 := HBX.out.cell 1; have d2 := HBX.out.cell 2; have d3 := HBX.out.cell 3
        simp at d0 d1 d2 d3
        have hln : (bs ++ [40] ++ txtR false (l.take 0)).length + (txtV tt).length ≤ 900000000 := by
          simp [txtR] at hlk1 ⊢; omega
        have HLN := Lib.hid hln
        clear hln hlk hlk1
        go_wp2_with fail
        refine (HWR.out _ _ _ HV3.out (HTF.out.below HB3.out) HS3.out HLN.out).mono ?_
        rintro e w5 ⟨rfl, hs5, hb5, hk5⟩
        have HS5 := Lib.hid hs5; have HB5 := Lib.hid (HB3.out.trans hb5); have HK5 := Lib.hid (HK3.out.trans hk5)
        clear hs5 hb5 hk5
        go_wp2_with fail
        go_roundg (l.length + 1 - (0 + 1))
        case measure => have := HG.out; omega
        case rel =>
          refine ⟨0 + 1, by omega, rfl, by go_num, ?_, HB5.out, HK5.out⟩
          rw [HSN.out]
          have := HS5.out
          simpa [txtR, List.append_assoc] using this
      · have hk1 : (0 : Int) < (k : Int) := by omega
        have hnil : (l.take k).isEmpty = false := by
          cases h : l.take k with
          | nil => have := congrArg List.length h; rw [List.length_take] at this; simp only [List.length_nil] at this; omega
          | cons => rfl
        have HN := Lib.hid hnil
        have HHL := Lib.hid hlk1
        rw [hnil] at hlk1
        have hst := st_str (s := ⟨#[44, 32]⟩) HS3.out (by
          have h2 : (⟨#[44, 32]⟩ : ByteArray).data.toList.length = 2 := rfl
          have h3 : (if (false || !false) = true then ([44, 32] : List UInt8) else []).length = 2 := rfl
          have h4 : (bs ++ [40] ++ txtR false (l.take k)).length = bs.length + 1 + (txtR false (l.take k)).length := by simp; omega
          rw [h2, h4]; rw [h3] at hlk1; omega)
        have HST := Lib.hid hst
        clear hst hnil hlk hlk1
        go_wp2_with fail
        refine HST.out.mono ?_
        rintro e w4 ⟨rfl, hs4, hb4, hk4⟩
        have HS4 := Lib.hid hs4; have HB4 := Lib.hid (HB3.out.trans hb4); have HK4 := Lib.hid (HK3.out.trans hk4)
        have hx4 := kept_blk hk4 HBX.out (by decide) (builder_ne HS3.out.1 HBX.out (by decide))
        have HV4 := Lib.hid (HV3.out.under hb4)
        have hp := hs4.2.1.cell 0
        simp at hp
        have d0 := hx4.cell 0; have d1 := hx4.cell 1; have d2 := hx4.cell 2; have d3 := hx4.cell 3
        simp at d0 d1 d2 d3
        have hln : (bs ++ [40] ++ txtR false (l.take k) ++ [44, 32]).length + (txtV tt).length ≤ 900000000 := by
          have h1 := HHL.out
          rw [HN.out] at h1
          simp at h1 ⊢; omega
        have HLN := Lib.hid hln
        clear hs4 hb4 hk4 hx4 hln
        go_wp2_with fail
        refine (HWR.out _ _ _ HV4.out (HTF.out.below HB4.out) HS4.out HLN.out).mono ?_
        rintro e w5 ⟨rfl, hs5, hb5, hk5⟩
        have HS5 := Lib.hid hs5; have HB5 := Lib.hid (HB4.out.trans hb5); have HK5 := Lib.hid (HK4.out.trans hk5)
        clear hs5 hb5 hk5
        go_wp2_with fail
        go_roundg (l.length + 1 - (k + 1))
        case measure => have := HG.out; omega
        case rel =>
          refine ⟨k + 1, by omega, rfl, by go_num, ?_, HB5.out, HK5.out⟩
          rw [HSN.out, HN.out]
          have := HS5.out
          simpa [List.append_assoc] using this
    · have hltz : ¬ (k : Int) < (l.length : Int) := by omega
      obtain rfl : k = l.length := by omega
      have hst := st_byte 41 HS2.out (by rw [List.take_length] at hlk ⊢; simp; omega)
      rw [List.take_length] at hst
      have HST := Lib.hid hst
      clear hst hlk
      go_wp2_with fail
      refine HST.out.mono ?_
      rintro e w4 ⟨rfl, hs4, hb4, hk4⟩
      have HS4 := Lib.hid hs4; have HB4 := Lib.hid (HB2.out.trans hb4); have HK4 := Lib.hid (HK2.out.trans hk4)
      clear hs4 hb4 hk4
      go_wp2_with fail
      refine bodyPost_end (results_none rfl _ _ _) rfl ?_
      exact ⟨rfl, by simpa [List.append_assoc] using HS4.out, HB4.out, HK4.out⟩


theorem fmt_int (n : Int) (h0 : -9223372036854775808 ≤ n) (h1 : n ≤ 9223372036854775807) (w : World) (htab : Lib.TabIs Tryd.prog w "internal/strconv.uint64pow10" .u64 Lib.pow10Tab) :
    Calls Tryd.prog 50 #[.int .i64 n, .int .i64 10] w fun e w' => e = .returned (.string ⟨(Lib.itoa n).toArray⟩) ∧ Below w.heap.size w w' := by
  refine (Tryd.strconv_FormatInt_10 n h0 h1 w htab).mono ?_
  rintro e w' ⟨rfl, k, os, rfl⟩
  exact ⟨rfl, Lib.below_grow _ _ (Nat.le_refl _) k os⟩

theorem hex_fin : ∀ i : Fin 16, (⟨#[48, 49, 50, 51, 52, 53, 54, 55, 56, 57, 97, 98, 99, 100, 101, 102]⟩ : ByteArray)[i.val] = hexd i.val := by decide +kernel
theorem hex_tab (i : Nat) (h : i < (⟨#[48, 49, 50, 51, 52, 53, 54, 55, 56, 57, 97, 98, 99, 100, 101, 102]⟩ : ByteArray).size) : (⟨#[48, 49, 50, 51, 52, 53, 54, 55, 56, 57, 97, 98, 99, 100, 101, 102]⟩ : ByteArray)[i] = hexd i := hex_fin ⟨i, h⟩
theorem quote_at (s : ByteArray) {k : Nat} (h : k < s.size) : quoteL (s.data.toList.take (k + 1)) = quoteL (s.data.toList.take k) ++ quoteB s[k] := by
  rw [List.take_succ_eq_append_getElem (by simpa using h), quoteL_snoc]; rfl

set_option maxRecDepth 100000 in
set_option maxHeartbeats 4000000 in
theorem quoted_c (B b p4 p5 : Nat) (s : ByteArray) (hs : s.size ≤ maxLen) (bs : List UInt8) (W : World) (hS : St B b p4 p5 bs W) (hlen : bs.length + (quoteL s.data.toList).length + 2 ≤ 900000000) :
    Calls Tryd.prog 51 #[.pointer (some ⟨b, 0, none⟩), .string s] W fun e w' => e = .returned (.tuple #[]) ∧ St B b p4 p5 (bs ++ (34 :: (quoteL s.data.toList ++ [34]))) w' ∧ Below B W w' ∧ Lib.OthersKept 5 (some b) W w' := by
  have hmax : maxLen = 9223372036854775807 := rfl
  have HS := Lib.hid hS
  have HB0 := Lib.hid (Below.refl B W); have HK0 := Lib.hid (Lib.OthersKept.refl 5 (some b) W)
  have HST := Lib.hid (st_byte 34 HS.out (by omega))
  clear hS
  go_enter Tryd.func51, Tryd.ntmps51
  go_wp2_with fail
  refine HST.out.mono ?_
  rintro e w1 ⟨rfl, hs1, hb1, hk1⟩
  have HS1 := Lib.hid hs1; have HB1 := Lib.hid hb1; have HK1 := Lib.hid hk1
  clear hs1 hb1 hk1
  go_wp2_with fail
  go_loopg [10] (s.size + 1) (fun gg s10 wr => ∃ kk : Nat, kk ≤ s.size ∧ gg = s.size + 1 - kk ∧ s10 = .int .i64 (kk : Int) ∧ St B b p4 p5 (bs ++ [34] ++ quoteL (s.data.toList.take kk)) wr ∧ Below B W wr ∧ Lib.OthersKept 5 (some b) W wr)
  case atStart => exact ⟨0, Nat.zero_le _, by omega, rfl, by rw [List.take_zero, quoteL, List.append_nil]; exact HS1.out, HB1.out, HK1.out⟩
  case round =>
    clear HS1 HB1 HK1 HST HB0 HK0 HS
    obtain ⟨kk, hk, hg, rfl, hs2, hb, hkp⟩ := hrel
    have HG := Lib.hid hg; have HS2 := Lib.hid hs2; have HB2 := Lib.hid hb; have HK2 := Lib.hid hkp
    clear hg hs2 hb hkp
    have htk := quoteL_take s.data.toList kk
    by_cases hlt : kk < s.size
    · have hltz : (kk : Int) < (s.size : Int) := by omega
      have hq1 := quoteL_take s.data.toList (kk + 1)
      have hqa := quote_at s hlt
      have hln : (bs ++ [34] ++ quoteL (s.data.toList.take kk)).length + 4 ≤ 1000000000 := by simp; omega
      have HQA := Lib.hid hqa; have HLN := Lib.hid hln
      have hcl := (s[kk]).toNat_lt
      clear htk hq1 hqa hln
      by_cases c1 : (s[kk].toNat : Int) = 34
      · have HQ := Lib.hid (show quoteB s[kk] = [92, 34] by unfold quoteB; rw [if_pos (by omega)])
        have HA := Lib.hid (st_byte 92 HS2.out (by have := HLN.out; omega))
        clear hcl
        go_wp2_with fail
        refine HA.out.mono ?_
        rintro e w3 ⟨rfl, hs3, hb3, hk3⟩
        have HS3 := Lib.hid hs3; have HB3 := Lib.hid (HB2.out.trans hb3); have HK3 := Lib.hid (HK2.out.trans hk3)
        clear hs3 hb3 hk3
        have HC := Lib.hid (st_byte 34 HS3.out (by have := HLN.out; simp at this ⊢; omega))
        go_wp2_with fail
        refine HC.out.mono ?_
        rintro e w4 ⟨rfl, hs4, hb4, hk4⟩
        have HS4 := Lib.hid hs4; have HB4 := Lib.hid (HB3.out.trans hb4); have HK4 := Lib.hid (HK3.out.trans hk4)
        clear hs4 hb4 hk4
        go_wp2_with fail
        go_roundg (s.size + 1 - (kk + 1))
        case measure => have := HG.out; omega
        case rel =>
          refine ⟨kk + 1, by omega, rfl, by go_num, ?_, HB4.out, HK4.out⟩
          rw [HQA.out, HQ.out]
          have := HS4.out
          simpa [List.append_assoc] using this
      by_cases c2 : (s[kk].toNat : Int) = 92
      · have HQ := Lib.hid (show quoteB s[kk] = [92, 92] by unfold quoteB; rw [if_neg (by omega), if_pos (by omega)])
        have HA := Lib.hid (st_byte 92 HS2.out (by have := HLN.out; omega))
        clear hcl
        go_wp2_with fail
        refine HA.out.mono ?_
        rintro e w3 ⟨rfl, hs3, hb3, hk3⟩
        have HS3 := Lib.hid hs3; have HB3 := Lib.hid (HB2.out.trans hb3); have HK3 := Lib.hid (HK2.out.trans hk3)
        clear hs3 hb3 hk3
        have HC := Lib.hid (st_byte 92 HS3.out (by have := HLN.out; simp at this ⊢; omega))
        go_wp2_with fail
        refine HC.out.mono ?_
        rintro e w4 ⟨rfl, hs4, hb4, hk4⟩
        have HS4 := Lib.hid hs4; have HB4 := Lib.hid (HB3.out.trans hb4); have HK4 := Lib.hid (HK3.out.trans hk4)
        clear hs4 hb4 hk4
        go_wp2_with fail
        go_roundg (s.size + 1 - (kk + 1))
        case measure => have := HG.out; omega
        case rel =>
          refine ⟨kk + 1, by omega, rfl, by go_num, ?_, HB4.out, HK4.out⟩
          rw [HQA.out, HQ.out]
          have := HS4.out
          simpa [List.append_assoc] using this
      by_cases c3 : (s[kk].toNat : Int) = 10
      · have HQ := Lib.hid (show quoteB s[kk] = [92, 110] by unfold quoteB; rw [if_neg (by omega), if_neg (by omega), if_pos (by omega)])
        have HA := Lib.hid (st_str (s := ⟨#[92, 110]⟩) HS2.out (by have := HLN.out; have h2 : (⟨#[92, 110]⟩ : ByteArray).data.toList.length = 2 := rfl; omega))
        clear hcl
        go_wp2_with fail
        refine HA.out.mono ?_
        rintro e w3 ⟨rfl, hs3, hb3, hk3⟩
        have HS3 := Lib.hid hs3; have HB3 := Lib.hid (HB2.out.trans hb3); have HK3 := Lib.hid (HK2.out.trans hk3)
        clear hs3 hb3 hk3
        go_wp2_with fail
        go_roundg (s.size + 1 - (kk + 1))
        case measure => have := HG.out; omega
        case rel =>
          refine ⟨kk + 1, by omega, rfl, by go_num, ?_, HB3.out, HK3.out⟩
          rw [HQA.out, HQ.out]
          have := HS3.out
          simpa [List.append_assoc] using this
      by_cases c4 : (s[kk].toNat : Int) = 9
      · have HQ := Lib.hid (show quoteB s[kk] = [92, 116] by unfold quoteB; rw [if_neg (by omega), if_neg (by omega), if_neg (by omega), if_pos (by omega)])
        have HA := Lib.hid (st_str (s := ⟨#[92, 116]⟩) HS2.out (by have := HLN.out; have h2 : (⟨#[92, 116]⟩ : ByteArray).data.toList.length = 2 := rfl; omega))
        clear hcl
        go_wp2_with fail
        refine HA.out.mono ?_
        rintro e w3 ⟨rfl, hs3, hb3, hk3⟩
        have HS3 := Lib.hid hs3; have HB3 := Lib.hid (HB2.out.trans hb3); have HK3 := Lib.hid (HK2.out.trans hk3)
        clear hs3 hb3 hk3
        go_wp2_with fail
        go_roundg (s.size + 1 - (kk + 1))
        case measure => have := HG.out; omega
        case rel =>
          refine ⟨kk + 1, by omega, rfl, by go_num, ?_, HB3.out, HK3.out⟩
          rw [HQA.out, HQ.out]
          have := HS3.out
          simpa [List.append_assoc] using this
      by_cases c5 : (s[kk].toNat : Int) < 32
      · have HQ := Lib.hid (show quoteB s[kk] = [92, 120, hexd (s[kk].toNat / 16), hexd (s[kk].toNat % 16)] by unfold quoteB; rw [if_neg (by omega), if_neg (by omega), if_neg (by omega), if_neg (by omega), if_pos (by omega)])
        have d1 : ((s[kk].toNat : Int) == 34) = false := by simpa using c1
        have d2 : ((s[kk].toNat : Int) == 92) = false := by simpa using c2
        have d3 : ((s[kk].toNat : Int) == 10) = false := by simpa using c3
        have d4 : ((s[kk].toNat : Int) == 9) = false := by simpa using c4
        clear c1 c2 c3 c4
        have HA := Lib.hid (st_str (s := ⟨#[92, 120]⟩) HS2.out (by have := HLN.out; have h2 : (⟨#[92, 120]⟩ : ByteArray).data.toList.length = 2 := rfl; omega))
        go_wp2_with fail
        refine HA.out.mono ?_
        rintro e w3 ⟨rfl, hs3, hb3, hk3⟩
        have HS3 := Lib.hid hs3; have HB3 := Lib.hid (HB2.out.trans hb3); have HK3 := Lib.hid (HK2.out.trans hk3)
        clear hs3 hb3 hk3
        have HC := Lib.hid (st_byte (hexd (s[kk].toNat / 16)) HS3.out (by have := HLN.out; simp at this ⊢; omega))
        go_wp2_with fail
        rw [hex_tab]
        refine HC.out.mono ?_
        rintro e w4 ⟨rfl, hs4, hb4, hk4⟩
        have HS4 := Lib.hid hs4; have HB4 := Lib.hid (HB3.out.trans hb4); have HK4 := Lib.hid (HK3.out.trans hk4)
        clear hs4 hb4 hk4
        have HD := Lib.hid (st_byte (hexd (s[kk].toNat % 16)) HS4.out (by have := HLN.out; simp at this ⊢; omega))
        go_wp2_with fail
        rw [hex_tab]
        refine HD.out.mono ?_
        rintro e w5 ⟨rfl, hs5, hb5, hk5⟩
        have HS5 := Lib.hid hs5; have HB5 := Lib.hid (HB4.out.trans hb5); have HK5 := Lib.hid (HK4.out.trans hk5)
        clear hs5 hb5 hk5
        go_wp2_with fail
        go_roundg (s.size + 1 - (kk + 1))
        case measure => have := HG.out; omega
        case rel =>
          refine ⟨kk + 1, by omega, rfl, by go_num, ?_, HB5.out, HK5.out⟩
          rw [HQA.out, HQ.out]
          have := HS5.out
          simpa [List.append_assoc] using this
      by_cases c6 : 126 < (s[kk].toNat : Int)
      · have HQ := Lib.hid (show quoteB s[kk] = [92, 120, hexd (s[kk].toNat / 16), hexd (s[kk].toNat % 16)] by unfold quoteB; rw [if_neg (by omega), if_neg (by omega), if_neg (by omega), if_neg (by omega), if_pos (by omega)])
        have d1 : ((s[kk].toNat : Int) == 34) = false := by simpa using c1
        have d2 : ((s[kk].toNat : Int) == 92) = false := by simpa using c2
        have d3 : ((s[kk].toNat : Int) == 10) = false := by simpa using c3
        have d4 : ((s[kk].toNat : Int) == 9) = false := by simpa using c4
        clear c1 c2 c3 c4
        have HA := Lib.hid (st_str (s := ⟨#[92, 120]⟩) HS2.out (by have := HLN.out; have h2 : (⟨#[92, 120]⟩ : ByteArray).data.toList.length = 2 := rfl; omega))
        go_wp2_with fail
        refine HA.out.mono ?_
        rintro e w3 ⟨rfl, hs3, hb3, hk3⟩
        have HS3 := Lib.hid hs3; have HB3 := Lib.hid (HB2.out.trans hb3); have HK3 := Lib.hid (HK2.out.trans hk3)
        clear hs3 hb3 hk3
        have HC := Lib.hid (st_byte (hexd (s[kk].toNat / 16)) HS3.out (by have := HLN.out; simp at this ⊢; omega))
        go_wp2_with fail
        rw [hex_tab]
        refine HC.out.mono ?_
        rintro e w4 ⟨rfl, hs4, hb4, hk4⟩
        have HS4 := Lib.hid hs4; have HB4 := Lib.hid (HB3.out.trans hb4); have HK4 := Lib.hid (HK3.out.trans hk4)
        clear hs4 hb4 hk4
        have HD := Lib.hid (st_byte (hexd (s[kk].toNat % 16)) HS4.out (by have := HLN.out; simp at this ⊢; omega))
        go_wp2_with fail
        rw [hex_tab]
        refine HD.out.mono ?_
        rintro e w5 ⟨rfl, hs5, hb5, hk5⟩
        have HS5 := Lib.hid hs5; have HB5 := Lib.hid (HB4.out.trans hb5); have HK5 := Lib.hid (HK4.out.trans hk5)
        clear hs5 hb5 hk5
        go_wp2_with fail
        go_roundg (s.size + 1 - (kk + 1))
        case measure => have := HG.out; omega
        case rel =>
          refine ⟨kk + 1, by omega, rfl, by go_num, ?_, HB5.out, HK5.out⟩
          rw [HQA.out, HQ.out]
          have := HS5.out
          simpa [List.append_assoc] using this
      · have HQ := Lib.hid (show quoteB s[kk] = [s[kk]] by unfold quoteB; rw [if_neg (by omega), if_neg (by omega), if_neg (by omega), if_neg (by omega), if_neg (by omega)])
        have HA := Lib.hid (st_byte s[kk] HS2.out (by have := HLN.out; omega))
        have d1 : ((s[kk].toNat : Int) == 34) = false := by simpa using c1
        have d2 : ((s[kk].toNat : Int) == 92) = false := by simpa using c2
        have d3 : ((s[kk].toNat : Int) == 10) = false := by simpa using c3
        have d4 : ((s[kk].toNat : Int) == 9) = false := by simpa using c4
        clear c1 c2 c3 c4
        clear hcl
        go_wp2_with fail
        refine HA.out.mono ?_
        rintro e w3 ⟨rfl, hs3, hb3, hk3⟩
        have HS3 := Lib.hid hs3; have HB3 := Lib.hid (HB2.out.trans hb3); have HK3 := Lib.hid (HK2.out.trans hk3)
        clear hs3 hb3 hk3
        go_wp2_with fail
        go_roundg (s.size + 1 - (kk + 1))
        case measure => have := HG.out; omega
        case rel =>
          refine ⟨kk + 1, by omega, rfl, by go_num, ?_, HB3.out, HK3.out⟩
          rw [HQA.out, HQ.out]
          have := HS3.out
          simpa [List.append_assoc] using this
    · have hltz : ¬ (kk : Int) < (s.size : Int) := by omega
      obtain rfl : kk = s.size := by omega
      have hta : s.data.toList.take s.size = s.data.toList := by rw [vsize_len]; exact List.take_length
      rw [hta] at HS2
      have HA := Lib.hid (st_byte 34 HS2.out (by simp; omega))
      clear htk hta
      go_wp2_with fail
      refine HA.out.mono ?_
      rintro e w3 ⟨rfl, hs3, hb3, hk3⟩
      have HS3 := Lib.hid hs3; have HB3 := Lib.hid (HB2.out.trans hb3); have HK3 := Lib.hid (HK2.out.trans hk3)
      clear hs3 hb3 hk3
      go_wp2_with fail
      refine bodyPost_end (results_none rfl _ _ _) rfl ?_
      exact ⟨rfl, by simpa [List.append_assoc] using HS3.out, HB3.out, HK3.out⟩

set_option maxRecDepth 100000 in
set_option maxHeartbeats 4000000 in
theorem write_c (B b p4 p5 : Nat) : ∀ t : V, fine t = true → Writes B b p4 p5 t := by
  intro t
  induction t using V.ind with
  | h k n s l ih =>
    intro hok u bs W hv hTF hS hlen
    obtain ⟨hbad, hfl⟩ := fine_of hok
    have hw : ∀ t ∈ l, Writes B b p4 p5 t := fun t ht => ih t ht (hfl t ht)
    obtain ⟨k0, n0, s0, l0, A, c, ht, rfl, hk, hn, hs, hR⟩ := hv.open_
    injection ht with e1 e2 e3 e4
    subst e1; subst e2; subst e3; subst e4
    have hbx := Blk.new W 42 #[.int .u8 (k : Int), .int .i64 n, .string s, .slice A l.length c]
    have hS1 := hS.alloc (.cells #[.int .u8 (k : Int), .int .i64 n, .string s, .slice A l.length c] 42)
    have hB1 : Below B W (W.alloc (.cells #[.int .u8 (k : Int), .int .i64 n, .string s, .slice A l.length c] 42)) := (Below.refl _ _).alloc hS.2.2.2 _
    have hK1 : Lib.OthersKept 5 (some b) W (W.alloc (.cells #[.int .u8 (k : Int), .int .i64 n, .string s, .slice A l.length c] 42)) := (Lib.OthersKept.refl _ _ _).alloc _
    have hbd := bad_of hbad
    have htx := txt_eq k n s l
    have HBX := Lib.hid hbx; have HS1 := Lib.hid hS1; have HB1 := Lib.hid hB1; have HK1 := Lib.hid hK1; have HR := Lib.hid hR; have HW := Lib.hid hw; have HTF := Lib.hid hTF
    clear hbx hS1 hB1 hK1 hR hw ih hok hbad hfl hv hS hTF
    rcases hbd with ⟨rfl, h1, -, -⟩ | ⟨rfl, -, -⟩ | ⟨rfl, -, -, -⟩ | ⟨rfl, -, -⟩ | ⟨rfl, -, -, -⟩ | ⟨rfl, -, -⟩
    · rw [if_pos rfl] at htx
      have hft := fun bb : Bool => Tryd.strconv_FormatBool bb (W.alloc (.cells #[.int .u8 ((1 : Nat) : Int), .int .i64 n, .string s, .slice A l.length c] 42))
      rw [htx] at hlen ⊢
      rcases h1 with rfl | rfl
      · have hft1 := hft false
        have hst := st_str (s := ⟨#[102, 97, 108, 115, 101]⟩) HS1.out (by simp at hlen ⊢; omega)
        have HFT := Lib.hid hft1; have HST := Lib.hid hst
        clear hft hft1 hst htx hlen hn hk
        go_enter Tryd.func48, Tryd.ntmps48
        go_wp2_with fail
        refine HFT.out.mono ?_
        rintro e w1 ⟨rfl, rfl⟩
        go_wp2_with fail
        refine HST.out.mono ?_
        rintro e w2 ⟨rfl, hs2, hb2, hk2⟩
        have HS2 := Lib.hid hs2; have HB2 := Lib.hid (HB1.out.trans hb2); have HK2 := Lib.hid (HK1.out.trans hk2)
        clear hs2 hb2 hk2
        go_wp2_with fail
        refine bodyPost_end (results_none rfl _ _ _) rfl ?_
        exact ⟨rfl, HS2.out, HB2.out, HK2.out⟩
      · have hft1 := hft true
        have hst := st_str (s := ⟨#[116, 114, 117, 101]⟩) HS1.out (by simp at hlen ⊢; omega)
        have HFT := Lib.hid hft1; have HST := Lib.hid hst
        clear hft hft1 hst htx hlen hn hk
        go_enter Tryd.func48, Tryd.ntmps48
        go_wp2_with fail
        refine HFT.out.mono ?_
        rintro e w1 ⟨rfl, rfl⟩
        go_wp2_with fail
        refine HST.out.mono ?_
        rintro e w2 ⟨rfl, hs2, hb2, hk2⟩
        have HS2 := Lib.hid hs2; have HB2 := Lib.hid (HB1.out.trans hb2); have HK2 := Lib.hid (HK1.out.trans hk2)
        clear hs2 hb2 hk2
        go_wp2_with fail
        refine bodyPost_end (results_none rfl _ _ _) rfl ?_
        exact ⟨rfl, HS2.out, HB2.out, HK2.out⟩
    · rw [if_neg (by decide), if_pos rfl] at htx
      have hfi := fmt_int n hn.1 hn.2 (W.alloc (.cells #[.int .u8 ((2 : Nat) : Int), .int .i64 n, .string s, .slice A l.length c] 42)) (HTF.out _ HB1.out)
      rw [htx] at hlen ⊢
      generalize Lib.itoa n = dd at hfi hlen ⊢
      have hst := fun W' (hb : Below (W.alloc (.cells #[.int .u8 ((2 : Nat) : Int), .int .i64 n, .string s, .slice A l.length c] 42)).heap.size (W.alloc (.cells #[.int .u8 ((2 : Nat) : Int), .int .i64 n, .string s, .slice A l.length c] 42)) W') => st_str (s := ⟨dd.toArray⟩) (HS1.out.under hb) (by simp at hlen ⊢; omega)
      have HFI := Lib.hid hfi; have HST := Lib.hid hst
      clear hfi hst htx hlen hn hk
      go_enter Tryd.func48, Tryd.ntmps48
      go_wp2_with fail
      refine HFI.out.mono ?_
      rintro e w1 ⟨rfl, hb1⟩
      have HX := Lib.hid hb1
      clear hb1
      go_wp2_with fail
      refine (HST.out _ HX.out).mono ?_
      rintro e w2 ⟨rfl, hs2, hb2, hk2⟩
      have HS2 := Lib.hid hs2; have HB2 := Lib.hid ((HB1.out.trans (HX.out.mono HS1.out.2.2.2)).trans hb2); have HK2 := Lib.hid ((kept_under HK1.out HX.out).trans hk2)
      clear hs2 hb2 hk2
      go_wp2_with fail
      refine bodyPost_end (results_none rfl _ _ _) rfl ?_
      exact ⟨rfl, by simpa using HS2.out, HB2.out, HK2.out⟩
    · rw [if_neg (by decide), if_neg (by decide), if_pos rfl] at htx
      rw [htx] at hlen ⊢
      have hst := st_str (s := s ++ ⟨#[98]⟩) HS1.out (by simp at hlen ⊢; omega)
      have e1 : (s ++ (⟨#[98]⟩ : ByteArray)).data.toList = s.data.toList ++ [98] := by simp
      rw [e1] at hst
      have HST := Lib.hid hst
      have hss : ¬ 9223372036854775807 < s.size + 1 := by have := vsize_len s; simp at hlen; omega
      clear hst htx hlen hn hk e1
      go_enter Tryd.func48, Tryd.ntmps48
      go_wp2_with fail
      refine HST.out.mono ?_
      rintro e w2 ⟨rfl, hs2, hb2, hk2⟩
      have HS2 := Lib.hid hs2; have HB2 := Lib.hid (HB1.out.trans hb2); have HK2 := Lib.hid (HK1.out.trans hk2)
      clear hs2 hb2 hk2
      go_wp2_with fail
      refine bodyPost_end (results_none rfl _ _ _) rfl ?_
      exact ⟨rfl, by simpa using HS2.out, HB2.out, HK2.out⟩
    · rw [if_neg (by decide), if_neg (by decide), if_neg (by decide), if_pos rfl] at htx
      rw [htx] at hlen ⊢
      have hst := quoted_c B b p4 p5 s hs bs _ HS1.out (by simp at hlen ⊢; omega)
      have HST := Lib.hid hst
      clear hst htx hlen hn hk
      go_enter Tryd.func48, Tryd.ntmps48
      go_wp2_with fail
      refine HST.out.mono ?_
      rintro e w2 ⟨rfl, hs2, hb2, hk2⟩
      have HS2 := Lib.hid hs2; have HB2 := Lib.hid (HB1.out.trans hb2); have HK2 := Lib.hid (HK1.out.trans hk2)
      clear hs2 hb2 hk2
      go_wp2_with fail
      refine bodyPost_end (results_none rfl _ _ _) rfl ?_
      exact ⟨rfl, HS2.out, HB2.out, HK2.out⟩
    · rw [if_neg (by decide), if_neg (by decide), if_neg (by decide), if_neg (by decide), if_pos rfl] at htx
      rw [htx] at hlen ⊢
      have hp := HS1.out.2.2.1.cell 0
      simp at hp
      have hln : bs.length + (txtR false l).length + 2 ≤ 900000000 := by simp at hlen ⊢; omega
      have HLN := Lib.hid hln
      clear htx hlen hn hk hln
      go_enter Tryd.func48, Tryd.ntmps48
      go_wp2_with fail
      refine (list_c B b p4 p5 l HW.out A c _ _ (HR.out.under HB1.out) (HTF.out.below HB1.out) HS1.out HLN.out).mono ?_
      rintro e w3 ⟨rfl, hs3, hb3, hk3⟩
      have HS3 := Lib.hid hs3; have HB3 := Lib.hid (HB1.out.trans hb3); have HK3 := Lib.hid (HK1.out.trans hk3)
      clear hs3 hb3 hk3
      go_wp2_with fail
      refine bodyPost_end (results_none rfl _ _ _) rfl ?_
      exact ⟨rfl, HS3.out, HB3.out, HK3.out⟩
    · rw [if_neg (by decide), if_neg (by decide), if_neg (by decide), if_neg (by decide), if_neg (by decide), if_pos rfl] at htx
      rw [htx] at hlen ⊢
      have hst := st_str (s := s) HS1.out (by simp at hlen ⊢; omega)
      have HST := Lib.hid hst
      by_cases hl0 : l.length = 0
      · have hl : l = [] := List.eq_nil_of_length_eq_zero hl0
        subst hl
        clear hst htx hlen hn hk hl0
        go_enter Tryd.func48, Tryd.ntmps48
        go_wp2_with fail
        refine HST.out.mono ?_
        rintro e w2 ⟨rfl, hs2, hb2, hk2⟩
        have hx := kept_blk hk2 HBX.out (by decide) (builder_ne HS1.out.1 HBX.out (by decide))
        have d3 := hx.cell 3
        simp at d3
        have HS2 := Lib.hid hs2; have HB2 := Lib.hid (HB1.out.trans hb2); have HK2 := Lib.hid (HK1.out.trans hk2)
        clear hs2 hb2 hk2 hx
        go_wp2_with fail
        refine bodyPost_end (results_none rfl _ _ _) rfl ?_
        exact ⟨rfl, by simpa using HS2.out, HB2.out, HK2.out⟩
      · have hne : l.isEmpty = false := by cases l <;> simp_all
        have hlp : (0 : Int) < (l.length : Int) := by omega
        rw [hne] at hlen ⊢
        have hln : (bs ++ s.data.toList).length + (txtR false l).length + 2 ≤ 900000000 := by simp at hlen ⊢; omega
        have HLN := Lib.hid hln
        clear hst htx hlen hn hk hln
        go_enter Tryd.func48, Tryd.ntmps48
        go_wp2_with fail
        refine HST.out.mono ?_
        rintro e w2 ⟨rfl, hs2, hb2, hk2⟩
        have hx := kept_blk hk2 HBX.out (by decide) (builder_ne HS1.out.1 HBX.out (by decide))
        have d3 := hx.cell 3
        simp at d3
        have hp := hs2.2.2.1.cell 0
        simp at hp
        have HS2 := Lib.hid hs2; have HB2 := Lib.hid (HB1.out.trans hb2); have HK2 := Lib.hid (HK1.out.trans hk2)
        clear hs2 hb2 hk2 hx
        go_wp2_with fail
        refine (list_c B b p4 p5 l HW.out A c _ _ (HR.out.under HB2.out) (HTF.out.below HB2.out) HS2.out HLN.out).mono ?_
        rintro e w3 ⟨rfl, hs3, hb3, hk3⟩
        have HS3 := Lib.hid hs3; have HB3 := Lib.hid (HB2.out.trans hb3); have HK3 := Lib.hid (HK2.out.trans hk3)
        clear hs3 hb3 hk3
        go_wp2_with fail
        refine bodyPost_end (results_none rfl _ _ _) rfl ?_
        exact ⟨rfl, by simpa using HS3.out, HB3.out, HK3.out⟩
end Tx
end Go.Proofs.YtibpebhepoeikaaDoor
