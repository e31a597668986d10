/- The document's own: are two values, two rows the same? -/
import Derived.Test.YtibpebhepoeikaaDoorYm
import Derived.Test.YtibpebhepoeikaaDoorVo
import Derived.Test.YtibpebhepoeikaaDoorVs
import Derived.Deep.RegionHeld3
namespace Go.Proofs.YtibpebhepoeikaaDoor
open Go.RowKit Vp
open Go
attribute [local go_sem] Oper.semAt_some

/-- It is told whether something is so. -/
def TellsIf (p : Prop) (e : Ending) : Prop := ∃ q : Bool, e = .returned (.bool q) ∧ (q = true ↔ p)
theorem TellsIf.yes {p : Prop} (h : p) {e : Ending} (he : TellsIf p e) : e = .returned (.bool true) := by
  obtain ⟨q, rfl, hq⟩ := he; rw [hq.2 h]
theorem TellsIf.no {p : Prop} (h : ¬ p) {e : Ending} (he : TellsIf p e) : e = .returned (.bool false) := by
  obtain ⟨q, rfl, hq⟩ := he
  cases q with
  | false => rfl
  | true => exact absurd (hq.1 rfl) h

/-- What is claimed of one value. -/
def SameOn (t : V) : Prop := ∀ (t' : V) (u u' : Value) (w : World), VRep w w.heap.size t u → VRep w w.heap.size t' u' →
  Calls Tryd.prog 19 #[u, u'] w fun e w' => TellsIf (t = t') e ∧ Below w.heap.size w w'

set_option maxHeartbeats 2000000 in
theorem samerow_of (a : List V) (ih : ∀ t ∈ a, SameOn t) (b : List V) (A A' : Option Addr) (c c' : Nat) (w : World) (hR : RRep w w.heap.size a A c) (hR' : RRep w w.heap.size b A' c') :
    Calls Tryd.prog 11 #[.slice A a.length c, .slice A' b.length c'] w fun e w' => TellsIf (a = b) e ∧ Below w.heap.size w w' := by
  have hl := hR.1; have hm := hR.2.1; have hl' := hR'.1; have hm' := hR'.2.1
  have hmax : maxLen = 9223372036854775807 := rfl
  have HR := Lib.hid hR; have HR' := Lib.hid hR'; have IH := Lib.hid ih
  clear hR hR' ih
  by_cases hlen : a.length = b.length
  · rw [hlen]
    go_enter Tryd.func11, Tryd.ntmps11
    go_wp2_with fail
    go_loopg [5] (b.length + 1) (fun gg s6 wr => ∃ (kk : Nat), kk ≤ b.length ∧ gg = b.length + 1 - kk ∧ s6 = .int .i64 (kk : Int) ∧ Below w.heap.size w wr ∧ ∀ j (hj : j < a.length), j < kk → a[j] = b[j])
    case atStart => exact ⟨0, Nat.zero_le _, by omega, rfl, Below.refl _ w, fun j _ hj => absurd hj (Nat.not_lt_zero _)⟩
    case round =>
      obtain ⟨kk, hkk, hg, rfl, hB, hA⟩ := hrel
      have HB := Lib.hid hB; have HG := Lib.hid hg; have HA := Lib.hid hA
      clear hB hg hA
      by_cases hlt' : kk < b.length
      · have hltz : (kk : Int) < (b.length : Int) := by omega
        have hlt : kk < a.length := by omega
        obtain ⟨g, off, rfl, hb, k1, n1, s1, l1, A1, e1, ht, hv, c0, c1, c2, c3⟩ := (HR.out.under HB.out).at_ hlt
        obtain ⟨g', off', rfl, hb', k2, n2, s2, l2, A2, e2, ht', hv', d0, d1, d2, d3⟩ := (HR'.out.under HB.out).at_ hlt'
        have hcall := fun W (hW : Below w.heap.size wr W) => IH.out _ (List.getElem_mem hlt) b[kk] _ _ W ((hv.under hW).more (Nat.le_trans HB.out.size hW.size)) ((hv'.under hW).more (Nat.le_trans HB.out.size hW.size))
        have HT := Lib.hid hb; have HT' := Lib.hid hb'
        clear hv hv' ht ht' hb hb'
        obtain ⟨wo, hwo⟩ : ∃ wo, wo = wr := ⟨_, rfl⟩
        subst hwo
        by_cases heq : a[kk] = b[kk]
        · have hyes := fun W hW => (hcall W hW).mono fun e w' (h : TellsIf _ e ∧ _) => And.intro (h.1.yes heq) h.2
          have HC := Lib.hid hyes; have HE := Lib.hid heq
          clear hyes hcall heq
          go_upto_region 6 with fail
          go_region_held3 (fun w' => w'.cell? ⟨g, off + kk * 4, none⟩ = some (.int .u8 (k1 : Int)) ∧ w'.cell? ⟨g, off + kk * 4 + 1, none⟩ = some (.int .i64 n1) ∧ w'.cell? ⟨g, off + kk * 4 + 2, none⟩ = some (.string s1) ∧ w'.cell? ⟨g, off + kk * 4 + 3, none⟩ = some (.slice A1 l1.length e1) ∧ w'.cell? ⟨g', off' + kk * 4, none⟩ = some (.int .u8 (k2 : Int)) ∧ w'.cell? ⟨g', off' + kk * 4 + 1, none⟩ = some (.int .i64 n2) ∧ w'.cell? ⟨g', off' + kk * 4 + 2, none⟩ = some (.string s2) ∧ w'.cell? ⟨g', off' + kk * 4 + 3, none⟩ = some (.slice A2 l2.length e2)) (go_keep)
            (first
              | (go_at_call 19; refine (HC.out _ (Below.refl _ wo).drew).mono ?_; rintro e w1 ⟨rfl, hb1⟩; have HB1 := Lib.hid ((Below.refl w.heap.size wo).drew.trans (hb1.mono HB.out.size)); have q0 := (hb1.cell (p := ⟨g, off + kk * 4, none⟩) (Nat.lt_of_lt_of_le HT.out HB.out.size)).trans c0; have q1 := (hb1.cell (p := ⟨g, off + kk * 4 + 1, none⟩) (Nat.lt_of_lt_of_le HT.out HB.out.size)).trans c1; have q2 := (hb1.cell (p := ⟨g, off + kk * 4 + 2, none⟩) (Nat.lt_of_lt_of_le HT.out HB.out.size)).trans c2; have q3 := (hb1.cell (p := ⟨g, off + kk * 4 + 3, none⟩) (Nat.lt_of_lt_of_le HT.out HB.out.size)).trans c3; have r0 := (hb1.cell (p := ⟨g', off' + kk * 4, none⟩) (Nat.lt_of_lt_of_le HT'.out HB.out.size)).trans d0; have r1 := (hb1.cell (p := ⟨g', off' + kk * 4 + 1, none⟩) (Nat.lt_of_lt_of_le HT'.out HB.out.size)).trans d1; have r2 := (hb1.cell (p := ⟨g', off' + kk * 4 + 2, none⟩) (Nat.lt_of_lt_of_le HT'.out HB.out.size)).trans d2; have r3 := (hb1.cell (p := ⟨g', off' + kk * 4 + 3, none⟩) (Nat.lt_of_lt_of_le HT'.out HB.out.size)).trans d3; clear hb1))
          clear c0 c1 c2 c3 d0 d1 d2 d3
          go_wp2_with fail
          go_roundg (b.length + 1 - (kk + 1))
          case measure => have := HG.out; omega
          case rel =>
            refine ⟨kk + 1, by omega, rfl, by go_num, HB.out.trans HB1.out, fun j hj hjk => ?_⟩
            by_cases e : j = kk
            · subst e; exact HE.out
            · exact HA.out j hj (by omega)
        · have hno := fun W hW => (hcall W hW).mono fun e w' (h : TellsIf _ e ∧ _) => And.intro (h.1.no heq) h.2
          have HC := Lib.hid hno; have HE := Lib.hid heq
          clear hno hcall heq
          go_upto_region 6 with fail
          go_region_held3 (fun w' => w'.cell? ⟨g, off + kk * 4, none⟩ = some (.int .u8 (k1 : Int)) ∧ w'.cell? ⟨g, off + kk * 4 + 1, none⟩ = some (.int .i64 n1) ∧ w'.cell? ⟨g, off + kk * 4 + 2, none⟩ = some (.string s1) ∧ w'.cell? ⟨g, off + kk * 4 + 3, none⟩ = some (.slice A1 l1.length e1) ∧ w'.cell? ⟨g', off' + kk * 4, none⟩ = some (.int .u8 (k2 : Int)) ∧ w'.cell? ⟨g', off' + kk * 4 + 1, none⟩ = some (.int .i64 n2) ∧ w'.cell? ⟨g', off' + kk * 4 + 2, none⟩ = some (.string s2) ∧ w'.cell? ⟨g', off' + kk * 4 + 3, none⟩ = some (.slice A2 l2.length e2)) (go_keep)
            (first
              | (go_at_call 19; refine (HC.out _ (Below.refl _ wo).drew).mono ?_; rintro e w1 ⟨rfl, hb1⟩; have HB1 := Lib.hid ((Below.refl w.heap.size wo).drew.trans (hb1.mono HB.out.size)); have q0 := (hb1.cell (p := ⟨g, off + kk * 4, none⟩) (Nat.lt_of_lt_of_le HT.out HB.out.size)).trans c0; have q1 := (hb1.cell (p := ⟨g, off + kk * 4 + 1, none⟩) (Nat.lt_of_lt_of_le HT.out HB.out.size)).trans c1; have q2 := (hb1.cell (p := ⟨g, off + kk * 4 + 2, none⟩) (Nat.lt_of_lt_of_le HT.out HB.out.size)).trans c2; have q3 := (hb1.cell (p := ⟨g, off + kk * 4 + 3, none⟩) (Nat.lt_of_lt_of_le HT.out HB.out.size)).trans c3; have r0 := (hb1.cell (p := ⟨g', off' + kk * 4, none⟩) (Nat.lt_of_lt_of_le HT'.out HB.out.size)).trans d0; have r1 := (hb1.cell (p := ⟨g', off' + kk * 4 + 1, none⟩) (Nat.lt_of_lt_of_le HT'.out HB.out.size)).trans d1; have r2 := (hb1.cell (p := ⟨g', off' + kk * 4 + 2, none⟩) (Nat.lt_of_lt_of_le HT'.out HB.out.size)).trans d2; have r3 := (hb1.cell (p := ⟨g', off' + kk * 4 + 3, none⟩) (Nat.lt_of_lt_of_le HT'.out HB.out.size)).trans d3; clear hb1))
          clear c0 c1 c2 c3 d0 d1 d2 d3
          go_wp2_with fail
          go_ret
          refine ⟨⟨false, rfl, ?_⟩, HB.out.trans HB1.out⟩
          have hne : a ≠ b := fun e => HE.out (by subst e; rfl)
          simp [hne]
      · have hltz : ¬ (kk : Int) < (b.length : Int) := by omega
        obtain rfl : kk = b.length := by omega
        go_wp2_with fail
        go_ret
        refine ⟨⟨true, rfl, ?_⟩, HB.out⟩
        simp only [true_iff]
        exact List.ext_getElem hlen fun j h1 h2 => HA.out j h1 h2
  · have hz : ¬ (a.length : Int) = (b.length : Int) := by omega
    go_enter Tryd.func11, Tryd.ntmps11
    go_wp2_with fail
    go_ret
    refine ⟨⟨false, rfl, ?_⟩, Below.refl _ _⟩
    have hne : a ≠ b := fun e => hlen (by rw [e])
    simp [hne]

theorem world2 (w : World) (o o' : Obj) : Below w.heap.size w ((w.alloc o).alloc o') := ((Below.refl _ _).alloc (Nat.le_refl _) _).alloc (by simp) _

set_option maxHeartbeats 1000000 in
theorem same_c (t : V) : SameOn t := by
  induction t using V.ind with
  | h k n s l ih =>
  intro t' u u' w h h'
  obtain ⟨k', n', s', l', A, c, ht, rfl, hk, hn, hs, hR⟩ := h.open_
  obtain ⟨rfl, rfl, rfl, rfl⟩ : k = k' ∧ n = n' ∧ s = s' ∧ l = l' := by cases ht; exact ⟨rfl, rfl, rfl, rfl⟩
  obtain ⟨k', n', s', l', A', c', rfl, rfl, hk', hn', hs', hR'⟩ := h'.open_
  obtain ⟨W, hW⟩ : ∃ W, W = (w.alloc (.cells #[.int .u8 (k : Int), .int .i64 n, .string s, .slice A l.length c] 42)).alloc (.cells #[.int .u8 (k' : Int), .int .i64 n', .string s', .slice A' l'.length c'] 42) := ⟨_, rfl⟩
  have hB : Below w.heap.size w W := hW ▸ world2 _ _ _
  have b0 : Blk W w.heap.size 42 #[.int .u8 (k : Int), .int .i64 n, .string s, .slice A l.length c] := hW ▸ (Blk.new _ _ _).alloc _
  have b1 : Blk W (w.heap.size + 1) 42 #[.int .u8 (k' : Int), .int .i64 n', .string s', .slice A' l'.length c'] := hW ▸ (by have := Blk.new (w.alloc (.cells #[.int .u8 (k : Int), .int .i64 n, .string s, .slice A l.length c] 42)) 42 #[.int .u8 (k' : Int), .int .i64 n', .string s', .slice A' l'.length c']; rw [World.size_alloc] at this; exact this)
  have hcall := samerow_of l ih l' A A' c c' W ((hR.under hB).more hB.size) ((hR'.under hB).more hB.size)
  have x0 := b0.cell 0; have x1 := b0.cell 1; have x2 := b0.cell 2; have x3 := b0.cell 3
  have y0 := b1.cell 0; have y1 := b1.cell 1; have y2 := b1.cell 2; have y3 := b1.cell 3
  simp at x0 x1 x2 x3 y0 y1 y2 y3
  have HC := Lib.hid hcall; have HB := Lib.hid hB
  rw [hW] at x0 x1 x2 x3 y0 y1 y2 y3
  rw [hW] at HC HB
  clear hcall hB b0 b1 hR hR' h h' ht ih hW
  have hmk : ((V.mk k n s l : V) = .mk k' n' s' l') = (k = k' ∧ n = n' ∧ s = s' ∧ l = l') := by simp
  rw [hmk]
  clear hmk
  by_cases h1 : k = k'
  · subst h1
    by_cases h2 : n = n'
    · subst h2
      by_cases h3 : s = s'
      · subst h3
        by_cases h4 : l = l'
        · have HY := Lib.hid (HC.out.mono fun e w' (h : TellsIf _ e ∧ _) => And.intro (h.1.yes h4) h.2)
          have H4 := Lib.hid h4
          clear h4 HC
          go_enter Tryd.func19, Tryd.ntmps19
          go_wp2_with (go_at_call 11; refine HY.out.mono ?_; rintro e w1 ⟨rfl, hb1⟩; have HB1 := Lib.hid hb1; clear hb1)
          go_ret
          exact ⟨⟨true, rfl, by simp [H4.out]⟩, HB.out.trans (HB1.out.mono HB.out.size)⟩
        · have HY := Lib.hid (HC.out.mono fun e w' (h : TellsIf _ e ∧ _) => And.intro (h.1.no h4) h.2)
          have H4 := Lib.hid h4
          clear h4 HC
          go_enter Tryd.func19, Tryd.ntmps19
          go_wp2_with (go_at_call 11; refine HY.out.mono ?_; rintro e w1 ⟨rfl, hb1⟩; have HB1 := Lib.hid hb1; clear hb1)
          go_ret
          exact ⟨⟨false, rfl, by simp [H4.out]⟩, HB.out.trans (HB1.out.mono HB.out.size)⟩
      · clear HC
        have h3z : (s.toList == s'.toList) = false := by
          rw [beq_eq_false_iff_ne]
          exact fun e => h3 (by rw [Lib.toList_data, Lib.toList_data] at e; exact ByteArray.ext (Array.ext' e))
        have H3 := Lib.hid h3; clear h3
        go_enter Tryd.func19, Tryd.ntmps19
        go_wp2_with fail
        go_ret
        exact ⟨⟨false, rfl, by simp [H3.out]⟩, HB.out⟩
    · clear HC
      go_enter Tryd.func19, Tryd.ntmps19
      go_wp2_with fail
      go_ret
      exact ⟨⟨false, rfl, by simp [h2]⟩, HB.out⟩
  · have h1z : ¬ (k : Int) = (k' : Int) := by omega
    have H1 := Lib.hid h1; clear h1
    clear HC
    go_enter Tryd.func19, Tryd.ntmps19
    go_wp2_with fail
    go_ret
    exact ⟨⟨false, rfl, by simp [H1.out]⟩, HB.out⟩
/-- Two rows. -/
theorem samerow_c (a b : List V) (A A' : Option Addr) (c c' : Nat) (w : World) (hR : RRep w w.heap.size a A c) (hR' : RRep w w.heap.size b A' c') :
    Calls Tryd.prog 11 #[.slice A a.length c, .slice A' b.length c'] w fun e w' => TellsIf (a = b) e ∧ Below w.heap.size w w' :=
  samerow_of a (fun t _ => same_c t) b A A' c c' w hR hR'
end Go.Proofs.YtibpebhepoeikaaDoor
