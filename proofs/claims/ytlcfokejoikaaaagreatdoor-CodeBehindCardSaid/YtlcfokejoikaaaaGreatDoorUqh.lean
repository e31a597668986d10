/- QVi, Uq, UmH in one text. -/
import Derived.Test.YtlcfokejoikaaaaGreatDoorYm
import Derived.Test.YtlcfokejoikaaaaGreatDoorVo
import Derived.Test.YtlcfokejoikaaaaGreatDoorVs
import Derived.Deep.RegionHeld3
import Derived.Test.YtlcfokejoikaaaaGreatDoorUk
import Derived.Test.YtlcfokejoikaaaaGreatDoorCo
/- QVi: The document's own: are two values, two rows the same? -/
namespace Go.Proofs.YtlcfokejoikaaaaGreatDoor
open Go.RowKit Vp
open Go
attribute [local go_sem] Oper.semAt_some

/-- It is told whether something is so. -/
def TellsIf (p : Prop) (e : Ending) : Prop := ∃ q : Bool, e = .returned (.bool q) ∧ (q = true ↔ p)
theorem TellsIf.yes {p : Prop} (h : p) {e : Ending} (he : TellsIf p e) : e = .returned (.bool true) := by
  obtain ⟨q, rfl, hq⟩ := he; rw [hq.2 h]
theorem TellsIf.no {p : Prop} (h : ¬ p) {e : Ending} (he : TellsIf p e) : e = .returned (.bool false) := by
  obtain ⟨q, rfl, hq⟩ := he
  cases q with
  | false => rfl
  | true => exact absurd (hq.1 rfl) h

/-- What is claimed of one value. -/
def SameOn (t : V) : Prop := ∀ (t' : V) (u u' : Value) (w : World), VRep w w.heap.size t u → VRep w w.heap.size t' u' →
  Calls Tryz.prog 22 #[u, u'] w fun e w' => TellsIf (t = t') e ∧ Below w.heap.size w w'

set_option maxHeartbeats 2000000 in
theorem samerow_of (a : List V) (ih : ∀ t ∈ a, SameOn t) (b : List V) (A A' : Option Addr) (c c' : Nat) (w : World) (hR : RRep w w.heap.size a A c) (hR' : RRep w w.heap.size b A' c') :
    Calls Tryz.prog 54 #[.slice A a.length c, .slice A' b.length c'] w fun e w' => TellsIf (a = b) e ∧ Below w.heap.size w w' := by
  have hl := hR.1; have hm := hR.2.1; have hl' := hR'.1; have hm' := hR'.2.1
  have hmax : maxLen = 9223372036854775807 := rfl
  have HR := Lib.hid hR; have HR' := Lib.hid hR'; have IH := Lib.hid ih
  clear hR hR' ih
  by_cases hlen : a.length = b.length
  · rw [hlen]
    go_enter Tryz.func54, Tryz.ntmps54
    go_wp2_with fail
    go_loopg [5] (b.length + 1) (fun gg s6 wr => ∃ (kk : Nat), kk ≤ b.length ∧ gg = b.length + 1 - kk ∧ s6 = .int .i64 (kk : Int) ∧ Below w.heap.size w wr ∧ ∀ j (hj : j < a.length), j < kk → a[j] = b[j])
    case atStart => exact ⟨0, Nat.zero_le _, by omega, rfl, Below.refl _ w, fun j _ hj => absurd hj (Nat.not_lt_zero _)⟩
    case round =>
      obtain ⟨kk, hkk, hg, rfl, hB, hA⟩ := hrel
      have HB := Lib.hid hB; have HG := Lib.hid hg; have HA := Lib.hid hA
      clear hB hg hA
      by_cases hlt' : kk < b.length
      · have hltz : (kk : Int) < (b.length : Int) := by omega
        have hlt : kk < a.length := by omega
        obtain ⟨g, off, rfl, hb, k1, n1, s1, l1, A1, e1, ht, hv, c0, c1, c2, c3⟩ := (HR.out.under HB.out).at_ hlt
        obtain ⟨g', off', rfl, hb', k2, n2, s2, l2, A2, e2, ht', hv', d0, d1, d2, d3⟩ := (HR'.out.under HB.out).at_ hlt'
        have hcall := fun W (hW : Below w.heap.size wr W) => IH.out _ (List.getElem_mem hlt) b[kk] _ _ W ((hv.under hW).more (Nat.le_trans HB.out.size hW.size)) ((hv'.under hW).more (Nat.le_trans HB.out.size hW.size))
        have HT := Lib.hid hb; have HT' := Lib.hid hb'
        clear hv hv' ht ht' hb hb'
        obtain ⟨wo, hwo⟩ : ∃ wo, wo = wr := ⟨_, rfl⟩
        subst hwo
        by_cases heq : a[kk] = b[kk]
        · have hyes := fun W hW => (hcall W hW).mono fun e w' (h : TellsIf _ e ∧ _) => And.intro (h.1.yes heq) h.2
          have HC := Lib.hid hyes; have HE := Lib.hid heq
          clear hyes hcall heq
          go_upto_region 6 with fail
          go_region_held3 (fun w' => w'.cell? ⟨g, off + kk * 4, none⟩ = some (.int .u8 (k1 : Int)) ∧ w'.cell? ⟨g, off + kk * 4 + 1, none⟩ = some (.int .i64 n1) ∧ w'.cell? ⟨g, off + kk * 4 + 2, none⟩ = some (.string s1) ∧ w'.cell? ⟨g, off + kk * 4 + 3, none⟩ = some (.slice A1 l1.length e1) ∧ w'.cell? ⟨g', off' + kk * 4, none⟩ = some (.int .u8 (k2 : Int)) ∧ w'.cell? ⟨g', off' + kk * 4 + 1, none⟩ = some (.int .i64 n2) ∧ w'.cell? ⟨g', off' + kk * 4 + 2, none⟩ = some (.string s2) ∧ w'.cell? ⟨g', off' + kk * 4 + 3, none⟩ = some (.slice A2 l2.length e2)) (go_keep)
            (first
              | (go_at_call 22; refine (HC.out _ (Below.refl _ wo).drew).mono ?_; rintro e w1 ⟨rfl, hb1⟩; have HB1 := Lib.hid ((Below.refl w.heap.size wo).drew.trans (hb1.mono HB.out.size)); have q0 := (hb1.cell (p := ⟨g, off + kk * 4, none⟩) (Nat.lt_of_lt_of_le HT.out HB.out.size)).trans c0; have q1 := (hb1.cell (p := ⟨g, off + kk * 4 + 1, none⟩) (Nat.lt_of_lt_of_le HT.out HB.out.size)).trans c1; have q2 := (hb1.cell (p := ⟨g, off + kk * 4 + 2, none⟩) (Nat.lt_of_lt_of_le HT.out HB.out.size)).trans c2; have q3 := (hb1.cell (p := ⟨g, off + kk * 4 + 3, none⟩) (Nat.lt_of_lt_of_le HT.out HB.out.size)).trans c3; have r0 := (hb1.cell (p := ⟨g', off' + kk * 4, none⟩) (Nat.lt_of_lt_of_le HT'.out HB.out.size)).trans d0; have r1 := (hb1.cell (p := ⟨g', off' + kk * 4 + 1, none⟩) (Nat.lt_of_lt_of_le HT'.out HB.out.size)).trans d1; have r2 := (hb1.cell (p := ⟨g', off' + kk * 4 + 2, none⟩) (Nat.lt_of_lt_of_le HT'.out HB.out.size)).trans d2; have r3 := (hb1.cell (p := ⟨g', off' + kk * 4 + 3, none⟩) (Nat.lt_of_lt_of_le HT'.out HB.out.size)).trans d3; clear hb1))
          clear c0 c1 c2 c3 d0 d1 d2 d3
          go_wp2_with fail
          go_roundg (b.length + 1 - (kk + 1))
          case measure => have := HG.out; omega
          case rel =>
            refine ⟨kk + 1, by omega, rfl, by go_num, HB.out.trans HB1.out, fun j hj hjk => ?_⟩
            by_cases e : j = kk
            · subst e; exact HE.out
            · exact HA.out j hj (by omega)
        · have hno := fun W hW => (hcall W hW).mono fun e w' (h : TellsIf _ e ∧ _) => And.intro (h.1.no heq) h.2
          have HC := Lib.hid hno; have HE := Lib.hid heq
          clear hno hcall heq
          go_upto_region 6 with fail
          go_region_held3 (fun w' => w'.cell? ⟨g, off + kk * 4, none⟩ = some (.int .u8 (k1 : Int)) ∧ w'.cell? ⟨g, off + kk * 4 + 1, none⟩ = some (.int .i64 n1) ∧ w'.cell? ⟨g, off + kk * 4 + 2, none⟩ = some (.string s1) ∧ w'.cell? ⟨g, off + kk * 4 + 3, none⟩ = some (.slice A1 l1.length e1) ∧ w'.cell? ⟨g', off' + kk * 4, none⟩ = some (.int .u8 (k2 : Int)) ∧ w'.cell? ⟨g', off' + kk * 4 + 1, none⟩ = some (.int .i64 n2) ∧ w'.cell? ⟨g', off' + kk * 4 + 2, none⟩ = some (.string s2) ∧ w'.cell? ⟨g', off' + kk * 4 + 3, none⟩ = some (.slice A2 l2.length e2)) (go_keep)
            (first
              | (go_at_call 22; refine (HC.out _ (Below.refl _ wo).drew).mono ?_; rintro e w1 ⟨rfl, hb1⟩; have HB1 := Lib.hid ((Below.refl w.heap.size wo).drew.trans (hb1.mono HB.out.size)); have q0 := (hb1.cell (p := ⟨g, off + kk * 4, none⟩) (Nat.lt_of_lt_of_le HT.out HB.out.size)).trans c0; have q1 := (hb1.cell (p := ⟨g, off + kk * 4 + 1, none⟩) (Nat.lt_of_lt_of_le HT.out HB.out.size)).trans c1; have q2 := (hb1.cell (p := ⟨g, off + kk * 4 + 2, none⟩) (Nat.lt_of_lt_of_le HT.out HB.out.size)).trans c2; have q3 := (hb1.cell (p := ⟨g, off + kk * 4 + 3, none⟩) (Nat.lt_of_lt_of_le HT.out HB.out.size)).trans c3; have r0 := (hb1.cell (p := ⟨g', off' + kk * 4, none⟩) (Nat.lt_of_lt_of_le HT'.out HB.out.size)).trans d0; have r1 := (hb1.cell (p := ⟨g', off' + kk * 4 + 1, none⟩) (Nat.lt_of_lt_of_le HT'.out HB.out.size)).trans d1; have r2 := (hb1.cell (p := ⟨g', off' + kk * 4 + 2, none⟩) (Nat.lt_of_lt_of_le HT'.out HB.out.size)).trans d2; have r3 := (hb1.cell (p := ⟨g', off' + kk * 4 + 3, none⟩) (Nat.lt_of_lt_of_le HT'.out HB.out.size)).trans d3; clear hb1))
          clear c0 c1 c2 c3 d0 d1 d2 d3
          go_wp2_with fail
          go_ret
          refine ⟨⟨false, rfl, ?_⟩, HB.out.trans HB1.out⟩
          have hne : a ≠ b := fun e => HE.out (by subst e; rfl)
          simp [hne]
      · have hltz : ¬ (kk : Int) < (b.length : Int) := by omega
        obtain rfl : kk = b.length := by omega
        go_wp2_with fail
        go_ret
        refine ⟨⟨true, rfl, ?_⟩, HB.out⟩
        simp only [true_iff]
        exact List.ext_getElem hlen fun j h1 h2 => HA.out j h1 h2
  · have hz : ¬ (a.length : Int) = (b.length : Int) := by omega
    go_enter Tryz.func54, Tryz.ntmps54
    go_wp2_with fail
    go_ret
    refine ⟨⟨false, rfl, ?_⟩, Below.refl _ _⟩
    have hne : a ≠ b := fun e => hlen (by rw [e])
    simp [hne]

theorem world2 (w : World) (o o' : Obj) : Below w.heap.size w ((w.alloc o).alloc o') := ((Below.refl _ _).alloc (Nat.le_refl _) _).alloc (by simp) _

set_option maxHeartbeats 1000000 in
theorem same_c (t : V) : SameOn t := by
  induction t using V.ind with
  | h k n s l ih =>
  intro t' u u' w h h'
  obtain ⟨k', n', s', l', A, c, ht, rfl, hk, hn, hs, hR⟩ := h.open_
  obtain ⟨rfl, rfl, rfl, rfl⟩ : k = k' ∧ n = n' ∧ s = s' ∧ l = l' := by cases ht; exact ⟨rfl, rfl, rfl, rfl⟩
  obtain ⟨k', n', s', l', A', c', rfl, rfl, hk', hn', hs', hR'⟩ := h'.open_
  obtain ⟨W, hW⟩ : ∃ W, W = (w.alloc (.cells #[.int .u8 (k : Int), .int .i64 n, .string s, .slice A l.length c] 34)).alloc (.cells #[.int .u8 (k' : Int), .int .i64 n', .string s', .slice A' l'.length c'] 34) := ⟨_, rfl⟩
  have hB : Below w.heap.size w W := hW ▸ world2 _ _ _
  have b0 : Blk W w.heap.size 34 #[.int .u8 (k : Int), .int .i64 n, .string s, .slice A l.length c] := hW ▸ (Blk.new _ _ _).alloc _
  have b1 : Blk W (w.heap.size + 1) 34 #[.int .u8 (k' : Int), .int .i64 n', .string s', .slice A' l'.length c'] := hW ▸ (by have := Blk.new (w.alloc (.cells #[.int .u8 (k : Int), .int .i64 n, .string s, .slice A l.length c] 34)) 34 #[.int .u8 (k' : Int), .int .i64 n', .string s', .slice A' l'.length c']; rw [World.size_alloc] at this; exact this)
  have hcall := samerow_of l ih l' A A' c c' W ((hR.under hB).more hB.size) ((hR'.under hB).more hB.size)
  have x0 := b0.cell 0; have x1 := b0.cell 1; have x2 := b0.cell 2; have x3 := b0.cell 3
  have y0 := b1.cell 0; have y1 := b1.cell 1; have y2 := b1.cell 2; have y3 := b1.cell 3
  simp at x0 x1 x2 x3 y0 y1 y2 y3
  have HC := Lib.hid hcall; have HB := Lib.hid hB
  rw [hW] at x0 x1 x2 x3 y0 y1 y2 y3
  rw [hW] at HC HB
  clear hcall hB b0 b1 hR hR' h h' ht ih hW
  have hmk : ((V.mk k n s l : V) = .mk k' n' s' l') = (k = k' ∧ n = n' ∧ s = s' ∧ l = l') := by simp
  rw [hmk]
  clear hmk
  by_cases h1 : k = k'
  · subst h1
    by_cases h2 : n = n'
    · subst h2
      by_cases h3 : s = s'
      · subst h3
        by_cases h4 : l = l'
        · have HY := Lib.hid (HC.out.mono fun e w' (h : TellsIf _ e ∧ _) => And.intro (h.1.yes h4) h.2)
          have H4 := Lib.hid h4
          clear h4 HC
          go_enter Tryz.func22, Tryz.ntmps22
          go_wp2_with (go_at_call 54; refine HY.out.mono ?_; rintro e w1 ⟨rfl, hb1⟩; have HB1 := Lib.hid hb1; clear hb1)
          go_ret
          exact ⟨⟨true, rfl, by simp [H4.out]⟩, HB.out.trans (HB1.out.mono HB.out.size)⟩
        · have HY := Lib.hid (HC.out.mono fun e w' (h : TellsIf _ e ∧ _) => And.intro (h.1.no h4) h.2)
          have H4 := Lib.hid h4
          clear h4 HC
          go_enter Tryz.func22, Tryz.ntmps22
          go_wp2_with (go_at_call 54; refine HY.out.mono ?_; rintro e w1 ⟨rfl, hb1⟩; have HB1 := Lib.hid hb1; clear hb1)
          go_ret
          exact ⟨⟨false, rfl, by simp [H4.out]⟩, HB.out.trans (HB1.out.mono HB.out.size)⟩
      · clear HC
        have h3z : (s.toList == s'.toList) = false := by
          rw [beq_eq_false_iff_ne]
          exact fun e => h3 (by rw [Lib.toList_data, Lib.toList_data] at e; exact ByteArray.ext (Array.ext' e))
        have H3 := Lib.hid h3; clear h3
        go_enter Tryz.func22, Tryz.ntmps22
        go_wp2_with fail
        go_ret
        exact ⟨⟨false, rfl, by simp [H3.out]⟩, HB.out⟩
    · clear HC
      go_enter Tryz.func22, Tryz.ntmps22
      go_wp2_with fail
      go_ret
      exact ⟨⟨false, rfl, by simp [h2]⟩, HB.out⟩
  · have h1z : ¬ (k : Int) = (k' : Int) := by omega
    have H1 := Lib.hid h1; clear h1
    clear HC
    go_enter Tryz.func22, Tryz.ntmps22
    go_wp2_with fail
    go_ret
    exact ⟨⟨false, rfl, by simp [H1.out]⟩, HB.out⟩
/-- Two rows. -/
theorem samerow_c (a b : List V) (A A' : Option Addr) (c c' : Nat) (w : World) (hR : RRep w w.heap.size a A c) (hR' : RRep w w.heap.size b A' c') :
    Calls Tryz.prog 54 #[.slice A a.length c, .slice A' b.length c'] w fun e w' => TellsIf (a = b) e ∧ Below w.heap.size w w' :=
  samerow_of a (fun t _ => same_c t) b A A' c c' w hR hR'
end Go.Proofs.YtlcfokejoikaaaaGreatDoor
/- Uq: What the walks of CodeApart, CodeAmong and CodeBehind share. -/
namespace Go.Proofs.YtlcfokejoikaaaaGreatDoor
open Go.RowKit Go.Shelf Vp Cp Tx Rm
open Go
attribute [local go_sem] Oper.semAt_some

theorem hands_len2 {w : World} {v : Value} {l : List UInt8} (h : Hands w v l) : ∃ A c, v = .slice A l.length c := by
  rcases h with ⟨rfl, rfl⟩ | ⟨a, c, rfl, _⟩
  · exact ⟨none, 0, rfl⟩
  · exact ⟨some a, c, rfl⟩
theorem enc_ne2 (t : V) : encV t ≠ [] := by cases t; rw [encV]; simp
theorem val_nil2 {t : V} {u : Value} {w W : World} (hv : VRep w w.heap.size t u) (hb : Below w.heap.size w W) (hM : MaxB w.heap.size w) (hn : Narrow t false) :
    Calls Tryz.prog 21 #[.slice none 0 0, u] W fun e w' => Gives W.heap.size W (valB t) e w' := by
  have h := value_c [] (.slice none 0 0) t u W (Sees.nil_ W 0 0) ((hv.under hb).more hb.size) (by decide) (fun hc => by have := (few_bytes hv rfl hn hc).2; simp; omega) ⟨Nat.lt_of_lt_of_le hM.1 hb.size, (hM.under hb).2⟩
  rwa [List.nil_append] at h
theorem op_guard {P : Program} {dst : Option Tmp} {op : Op} {ty : TypeId} {pos : String} {after : Array Edge} {g : Option (Tmp × Bool)} {a : Act} {w : World} {K : Act → World → Prop} {Q : Exit → Act → World → Prop}
    (h : Oper.wp P { dst, op, type := ty, pos, after, guard := none } a w K Q) : Oper.wp P { dst, op, type := ty, pos, after, guard := g } a w K Q := h
section
variable {P : Program} {ops : Array Oper} {Q : Exit → Act → World → Prop} {md : Region.Mode} {S : World → Prop} {m : Nat}
theorem T_skipF {i : Nat} {oi : Oper} {fuel : Nat} {listed : Array Bool} {a : Act} {w : World} (hi : ops[i]? = some oi)
    (hB : (decide (i < m) && Region.noSelect ops && Region.free md ops listed i && (Region.ready md ops listed).contains i && waitsT md ops m i && closedB md ops listed) = true)
    (hQ : ∀ c a w, Q (.panic c) (a.put oi.dst undef) w → Q (.panic c) a w) (hw : Region.wanted oi (yielded ops a.tmps) = false) (hS : S w)
    (h : wpAnyT P md ops Q S m fuel (listed.setIfInBounds i true) (a.put oi.dst undef) w) : wpAnyT P md ops Q S m (fuel + 1) listed a w := by
  simp only [Bool.and_eq_true, decide_eq_true_eq] at hB
  obtain ⟨⟨⟨⟨⟨h1, h2⟩, h3⟩, h4⟩, h5⟩, h6⟩ := hB
  exact T_first hi h1 (Region.noSelect_spec h2) h5 hQ fuel listed a w (closed_of h6) (Region.free_spec hi h3) (by simpa using h4) (.inr ⟨hw, rfl⟩) hS h
theorem T_skip1 {i : Nat} {o : Oper} {fuel : Nat} {listed : Array Bool} {a : Act} {w : World} (ho : ops[i]? = some o) (hr : Region.ready md ops listed = [i]) (hw : Region.wanted o (yielded ops a.tmps) = false) (hS : S w)
    (h : wpAnyT P md ops Q S m fuel (listed.setIfInBounds i true) (a.put o.dst undef) w) : wpAnyT P md ops Q S m (fuel + 1) listed a w := by
  refine ⟨fun h0 => absurd (hr ▸ h0) (by simp), fun j hj => ?_⟩
  rw [hr] at hj
  obtain rfl : j = i := by simpa using hj
  unfold wpOp
  simp only [ho, hw]
  exact ⟨fun _ => hS, h⟩
end
theorem ba_beq {a b : List UInt8} (h : ((⟨a.toArray⟩ : ByteArray) == ⟨b.toArray⟩) = true) : a = b := by
  have h2 : (a.toArray == b.toArray) = true := h
  have h3 := eq_of_beq h2
  simpa using h3
theorem own_some {B : Nat} {l : List UInt8} {w : World} {A : Option Addr} {c : Nat} (h : Bys B l w (.slice A l.length c)) (hl : l ≠ []) : ∃ g, A = some ⟨g, 0, none⟩ ∧ l.length ≤ c ∧ c ≤ maxLen := by
  rcases h.2 with ⟨e, h0⟩ | ⟨g, cap, cur, e, hB, hg, hc, hm, _⟩
  · exact absurd (List.eq_nil_of_length_eq_zero h0) hl
  · injection e with e1 e2 e3
    subst e1 e3
    exact ⟨g, rfl, hc, hm⟩
theorem own_part {B : Nat} {l : List UInt8} {w : World} {g c j : Nat} (h : Bys B l w (.slice (some ⟨g, 0, none⟩) l.length c)) (hj : j ≤ l.length) : Sees w (.slice (some ⟨g, 0, none⟩) j c) (l.take j) := by
  have hs := h.sees
  rcases hs with ⟨n, c', e, _⟩ | ⟨a, c', e, h1, h2⟩
  · cases e
  · injection e with e1 e2 e3
    injection e1 with e1
    subst e1 e3
    refine .inr ⟨_, c, by rw [List.length_take, Nat.min_eq_left (by omega)], fun i hi => ?_, h2⟩
    rw [List.length_take] at hi
    rw [h1 i (by omega), List.getElem_take]
theorem part_of {l : List UInt8} (kk : Int) (hl : l ≠ []) (hm : l.length ≤ 1000000) : ∃ j : Nat, RowKit.wrap64 ((IntKind.u64.wrap kk).tmod (l.length : Int)) = (j : Int) ∧ j < l.length := by
  have h0 : 0 < l.length := List.length_pos_iff.2 hl
  have h1 : 0 ≤ IntKind.u64.wrap kk := by rw [IntKind.wrap_u64]; exact Int.emod_nonneg _ (by decide)
  have h2 : (IntKind.u64.wrap kk).tmod (l.length : Int) = IntKind.u64.wrap kk % (l.length : Int) := Int.tmod_eq_emod_of_nonneg h1
  have h3 : 0 ≤ IntKind.u64.wrap kk % (l.length : Int) := Int.emod_nonneg _ (by omega)
  have h4 : IntKind.u64.wrap kk % (l.length : Int) < (l.length : Int) := Int.emod_lt_of_pos _ (by omega)
  refine ⟨(IntKind.u64.wrap kk % (l.length : Int)).toNat, ?_, by omega⟩
  rw [h2, IntWalk.wrap64_in _ ⟨by omega, by omega⟩]
  omega
/-- No proper beginning is read. -/
theorem short_none {t : V} (hc : chkV t = 0) (ho : OkE t) {k : Nat} (hk : k < (encV t).length) : checkedG ((encV t).take k) = none := by
  cases h : checkedG ((encV t).take k) with
  | none => rfl
  | some x =>
    obtain ⟨t', r⟩ := x
    have h1 := (Rm.Loc.checked.1 _ _ _ h).2 ((encV t).drop k)
    rw [List.take_append_drop] at h1
    have h2 := checked_back hc ho []
    rw [List.append_nil] at h2
    rw [h2] at h1
    injection h1 with h1; injection h1 with _ h1
    have h3 : ((encV t).drop k).length = 0 := by
      have := congrArg List.length h1
      rw [List.length_append] at this
      simp only [List.length_nil] at this
      omega
    rw [List.length_drop] at h3
    omega
/-- Nobody's bytes begin with another one's. -/
theorem apart_of {t t' : V} (hc : chkV t = 0) (ho : OkE t) (hc' : chkV t' = 0) (ho' : OkE t') (hne : t ≠ t') : (encV t).take (encV t').length ≠ encV t' := by
  intro e
  have h1 := checked_back hc ho []
  rw [List.append_nil] at h1
  have h2 := checked_back hc' ho' ((encV t).drop (encV t').length)
  have h3 : encV t' ++ (encV t).drop (encV t').length = encV t := by
    conv => lhs; rw [← e]
    rw [e]
    conv => rhs; rw [← List.take_append_drop (encV t').length (encV t), e]
  rw [h3] at h2
  rw [h1] at h2
  injection h2 with h2; injection h2 with h2 _
  exact hne h2
end Go.Proofs.YtlcfokejoikaaaaGreatDoor
/- UmH: A reader of bytes that were handed in. -/
namespace Go.Proofs.YtlcfokejoikaaaaGreatDoor
open Go.RowKit Go.Shelf Vp Cp Tx Rm
open Go
attribute [local go_sem] Oper.semAt_some

theorem clone_h (l : List UInt8) (v : Value) (w : World) (h : Hands w v l) (hl : l.length ≤ 140000000000000) : Calls Tryz.prog 44 #[v] w fun e w' => Gives w.heap.size w l e w' := by
  rcases h with ⟨rfl, rfl⟩ | ⟨a, c, rfl, h1, _⟩
  · exact clone_c [] _ w (Sees.nil_ w 0 0) hl
  · refine (Tryz.bytes_Clone_at a l.length c (l.map fun x => (x.toNat : Int)) w (by simp) (by omega) fun i hi => by rw [h1 i hi]; simp [hi]).mono ?_
    rintro e w' ⟨v', rfl, h2, _, h3⟩
    refine Gives.mk_ ?_ h3
    unfold Bys
    have e1 : (l.map fun x => (x.toNat : Int)).map (Value.int .u8) = Lib.byteCells l := by simp [Lib.byteCells]
    rw [e1] at h2; exact h2
set_option maxRecDepth 100000 in
set_option maxHeartbeats 2000000 in
theorem newReader_h (l : List UInt8) (v : Value) (w : World) (h : Hands w v l) (hl : l.length ≤ 140000000000000) :
    Calls Tryz.prog 12 #[v] w fun e w' => ∃ p B, e = .returned (.pointer (some ⟨p, 0, none⟩)) ∧ Rdr p B l false w' ∧ w.heap.size ≤ p ∧ Below w.heap.size w w' := by
  have HC := Lib.hid (clone_h l v w h hl)
  clear h
  go_enter Tryz.func12, Tryz.ntmps12
  go_wp2_with fail
  refine HC.out.mono ?_
  rintro e w1 ⟨v1, rfl, hy, hb⟩
  obtain ⟨A, c, rfl, h1, h2, h3⟩ := own_slice hy
  have HY := Lib.hid hy; have HB := Lib.hid hb; have HR := Lib.hid h3
  clear hy hb h3
  go_wp2_with fail
  go_ret
  refine ⟨w1.heap.size, w1.heap.size, rfl, ⟨A, c, Blk.new _ _ _, h1, h2, HR.out.alloc (Nat.le_refl _) _, by simp⟩, HB.out.size, HB.out.alloc HB.out.size _⟩
end Go.Proofs.YtlcfokejoikaaaaGreatDoor
