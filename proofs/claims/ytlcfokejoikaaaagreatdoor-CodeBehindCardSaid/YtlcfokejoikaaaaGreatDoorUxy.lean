/- Ux, Uy in one text. -/
import Derived.Test.YtlcfokejoikaaaaGreatDoorUw
import Derived.Test.YtlcfokejoikaaaaGreatDoorUqh
/- Ux: CodeBehind: two readers beside each other; the same was told. -/
namespace Go.Proofs.YtlcfokejoikaaaaGreatDoor
open Go.RowKit Go.Shelf Vp Cp Tx Rm
open Go
attribute [local go_sem] Oper.semAt_some

/-- What is done to one reader leaves the other one. -/
theorem Rdr.other {p q B C : Nat} {l l' : List UInt8} {f f' : Bool} {w w' : World} (h : Rdr q C l f w) (h' : Rdr p B l' f' w) (hne : q ≠ p) (hg : w.grownBy w' (some p)) : Rdr q C l f w' := by
  obtain ⟨A, c, k1, k2, k3, k4, k5⟩ := h
  obtain ⟨A', c', j1, _⟩ := h'
  refine ⟨A, c, k1.grown hg (by intro e; injection e with e; exact hne e), k2, k3, k4.keep fun k hk ⟨cs, fz, hb⟩ => ?_, Nat.le_trans k5 hg.size⟩
  refine hg.block k (by omega) fun e => ?_
  injection e with e
  subst e
  have := j1
  unfold Blk at this
  rw [this] at hb
  injection hb with hb
  injection hb with _ hb
  exact absurd hb (by decide)

set_option maxRecDepth 100000 in
set_option maxHeartbeats 4000000 in
theorem told_same (z : Int) (s : ByteArray) (q : Bool) (t : V) (k1 k2 : Nat) (n1 n2 : Int) (s1 s2 : ByteArray) (l1 l2 : List V) (A1 A2 : Option Addr) (c1 c2 : Nat) (w : World)
    (h1 : VRep w w.heap.size t (.agg #[.int .u8 (k1 : Int), .int .i64 n1, .string s1, .slice A1 l1.length c1])) (h2 : VRep w w.heap.size t (.agg #[.int .u8 (k2 : Int), .int .i64 n2, .string s2, .slice A2 l2.length c2])) :
    Calls Tryz.prog 14 #[.agg #[.int .i64 z, .string s, .int .u8 (k1 : Int), .int .i64 n1, .string s1, .slice A1 l1.length c1, .bool q], .agg #[.int .i64 z, .string s, .int .u8 (k2 : Int), .int .i64 n2, .string s2, .slice A2 l2.length c2, .bool q]] w fun e w' => e = .returned (.bool true) ∧ Below w.heap.size w w' := by
  obtain ⟨W, hW⟩ : ∃ W, W = (w.alloc (.cells #[.int .i64 z, .string s, .int .u8 (k1 : Int), .int .i64 n1, .string s1, .slice A1 l1.length c1, .bool q] 36)).alloc (.cells #[.int .i64 z, .string s, .int .u8 (k2 : Int), .int .i64 n2, .string s2, .slice A2 l2.length c2, .bool q] 36) := ⟨_, rfl⟩
  have hB : Below w.heap.size w W := hW ▸ ((Below.refl _ _).alloc (Nat.le_refl _) _).alloc (by simp) _
  have HS := Lib.hid (same_c t t _ _ W ((h1.under hB).more hB.size) ((h2.under hB).more hB.size))
  have HB := Lib.hid hB
  have HWE := Lib.hid hW
  rw [hW] at HS
  clear h1 h2 hB hW
  go_enter Tryz.func14, Tryz.ntmps14
  go_wp2_with fail
  refine HS.out.mono ?_
  rintro e w1 ⟨hsm, hb⟩
  obtain rfl := hsm.yes trivial
  rw [← HWE.out] at hb
  have HB1 := Lib.hid (HB.out.trans (hb.mono HB.out.size))
  clear hsm hb
  go_wp2_with fail
  go_ret
  exact ⟨rfl, HB1.out⟩
section
variable {P : Program} {ops : Array Oper} {Q : Exit → Act → World → Prop} {md : Region.Mode} {S : World → Prop} {m : Nat}
/-- Three that may come up. -/
theorem T_three {i k j : Nat} {o o' o'' : Oper} {fuel : Nat} {listed : Array Bool} {a : Act} {w : World} (ho : ops[i]? = some o) (ho' : ops[k]? = some o') (ho'' : ops[j]? = some o'') (hr : Region.ready md ops listed = [i, k, j]) (hw : Region.wanted o (yielded ops a.tmps) = true) (hw' : Region.wanted o' (yielded ops a.tmps) = true) (hw'' : Region.wanted o'' (yielded ops a.tmps) = true)
    (h : Oper.wp P o a w (fun a' w' => (i < m → S w') ∧ wpAnyT P md ops Q S m fuel (listed.setIfInBounds i true) a' w') Q)
    (h' : Oper.wp P o' a w (fun a' w' => (k < m → S w') ∧ wpAnyT P md ops Q S m fuel (listed.setIfInBounds k true) a' w') Q)
    (h'' : Oper.wp P o'' a w (fun a' w' => (j < m → S w') ∧ wpAnyT P md ops Q S m fuel (listed.setIfInBounds j true) a' w') Q) : wpAnyT P md ops Q S m (fuel + 1) listed a w := by
  refine ⟨fun h0 => absurd (hr ▸ h0) (by simp), fun n hn => ?_⟩
  rw [hr] at hn
  have hnn : n = i ∨ n = k ∨ n = j := by simpa using hn
  rcases hnn with rfl | rfl | rfl
  · unfold wpOp
    simp only [ho, hw, if_true]
    exact .inl h
  · unfold wpOp
    simp only [ho', hw', if_true]
    exact .inl h'
  · unfold wpOp
    simp only [ho'', hw'', if_true]
    exact .inl h''
end
/-- Questions in memory. -/
def AskRep (w : World) (l : List (Nat × Int)) (A : Option Addr) : Prop :=
  ∀ (j : Nat) (hj : j < l.length), ∃ b off, A = some ⟨b, off, none⟩ ∧ b < w.heap.size ∧ w.cell? ⟨b, off + j * 2, none⟩ = some (.int .u8 (l[j].1 : Int)) ∧ w.cell? ⟨b, off + j * 2 + 1, none⟩ = some (.int .i64 l[j].2) ∧ l[j].1 < 256
theorem of_all (p B k : Nat) (hk : k < 256) (most : Int) (l : List UInt8) (hs : l.length ≤ 140000000000000) (w : World) (h : Rdr p B l false w) :
    Calls Tryz.prog 13 #[.agg #[.int .u8 (k : Int), .int .i64 most], .pointer (some ⟨p, 0, none⟩)] w fun e w' => TellsA p B w (askG k most l) e w' := by
  have hc : k = 0 ∨ k = 1 ∨ k = 2 ∨ k = 3 ∨ 4 ≤ k := by omega
  rcases hc with rfl | rfl | rfl | rfl | hc
  · exact of_num p B most l hs w h
  · exact of_count p B most l hs w h
  · exact of_text p B most l hs w h
  · exact of_flag p B most l hs w h
  · exact of_value p B most k hc l hs w h
/-- What is known of the memory in the loop. -/
structure Two (w : World) (p1 B1 p2 B2 : Nat) (l1 l2 : List UInt8) (f1 f2 : Bool) (W : World) : Prop where
  r1 : Rdr p1 B1 l1 f1 W
  r2 : Rdr p2 B2 l2 f2 W
  low : Below w.heap.size w W
  g1 : w.heap.size ≤ p1
  g2 : w.heap.size ≤ p2
  ne : p1 ≠ p2
theorem Two.alloc {w : World} {p1 B1 p2 B2 : Nat} {l1 l2 : List UInt8} {f1 f2 : Bool} {W : World} (h : Two w p1 B1 p2 B2 l1 l2 f1 f2 W) (o : Obj) : Two w p1 B1 p2 B2 l1 l2 f1 f2 (W.alloc o) :=
  ⟨h.r1.alloc o, h.r2.alloc o, h.low.alloc h.low.size o, h.g1, h.g2, h.ne⟩
theorem Two.first {w : World} {p1 B1 p2 B2 : Nat} {l1 l2 l1' : List UInt8} {f1 f2 f1' : Bool} {W W' : World} (h : Two w p1 B1 p2 B2 l1 l2 f1 f2 W) (hr : Rdr p1 B1 l1' f1' W') (hg : W.grownBy W' (some p1)) : Two w p1 B1 p2 B2 l1' l2 f1' f2 W' :=
  ⟨hr, h.r2.other h.r1 h.ne.symm hg, h.low.trans (grown_below hg h.g1 h.low.size), h.g1, h.g2, h.ne⟩
theorem Two.second {w : World} {p1 B1 p2 B2 : Nat} {l1 l2 l2' : List UInt8} {f1 f2 f2' : Bool} {W W' : World} (h : Two w p1 B1 p2 B2 l1 l2 f1 f2 W) (hr : Rdr p2 B2 l2' f2' W') (hg : W.grownBy W' (some p2)) : Two w p1 B1 p2 B2 l1 l2' f1 f2' W' :=
  ⟨h.r1.other h.r2 h.ne hg, hr, h.low.trans (grown_below hg h.g2 h.low.size), h.g1, h.g2, h.ne⟩
theorem Two.set {w : World} {p1 B1 p2 B2 q : Nat} {l1 l2 : List UInt8} {f1 f2 : Bool} {W : World} {cs : Array Value} (h : Two w p1 B1 p2 B2 l1 l2 f1 f2 W) (hX : Blk W q 36 cs) (hq : w.heap.size ≤ q) (i : Nat) (x : Value) : Two w p1 B1 p2 B2 l1 l2 f1 f2 (W.setCell ⟨q, i, none⟩ x) :=
  ⟨h.r1.setT hX (by decide) (by decide) x, h.r2.setT hX (by decide) (by decide) x, h.low.setCell hq x, h.g1, h.g2, h.ne⟩
theorem Two.set7 {w : World} {p1 B1 p2 B2 q : Nat} {l1 l2 : List UInt8} {f1 f2 : Bool} {W : World} {cs : Array Value} (h : Two w p1 B1 p2 B2 l1 l2 f1 f2 W) (hX : Blk W q 36 cs) (hq : w.heap.size ≤ q) (x0 x1 x2 x3 x4 x5 x6 : Value) : Two w p1 B1 p2 B2 l1 l2 f1 f2 (set7 W q x0 x1 x2 x3 x4 x5 x6) := by
  have h0 := hX.set_ 0 x0
  have h1 := h0.set_ 1 x1
  have h2 := h1.set_ 2 x2
  have h3 := h2.set_ 3 x3
  have h4 := h3.set_ 4 x4
  have h5 := h4.set_ 5 x5
  exact ((((((h.set hX hq 0 x0).set h0 hq 1 x1).set h1 hq 2 x2).set h2 hq 3 x3).set h3 hq 4 x4).set h4 hq 5 x5).set h5 hq 6 x6
theorem Lies.set7 {S : Nat → Prop} {w : World} {t : V} {u : Value} {q : Nat} (h : Lies S w t u) (hq : ¬ S q) (x0 x1 x2 x3 x4 x5 x6 : Value) : Lies S (set7 w q x0 x1 x2 x3 x4 x5 x6) t u :=
  ((((((h.set ⟨q, 0, none⟩ hq x0).set ⟨q, 1, none⟩ hq x1).set ⟨q, 2, none⟩ hq x2).set ⟨q, 3, none⟩ hq x3).set ⟨q, 4, none⟩ hq x4).set ⟨q, 5, none⟩ hq x5).set ⟨q, 6, none⟩ hq x6
end Go.Proofs.YtlcfokejoikaaaaGreatDoor
/- Uy: CodeBehind: the walk. -/
namespace Go.Proofs.YtlcfokejoikaaaaGreatDoor
open Go.RowKit Go.Shelf Vp Cp Tx Rm
open Go
attribute [local go_sem] Oper.semAt_some

/-- What stands behind a round's two questions. -/
def Asked (w : World) (p1 B1 p2 B2 : Nat) (o1 o2 : Option (Told × List UInt8)) (s10 s11 : Value) (wx : World) : Prop :=
  ∃ (g10 g11 : Nat) (a1 b1 c1 d1 a2 b2 c2 d2 : Value), s10 = .pointer (some ⟨g10, 0, none⟩) ∧ s11 = .pointer (some ⟨g11, 0, none⟩) ∧ Blk wx g10 36 #[.int .i64 (toldO o1).1, .string ⟨(toldO o1).2.1.toArray⟩, a1, b1, c1, d1, .bool (isO o1)] ∧ Blk wx g11 36 #[.int .i64 (toldO o2).1, .string ⟨(toldO o2).2.1.toArray⟩, a2, b2, c2, d2, .bool (isO o2)] ∧
    VRep wx wx.heap.size (toldO o1).2.2 (.agg #[a1, b1, c1, d1]) ∧ VRep wx wx.heap.size (toldO o2).2.2 (.agg #[a2, b2, c2, d2]) ∧ Two w p1 B1 p2 B2 (restO o1) (restO o2) (failO false o1) (failO false o2) wx
/-- Behind a call: what is left. -/
def lefT (l : List UInt8) (o : Option (Told × List UInt8)) : Option (Value × Value × Value × Value) → List UInt8
  | none => l
  | some _ => restO o
def falT (o : Option (Told × List UInt8)) : Option (Value × Value × Value × Value) → Bool
  | none => false
  | some _ => failO false o
/-- Blocks of the round's own, but the boxes of what was told. -/
def Own (n : Nat) (e10 e11 : Option Nat) (b : Nat) : Prop := n ≤ b ∧ e10 ≠ some b ∧ e11 ≠ some b
/-- Between the operations of a round's two questions. -/
structure Mid (w : World) (n p1 B1 p2 B2 : Nat) (l1 l2 : List UInt8) (o1 o2 : Option (Told × List UInt8)) (e10 e11 : Option Nat) (d1 d2 : Option (Value × Value × Value × Value)) (W : World) : Prop where
  two : Two w p1 B1 p2 B2 (lefT l1 o1 d1) (lefT l2 o2 d2) (falT o1 d1) (falT o2 d2) W
  sz : n ≤ W.heap.size
  wn : w.heap.size ≤ n
  q1 : p1 < n
  q2 : p2 < n
  b10 : ∀ g, e10 = some g → Blk W g 36 #[.int .i64 0, .string ⟨#[]⟩, .int .u8 0, .int .i64 0, .string ⟨#[]⟩, .slice none 0 0, .bool false] ∧ n ≤ g
  b11 : ∀ g, e11 = some g → Blk W g 36 #[.int .i64 0, .string ⟨#[]⟩, .int .u8 0, .int .i64 0, .string ⟨#[]⟩, .slice none 0 0, .bool false] ∧ n ≤ g
  ne : ∀ g, e10 = some g → e11 ≠ some g
  t1 : ∀ a b c d, d1 = some (a, b, c, d) → Lies (Own n e10 e11) W (toldO o1).2.2 (.agg #[a, b, c, d])
  t2 : ∀ a b c d, d2 = some (a, b, c, d) → Lies (Own n e10 e11) W (toldO o2).2.2 (.agg #[a, b, c, d])
section
variable {w W W' : World} {n p1 B1 p2 B2 g : Nat} {l1 l2 : List UInt8} {o1 o2 : Option (Told × List UInt8)} {e10 e11 : Option Nat} {d1 d2 : Option (Value × Value × Value × Value)}
theorem Mid.alloc10 (h : Mid w n p1 B1 p2 B2 l1 l2 o1 o2 none e11 d1 d2 W) (hW : W' = W.alloc (.cells #[.int .i64 0, .string ⟨#[]⟩, .int .u8 0, .int .i64 0, .string ⟨#[]⟩, .slice none 0 0, .bool false] 36)) (hg : g = W.heap.size) : Mid w n p1 B1 p2 B2 l1 l2 o1 o2 (some g) e11 d1 d2 W' := by
  subst hW; subst hg
  have hlt : ∀ g, e11 = some g → g < W.heap.size := fun g hg => (h.b11 g hg).1.lt
  have up : ∀ b, b < W.heap.size → Own n none e11 b → Own n (some W.heap.size) e11 b := fun b hb ho => ⟨ho.1, fun e => by injection e with e; omega, ho.2.2⟩
  exact ⟨h.two.alloc _, by have := h.sz; simp; omega, h.wn, h.q1, h.q2, fun g hg => by injection hg with hg; subst hg; exact ⟨Blk.new _ _ _, h.sz⟩, fun g hg => ⟨(h.b11 g hg).1.alloc _, (h.b11 g hg).2⟩, fun g hg e => by injection hg with hg; have := hlt g e; omega,
    fun a b c d hd => ((h.t1 a b c d hd).mono up).alloc _, fun a b c d hd => ((h.t2 a b c d hd).mono up).alloc _⟩
theorem Mid.alloc11 (h : Mid w n p1 B1 p2 B2 l1 l2 o1 o2 e10 none d1 d2 W) (hW : W' = W.alloc (.cells #[.int .i64 0, .string ⟨#[]⟩, .int .u8 0, .int .i64 0, .string ⟨#[]⟩, .slice none 0 0, .bool false] 36)) (hg : g = W.heap.size) : Mid w n p1 B1 p2 B2 l1 l2 o1 o2 e10 (some g) d1 d2 W' := by
  subst hW; subst hg
  have hlt : ∀ g, e10 = some g → g < W.heap.size := fun g hg => (h.b10 g hg).1.lt
  have up : ∀ b, b < W.heap.size → Own n e10 none b → Own n e10 (some W.heap.size) b := fun b hb ho => ⟨ho.1, ho.2.1, fun e => by injection e with e; omega⟩
  exact ⟨h.two.alloc _, by have := h.sz; simp; omega, h.wn, h.q1, h.q2, fun g hg => ⟨(h.b10 g hg).1.alloc _, (h.b10 g hg).2⟩, fun g hg => by injection hg with hg; subst hg; exact ⟨Blk.new _ _ _, h.sz⟩, fun g hg e => by injection e with e; have := hlt g hg; omega,
    fun a b c d hd => ((h.t1 a b c d hd).mono up).alloc _, fun a b c d hd => ((h.t2 a b c d hd).mono up).alloc _⟩
theorem blk_apart {B : Nat} {rest : List UInt8} {f : Bool} {p : Nat} {cs : Array Value} (hX : Blk W g 36 cs) (hr : Rdr p B rest f W) (hg : W.grownBy W' (some p)) : Blk W' g 36 cs := by
  obtain ⟨_, hb⟩ := hr.blk
  exact hX.grown hg (fun e => by injection e with e; exact Blk.ne_ hX hb (by decide) e)
theorem Mid.call1 {a b c d : Value} (h : Mid w n p1 B1 p2 B2 l1 l2 o1 o2 e10 e11 none d2 W) (hl : Lies (fun b => W.heap.size ≤ b) W' (toldO o1).2.2 (.agg #[a, b, c, d])) (hr : Rdr p1 B1 (restO o1) (failO false o1) W') (hg : W.grownBy W' (some p1)) : Mid w n p1 B1 p2 B2 l1 l2 o1 o2 e10 e11 (some (a, b, c, d)) d2 W' := by
  have r0 : Rdr p1 B1 _ _ W := h.two.r1
  refine ⟨h.two.first hr hg, Nat.le_trans h.sz hg.size, h.wn, h.q1, h.q2, fun g hg2 => ⟨blk_apart (h.b10 g hg2).1 r0 hg, (h.b10 g hg2).2⟩, fun g hg2 => ⟨blk_apart (h.b11 g hg2).1 r0 hg, (h.b11 g hg2).2⟩, h.ne, fun a' b' c' d' hd => ?_, fun a' b' c' d' hd => (h.t2 a' b' c' d' hd).grown hg (fun ho => by have := ho.1; have := h.q1; omega)⟩
  injection hd with hd; injection hd with e1 hd; injection hd with e2 hd; injection hd with e3 e4
  subst e1; subst e2; subst e3; subst e4
  exact hl.mono fun b _ hb => ⟨Nat.le_trans h.sz hb, fun e => by have := (h.b10 b e).1.lt; omega, fun e => by have := (h.b11 b e).1.lt; omega⟩
theorem Mid.call2 {a b c d : Value} (h : Mid w n p1 B1 p2 B2 l1 l2 o1 o2 e10 e11 d1 none W) (hl : Lies (fun b => W.heap.size ≤ b) W' (toldO o2).2.2 (.agg #[a, b, c, d])) (hr : Rdr p2 B2 (restO o2) (failO false o2) W') (hg : W.grownBy W' (some p2)) : Mid w n p1 B1 p2 B2 l1 l2 o1 o2 e10 e11 d1 (some (a, b, c, d)) W' := by
  have r0 : Rdr p2 B2 _ _ W := h.two.r2
  refine ⟨h.two.second hr hg, Nat.le_trans h.sz hg.size, h.wn, h.q1, h.q2, fun g hg2 => ⟨blk_apart (h.b10 g hg2).1 r0 hg, (h.b10 g hg2).2⟩, fun g hg2 => ⟨blk_apart (h.b11 g hg2).1 r0 hg, (h.b11 g hg2).2⟩, h.ne, fun a' b' c' d' hd => (h.t1 a' b' c' d' hd).grown hg (fun ho => by have := ho.1; have := h.q2; omega), fun a' b' c' d' hd => ?_⟩
  injection hd with hd; injection hd with e1 hd; injection hd with e2 hd; injection hd with e3 e4
  subst e1; subst e2; subst e3; subst e4
  exact hl.mono fun b _ hb => ⟨Nat.le_trans h.sz hb, fun e => by have := (h.b10 b e).1.lt; omega, fun e => by have := (h.b11 b e).1.lt; omega⟩
theorem blk7_far {q : Nat} {t : TypeId} {cs : Array Value} (h : Blk W g t cs) (hne : g ≠ q) (x0 x1 x2 x3 x4 x5 x6 : Value) : Blk (set7 W q x0 x1 x2 x3 x4 x5 x6) g t cs :=
  ((((((h.far (p := ⟨q, 0, none⟩) hne x0).far (p := ⟨q, 1, none⟩) hne x1).far (p := ⟨q, 2, none⟩) hne x2).far (p := ⟨q, 3, none⟩) hne x3).far (p := ⟨q, 4, none⟩) hne x4).far (p := ⟨q, 5, none⟩) hne x5).far (p := ⟨q, 6, none⟩) hne x6
theorem Mid.fin {g10 g11 : Nat} {a1 b1 c1 d1 a2 b2 c2 d2 : Value} (h : Mid w n p1 B1 p2 B2 l1 l2 o1 o2 (some g10) (some g11) (some (a1, b1, c1, d1)) (some (a2, b2, c2, d2)) W) :
    Asked w p1 B1 p2 B2 o1 o2 (.pointer (some ⟨g10, 0, none⟩)) (.pointer (some ⟨g11, 0, none⟩)) (set7 (set7 W g10 (.int .i64 (toldO o1).1) (.string ⟨(toldO o1).2.1.toArray⟩) a1 b1 c1 d1 (.bool (isO o1))) g11 (.int .i64 (toldO o2).1) (.string ⟨(toldO o2).2.1.toArray⟩) a2 b2 c2 d2 (.bool (isO o2))) := by
  obtain ⟨hb1, hn1⟩ := h.b10 g10 rfl
  obtain ⟨hb2, hn2⟩ := h.b11 g11 rfl
  have hne : g10 ≠ g11 := fun e => h.ne g10 rfl (by rw [e])
  have k1 := h.t1 _ _ _ _ rfl
  have k2 := h.t2 _ _ _ _ rfl
  have m1 : ¬ Own n (some g10) (some g11) g10 := fun ho => ho.2.1 rfl
  have m2 : ¬ Own n (some g10) (some g11) g11 := fun ho => ho.2.2 rfl
  have wn := h.wn
  exact ⟨g10, g11, a1, b1, c1, d1, a2, b2, c2, d2, rfl, rfl, blk7_far (blk7 hb1) hne _ _ _ _ _ _ _, blk7 (blk7_far hb2 hne.symm _ _ _ _ _ _ _), ((k1.set7 m1 _ _ _ _ _ _ _).set7 m2 _ _ _ _ _ _ _).rep, ((k2.set7 m1 _ _ _ _ _ _ _).set7 m2 _ _ _ _ _ _ _).rep,
    (h.two.set7 hb1 (by omega) _ _ _ _ _ _ _).set7 (blk7_far hb2 hne.symm _ _ _ _ _ _ _) (by omega) _ _ _ _ _ _ _⟩
theorem Mid.low2 {g10 g11 : Nat} (h : Mid w n p1 B1 p2 B2 l1 l2 o1 o2 (some g10) (some g11) d1 d2 W) (x0 x1 x2 x3 x4 x5 x6 y0 y1 y2 y3 y4 y5 y6 : Value) : Below w.heap.size w (set7 (set7 W g10 x0 x1 x2 x3 x4 x5 x6) g11 y0 y1 y2 y3 y4 y5 y6) := by
  obtain ⟨hb1, hn1⟩ := h.b10 g10 rfl
  obtain ⟨hb2, hn2⟩ := h.b11 g11 rfl
  have hne : g10 ≠ g11 := fun e => h.ne g10 rfl (by rw [e])
  have wn := h.wn
  exact ((h.two.set7 hb1 (by omega) _ _ _ _ _ _ _).set7 (blk7_far hb2 hne.symm _ _ _ _ _ _ _) (by omega) _ _ _ _ _ _ _).low
theorem Mid.low1 {g10 : Nat} (h : Mid w n p1 B1 p2 B2 l1 l2 o1 o2 (some g10) e11 d1 d2 W) (x0 x1 x2 x3 x4 x5 x6 : Value) : Below w.heap.size w (set7 W g10 x0 x1 x2 x3 x4 x5 x6) := by
  obtain ⟨hb1, hn1⟩ := h.b10 g10 rfl
  exact (h.two.set7 hb1 (Nat.le_trans h.wn hn1) _ _ _ _ _ _ _).low
end
theorem Two.drew {w : World} {p1 B1 p2 B2 : Nat} {l1 l2 : List UInt8} {f1 f2 : Bool} {W : World} (h : Two w p1 B1 p2 B2 l1 l2 f1 f2 W) : Two w p1 B1 p2 B2 l1 l2 f1 f2 W.drew :=
  ⟨h.r1.under (Below.refl _ _).drew, h.r2.under (Below.refl _ _).drew, h.low.drew, h.g1, h.g2, h.ne⟩
theorem Two.under {w : World} {p1 B1 p2 B2 : Nat} {l1 l2 : List UInt8} {f1 f2 : Bool} {W W' : World} (h : Two w p1 B1 p2 B2 l1 l2 f1 f2 W) (hb : Below W.heap.size W W') : Two w p1 B1 p2 B2 l1 l2 f1 f2 W' :=
  ⟨h.r1.under hb, h.r2.under hb, h.low.trans (hb.mono h.low.size), h.g1, h.g2, h.ne⟩
set_option maxRecDepth 100000 in
set_option maxHeartbeats 16000000 in
theorem behind_law (x y : List UInt8) (l : List (Nat × Int)) (AX AL AY : Option Addr) (CX CL CY lx ll ly : Nat) (w : World) (hlx : x.length = lx) (hly : y.length = ly) (hll : l.length = ll) (hux : Hands w (.slice AX lx CX) x) (huy : Hands w (.slice AY ly CY) y) (hul : AskRep w l AL)
    (hxm : lx ≤ maxLen) (hym : ly ≤ maxLen) (hlm : ll ≤ maxLen) (hM : MaxB w.heap.size w) :
    Calls Tryz.prog 8 #[.slice AX lx CX, .slice AL ll CL, .slice AY ly CY] w fun e w' => e = .returned (.bool true) ∧ Below w.heap.size w w' := by
  have hmax : maxLen = 9223372036854775807 := rfl
  have HWK := Lib.hid (works_c w hM.2)
  have HUX := Lib.hid hux; have HUY := Lib.hid huy; have HUL := Lib.hid hul; have HLX := Lib.hid hlx; have HLY := Lib.hid hly; have HLL := Lib.hid hll
  clear hux huy hul hM hlx hly hll
  by_cases hbx : (3000 : Int) < (lx : Int)
  · go_enter Tryz.func8, Tryz.ntmps8
    go_wp2_with fail
    refine HWK.out.mono ?_
    rintro e w9 ⟨rfl, hb9⟩
    have HB9 := Lib.hid hb9
    clear hb9
    go_wp2_with fail
    go_ret
    exact ⟨rfl, HB9.out⟩
  by_cases hbl : (60 : Int) < (ll : Int)
  · go_enter Tryz.func8, Tryz.ntmps8
    go_wp2_with fail
    refine HWK.out.mono ?_
    rintro e w9 ⟨rfl, hb9⟩
    have HB9 := Lib.hid hb9
    clear hb9
    go_wp2_with fail
    go_ret
    exact ⟨rfl, HB9.out⟩
  by_cases hby : (3000 : Int) < (ly : Int)
  · go_enter Tryz.func8, Tryz.ntmps8
    go_wp2_with fail
    refine HWK.out.mono ?_
    rintro e w9 ⟨rfl, hb9⟩
    have HB9 := Lib.hid hb9
    clear hb9
    go_wp2_with fail
    go_ret
    exact ⟨rfl, HB9.out⟩
  go_enter Tryz.func8, Tryz.ntmps8
  go_wp2_with fail
  refine HWK.out.mono ?_
  rintro e w1 ⟨rfl, hb1⟩
  have HB1 := Lib.hid hb1
  have HN1 := Lib.hid (newReader_h x _ w1 (HUX.out.under hb1) (by have := HLX.out; omega))
  clear hb1 HWK
  go_wp2_with fail
  refine HN1.out.mono ?_
  rintro e w2 ⟨p1, B1, rfl, hr2, hp2, hb2⟩
  have HB2 := Lib.hid (HB1.out.trans (hb2.mono HB1.out.size)); have HR2 := Lib.hid hr2; have HP1 := Lib.hid (Nat.le_trans HB1.out.size hp2)
  have HBH := Lib.hid (behind_c x y _ _ w2 (HUX.out.under HB2.out) (HUY.out.under HB2.out) (by have := HLX.out; omega) (by have := HLY.out; omega))
  clear hr2 hp2 hb2 HN1 HB1
  go_wp2_with fail
  refine HBH.out.mono ?_
  rintro e w3 ⟨v3, rfl, hy3, hb3⟩
  have HB3 := Lib.hid (HB2.out.trans (hb3.mono HB2.out.size)); have HR3 := Lib.hid (HR2.out.under hb3)
  have HN2 := Lib.hid (newReader_c _ _ w3 hy3.sees (by rw [List.length_append]; have := HLX.out; have := HLY.out; omega))
  have hp13 := Nat.lt_of_lt_of_le HR2.out.lt hb3.size
  have HP13 := Lib.hid hp13
  clear hy3 hb3 HBH HB2 HR2 hp13
  go_wp2_with fail
  refine HN2.out.mono ?_
  rintro e w4 ⟨p2, B2, rfl, hr4, hp4, hb4⟩
  have HTW0 : Hid (Two w p1 B1 p2 B2 x (x ++ y) false false w4) := Lib.hid ⟨HR3.out.under hb4, hr4, HB3.out.trans (hb4.mono HB3.out.size), HP1.out, Nat.le_trans HB3.out.size hp4, by have := HP13.out; omega⟩
  clear hr4 hp4 hb4 HN2 HB3 HR3 HP13 HP1
  go_wp2_with fail
  go_loopg [9] (ll + 1) (fun gg s9 wr => ∃ (i : Nat) (rest : List UInt8), i ≤ ll ∧ gg = ll + 1 - i ∧ s9 = .int .i64 (i : Int) ∧ rest.length ≤ lx ∧ Two w p1 B1 p2 B2 rest (rest ++ y) false false wr)
  case atStart => exact ⟨0, x, Nat.zero_le _, rfl, rfl, by have := HLX.out; omega, HTW0.out⟩
  case round =>
    clear HTW0
    obtain ⟨i, rest, hi, hg, rfl, hrl, htw⟩ := hrel
    have HG := Lib.hid hg; have HTW := Lib.hid htw
    clear hg htw
    by_cases hil : i < ll
    · have hiz : (i : Int) < (ll : Int) := by omega
      obtain ⟨b, off, rfl, hb, hc0, hc1, hk⟩ := HUL.out i (by have := HLL.out; omega)
      obtain ⟨k, hkk⟩ : ∃ k, (l[i]'(by have := HLL.out; omega)).1 = k := ⟨_, rfl⟩
      obtain ⟨most, hmm⟩ : ∃ m, (l[i]'(by have := HLL.out; omega)).2 = m := ⟨_, rfl⟩
      rw [hkk] at hc0 hk
      rw [hmm] at hc1
      have HS : Hid (∀ W', Below w.heap.size w W' → (W'.cell? ⟨b, off + i * 2, none⟩ = some (.int .u8 (k : Int)) ∧ W'.cell? ⟨b, off + i * 2 + 1, none⟩ = some (.int .i64 most))) := Lib.hid fun W' hbw => ⟨(hbw.cell (p := ⟨b, off + i * 2, none⟩) hb).trans hc0, (hbw.cell (p := ⟨b, off + i * 2 + 1, none⟩) hb).trans hc1⟩
      obtain ⟨o1, ho1⟩ : ∃ o, askG k most rest = o := ⟨_, rfl⟩
      obtain ⟨o2, ho2⟩ : ∃ o, askG k most (rest ++ y) = o := ⟨_, rfl⟩
      have HO1 : Hid (∀ W, Rdr p1 B1 rest false W → Calls Tryz.prog 13 #[.agg #[.int .u8 (k : Int), .int .i64 most], .pointer (some ⟨p1, 0, none⟩)] W fun e w' => TellsA p1 B1 W o1 e w') := Lib.hid fun W hR => by
        have := of_all p1 B1 k hk most rest (by omega) W hR
        rwa [ho1] at this
      have HO2 : Hid (∀ W, Rdr p2 B2 (rest ++ y) false W → Calls Tryz.prog 13 #[.agg #[.int .u8 (k : Int), .int .i64 most], .pointer (some ⟨p2, 0, none⟩)] W fun e w' => TellsA p2 B2 W o2 e w') := Lib.hid fun W hR => by
        have := of_all p2 B2 k hk most (rest ++ y) (by rw [List.length_append, HLY.out]; omega) W hR
        rwa [ho2] at this
      have HE1 := Lib.hid ho1; have HE2 := Lib.hid ho2
      clear hb hc0 hc1 hk hkk hmm ho1 ho2
      go_upto_region 7 with fail
      go_cut [10, 11] (fun s10 s11 wx => Asked w p1 B1 p2 B2 o1 o2 s10 s11 wx)
      case first =>
        have HSX := Lib.hid (HS.out _ HTW.out.low.drew)
        have H0 : Hid (Mid w wr.heap.size p1 B1 p2 B2 rest (rest ++ y) o1 o2 none none none none wr.drew) := Lib.hid ⟨HTW.out.drew, Nat.le_refl _, HTW.out.low.size, HTW.out.r1.lt, HTW.out.r2.lt, fun _ h => (by cases h), fun _ h => (by cases h), fun _ h => (by cases h), fun _ _ _ _ h => (by cases h), fun _ _ _ _ h => (by cases h)⟩
        refine chain_region (fun W' => (W'.cell? ⟨b, off + i * 2, none⟩ = some (.int .u8 (k : Int)) ∧ W'.cell? ⟨b, off + i * 2 + 1, none⟩ = some (.int .i64 most))) 16 (by kernel_rfl) ?_
        obtain ⟨WD, hWD⟩ : ∃ W', W' = wr.drew := ⟨_, rfl⟩
        rw [← hWD] at HSX H0 ⊢
        clear hWD
        refine T_take (i := 0) (v := .slice (some ⟨b, off, none⟩) ll CL) rfl (by kernel_rfl) (fun _ _ _ h => h) rfl (fun W hS => by go_simp) HSX.out ?_
        go_simp
        refine T_take (i := 1) (v := .int .i64 (i : Int)) rfl (by kernel_rfl) (fun _ _ _ h => h) rfl (fun W hS => by go_simp) HSX.out ?_
        go_simp
        refine T_take (i := 2) (v := .pointer (some ⟨b, off + i * 2, none⟩)) rfl (by kernel_rfl) (fun _ _ _ h => h) rfl (fun W hS => by go_simp) HSX.out ?_
        go_simp
        refine T_take (i := 3) (v := .agg #[.int .u8 (k : Int), .int .i64 most]) rfl (by kernel_rfl) (fun _ _ _ h => h) rfl (fun W hS => by obtain ⟨h1, h2⟩ := hS; go_simp) HSX.out ?_
        go_simp
        refine T_take (i := 4) (v := .pointer (some ⟨p1, 0, none⟩)) rfl (by kernel_rfl) (fun _ _ _ h => h) rfl (fun W hS => by go_simp) HSX.out ?_
        go_simp
        refine T_take (i := 6) (v := .slice (some ⟨b, off, none⟩) ll CL) rfl (by kernel_rfl) (fun _ _ _ h => h) rfl (fun W hS => by go_simp) HSX.out ?_
        go_simp
        refine T_take (i := 7) (v := .int .i64 (i : Int)) rfl (by kernel_rfl) (fun _ _ _ h => h) rfl (fun W hS => by go_simp) HSX.out ?_
        go_simp
        refine T_take (i := 8) (v := .pointer (some ⟨b, off + i * 2, none⟩)) rfl (by kernel_rfl) (fun _ _ _ h => h) rfl (fun W hS => by go_simp) HSX.out ?_
        go_simp
        refine T_take (i := 9) (v := .agg #[.int .u8 (k : Int), .int .i64 most]) rfl (by kernel_rfl) (fun _ _ _ h => h) rfl (fun W hS => by obtain ⟨h1, h2⟩ := hS; go_simp) HSX.out ?_
        go_simp
        refine T_take (i := 10) (v := .pointer (some ⟨p2, 0, none⟩)) rfl (by kernel_rfl) (fun _ _ _ h => h) rfl (fun W hS => by go_simp) HSX.out ?_
        go_simp
        refine T_three (i := 5) (k := 12) (j := 13) rfl rfl rfl (by kernel_rfl) rfl rfl rfl ?_ ?_ ?_
        · refine op_guard ?_
          refine op_callT #[.agg #[.int .u8 (k : Int), .int .i64 most], .pointer (some ⟨p1, 0, none⟩)] (by simp [go_sem]) (enters_of Tryz.func13 (by kernel_rfl) rfl _ _) (HO1.out _ H0.out.two.r1) ?_
          rintro e wx1 ⟨a1, b1, c1, d1, rfl, hl, hr, hg⟩
          obtain ⟨ka1, na1, sa1, la1, Aa1, ca1, _, he, _, _, _, _⟩ := hl.rep.open_
          simp only [Value.agg.injEq, Array.mk.injEq, List.cons.injEq, and_true] at he
          obtain ⟨rfl, rfl, rfl, rfl⟩ := he
          have H1 := Lib.hid (H0.out.call1 hl hr hg)
          clear hl hr hg
          refine ⟨_, rfl, fun _ => HS.out _ H1.out.two.low, ?_⟩
          refine T_three (i := 11) (k := 12) (j := 13) rfl rfl rfl (by kernel_rfl) rfl rfl rfl ?_ ?_ ?_
          · refine op_guard ?_
            refine op_callT #[.agg #[.int .u8 (k : Int), .int .i64 most], .pointer (some ⟨p2, 0, none⟩)] (by simp [go_sem]) (enters_of Tryz.func13 (by kernel_rfl) rfl _ _) (HO2.out _ H1.out.two.r2) ?_
            rintro e wx2 ⟨a2, b2, c2, d2, rfl, hl, hr, hg⟩
            obtain ⟨ka2, na2, sa2, la2, Aa2, ca2, _, he, _, _, _, _⟩ := hl.rep.open_
            simp only [Value.agg.injEq, Array.mk.injEq, List.cons.injEq, and_true] at he
            obtain ⟨rfl, rfl, rfl, rfl⟩ := he
            have H2 := Lib.hid (H1.out.call2 hl hr hg)
            clear hl hr hg
            refine ⟨_, rfl, fun _ => HS.out _ H2.out.two.low, ?_⟩
            refine T_two (i := 12) (k := 13) rfl rfl (by kernel_rfl) rfl rfl ?_ ?_
            · go_simp
              obtain ⟨W3, hW⟩ : ∃ W', W' = (wx2).alloc (.cells #[.int .i64 0, .string ⟨#[]⟩, .int .u8 0, .int .i64 0, .string ⟨#[]⟩, .slice none 0 0, .bool false] 36) := ⟨_, rfl⟩
              rw [← hW]
              have H3 := Lib.hid (H2.out.alloc10 hW (g := wx2.heap.size) rfl)
              clear hW
              refine ⟨HS.out _ H3.out.two.low, ?_⟩
              refine T_one (i := 13) rfl (by kernel_rfl) rfl ?_
              go_simp
              obtain ⟨W4, hW⟩ : ∃ W', W' = (W3).alloc (.cells #[.int .i64 0, .string ⟨#[]⟩, .int .u8 0, .int .i64 0, .string ⟨#[]⟩, .slice none 0 0, .bool false] 36) := ⟨_, rfl⟩
              rw [← hW]
              have H4 := Lib.hid (H3.out.alloc11 hW (g := W3.heap.size) rfl)
              clear hW
              refine ⟨HS.out _ H4.out.two.low, ?_⟩
              obtain ⟨hb10, _⟩ := H4.out.b10 _ rfl
              obtain ⟨hb11, _⟩ := H4.out.b11 _ rfl
              have HB10 := Lib.hid hb10; have HB11 := Lib.hid hb11
              have hne1 : ¬ wx2.heap.size = W3.heap.size := fun e => H4.out.ne _ rfl (by rw [e])
              have hne2 : ¬ W3.heap.size = wx2.heap.size := fun e => hne1 e.symm
              clear hb10 hb11
              have ac0 := HB10.out.cell 0; have az0 := HB10.out.frozen 0
              have ac1 := HB10.out.cell 1; have az1 := HB10.out.frozen 1
              have ac2 := HB10.out.cell 2; have az2 := HB10.out.frozen 2
              have ac3 := HB10.out.cell 3; have az3 := HB10.out.frozen 3
              have ac4 := HB10.out.cell 4; have az4 := HB10.out.frozen 4
              have ac5 := HB10.out.cell 5; have az5 := HB10.out.frozen 5
              have ac6 := HB10.out.cell 6; have az6 := HB10.out.frozen 6
              simp at ac0 ac1 ac2 ac3 ac4 ac5 ac6
              have bc0 := HB11.out.cell 0; have bz0 := HB11.out.frozen 0
              have bc1 := HB11.out.cell 1; have bz1 := HB11.out.frozen 1
              have bc2 := HB11.out.cell 2; have bz2 := HB11.out.frozen 2
              have bc3 := HB11.out.cell 3; have bz3 := HB11.out.frozen 3
              have bc4 := HB11.out.cell 4; have bz4 := HB11.out.frozen 4
              have bc5 := HB11.out.cell 5; have bz5 := HB11.out.frozen 5
              have bc6 := HB11.out.cell 6; have bz6 := HB11.out.frozen 6
              simp at bc0 bc1 bc2 bc3 bc4 bc5 bc6
              refine T_one (i := 14) rfl (by kernel_rfl) rfl ?_
              go_simp
              refine ⟨HS.out _ (H4.out.low1 _ _ _ _ _ _ _), ?_⟩
              refine T_one (i := 15) rfl (by kernel_rfl) rfl ?_
              go_simp
              refine ⟨HS.out _ (H4.out.low2 _ _ _ _ _ _ _ _ _ _ _ _ _ _), ?_⟩
              refine T_done (by kernel_rfl) ?_
              go_wp2_with fail
              go_meet
              exact H4.out.fin
            · go_simp
              obtain ⟨W5, hW⟩ : ∃ W', W' = (wx2).alloc (.cells #[.int .i64 0, .string ⟨#[]⟩, .int .u8 0, .int .i64 0, .string ⟨#[]⟩, .slice none 0 0, .bool false] 36) := ⟨_, rfl⟩
              rw [← hW]
              have H5 := Lib.hid (H2.out.alloc11 hW (g := wx2.heap.size) rfl)
              clear hW
              refine ⟨HS.out _ H5.out.two.low, ?_⟩
              refine T_one (i := 12) rfl (by kernel_rfl) rfl ?_
              go_simp
              obtain ⟨W6, hW⟩ : ∃ W', W' = (W5).alloc (.cells #[.int .i64 0, .string ⟨#[]⟩, .int .u8 0, .int .i64 0, .string ⟨#[]⟩, .slice none 0 0, .bool false] 36) := ⟨_, rfl⟩
              rw [← hW]
              have H6 := Lib.hid (H5.out.alloc10 hW (g := W5.heap.size) rfl)
              clear hW
              refine ⟨HS.out _ H6.out.two.low, ?_⟩
              obtain ⟨hb10, _⟩ := H6.out.b10 _ rfl
              obtain ⟨hb11, _⟩ := H6.out.b11 _ rfl
              have HB10 := Lib.hid hb10; have HB11 := Lib.hid hb11
              have hne1 : ¬ W5.heap.size = wx2.heap.size := fun e => H6.out.ne _ rfl (by rw [e])
              have hne2 : ¬ wx2.heap.size = W5.heap.size := fun e => hne1 e.symm
              clear hb10 hb11
              have ac0 := HB10.out.cell 0; have az0 := HB10.out.frozen 0
              have ac1 := HB10.out.cell 1; have az1 := HB10.out.frozen 1
              have ac2 := HB10.out.cell 2; have az2 := HB10.out.frozen 2
              have ac3 := HB10.out.cell 3; have az3 := HB10.out.frozen 3
              have ac4 := HB10.out.cell 4; have az4 := HB10.out.frozen 4
              have ac5 := HB10.out.cell 5; have az5 := HB10.out.frozen 5
              have ac6 := HB10.out.cell 6; have az6 := HB10.out.frozen 6
              simp at ac0 ac1 ac2 ac3 ac4 ac5 ac6
              have bc0 := HB11.out.cell 0; have bz0 := HB11.out.frozen 0
              have bc1 := HB11.out.cell 1; have bz1 := HB11.out.frozen 1
              have bc2 := HB11.out.cell 2; have bz2 := HB11.out.frozen 2
              have bc3 := HB11.out.cell 3; have bz3 := HB11.out.frozen 3
              have bc4 := HB11.out.cell 4; have bz4 := HB11.out.frozen 4
              have bc5 := HB11.out.cell 5; have bz5 := HB11.out.frozen 5
              have bc6 := HB11.out.cell 6; have bz6 := HB11.out.frozen 6
              simp at bc0 bc1 bc2 bc3 bc4 bc5 bc6
              refine T_one (i := 14) rfl (by kernel_rfl) rfl ?_
              go_simp
              refine ⟨HS.out _ (H6.out.low1 _ _ _ _ _ _ _), ?_⟩
              refine T_one (i := 15) rfl (by kernel_rfl) rfl ?_
              go_simp
              refine ⟨HS.out _ (H6.out.low2 _ _ _ _ _ _ _ _ _ _ _ _ _ _), ?_⟩
              refine T_done (by kernel_rfl) ?_
              go_wp2_with fail
              go_meet
              exact H6.out.fin
          · go_simp
            obtain ⟨W7, hW⟩ : ∃ W', W' = (wx1).alloc (.cells #[.int .i64 0, .string ⟨#[]⟩, .int .u8 0, .int .i64 0, .string ⟨#[]⟩, .slice none 0 0, .bool false] 36) := ⟨_, rfl⟩
            rw [← hW]
            have H7 := Lib.hid (H1.out.alloc10 hW (g := wx1.heap.size) rfl)
            clear hW
            refine ⟨HS.out _ H7.out.two.low, ?_⟩
            refine T_two (i := 11) (k := 13) rfl rfl (by kernel_rfl) rfl rfl ?_ ?_
            · refine op_guard ?_
              refine op_callT #[.agg #[.int .u8 (k : Int), .int .i64 most], .pointer (some ⟨p2, 0, none⟩)] (by simp [go_sem]) (enters_of Tryz.func13 (by kernel_rfl) rfl _ _) (HO2.out _ H7.out.two.r2) ?_
              rintro e wx8 ⟨a2, b2, c2, d2, rfl, hl, hr, hg⟩
              obtain ⟨ka2, na2, sa2, la2, Aa2, ca2, _, he, _, _, _, _⟩ := hl.rep.open_
              simp only [Value.agg.injEq, Array.mk.injEq, List.cons.injEq, and_true] at he
              obtain ⟨rfl, rfl, rfl, rfl⟩ := he
              have H8 := Lib.hid (H7.out.call2 hl hr hg)
              clear hl hr hg
              refine ⟨_, rfl, fun _ => HS.out _ H8.out.two.low, ?_⟩
              refine T_one (i := 13) rfl (by kernel_rfl) rfl ?_
              go_simp
              obtain ⟨W9, hW⟩ : ∃ W', W' = (wx8).alloc (.cells #[.int .i64 0, .string ⟨#[]⟩, .int .u8 0, .int .i64 0, .string ⟨#[]⟩, .slice none 0 0, .bool false] 36) := ⟨_, rfl⟩
              rw [← hW]
              have H9 := Lib.hid (H8.out.alloc11 hW (g := wx8.heap.size) rfl)
              clear hW
              refine ⟨HS.out _ H9.out.two.low, ?_⟩
              obtain ⟨hb10, _⟩ := H9.out.b10 _ rfl
              obtain ⟨hb11, _⟩ := H9.out.b11 _ rfl
              have HB10 := Lib.hid hb10; have HB11 := Lib.hid hb11
              have hne1 : ¬ wx1.heap.size = wx8.heap.size := fun e => H9.out.ne _ rfl (by rw [e])
              have hne2 : ¬ wx8.heap.size = wx1.heap.size := fun e => hne1 e.symm
              clear hb10 hb11
              have ac0 := HB10.out.cell 0; have az0 := HB10.out.frozen 0
              have ac1 := HB10.out.cell 1; have az1 := HB10.out.frozen 1
              have ac2 := HB10.out.cell 2; have az2 := HB10.out.frozen 2
              have ac3 := HB10.out.cell 3; have az3 := HB10.out.frozen 3
              have ac4 := HB10.out.cell 4; have az4 := HB10.out.frozen 4
              have ac5 := HB10.out.cell 5; have az5 := HB10.out.frozen 5
              have ac6 := HB10.out.cell 6; have az6 := HB10.out.frozen 6
              simp at ac0 ac1 ac2 ac3 ac4 ac5 ac6
              have bc0 := HB11.out.cell 0; have bz0 := HB11.out.frozen 0
              have bc1 := HB11.out.cell 1; have bz1 := HB11.out.frozen 1
              have bc2 := HB11.out.cell 2; have bz2 := HB11.out.frozen 2
              have bc3 := HB11.out.cell 3; have bz3 := HB11.out.frozen 3
              have bc4 := HB11.out.cell 4; have bz4 := HB11.out.frozen 4
              have bc5 := HB11.out.cell 5; have bz5 := HB11.out.frozen 5
              have bc6 := HB11.out.cell 6; have bz6 := HB11.out.frozen 6
              simp at bc0 bc1 bc2 bc3 bc4 bc5 bc6
              refine T_one (i := 14) rfl (by kernel_rfl) rfl ?_
              go_simp
              refine ⟨HS.out _ (H9.out.low1 _ _ _ _ _ _ _), ?_⟩
              refine T_one (i := 15) rfl (by kernel_rfl) rfl ?_
              go_simp
              refine ⟨HS.out _ (H9.out.low2 _ _ _ _ _ _ _ _ _ _ _ _ _ _), ?_⟩
              refine T_done (by kernel_rfl) ?_
              go_wp2_with fail
              go_meet
              exact H9.out.fin
            · go_simp
              obtain ⟨W10, hW⟩ : ∃ W', W' = (W7).alloc (.cells #[.int .i64 0, .string ⟨#[]⟩, .int .u8 0, .int .i64 0, .string ⟨#[]⟩, .slice none 0 0, .bool false] 36) := ⟨_, rfl⟩
              rw [← hW]
              have H10 := Lib.hid (H7.out.alloc11 hW (g := W7.heap.size) rfl)
              clear hW
              refine ⟨HS.out _ H10.out.two.low, ?_⟩
              refine T_one (i := 11) rfl (by kernel_rfl) rfl ?_
              refine op_guard ?_
              refine op_callT #[.agg #[.int .u8 (k : Int), .int .i64 most], .pointer (some ⟨p2, 0, none⟩)] (by simp [go_sem]) (enters_of Tryz.func13 (by kernel_rfl) rfl _ _) (HO2.out _ H10.out.two.r2) ?_
              rintro e wx11 ⟨a2, b2, c2, d2, rfl, hl, hr, hg⟩
              obtain ⟨ka2, na2, sa2, la2, Aa2, ca2, _, he, _, _, _, _⟩ := hl.rep.open_
              simp only [Value.agg.injEq, Array.mk.injEq, List.cons.injEq, and_true] at he
              obtain ⟨rfl, rfl, rfl, rfl⟩ := he
              have H11 := Lib.hid (H10.out.call2 hl hr hg)
              clear hl hr hg
              refine ⟨_, rfl, fun _ => HS.out _ H11.out.two.low, ?_⟩
              obtain ⟨hb10, _⟩ := H11.out.b10 _ rfl
              obtain ⟨hb11, _⟩ := H11.out.b11 _ rfl
              have HB10 := Lib.hid hb10; have HB11 := Lib.hid hb11
              have hne1 : ¬ wx1.heap.size = W7.heap.size := fun e => H11.out.ne _ rfl (by rw [e])
              have hne2 : ¬ W7.heap.size = wx1.heap.size := fun e => hne1 e.symm
              clear hb10 hb11
              have ac0 := HB10.out.cell 0; have az0 := HB10.out.frozen 0
              have ac1 := HB10.out.cell 1; have az1 := HB10.out.frozen 1
              have ac2 := HB10.out.cell 2; have az2 := HB10.out.frozen 2
              have ac3 := HB10.out.cell 3; have az3 := HB10.out.frozen 3
              have ac4 := HB10.out.cell 4; have az4 := HB10.out.frozen 4
              have ac5 := HB10.out.cell 5; have az5 := HB10.out.frozen 5
              have ac6 := HB10.out.cell 6; have az6 := HB10.out.frozen 6
              simp at ac0 ac1 ac2 ac3 ac4 ac5 ac6
              have bc0 := HB11.out.cell 0; have bz0 := HB11.out.frozen 0
              have bc1 := HB11.out.cell 1; have bz1 := HB11.out.frozen 1
              have bc2 := HB11.out.cell 2; have bz2 := HB11.out.frozen 2
              have bc3 := HB11.out.cell 3; have bz3 := HB11.out.frozen 3
              have bc4 := HB11.out.cell 4; have bz4 := HB11.out.frozen 4
              have bc5 := HB11.out.cell 5; have bz5 := HB11.out.frozen 5
              have bc6 := HB11.out.cell 6; have bz6 := HB11.out.frozen 6
              simp at bc0 bc1 bc2 bc3 bc4 bc5 bc6
              refine T_one (i := 14) rfl (by kernel_rfl) rfl ?_
              go_simp
              refine ⟨HS.out _ (H11.out.low1 _ _ _ _ _ _ _), ?_⟩
              refine T_one (i := 15) rfl (by kernel_rfl) rfl ?_
              go_simp
              refine ⟨HS.out _ (H11.out.low2 _ _ _ _ _ _ _ _ _ _ _ _ _ _), ?_⟩
              refine T_done (by kernel_rfl) ?_
              go_wp2_with fail
              go_meet
              exact H11.out.fin
          · go_simp
            obtain ⟨W12, hW⟩ : ∃ W', W' = (wx1).alloc (.cells #[.int .i64 0, .string ⟨#[]⟩, .int .u8 0, .int .i64 0, .string ⟨#[]⟩, .slice none 0 0, .bool false] 36) := ⟨_, rfl⟩
            rw [← hW]
            have H12 := Lib.hid (H1.out.alloc11 hW (g := wx1.heap.size) rfl)
            clear hW
            refine ⟨HS.out _ H12.out.two.low, ?_⟩
            refine T_two (i := 11) (k := 12) rfl rfl (by kernel_rfl) rfl rfl ?_ ?_
            · refine op_guard ?_
              refine op_callT #[.agg #[.int .u8 (k : Int), .int .i64 most], .pointer (some ⟨p2, 0, none⟩)] (by simp [go_sem]) (enters_of Tryz.func13 (by kernel_rfl) rfl _ _) (HO2.out _ H12.out.two.r2) ?_
              rintro e wx13 ⟨a2, b2, c2, d2, rfl, hl, hr, hg⟩
              obtain ⟨ka2, na2, sa2, la2, Aa2, ca2, _, he, _, _, _, _⟩ := hl.rep.open_
              simp only [Value.agg.injEq, Array.mk.injEq, List.cons.injEq, and_true] at he
              obtain ⟨rfl, rfl, rfl, rfl⟩ := he
              have H13 := Lib.hid (H12.out.call2 hl hr hg)
              clear hl hr hg
              refine ⟨_, rfl, fun _ => HS.out _ H13.out.two.low, ?_⟩
              refine T_one (i := 12) rfl (by kernel_rfl) rfl ?_
              go_simp
              obtain ⟨W14, hW⟩ : ∃ W', W' = (wx13).alloc (.cells #[.int .i64 0, .string ⟨#[]⟩, .int .u8 0, .int .i64 0, .string ⟨#[]⟩, .slice none 0 0, .bool false] 36) := ⟨_, rfl⟩
              rw [← hW]
              have H14 := Lib.hid (H13.out.alloc10 hW (g := wx13.heap.size) rfl)
              clear hW
              refine ⟨HS.out _ H14.out.two.low, ?_⟩
              obtain ⟨hb10, _⟩ := H14.out.b10 _ rfl
              obtain ⟨hb11, _⟩ := H14.out.b11 _ rfl
              have HB10 := Lib.hid hb10; have HB11 := Lib.hid hb11
              have hne1 : ¬ wx13.heap.size = wx1.heap.size := fun e => H14.out.ne _ rfl (by rw [e])
              have hne2 : ¬ wx1.heap.size = wx13.heap.size := fun e => hne1 e.symm
              clear hb10 hb11
              have ac0 := HB10.out.cell 0; have az0 := HB10.out.frozen 0
              have ac1 := HB10.out.cell 1; have az1 := HB10.out.frozen 1
              have ac2 := HB10.out.cell 2; have az2 := HB10.out.frozen 2
              have ac3 := HB10.out.cell 3; have az3 := HB10.out.frozen 3
              have ac4 := HB10.out.cell 4; have az4 := HB10.out.frozen 4
              have ac5 := HB10.out.cell 5; have az5 := HB10.out.frozen 5
              have ac6 := HB10.out.cell 6; have az6 := HB10.out.frozen 6
              simp at ac0 ac1 ac2 ac3 ac4 ac5 ac6
              have bc0 := HB11.out.cell 0; have bz0 := HB11.out.frozen 0
              have bc1 := HB11.out.cell 1; have bz1 := HB11.out.frozen 1
              have bc2 := HB11.out.cell 2; have bz2 := HB11.out.frozen 2
              have bc3 := HB11.out.cell 3; have bz3 := HB11.out.frozen 3
              have bc4 := HB11.out.cell 4; have bz4 := HB11.out.frozen 4
              have bc5 := HB11.out.cell 5; have bz5 := HB11.out.frozen 5
              have bc6 := HB11.out.cell 6; have bz6 := HB11.out.frozen 6
              simp at bc0 bc1 bc2 bc3 bc4 bc5 bc6
              refine T_one (i := 14) rfl (by kernel_rfl) rfl ?_
              go_simp
              refine ⟨HS.out _ (H14.out.low1 _ _ _ _ _ _ _), ?_⟩
              refine T_one (i := 15) rfl (by kernel_rfl) rfl ?_
              go_simp
              refine ⟨HS.out _ (H14.out.low2 _ _ _ _ _ _ _ _ _ _ _ _ _ _), ?_⟩
              refine T_done (by kernel_rfl) ?_
              go_wp2_with fail
              go_meet
              exact H14.out.fin
            · go_simp
              obtain ⟨W15, hW⟩ : ∃ W', W' = (W12).alloc (.cells #[.int .i64 0, .string ⟨#[]⟩, .int .u8 0, .int .i64 0, .string ⟨#[]⟩, .slice none 0 0, .bool false] 36) := ⟨_, rfl⟩
              rw [← hW]
              have H15 := Lib.hid (H12.out.alloc10 hW (g := W12.heap.size) rfl)
              clear hW
              refine ⟨HS.out _ H15.out.two.low, ?_⟩
              refine T_one (i := 11) rfl (by kernel_rfl) rfl ?_
              refine op_guard ?_
              refine op_callT #[.agg #[.int .u8 (k : Int), .int .i64 most], .pointer (some ⟨p2, 0, none⟩)] (by simp [go_sem]) (enters_of Tryz.func13 (by kernel_rfl) rfl _ _) (HO2.out _ H15.out.two.r2) ?_
              rintro e wx16 ⟨a2, b2, c2, d2, rfl, hl, hr, hg⟩
              obtain ⟨ka2, na2, sa2, la2, Aa2, ca2, _, he, _, _, _, _⟩ := hl.rep.open_
              simp only [Value.agg.injEq, Array.mk.injEq, List.cons.injEq, and_true] at he
              obtain ⟨rfl, rfl, rfl, rfl⟩ := he
              have H16 := Lib.hid (H15.out.call2 hl hr hg)
              clear hl hr hg
              refine ⟨_, rfl, fun _ => HS.out _ H16.out.two.low, ?_⟩
              obtain ⟨hb10, _⟩ := H16.out.b10 _ rfl
              obtain ⟨hb11, _⟩ := H16.out.b11 _ rfl
              have HB10 := Lib.hid hb10; have HB11 := Lib.hid hb11
              have hne1 : ¬ W12.heap.size = wx1.heap.size := fun e => H16.out.ne _ rfl (by rw [e])
              have hne2 : ¬ wx1.heap.size = W12.heap.size := fun e => hne1 e.symm
              clear hb10 hb11
              have ac0 := HB10.out.cell 0; have az0 := HB10.out.frozen 0
              have ac1 := HB10.out.cell 1; have az1 := HB10.out.frozen 1
              have ac2 := HB10.out.cell 2; have az2 := HB10.out.frozen 2
              have ac3 := HB10.out.cell 3; have az3 := HB10.out.frozen 3
              have ac4 := HB10.out.cell 4; have az4 := HB10.out.frozen 4
              have ac5 := HB10.out.cell 5; have az5 := HB10.out.frozen 5
              have ac6 := HB10.out.cell 6; have az6 := HB10.out.frozen 6
              simp at ac0 ac1 ac2 ac3 ac4 ac5 ac6
              have bc0 := HB11.out.cell 0; have bz0 := HB11.out.frozen 0
              have bc1 := HB11.out.cell 1; have bz1 := HB11.out.frozen 1
              have bc2 := HB11.out.cell 2; have bz2 := HB11.out.frozen 2
              have bc3 := HB11.out.cell 3; have bz3 := HB11.out.frozen 3
              have bc4 := HB11.out.cell 4; have bz4 := HB11.out.frozen 4
              have bc5 := HB11.out.cell 5; have bz5 := HB11.out.frozen 5
              have bc6 := HB11.out.cell 6; have bz6 := HB11.out.frozen 6
              simp at bc0 bc1 bc2 bc3 bc4 bc5 bc6
              refine T_one (i := 14) rfl (by kernel_rfl) rfl ?_
              go_simp
              refine ⟨HS.out _ (H16.out.low1 _ _ _ _ _ _ _), ?_⟩
              refine T_one (i := 15) rfl (by kernel_rfl) rfl ?_
              go_simp
              refine ⟨HS.out _ (H16.out.low2 _ _ _ _ _ _ _ _ _ _ _ _ _ _), ?_⟩
              refine T_done (by kernel_rfl) ?_
              go_wp2_with fail
              go_meet
              exact H16.out.fin
        · go_simp
          obtain ⟨W17, hW⟩ : ∃ W', W' = (WD).alloc (.cells #[.int .i64 0, .string ⟨#[]⟩, .int .u8 0, .int .i64 0, .string ⟨#[]⟩, .slice none 0 0, .bool false] 36) := ⟨_, rfl⟩
          rw [← hW]
          have H17 := Lib.hid (H0.out.alloc10 hW (g := WD.heap.size) rfl)
          clear hW
          refine ⟨HS.out _ H17.out.two.low, ?_⟩
          refine T_two (i := 5) (k := 13) rfl rfl (by kernel_rfl) rfl rfl ?_ ?_
          · refine op_guard ?_
            refine op_callT #[.agg #[.int .u8 (k : Int), .int .i64 most], .pointer (some ⟨p1, 0, none⟩)] (by simp [go_sem]) (enters_of Tryz.func13 (by kernel_rfl) rfl _ _) (HO1.out _ H17.out.two.r1) ?_
            rintro e wx18 ⟨a1, b1, c1, d1, rfl, hl, hr, hg⟩
            obtain ⟨ka1, na1, sa1, la1, Aa1, ca1, _, he, _, _, _, _⟩ := hl.rep.open_
            simp only [Value.agg.injEq, Array.mk.injEq, List.cons.injEq, and_true] at he
            obtain ⟨rfl, rfl, rfl, rfl⟩ := he
            have H18 := Lib.hid (H17.out.call1 hl hr hg)
            clear hl hr hg
            refine ⟨_, rfl, fun _ => HS.out _ H18.out.two.low, ?_⟩
            refine T_two (i := 11) (k := 13) rfl rfl (by kernel_rfl) rfl rfl ?_ ?_
            · refine op_guard ?_
              refine op_callT #[.agg #[.int .u8 (k : Int), .int .i64 most], .pointer (some ⟨p2, 0, none⟩)] (by simp [go_sem]) (enters_of Tryz.func13 (by kernel_rfl) rfl _ _) (HO2.out _ H18.out.two.r2) ?_
              rintro e wx19 ⟨a2, b2, c2, d2, rfl, hl, hr, hg⟩
              obtain ⟨ka2, na2, sa2, la2, Aa2, ca2, _, he, _, _, _, _⟩ := hl.rep.open_
              simp only [Value.agg.injEq, Array.mk.injEq, List.cons.injEq, and_true] at he
              obtain ⟨rfl, rfl, rfl, rfl⟩ := he
              have H19 := Lib.hid (H18.out.call2 hl hr hg)
              clear hl hr hg
              refine ⟨_, rfl, fun _ => HS.out _ H19.out.two.low, ?_⟩
              refine T_one (i := 13) rfl (by kernel_rfl) rfl ?_
              go_simp
              obtain ⟨W20, hW⟩ : ∃ W', W' = (wx19).alloc (.cells #[.int .i64 0, .string ⟨#[]⟩, .int .u8 0, .int .i64 0, .string ⟨#[]⟩, .slice none 0 0, .bool false] 36) := ⟨_, rfl⟩
              rw [← hW]
              have H20 := Lib.hid (H19.out.alloc11 hW (g := wx19.heap.size) rfl)
              clear hW
              refine ⟨HS.out _ H20.out.two.low, ?_⟩
              obtain ⟨hb10, _⟩ := H20.out.b10 _ rfl
              obtain ⟨hb11, _⟩ := H20.out.b11 _ rfl
              have HB10 := Lib.hid hb10; have HB11 := Lib.hid hb11
              have hne1 : ¬ WD.heap.size = wx19.heap.size := fun e => H20.out.ne _ rfl (by rw [e])
              have hne2 : ¬ wx19.heap.size = WD.heap.size := fun e => hne1 e.symm
              clear hb10 hb11
              have ac0 := HB10.out.cell 0; have az0 := HB10.out.frozen 0
              have ac1 := HB10.out.cell 1; have az1 := HB10.out.frozen 1
              have ac2 := HB10.out.cell 2; have az2 := HB10.out.frozen 2
              have ac3 := HB10.out.cell 3; have az3 := HB10.out.frozen 3
              have ac4 := HB10.out.cell 4; have az4 := HB10.out.frozen 4
              have ac5 := HB10.out.cell 5; have az5 := HB10.out.frozen 5
              have ac6 := HB10.out.cell 6; have az6 := HB10.out.frozen 6
              simp at ac0 ac1 ac2 ac3 ac4 ac5 ac6
              have bc0 := HB11.out.cell 0; have bz0 := HB11.out.frozen 0
              have bc1 := HB11.out.cell 1; have bz1 := HB11.out.frozen 1
              have bc2 := HB11.out.cell 2; have bz2 := HB11.out.frozen 2
              have bc3 := HB11.out.cell 3; have bz3 := HB11.out.frozen 3
              have bc4 := HB11.out.cell 4; have bz4 := HB11.out.frozen 4
              have bc5 := HB11.out.cell 5; have bz5 := HB11.out.frozen 5
              have bc6 := HB11.out.cell 6; have bz6 := HB11.out.frozen 6
              simp at bc0 bc1 bc2 bc3 bc4 bc5 bc6
              refine T_one (i := 14) rfl (by kernel_rfl) rfl ?_
              go_simp
              refine ⟨HS.out _ (H20.out.low1 _ _ _ _ _ _ _), ?_⟩
              refine T_one (i := 15) rfl (by kernel_rfl) rfl ?_
              go_simp
              refine ⟨HS.out _ (H20.out.low2 _ _ _ _ _ _ _ _ _ _ _ _ _ _), ?_⟩
              refine T_done (by kernel_rfl) ?_
              go_wp2_with fail
              go_meet
              exact H20.out.fin
            · go_simp
              obtain ⟨W21, hW⟩ : ∃ W', W' = (wx18).alloc (.cells #[.int .i64 0, .string ⟨#[]⟩, .int .u8 0, .int .i64 0, .string ⟨#[]⟩, .slice none 0 0, .bool false] 36) := ⟨_, rfl⟩
              rw [← hW]
              have H21 := Lib.hid (H18.out.alloc11 hW (g := wx18.heap.size) rfl)
              clear hW
              refine ⟨HS.out _ H21.out.two.low, ?_⟩
              refine T_one (i := 11) rfl (by kernel_rfl) rfl ?_
              refine op_guard ?_
              refine op_callT #[.agg #[.int .u8 (k : Int), .int .i64 most], .pointer (some ⟨p2, 0, none⟩)] (by simp [go_sem]) (enters_of Tryz.func13 (by kernel_rfl) rfl _ _) (HO2.out _ H21.out.two.r2) ?_
              rintro e wx22 ⟨a2, b2, c2, d2, rfl, hl, hr, hg⟩
              obtain ⟨ka2, na2, sa2, la2, Aa2, ca2, _, he, _, _, _, _⟩ := hl.rep.open_
              simp only [Value.agg.injEq, Array.mk.injEq, List.cons.injEq, and_true] at he
              obtain ⟨rfl, rfl, rfl, rfl⟩ := he
              have H22 := Lib.hid (H21.out.call2 hl hr hg)
              clear hl hr hg
              refine ⟨_, rfl, fun _ => HS.out _ H22.out.two.low, ?_⟩
              obtain ⟨hb10, _⟩ := H22.out.b10 _ rfl
              obtain ⟨hb11, _⟩ := H22.out.b11 _ rfl
              have HB10 := Lib.hid hb10; have HB11 := Lib.hid hb11
              have hne1 : ¬ WD.heap.size = wx18.heap.size := fun e => H22.out.ne _ rfl (by rw [e])
              have hne2 : ¬ wx18.heap.size = WD.heap.size := fun e => hne1 e.symm
              clear hb10 hb11
              have ac0 := HB10.out.cell 0; have az0 := HB10.out.frozen 0
              have ac1 := HB10.out.cell 1; have az1 := HB10.out.frozen 1
              have ac2 := HB10.out.cell 2; have az2 := HB10.out.frozen 2
              have ac3 := HB10.out.cell 3; have az3 := HB10.out.frozen 3
              have ac4 := HB10.out.cell 4; have az4 := HB10.out.frozen 4
              have ac5 := HB10.out.cell 5; have az5 := HB10.out.frozen 5
              have ac6 := HB10.out.cell 6; have az6 := HB10.out.frozen 6
              simp at ac0 ac1 ac2 ac3 ac4 ac5 ac6
              have bc0 := HB11.out.cell 0; have bz0 := HB11.out.frozen 0
              have bc1 := HB11.out.cell 1; have bz1 := HB11.out.frozen 1
              have bc2 := HB11.out.cell 2; have bz2 := HB11.out.frozen 2
              have bc3 := HB11.out.cell 3; have bz3 := HB11.out.frozen 3
              have bc4 := HB11.out.cell 4; have bz4 := HB11.out.frozen 4
              have bc5 := HB11.out.cell 5; have bz5 := HB11.out.frozen 5
              have bc6 := HB11.out.cell 6; have bz6 := HB11.out.frozen 6
              simp at bc0 bc1 bc2 bc3 bc4 bc5 bc6
              refine T_one (i := 14) rfl (by kernel_rfl) rfl ?_
              go_simp
              refine ⟨HS.out _ (H22.out.low1 _ _ _ _ _ _ _), ?_⟩
              refine T_one (i := 15) rfl (by kernel_rfl) rfl ?_
              go_simp
              refine ⟨HS.out _ (H22.out.low2 _ _ _ _ _ _ _ _ _ _ _ _ _ _), ?_⟩
              refine T_done (by kernel_rfl) ?_
              go_wp2_with fail
              go_meet
              exact H22.out.fin
          · go_simp
            obtain ⟨W23, hW⟩ : ∃ W', W' = (W17).alloc (.cells #[.int .i64 0, .string ⟨#[]⟩, .int .u8 0, .int .i64 0, .string ⟨#[]⟩, .slice none 0 0, .bool false] 36) := ⟨_, rfl⟩
            rw [← hW]
            have H23 := Lib.hid (H17.out.alloc11 hW (g := W17.heap.size) rfl)
            clear hW
            refine ⟨HS.out _ H23.out.two.low, ?_⟩
            refine T_one (i := 5) rfl (by kernel_rfl) rfl ?_
            refine op_guard ?_
            refine op_callT #[.agg #[.int .u8 (k : Int), .int .i64 most], .pointer (some ⟨p1, 0, none⟩)] (by simp [go_sem]) (enters_of Tryz.func13 (by kernel_rfl) rfl _ _) (HO1.out _ H23.out.two.r1) ?_
            rintro e wx24 ⟨a1, b1, c1, d1, rfl, hl, hr, hg⟩
            obtain ⟨ka1, na1, sa1, la1, Aa1, ca1, _, he, _, _, _, _⟩ := hl.rep.open_
            simp only [Value.agg.injEq, Array.mk.injEq, List.cons.injEq, and_true] at he
            obtain ⟨rfl, rfl, rfl, rfl⟩ := he
            have H24 := Lib.hid (H23.out.call1 hl hr hg)
            clear hl hr hg
            refine ⟨_, rfl, fun _ => HS.out _ H24.out.two.low, ?_⟩
            refine T_one (i := 11) rfl (by kernel_rfl) rfl ?_
            refine op_guard ?_
            refine op_callT #[.agg #[.int .u8 (k : Int), .int .i64 most], .pointer (some ⟨p2, 0, none⟩)] (by simp [go_sem]) (enters_of Tryz.func13 (by kernel_rfl) rfl _ _) (HO2.out _ H24.out.two.r2) ?_
            rintro e wx25 ⟨a2, b2, c2, d2, rfl, hl, hr, hg⟩
            obtain ⟨ka2, na2, sa2, la2, Aa2, ca2, _, he, _, _, _, _⟩ := hl.rep.open_
            simp only [Value.agg.injEq, Array.mk.injEq, List.cons.injEq, and_true] at he
            obtain ⟨rfl, rfl, rfl, rfl⟩ := he
            have H25 := Lib.hid (H24.out.call2 hl hr hg)
            clear hl hr hg
            refine ⟨_, rfl, fun _ => HS.out _ H25.out.two.low, ?_⟩
            obtain ⟨hb10, _⟩ := H25.out.b10 _ rfl
            obtain ⟨hb11, _⟩ := H25.out.b11 _ rfl
            have HB10 := Lib.hid hb10; have HB11 := Lib.hid hb11
            have hne1 : ¬ WD.heap.size = W17.heap.size := fun e => H25.out.ne _ rfl (by rw [e])
            have hne2 : ¬ W17.heap.size = WD.heap.size := fun e => hne1 e.symm
            clear hb10 hb11
            have ac0 := HB10.out.cell 0; have az0 := HB10.out.frozen 0
            have ac1 := HB10.out.cell 1; have az1 := HB10.out.frozen 1
            have ac2 := HB10.out.cell 2; have az2 := HB10.out.frozen 2
            have ac3 := HB10.out.cell 3; have az3 := HB10.out.frozen 3
            have ac4 := HB10.out.cell 4; have az4 := HB10.out.frozen 4
            have ac5 := HB10.out.cell 5; have az5 := HB10.out.frozen 5
            have ac6 := HB10.out.cell 6; have az6 := HB10.out.frozen 6
            simp at ac0 ac1 ac2 ac3 ac4 ac5 ac6
            have bc0 := HB11.out.cell 0; have bz0 := HB11.out.frozen 0
            have bc1 := HB11.out.cell 1; have bz1 := HB11.out.frozen 1
            have bc2 := HB11.out.cell 2; have bz2 := HB11.out.frozen 2
            have bc3 := HB11.out.cell 3; have bz3 := HB11.out.frozen 3
            have bc4 := HB11.out.cell 4; have bz4 := HB11.out.frozen 4
            have bc5 := HB11.out.cell 5; have bz5 := HB11.out.frozen 5
            have bc6 := HB11.out.cell 6; have bz6 := HB11.out.frozen 6
            simp at bc0 bc1 bc2 bc3 bc4 bc5 bc6
            refine T_one (i := 14) rfl (by kernel_rfl) rfl ?_
            go_simp
            refine ⟨HS.out _ (H25.out.low1 _ _ _ _ _ _ _), ?_⟩
            refine T_one (i := 15) rfl (by kernel_rfl) rfl ?_
            go_simp
            refine ⟨HS.out _ (H25.out.low2 _ _ _ _ _ _ _ _ _ _ _ _ _ _), ?_⟩
            refine T_done (by kernel_rfl) ?_
            go_wp2_with fail
            go_meet
            exact H25.out.fin
        · go_simp
          obtain ⟨W26, hW⟩ : ∃ W', W' = (WD).alloc (.cells #[.int .i64 0, .string ⟨#[]⟩, .int .u8 0, .int .i64 0, .string ⟨#[]⟩, .slice none 0 0, .bool false] 36) := ⟨_, rfl⟩
          rw [← hW]
          have H26 := Lib.hid (H0.out.alloc11 hW (g := WD.heap.size) rfl)
          clear hW
          refine ⟨HS.out _ H26.out.two.low, ?_⟩
          refine T_two (i := 5) (k := 12) rfl rfl (by kernel_rfl) rfl rfl ?_ ?_
          · refine op_guard ?_
            refine op_callT #[.agg #[.int .u8 (k : Int), .int .i64 most], .pointer (some ⟨p1, 0, none⟩)] (by simp [go_sem]) (enters_of Tryz.func13 (by kernel_rfl) rfl _ _) (HO1.out _ H26.out.two.r1) ?_
            rintro e wx27 ⟨a1, b1, c1, d1, rfl, hl, hr, hg⟩
            obtain ⟨ka1, na1, sa1, la1, Aa1, ca1, _, he, _, _, _, _⟩ := hl.rep.open_
            simp only [Value.agg.injEq, Array.mk.injEq, List.cons.injEq, and_true] at he
            obtain ⟨rfl, rfl, rfl, rfl⟩ := he
            have H27 := Lib.hid (H26.out.call1 hl hr hg)
            clear hl hr hg
            refine ⟨_, rfl, fun _ => HS.out _ H27.out.two.low, ?_⟩
            refine T_two (i := 11) (k := 12) rfl rfl (by kernel_rfl) rfl rfl ?_ ?_
            · refine op_guard ?_
              refine op_callT #[.agg #[.int .u8 (k : Int), .int .i64 most], .pointer (some ⟨p2, 0, none⟩)] (by simp [go_sem]) (enters_of Tryz.func13 (by kernel_rfl) rfl _ _) (HO2.out _ H27.out.two.r2) ?_
              rintro e wx28 ⟨a2, b2, c2, d2, rfl, hl, hr, hg⟩
              obtain ⟨ka2, na2, sa2, la2, Aa2, ca2, _, he, _, _, _, _⟩ := hl.rep.open_
              simp only [Value.agg.injEq, Array.mk.injEq, List.cons.injEq, and_true] at he
              obtain ⟨rfl, rfl, rfl, rfl⟩ := he
              have H28 := Lib.hid (H27.out.call2 hl hr hg)
              clear hl hr hg
              refine ⟨_, rfl, fun _ => HS.out _ H28.out.two.low, ?_⟩
              refine T_one (i := 12) rfl (by kernel_rfl) rfl ?_
              go_simp
              obtain ⟨W29, hW⟩ : ∃ W', W' = (wx28).alloc (.cells #[.int .i64 0, .string ⟨#[]⟩, .int .u8 0, .int .i64 0, .string ⟨#[]⟩, .slice none 0 0, .bool false] 36) := ⟨_, rfl⟩
              rw [← hW]
              have H29 := Lib.hid (H28.out.alloc10 hW (g := wx28.heap.size) rfl)
              clear hW
              refine ⟨HS.out _ H29.out.two.low, ?_⟩
              obtain ⟨hb10, _⟩ := H29.out.b10 _ rfl
              obtain ⟨hb11, _⟩ := H29.out.b11 _ rfl
              have HB10 := Lib.hid hb10; have HB11 := Lib.hid hb11
              have hne1 : ¬ wx28.heap.size = WD.heap.size := fun e => H29.out.ne _ rfl (by rw [e])
              have hne2 : ¬ WD.heap.size = wx28.heap.size := fun e => hne1 e.symm
              clear hb10 hb11
              have ac0 := HB10.out.cell 0; have az0 := HB10.out.frozen 0
              have ac1 := HB10.out.cell 1; have az1 := HB10.out.frozen 1
              have ac2 := HB10.out.cell 2; have az2 := HB10.out.frozen 2
              have ac3 := HB10.out.cell 3; have az3 := HB10.out.frozen 3
              have ac4 := HB10.out.cell 4; have az4 := HB10.out.frozen 4
              have ac5 := HB10.out.cell 5; have az5 := HB10.out.frozen 5
              have ac6 := HB10.out.cell 6; have az6 := HB10.out.frozen 6
              simp at ac0 ac1 ac2 ac3 ac4 ac5 ac6
              have bc0 := HB11.out.cell 0; have bz0 := HB11.out.frozen 0
              have bc1 := HB11.out.cell 1; have bz1 := HB11.out.frozen 1
              have bc2 := HB11.out.cell 2; have bz2 := HB11.out.frozen 2
              have bc3 := HB11.out.cell 3; have bz3 := HB11.out.frozen 3
              have bc4 := HB11.out.cell 4; have bz4 := HB11.out.frozen 4
              have bc5 := HB11.out.cell 5; have bz5 := HB11.out.frozen 5
              have bc6 := HB11.out.cell 6; have bz6 := HB11.out.frozen 6
              simp at bc0 bc1 bc2 bc3 bc4 bc5 bc6
              refine T_one (i := 14) rfl (by kernel_rfl) rfl ?_
              go_simp
              refine ⟨HS.out _ (H29.out.low1 _ _ _ _ _ _ _), ?_⟩
              refine T_one (i := 15) rfl (by kernel_rfl) rfl ?_
              go_simp
              refine ⟨HS.out _ (H29.out.low2 _ _ _ _ _ _ _ _ _ _ _ _ _ _), ?_⟩
              refine T_done (by kernel_rfl) ?_
              go_wp2_with fail
              go_meet
              exact H29.out.fin
            · go_simp
              obtain ⟨W30, hW⟩ : ∃ W', W' = (wx27).alloc (.cells #[.int .i64 0, .string ⟨#[]⟩, .int .u8 0, .int .i64 0, .string ⟨#[]⟩, .slice none 0 0, .bool false] 36) := ⟨_, rfl⟩
              rw [← hW]
              have H30 := Lib.hid (H27.out.alloc10 hW (g := wx27.heap.size) rfl)
              clear hW
              refine ⟨HS.out _ H30.out.two.low, ?_⟩
              refine T_one (i := 11) rfl (by kernel_rfl) rfl ?_
              refine op_guard ?_
              refine op_callT #[.agg #[.int .u8 (k : Int), .int .i64 most], .pointer (some ⟨p2, 0, none⟩)] (by simp [go_sem]) (enters_of Tryz.func13 (by kernel_rfl) rfl _ _) (HO2.out _ H30.out.two.r2) ?_
              rintro e wx31 ⟨a2, b2, c2, d2, rfl, hl, hr, hg⟩
              obtain ⟨ka2, na2, sa2, la2, Aa2, ca2, _, he, _, _, _, _⟩ := hl.rep.open_
              simp only [Value.agg.injEq, Array.mk.injEq, List.cons.injEq, and_true] at he
              obtain ⟨rfl, rfl, rfl, rfl⟩ := he
              have H31 := Lib.hid (H30.out.call2 hl hr hg)
              clear hl hr hg
              refine ⟨_, rfl, fun _ => HS.out _ H31.out.two.low, ?_⟩
              obtain ⟨hb10, _⟩ := H31.out.b10 _ rfl
              obtain ⟨hb11, _⟩ := H31.out.b11 _ rfl
              have HB10 := Lib.hid hb10; have HB11 := Lib.hid hb11
              have hne1 : ¬ wx27.heap.size = WD.heap.size := fun e => H31.out.ne _ rfl (by rw [e])
              have hne2 : ¬ WD.heap.size = wx27.heap.size := fun e => hne1 e.symm
              clear hb10 hb11
              have ac0 := HB10.out.cell 0; have az0 := HB10.out.frozen 0
              have ac1 := HB10.out.cell 1; have az1 := HB10.out.frozen 1
              have ac2 := HB10.out.cell 2; have az2 := HB10.out.frozen 2
              have ac3 := HB10.out.cell 3; have az3 := HB10.out.frozen 3
              have ac4 := HB10.out.cell 4; have az4 := HB10.out.frozen 4
              have ac5 := HB10.out.cell 5; have az5 := HB10.out.frozen 5
              have ac6 := HB10.out.cell 6; have az6 := HB10.out.frozen 6
              simp at ac0 ac1 ac2 ac3 ac4 ac5 ac6
              have bc0 := HB11.out.cell 0; have bz0 := HB11.out.frozen 0
              have bc1 := HB11.out.cell 1; have bz1 := HB11.out.frozen 1
              have bc2 := HB11.out.cell 2; have bz2 := HB11.out.frozen 2
              have bc3 := HB11.out.cell 3; have bz3 := HB11.out.frozen 3
              have bc4 := HB11.out.cell 4; have bz4 := HB11.out.frozen 4
              have bc5 := HB11.out.cell 5; have bz5 := HB11.out.frozen 5
              have bc6 := HB11.out.cell 6; have bz6 := HB11.out.frozen 6
              simp at bc0 bc1 bc2 bc3 bc4 bc5 bc6
              refine T_one (i := 14) rfl (by kernel_rfl) rfl ?_
              go_simp
              refine ⟨HS.out _ (H31.out.low1 _ _ _ _ _ _ _), ?_⟩
              refine T_one (i := 15) rfl (by kernel_rfl) rfl ?_
              go_simp
              refine ⟨HS.out _ (H31.out.low2 _ _ _ _ _ _ _ _ _ _ _ _ _ _), ?_⟩
              refine T_done (by kernel_rfl) ?_
              go_wp2_with fail
              go_meet
              exact H31.out.fin
          · go_simp
            obtain ⟨W32, hW⟩ : ∃ W', W' = (W26).alloc (.cells #[.int .i64 0, .string ⟨#[]⟩, .int .u8 0, .int .i64 0, .string ⟨#[]⟩, .slice none 0 0, .bool false] 36) := ⟨_, rfl⟩
            rw [← hW]
            have H32 := Lib.hid (H26.out.alloc10 hW (g := W26.heap.size) rfl)
            clear hW
            refine ⟨HS.out _ H32.out.two.low, ?_⟩
            refine T_one (i := 5) rfl (by kernel_rfl) rfl ?_
            refine op_guard ?_
            refine op_callT #[.agg #[.int .u8 (k : Int), .int .i64 most], .pointer (some ⟨p1, 0, none⟩)] (by simp [go_sem]) (enters_of Tryz.func13 (by kernel_rfl) rfl _ _) (HO1.out _ H32.out.two.r1) ?_
            rintro e wx33 ⟨a1, b1, c1, d1, rfl, hl, hr, hg⟩
            obtain ⟨ka1, na1, sa1, la1, Aa1, ca1, _, he, _, _, _, _⟩ := hl.rep.open_
            simp only [Value.agg.injEq, Array.mk.injEq, List.cons.injEq, and_true] at he
            obtain ⟨rfl, rfl, rfl, rfl⟩ := he
            have H33 := Lib.hid (H32.out.call1 hl hr hg)
            clear hl hr hg
            refine ⟨_, rfl, fun _ => HS.out _ H33.out.two.low, ?_⟩
            refine T_one (i := 11) rfl (by kernel_rfl) rfl ?_
            refine op_guard ?_
            refine op_callT #[.agg #[.int .u8 (k : Int), .int .i64 most], .pointer (some ⟨p2, 0, none⟩)] (by simp [go_sem]) (enters_of Tryz.func13 (by kernel_rfl) rfl _ _) (HO2.out _ H33.out.two.r2) ?_
            rintro e wx34 ⟨a2, b2, c2, d2, rfl, hl, hr, hg⟩
            obtain ⟨ka2, na2, sa2, la2, Aa2, ca2, _, he, _, _, _, _⟩ := hl.rep.open_
            simp only [Value.agg.injEq, Array.mk.injEq, List.cons.injEq, and_true] at he
            obtain ⟨rfl, rfl, rfl, rfl⟩ := he
            have H34 := Lib.hid (H33.out.call2 hl hr hg)
            clear hl hr hg
            refine ⟨_, rfl, fun _ => HS.out _ H34.out.two.low, ?_⟩
            obtain ⟨hb10, _⟩ := H34.out.b10 _ rfl
            obtain ⟨hb11, _⟩ := H34.out.b11 _ rfl
            have HB10 := Lib.hid hb10; have HB11 := Lib.hid hb11
            have hne1 : ¬ W26.heap.size = WD.heap.size := fun e => H34.out.ne _ rfl (by rw [e])
            have hne2 : ¬ WD.heap.size = W26.heap.size := fun e => hne1 e.symm
            clear hb10 hb11
            have ac0 := HB10.out.cell 0; have az0 := HB10.out.frozen 0
            have ac1 := HB10.out.cell 1; have az1 := HB10.out.frozen 1
            have ac2 := HB10.out.cell 2; have az2 := HB10.out.frozen 2
            have ac3 := HB10.out.cell 3; have az3 := HB10.out.frozen 3
            have ac4 := HB10.out.cell 4; have az4 := HB10.out.frozen 4
            have ac5 := HB10.out.cell 5; have az5 := HB10.out.frozen 5
            have ac6 := HB10.out.cell 6; have az6 := HB10.out.frozen 6
            simp at ac0 ac1 ac2 ac3 ac4 ac5 ac6
            have bc0 := HB11.out.cell 0; have bz0 := HB11.out.frozen 0
            have bc1 := HB11.out.cell 1; have bz1 := HB11.out.frozen 1
            have bc2 := HB11.out.cell 2; have bz2 := HB11.out.frozen 2
            have bc3 := HB11.out.cell 3; have bz3 := HB11.out.frozen 3
            have bc4 := HB11.out.cell 4; have bz4 := HB11.out.frozen 4
            have bc5 := HB11.out.cell 5; have bz5 := HB11.out.frozen 5
            have bc6 := HB11.out.cell 6; have bz6 := HB11.out.frozen 6
            simp at bc0 bc1 bc2 bc3 bc4 bc5 bc6
            refine T_one (i := 14) rfl (by kernel_rfl) rfl ?_
            go_simp
            refine ⟨HS.out _ (H34.out.low1 _ _ _ _ _ _ _), ?_⟩
            refine T_one (i := 15) rfl (by kernel_rfl) rfl ?_
            go_simp
            refine ⟨HS.out _ (H34.out.low2 _ _ _ _ _ _ _ _ _ _ _ _ _ _), ?_⟩
            refine T_done (by kernel_rfl) ?_
            go_wp2_with fail
            go_meet
            exact H34.out.fin
      case rest =>
        obtain ⟨g10, g11, a1, b1, c1, d1, a2, b2, c2, d2, rfl, rfl, hb1, hb2, hv1, hv2, htw⟩ := hcut
        obtain ⟨k1, n1, s1, lt1, A1, ct1, _, he1, _, _, _, _⟩ := hv1.open_
        obtain ⟨k2, n2, s2, lt2, A2, ct2, _, he2, _, _, _, _⟩ := hv2.open_
        simp only [Value.agg.injEq, Array.mk.injEq, List.cons.injEq, and_true] at he1 he2
        obtain ⟨rfl, rfl, rfl, rfl⟩ := he1
        obtain ⟨rfl, rfl, rfl, rfl⟩ := he2
        have HB10 := Lib.hid hb1; have HB11 := Lib.hid hb2; have HV1 := Lib.hid hv1; have HV2 := Lib.hid hv2; have HT := Lib.hid htw
        clear hb1 hb2 hv1 hv2 htw HTW HS HO1 HO2
        rcases o1 with _ | ⟨ta, r1⟩
        · rcases o2 with _ | ⟨tb, r2⟩
          · simp only [toldO, isO] at HB10 HB11
            have ac0 := HB10.out.cell 0; have az0 := HB10.out.frozen 0
            have ac1 := HB10.out.cell 1; have az1 := HB10.out.frozen 1
            have ac2 := HB10.out.cell 2; have az2 := HB10.out.frozen 2
            have ac3 := HB10.out.cell 3; have az3 := HB10.out.frozen 3
            have ac4 := HB10.out.cell 4; have az4 := HB10.out.frozen 4
            have ac5 := HB10.out.cell 5; have az5 := HB10.out.frozen 5
            have ac6 := HB10.out.cell 6; have az6 := HB10.out.frozen 6
            simp at ac0 ac1 ac2 ac3 ac4 ac5 ac6
            have bc0 := HB11.out.cell 0; have bz0 := HB11.out.frozen 0
            have bc1 := HB11.out.cell 1; have bz1 := HB11.out.frozen 1
            have bc2 := HB11.out.cell 2; have bz2 := HB11.out.frozen 2
            have bc3 := HB11.out.cell 3; have bz3 := HB11.out.frozen 3
            have bc4 := HB11.out.cell 4; have bz4 := HB11.out.frozen 4
            have bc5 := HB11.out.cell 5; have bz5 := HB11.out.frozen 5
            have bc6 := HB11.out.cell 6; have bz6 := HB11.out.frozen 6
            simp at bc0 bc1 bc2 bc3 bc4 bc5 bc6
            go_wp2_with fail
            go_ret
            exact ⟨rfl, HT.out.low⟩
          · have hlt := (Loc.ask k most).2 _ _ _ _ HE1.out HE2.out
            have hltz : (r2.length : Int) < (ly : Int) := by have := HLY.out; omega
            have HLE := Lib.hid (left_c p2 B2 _ _ _ HT.out.r2)
            simp only [restO] at HLE
            obtain ⟨lr, hlr⟩ : ∃ lr, r2.length = lr := ⟨_, rfl⟩
            rw [hlr] at HLE hltz
            clear hlr hlt
            simp only [toldO, isO] at HB10 HB11
            have ac0 := HB10.out.cell 0; have az0 := HB10.out.frozen 0
            have ac1 := HB10.out.cell 1; have az1 := HB10.out.frozen 1
            have ac2 := HB10.out.cell 2; have az2 := HB10.out.frozen 2
            have ac3 := HB10.out.cell 3; have az3 := HB10.out.frozen 3
            have ac4 := HB10.out.cell 4; have az4 := HB10.out.frozen 4
            have ac5 := HB10.out.cell 5; have az5 := HB10.out.frozen 5
            have ac6 := HB10.out.cell 6; have az6 := HB10.out.frozen 6
            simp at ac0 ac1 ac2 ac3 ac4 ac5 ac6
            have bc0 := HB11.out.cell 0; have bz0 := HB11.out.frozen 0
            have bc1 := HB11.out.cell 1; have bz1 := HB11.out.frozen 1
            have bc2 := HB11.out.cell 2; have bz2 := HB11.out.frozen 2
            have bc3 := HB11.out.cell 3; have bz3 := HB11.out.frozen 3
            have bc4 := HB11.out.cell 4; have bz4 := HB11.out.frozen 4
            have bc5 := HB11.out.cell 5; have bz5 := HB11.out.frozen 5
            have bc6 := HB11.out.cell 6; have bz6 := HB11.out.frozen 6
            simp at bc0 bc1 bc2 bc3 bc4 bc5 bc6
            go_wp2_with fail
            refine HLE.out.mono ?_
            rintro e w9 ⟨rfl, rfl⟩
            go_wp2_with fail
            go_ret
            exact ⟨rfl, HT.out.low⟩
        · obtain ⟨hle, hap⟩ := (Loc.ask k most).1 _ _ _ HE1.out
          obtain rfl : o2 = some (ta, r1 ++ y) := by rw [← HE2.out]; exact hap y
          have HSA := Lib.hid (told_same ta.1 ⟨ta.2.1.toArray⟩ true ta.2.2 k1 k2 n1 n2 s1 s2 lt1 lt2 A1 A2 ct1 ct2 _ HV1.out HV2.out)
          have hr1 : r1.length ≤ lx := Nat.le_trans hle hrl
          have HR1L := Lib.hid hr1
          obtain ⟨lr, hlr⟩ : ∃ lr, r1.length = lr := ⟨_, rfl⟩
          have HLR := Lib.hid hlr
          rw [hlr] at hr1
          have hadd : ((lr + ly : Nat) : Int) = (lr : Int) + (ly : Int) := by omega
          simp only [toldO, isO] at HB10 HB11
          clear hle hap hlr
          have ac0 := HB10.out.cell 0; have az0 := HB10.out.frozen 0
          have ac1 := HB10.out.cell 1; have az1 := HB10.out.frozen 1
          have ac2 := HB10.out.cell 2; have az2 := HB10.out.frozen 2
          have ac3 := HB10.out.cell 3; have az3 := HB10.out.frozen 3
          have ac4 := HB10.out.cell 4; have az4 := HB10.out.frozen 4
          have ac5 := HB10.out.cell 5; have az5 := HB10.out.frozen 5
          have ac6 := HB10.out.cell 6; have az6 := HB10.out.frozen 6
          simp at ac0 ac1 ac2 ac3 ac4 ac5 ac6
          have bc0 := HB11.out.cell 0; have bz0 := HB11.out.frozen 0
          have bc1 := HB11.out.cell 1; have bz1 := HB11.out.frozen 1
          have bc2 := HB11.out.cell 2; have bz2 := HB11.out.frozen 2
          have bc3 := HB11.out.cell 3; have bz3 := HB11.out.frozen 3
          have bc4 := HB11.out.cell 4; have bz4 := HB11.out.frozen 4
          have bc5 := HB11.out.cell 5; have bz5 := HB11.out.frozen 5
          have bc6 := HB11.out.cell 6; have bz6 := HB11.out.frozen 6
          simp at bc0 bc1 bc2 bc3 bc4 bc5 bc6
          go_wp2_with fail
          refine HSA.out.mono ?_
          rintro e w9 ⟨rfl, hb9⟩
          have HT9 := Lib.hid (HT.out.under hb9)
          have HL2 := Lib.hid (left_c p2 B2 _ _ _ HT9.out.r2)
          have HL1 := Lib.hid (left_c p1 B1 _ _ _ HT9.out.r1)
          simp only [restO] at HL1 HL2
          rw [List.length_append, HLY.out, HLR.out, hadd] at HL2
          rw [HLR.out] at HL1
          clear hb9 HT HSA hadd
          go_wp2_with fail
          refine HL2.out.mono ?_
          rintro e w10 ⟨rfl, rfl⟩
          go_wp2_with fail
          refine HL1.out.mono ?_
          rintro e w11 ⟨rfl, rfl⟩
          go_wp2_with fail
          go_roundg (ll + 1 - (i + 1))
          case measure => have := HG.out; omega
          case rel => exact ⟨i + 1, r1, by omega, rfl, by go_num, HR1L.out, HT9.out⟩
    · have hiz : ¬ (i : Int) < (ll : Int) := by omega
      go_wp2_with fail
      go_ret
      exact ⟨rfl, HTW.out.low⟩
end Go.Proofs.YtlcfokejoikaaaaGreatDoor
