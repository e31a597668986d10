/- QXj, QXk, QXl, QXn, QXo, QXp in one text. -/
import Derived.Test.YtlhkjmckigblpaaGreatDoorQWz
/- QXj: The document's own answers of layer 2: Check and Row. -/
namespace Go.Proofs.YtlhkjmckigblpaaGreatDoor
open Go.RowKit Vp Pl
open Go
attribute [local go_sem] Oper.semAt_some

set_option maxHeartbeats 1000000 in
theorem refcheck_c (t : V) (u : Value) (w : World) (hd : depth t < 100000000) (h : VRep w w.heap.size t u) :
    Calls Tryz.prog 41 #[u] w fun e w' => e = .returned (.int .i64 (chkV t)) ∧ Below w.heap.size w w' := by
  obtain ⟨q, hq⟩ : ∃ q, q = chkV t := ⟨_, rfl⟩
  rw [← hq]
  unfold chkV at hq
  obtain ⟨k, n, s, l, A, c, rfl, rfl, hk, hn, hs, hR⟩ := h.open_
  obtain ⟨t, ht⟩ : ∃ t : V, t = .mk k n s l := ⟨_, rfl⟩
  rw [← ht] at h hq hd
  obtain ⟨W, hW⟩ : ∃ W, W = w.alloc (.cells #[.int .u8 (k : Int), .int .i64 n, .string s, .slice A l.length c] 34) := ⟨_, rfl⟩
  have hBW : Below w.heap.size w W := hW ▸ (Below.refl _ _).alloc (Nat.le_refl _) _
  have hsz : w.heap.size < W.heap.size := by rw [hW]; simp
  have hblk : Blk W w.heap.size 34 #[.int .u8 (k : Int), .int .i64 n, .string s, .slice A l.length c] := hW ▸ Blk.new _ _ _
  have hv : ∀ W', Below W.heap.size W W' → VRep W' W'.heap.size t (.agg #[.int .u8 (k : Int), .int .i64 n, .string s, .slice A l.length c]) := fun W' hb => (h.under (hBW.trans (hb.mono hBW.size))).more (hBW.trans (hb.mono hBW.size)).size
  have hcell : ∀ W', Below W.heap.size W W' → W'.cell? ⟨w.heap.size, 0, none⟩ = some (.int .u8 (k : Int)) ∧ W'.cell? ⟨w.heap.size, 1, none⟩ = some (.int .i64 n) ∧ W'.cell? ⟨w.heap.size, 2, none⟩ = some (.string s) ∧ W'.cell? ⟨w.heap.size, 3, none⟩ = some (.slice A l.length c) := fun W' hb => by
    have hb' := hblk.below hb hsz
    have x0 := hb'.cell 0; have x1 := hb'.cell 1; have x2 := hb'.cell 2; have x3 := hb'.cell 3
    simp at x0 x1 x2 x3
    exact ⟨x0, x1, x2, x3⟩
  have HD := Lib.hid (fun W' (hb : Below W.heap.size W W') => depth_c t _ W' hd (hv W' hb))
  have HF := Lib.hid (fun W' (hb : Below W.heap.size W W') => form_c t _ W' (hv W' hb))
  have HG := Lib.hid (fun (hbd : some_ (bad chk) t = false) W' (hb : Below W.heap.size W W') => fits_c t _ W' hbd (hv W' hb))
  have HCL := Lib.hid hcell; have HBW := Lib.hid hBW; have HR0 := Lib.hid (Below.refl W.heap.size W)
  rw [hW] at HD HF HG HCL HBW HR0
  have HQ := Lib.hid hq
  have HDD := Lib.hid (deeper_depth 64 t)
  clear hq h hd hR hW hBW hsz hblk hv hcell ht
  by_cases hdp : 64 < depth t
  · have hz : (64 : Int) < (depth t : Int) := by omega
    have HZ := Lib.hid hdp
    clear hdp
    go_enter Tryz.func41, Tryz.ntmps41
    go_wp2_with (go_at_call 75; refine (HD.out _ HR0.out).mono ?_; rintro e w1 ⟨rfl, hb1⟩; have HB1 := Lib.hid hb1; clear hb1; obtain ⟨y0, y1, y2, y3⟩ := HCL.out _ HB1.out)
    go_ret
    exact ⟨by rw [HQ.out, HDD.out, decide_eq_true HZ.out]; rfl, HBW.out.trans (HB1.out.mono HBW.out.size)⟩
  · have hz : ¬ (64 : Int) < (depth t : Int) := by omega
    have hdf : deeper 64 t = false := by rw [HDD.out]; exact decide_eq_false hdp
    have HDF := Lib.hid hdf
    clear hdp hdf
    obtain ⟨b, hb⟩ : ∃ b, some_ (bad chk) t = b := ⟨_, rfl⟩
    have HBB := Lib.hid hb
    rw [hb] at HF
    clear hb
    cases b with
    | true =>
      go_enter Tryz.func41, Tryz.ntmps41
      go_wp2_with (first
        | (have hx := HB1; clear hx; go_at_call 76; refine (HF.out _ HB1.out).mono ?_; rintro e w2 ⟨rfl, hb1⟩; have HB2 := Lib.hid (HB1.out.trans (hb1.mono HB1.out.size)); clear hb1; obtain ⟨z0, z1, z2, z3⟩ := HCL.out _ HB2.out)
        | (go_at_call 75; refine (HD.out _ HR0.out).mono ?_; rintro e w1 ⟨rfl, hb1⟩; have HB1 := Lib.hid hb1; clear hb1; obtain ⟨y0, y1, y2, y3⟩ := HCL.out _ HB1.out))
      go_ret
      exact ⟨by rw [HQ.out, HDF.out, HBB.out]; rfl, HBW.out.trans (HB2.out.mono HBW.out.size)⟩
    | false =>
      obtain ⟨b', hb'⟩ : ∃ b, some_ (long chk) t = b := ⟨_, rfl⟩
      have HBL := Lib.hid hb'
      have HG' := Lib.hid (HG.out HBB.out)
      rw [hb'] at HG'
      clear hb' HG
      cases b' with
      | true =>
        go_enter Tryz.func41, Tryz.ntmps41
        go_wp2_with (first
          | (have hx := HB2; clear hx; go_at_call 77; refine (HG'.out _ HB2.out).mono ?_; rintro e w3 ⟨rfl, hb1⟩; have HB3 := Lib.hid (HB2.out.trans (hb1.mono HB2.out.size)); clear hb1)
          | (have hx := HB1; clear hx; go_at_call 76; refine (HF.out _ HB1.out).mono ?_; rintro e w2 ⟨rfl, hb1⟩; have HB2 := Lib.hid (HB1.out.trans (hb1.mono HB1.out.size)); clear hb1; obtain ⟨z0, z1, z2, z3⟩ := HCL.out _ HB2.out)
          | (go_at_call 75; refine (HD.out _ HR0.out).mono ?_; rintro e w1 ⟨rfl, hb1⟩; have HB1 := Lib.hid hb1; clear hb1; obtain ⟨y0, y1, y2, y3⟩ := HCL.out _ HB1.out))
        go_ret
        exact ⟨by rw [HQ.out, HDF.out, HBB.out, HBL.out]; rfl, HBW.out.trans (HB3.out.mono HBW.out.size)⟩
      | false =>
        go_enter Tryz.func41, Tryz.ntmps41
        go_wp2_with (first
          | (have hx := HB2; clear hx; go_at_call 77; refine (HG'.out _ HB2.out).mono ?_; rintro e w3 ⟨rfl, hb1⟩; have HB3 := Lib.hid (HB2.out.trans (hb1.mono HB2.out.size)); clear hb1)
          | (have hx := HB1; clear hx; go_at_call 76; refine (HF.out _ HB1.out).mono ?_; rintro e w2 ⟨rfl, hb1⟩; have HB2 := Lib.hid (HB1.out.trans (hb1.mono HB1.out.size)); clear hb1; obtain ⟨z0, z1, z2, z3⟩ := HCL.out _ HB2.out)
          | (go_at_call 75; refine (HD.out _ HR0.out).mono ?_; rintro e w1 ⟨rfl, hb1⟩; have HB1 := Lib.hid hb1; clear hb1; obtain ⟨y0, y1, y2, y3⟩ := HCL.out _ HB1.out))
        go_ret
        exact ⟨by rw [HQ.out, HDF.out, HBB.out, HBL.out]; rfl, HBW.out.trans (HB3.out.mono HBW.out.size)⟩

end Go.Proofs.YtlhkjmckigblpaaGreatDoor
/- QXk: The document's own answers of layer 2: rows in their order, if their values are. -/
namespace Go.Proofs.YtlhkjmckigblpaaGreatDoor
open Go.RowKit Vp
open Go
attribute [local go_sem] Oper.semAt_some

/-- What is claimed of one value. -/
def RefCmpOn (t : V) : Prop := ∀ (t' : V) (u u' : Value) (w : World), Fine t → Fine t' → VRep w w.heap.size t u → VRep w w.heap.size t' u' →
  Calls Tryz.prog 79 #[u, u'] w fun e w' => e = .returned (.int .i64 (cmpV zcmp t t')) ∧ Below w.heap.size w w'
theorem cmpL_same_take : ∀ (a b : List V) (k : Nat), k ≤ a.length → k ≤ b.length → (∀ j (hj : j < a.length) (hj' : j < b.length), j < k → cmpV zcmp a[j] b[j] = 0) → cmpL zcmp a b = cmpL zcmp (a.drop k) (b.drop k)
  | a, b, 0, _, _, _ => by simp
  | [], _, k + 1, h, _, _ => absurd h (by simp)
  | _ :: _, [], k + 1, _, h, _ => absurd h (by simp)
  | x :: xs, y :: ys, k + 1, h, h', hh => by
    rw [cmpL_cons, show cmpV zcmp x y = 0 from hh 0 (by simp) (by simp) (by omega), lx, if_neg (by simp)]
    rw [cmpL_same_take xs ys k (by simpa using h) (by simpa using h') fun j hj hj' hk => hh (j + 1) (by simpa using hj) (by simpa using hj') (by omega)]
    rfl
theorem cmpL_first (a b : List V) {k : Nat} (h : k < a.length) (h' : k < b.length) (hh : ∀ j (hj : j < a.length) (hj' : j < b.length), j < k → cmpV zcmp a[j] b[j] = 0) (hne : cmpV zcmp a[k] b[k] ≠ 0) : cmpL zcmp a b = cmpV zcmp a[k] b[k] := by
  rw [cmpL_same_take a b k (by omega) (by omega) hh, List.drop_eq_getElem_cons h, List.drop_eq_getElem_cons h', cmpL_cons, lx, if_pos hne]
theorem cmpL_ends (a b : List V) {k : Nat} (h : k ≤ a.length) (h' : k ≤ b.length) (hk : k = a.length ∨ k = b.length) (hh : ∀ j (hj : j < a.length) (hj' : j < b.length), j < k → cmpV zcmp a[j] b[j] = 0) : cmpL zcmp a b = cmpI (a.length : Int) (b.length : Int) := by
  rw [cmpL_same_take a b k h h' hh]
  rcases Nat.lt_or_ge k a.length with h1 | h1
  · have e : k = b.length := by omega
    rw [List.drop_eq_nil_of_le (show b.length ≤ k by omega), List.drop_eq_getElem_cons h1, cmpL_more]
    unfold cmpI; rw [if_neg (by omega), if_pos (by omega)]
  · rw [List.drop_eq_nil_of_le h1]
    rcases Nat.lt_or_ge k b.length with h2 | h2
    · rw [List.drop_eq_getElem_cons h2, cmpL_less]
      unfold cmpI; rw [if_pos (by omega)]
    · rw [List.drop_eq_nil_of_le h2, cmpL_nil]
      unfold cmpI; rw [if_neg (by omega), if_neg (by omega)]

set_option maxHeartbeats 2000000 in
theorem refrows_of (a : List V) (ih : ∀ t ∈ a, RefCmpOn t) (b : List V) (fa : ∀ t ∈ a, Fine t) (fb : ∀ t ∈ b, Fine t) (A A' : Option Addr) (c c' : Nat) (w : World) (hR : RRep w w.heap.size a A c) (hR' : RRep w w.heap.size b A' c') :
    Calls Tryz.prog 104 #[.slice A a.length c, .slice A' b.length c'] w fun e w' => e = .returned (.int .i64 (cmpL zcmp a b)) ∧ Below w.heap.size w w' := by
  have hl := hR.1; have hm := hR.2.1; have hl' := hR'.1; have hm' := hR'.2.1
  have hmax : maxLen = 9223372036854775807 := rfl
  have HR := Lib.hid hR; have HR' := Lib.hid hR'; have IH := Lib.hid ih; have FA := Lib.hid fa; have FB := Lib.hid fb
  clear hR hR' ih fa fb
  obtain ⟨q, hq⟩ : ∃ q, q = cmpL zcmp a b := ⟨_, rfl⟩
  rw [← hq]
  have HQ := Lib.hid hq
  clear hq
  go_enter Tryz.func104, Tryz.ntmps104
  go_wp2_with fail
  go_loopg [5] (a.length + 1) (fun gg s6 wr => ∃ (kk : Nat), kk ≤ a.length ∧ kk ≤ b.length ∧ gg = a.length + 1 - kk ∧ s6 = .int .i64 (kk : Int) ∧ Below w.heap.size w wr ∧ ∀ j (hj : j < a.length) (hj' : j < b.length), j < kk → cmpV zcmp a[j] b[j] = 0)
  case atStart => exact ⟨0, Nat.zero_le _, Nat.zero_le _, by omega, rfl, Below.refl _ w, fun j _ _ hj => absurd hj (Nat.not_lt_zero _)⟩
  case round =>
    obtain ⟨kk, hk1, hk2, hg, rfl, hB, hA⟩ := hrel
    have HB := Lib.hid hB; have HG := Lib.hid hg; have HA := Lib.hid hA
    clear hB hg hA
    by_cases hlt : kk < a.length
    · have hltz : (kk : Int) < (a.length : Int) := by omega
      by_cases hlt' : kk < b.length
      · have hltz' : (kk : Int) < (b.length : Int) := by omega
        obtain ⟨g, off, rfl, hb, k1, n1, s1, l1, A1, e1, ht, hv, c0, c1, c2, c3⟩ := (HR.out.under HB.out).at_ hlt
        obtain ⟨g', off', rfl, hb', k2, n2, s2, l2, A2, e2, ht', hv', d0, d1, d2, d3⟩ := (HR'.out.under HB.out).at_ hlt'
        have hcall := fun W (hW : Below w.heap.size wr W) => IH.out _ (List.getElem_mem hlt) b[kk] _ _ W (FA.out _ (List.getElem_mem hlt)) (FB.out _ (List.getElem_mem hlt')) ((hv.under hW).more (Nat.le_trans HB.out.size hW.size)) ((hv'.under hW).more (Nat.le_trans HB.out.size hW.size))
        have HT := Lib.hid hb; have HT' := Lib.hid hb'
        obtain ⟨z, hz⟩ : ∃ z, cmpV zcmp a[kk] b[kk] = z := ⟨_, rfl⟩
        rw [hz] at hcall
        have HC := Lib.hid hcall; have HZ := Lib.hid hz
        clear hv hv' ht ht' hb hb' hcall hz
        obtain ⟨wo, hwo⟩ : ∃ wo, wo = wr := ⟨_, rfl⟩
        subst hwo
        go_upto_region 4 with fail
        go_region_held3 (fun w' => w'.cell? ⟨g, off + kk * 4, none⟩ = some (.int .u8 (k1 : Int)) ∧ w'.cell? ⟨g, off + kk * 4 + 1, none⟩ = some (.int .i64 n1) ∧ w'.cell? ⟨g, off + kk * 4 + 2, none⟩ = some (.string s1) ∧ w'.cell? ⟨g, off + kk * 4 + 3, none⟩ = some (.slice A1 l1.length e1) ∧ w'.cell? ⟨g', off' + kk * 4, none⟩ = some (.int .u8 (k2 : Int)) ∧ w'.cell? ⟨g', off' + kk * 4 + 1, none⟩ = some (.int .i64 n2) ∧ w'.cell? ⟨g', off' + kk * 4 + 2, none⟩ = some (.string s2) ∧ w'.cell? ⟨g', off' + kk * 4 + 3, none⟩ = some (.slice A2 l2.length e2)) (go_keep)
          (first
            | (go_at_call 79; refine (HC.out _ (Below.refl _ wo).drew).mono ?_; rintro e w1 ⟨rfl, hb1⟩; have HB1 := Lib.hid ((Below.refl w.heap.size wo).drew.trans (hb1.mono HB.out.size)); have q0 := (hb1.cell (p := ⟨g, off + kk * 4, none⟩) (Nat.lt_of_lt_of_le HT.out HB.out.size)).trans c0; have q1 := (hb1.cell (p := ⟨g, off + kk * 4 + 1, none⟩) (Nat.lt_of_lt_of_le HT.out HB.out.size)).trans c1; have q2 := (hb1.cell (p := ⟨g, off + kk * 4 + 2, none⟩) (Nat.lt_of_lt_of_le HT.out HB.out.size)).trans c2; have q3 := (hb1.cell (p := ⟨g, off + kk * 4 + 3, none⟩) (Nat.lt_of_lt_of_le HT.out HB.out.size)).trans c3; have r0 := (hb1.cell (p := ⟨g', off' + kk * 4, none⟩) (Nat.lt_of_lt_of_le HT'.out HB.out.size)).trans d0; have r1 := (hb1.cell (p := ⟨g', off' + kk * 4 + 1, none⟩) (Nat.lt_of_lt_of_le HT'.out HB.out.size)).trans d1; have r2 := (hb1.cell (p := ⟨g', off' + kk * 4 + 2, none⟩) (Nat.lt_of_lt_of_le HT'.out HB.out.size)).trans d2; have r3 := (hb1.cell (p := ⟨g', off' + kk * 4 + 3, none⟩) (Nat.lt_of_lt_of_le HT'.out HB.out.size)).trans d3; clear hb1))
        all_goals
          clear c0 c1 c2 c3 d0 d1 d2 d3
          by_cases hz0 : z = 0
          · subst hz0
            go_wp2_with fail
            go_roundg (a.length + 1 - (kk + 1))
            case measure => have := HG.out; omega
            case rel =>
              refine ⟨kk + 1, by omega, by omega, rfl, by go_num, HB.out.trans HB1.out, fun j hj hj' hjk => ?_⟩
              by_cases e : j = kk
              · subst e; exact HZ.out
              · exact HA.out j hj hj' (by omega)
          · have hqz : q = z := by rw [HQ.out, ← HZ.out]; exact cmpL_first a b hlt hlt' HA.out (by rw [HZ.out]; exact hz0)
            subst hqz
            go_wp2_with fail
            go_ret
            exact ⟨rfl, HB.out.trans HB1.out⟩
      · have hltz' : ¬ (kk : Int) < (b.length : Int) := by omega
        have HC := Lib.hid (fun W => ints_c (a.length : Int) (b.length : Int) W)
        rw [← cmpL_ends a b hk1 hk2 (by omega) HA.out, ← HQ.out] at HC
        go_wp2_with (go_at_call 101; refine (HC.out _).mono ?_; rintro e w1 ⟨rfl, hb1⟩; have HB1 := Lib.hid (HB.out.trans (hb1.mono HB.out.size)); clear hb1)
        go_ret
        exact ⟨rfl, HB1.out⟩
    · have hltz : ¬ (kk : Int) < (a.length : Int) := by omega
      have HC := Lib.hid (fun W => ints_c (a.length : Int) (b.length : Int) W)
      rw [← cmpL_ends a b hk1 hk2 (by omega) HA.out, ← HQ.out] at HC
      go_wp2_with (go_at_call 101; refine (HC.out _).mono ?_; rintro e w1 ⟨rfl, hb1⟩; have HB1 := Lib.hid (HB.out.trans (hb1.mono HB.out.size)); clear hb1)
      go_ret
      exact ⟨rfl, HB1.out⟩
end Go.Proofs.YtlhkjmckigblpaaGreatDoor
/- QXl: The document's own answers of layer 2: values in their order, if Bigs tells numbers' order. -/
namespace Go.Proofs.YtlhkjmckigblpaaGreatDoor
open Go.RowKit Vp Pl
open Go
attribute [local go_sem] Oper.semAt_some

theorem two_new (w : World) (o o' : Obj) : Below w.heap.size w ((w.alloc o).alloc o') := ((Below.refl _ _).alloc (Nat.le_refl _) _).alloc (by simp) _
/-- Bigs tells how numbers' texts stand. -/
def BigsOk : Prop := ∀ (s s' : ByteArray) (w : World), chk s.data.toList = 0 → chk s'.data.toList = 0 →
  Calls Tryz.prog 102 #[.string s, .string s'] w fun e w' => e = .returned (.int .i64 (zcmp s.data.toList s'.data.toList)) ∧ Below w.heap.size w w'
theorem cmpV_k (k : Nat) (n n' : Int) (s s' : ByteArray) (l l' : List V) : cmpV zcmp (.mk k n s l) (.mk k n' s' l') = behind k n n' s.data.toList s'.data.toList (cmpL zcmp l l') := by
  rw [cmpV_eq, lx, if_neg]; unfold cmpI; simp
theorem fine_big {n : Int} {s : ByteArray} {l : List V} (h : Fine (.mk 3 n s l)) : chk s.data.toList = 0 := by
  obtain ⟨b1, g1, _⟩ := h.parts
  simp only [bad, Bool.or_eq_false_iff, decide_eq_false_iff_not] at b1
  simp only [long, decide_eq_false_iff_not] at g1
  rcases chk_three s.data.toList with h | h | h
  · exact h
  · exact absurd h b1.2
  · exact absurd h g1
theorem fine_nil4 {n : Int} {s : ByteArray} {l : List V} (h : Fine (.mk 4 n s l)) : l = [] := by
  obtain ⟨b1, _, _⟩ := h.parts
  simp only [bad, Bool.or_eq_false_iff, Bool.not_eq_false', List.isEmpty_iff] at b1
  exact b1.2
theorem fine_nil5 {n : Int} {s : ByteArray} {l : List V} (h : Fine (.mk 5 n s l)) : s.data.toList = [] := by
  obtain ⟨b1, _, _⟩ := h.parts
  simp only [bad, Bool.or_eq_false_iff, decide_eq_false_iff_not, Decidable.not_not] at b1
  exact size_zero b1.1.2

set_option maxHeartbeats 2000000 in
theorem refcmp_c (hbig : BigsOk) (t : V) : RefCmpOn t := by
  induction t using V.ind with
  | h k n s l ih =>
  intro t' u u' w f f' h h'
  obtain ⟨k', n', s', l', A, c, ht, rfl, hk, hn, hs, hR⟩ := h.open_
  obtain ⟨rfl, rfl, rfl, rfl⟩ : k = k' ∧ n = n' ∧ s = s' ∧ l = l' := by cases ht; exact ⟨rfl, rfl, rfl, rfl⟩
  obtain ⟨k', n', s', l', A', c', rfl, rfl, hk', hn', hs', hR'⟩ := h'.open_
  obtain ⟨W, hW⟩ : ∃ W, W = (w.alloc (.cells #[.int .u8 (k : Int), .int .i64 n, .string s, .slice A l.length c] 34)).alloc (.cells #[.int .u8 (k' : Int), .int .i64 n', .string s', .slice A' l'.length c'] 34) := ⟨_, rfl⟩
  have hB : Below w.heap.size w W := hW ▸ two_new _ _ _
  have hsz : w.heap.size + 1 < W.heap.size := by rw [hW]; simp
  have b0 : Blk W w.heap.size 34 #[.int .u8 (k : Int), .int .i64 n, .string s, .slice A l.length c] := hW ▸ (Blk.new _ _ _).alloc _
  have b1 : Blk W (w.heap.size + 1) 34 #[.int .u8 (k' : Int), .int .i64 n', .string s', .slice A' l'.length c'] := hW ▸ (by have := Blk.new (w.alloc (.cells #[.int .u8 (k : Int), .int .i64 n, .string s, .slice A l.length c] 34)) 34 #[.int .u8 (k' : Int), .int .i64 n', .string s', .slice A' l'.length c']; rw [World.size_alloc] at this; exact this)
  have hrows : ∀ W', Below W.heap.size W W' → Calls Tryz.prog 104 #[.slice A l.length c, .slice A' l'.length c'] W' fun e w' => e = .returned (.int .i64 (cmpL zcmp l l')) ∧ Below W'.heap.size W' w' := fun W' hb =>
    refrows_of l ih l' f.parts.2.2 f'.parts.2.2 A A' c c' W' ((hR.under (hB.trans (hb.mono hB.size))).more (hB.trans (hb.mono hB.size)).size) ((hR'.under (hB.trans (hb.mono hB.size))).more (hB.trans (hb.mono hB.size)).size)
  have hcl : ∀ W', Below W.heap.size W W' → W'.cell? ⟨w.heap.size, 3, none⟩ = some (.slice A l.length c) ∧ W'.cell? ⟨w.heap.size + 1, 3, none⟩ = some (.slice A' l'.length c') := fun W' hb => by
    have x3 := (b0.below hb (by omega)).cell 3; have y3 := (b1.below hb hsz).cell 3
    simp at x3 y3
    exact ⟨x3, y3⟩
  have x0 := b0.cell 0; have x1 := b0.cell 1; have x2 := b0.cell 2; have x3 := b0.cell 3
  have y0 := b1.cell 0; have y1 := b1.cell 1; have y2 := b1.cell 2; have y3 := b1.cell 3
  simp at x0 x1 x2 x3 y0 y1 y2 y3
  obtain ⟨q, hq⟩ : ∃ q, q = cmpV zcmp (.mk k n s l) (.mk k' n' s' l') := ⟨_, rfl⟩
  rw [← hq]
  have HRW := Lib.hid hrows; have HB := Lib.hid hB; have HCL := Lib.hid hcl; have HR0 := Lib.hid (Below.refl W.heap.size W)
  rw [hW] at x0 x1 x2 x3 y0 y1 y2 y3
  rw [hW] at HRW HB HCL HR0
  clear hrows hB hcl b0 b1 hR hR' h h' ht ih hW hsz
  by_cases hkk : k = k'
  · subst hkk
    rw [cmpV_k] at hq
    have HFF := Lib.hid f; have HFF' := Lib.hid f'
    clear f f'
    have hcases : k = 1 ∨ k = 2 ∨ k = 3 ∨ k = 4 ∨ k = 5 ∨ k = 6 ∨ (k ≠ 1 ∧ k ≠ 2 ∧ k ≠ 3 ∧ k ≠ 4 ∧ k ≠ 5 ∧ k ≠ 6) := by omega
    rcases hcases with rfl | rfl | rfl | rfl | rfl | rfl | hne
    · have HC := Lib.hid (fun W => ints_c n n' W)
      rw [show cmpI n n' = q by rw [hq]; simp [behind]] at HC
      clear hq
      go_enter Tryz.func79, Tryz.ntmps79
      go_wp2_with (go_at_call 101; refine (HC.out _).mono ?_; rintro e w1 ⟨rfl, hb1⟩; have HB1 := Lib.hid (HB.out.trans (hb1.mono HB.out.size)); clear hb1)
      go_ret
      exact ⟨rfl, HB1.out⟩
    · have HC := Lib.hid (fun W => ints_c n n' W)
      rw [show cmpI n n' = q by rw [hq]; simp [behind]] at HC
      clear hq
      go_enter Tryz.func79, Tryz.ntmps79
      go_wp2_with (go_at_call 101; refine (HC.out _).mono ?_; rintro e w1 ⟨rfl, hb1⟩; have HB1 := Lib.hid (HB.out.trans (hb1.mono HB.out.size)); clear hb1)
      go_ret
      exact ⟨rfl, HB1.out⟩
    · have HC := Lib.hid (fun W => hbig s s' W (fine_big HFF.out) (fine_big HFF'.out))
      rw [show zcmp s.data.toList s'.data.toList = q by rw [hq]; simp [behind]] at HC
      clear hq
      go_enter Tryz.func79, Tryz.ntmps79
      go_wp2_with (go_at_call 102; refine (HC.out _).mono ?_; rintro e w1 ⟨rfl, hb1⟩; have HB1 := Lib.hid (HB.out.trans (hb1.mono HB.out.size)); clear hb1)
      go_ret
      exact ⟨rfl, HB1.out⟩
    · have HC := Lib.hid (fun W => texts_c s s' hs hs' W)
      rw [show Lib.compareBytes s.data.toList s'.data.toList = q by rw [hq, fine_nil4 HFF.out, fine_nil4 HFF'.out, cmpL_nil]; simp [behind, lx]] at HC
      clear hq
      go_enter Tryz.func79, Tryz.ntmps79
      go_wp2_with (go_at_call 103; refine (HC.out _).mono ?_; rintro e w1 ⟨rfl, hb1⟩; have HB1 := Lib.hid (HB.out.trans (hb1.mono HB.out.size)); clear hb1)
      go_ret
      exact ⟨rfl, HB1.out⟩
    · rw [show cmpL zcmp l l' = q by rw [hq, fine_nil5 HFF.out, fine_nil5 HFF'.out]; simp [behind, lx, Lib.compareBytes]] at HRW
      clear hq
      go_enter Tryz.func79, Tryz.ntmps79
      go_wp2_with (go_at_call 104; refine (HRW.out _ HR0.out).mono ?_; rintro e w1 ⟨rfl, hb1⟩; have HB1 := Lib.hid (HB.out.trans (hb1.mono HB.out.size)); clear hb1)
      go_ret
      exact ⟨rfl, HB1.out⟩
    · have HC := Lib.hid (fun W => texts_c s s' hs hs' W)
      obtain ⟨z, hz⟩ : ∃ z, Lib.compareBytes s.data.toList s'.data.toList = z := ⟨_, rfl⟩
      rw [hz] at HC
      by_cases hz0 : z = 0
      · subst hz0
        rw [show cmpL zcmp l l' = q by rw [hq]; simp [behind, lx, hz]] at HRW
        clear hq hz
        go_enter Tryz.func79, Tryz.ntmps79
        go_wp2_with (first
          | (have hx := HB1; clear hx; go_at_call 104; refine (HRW.out _ HB1.out).mono ?_; rintro e w2 ⟨rfl, hb1⟩; have HB2 := Lib.hid (HB1.out.trans (hb1.mono HB1.out.size)); clear hb1)
          | (go_at_call 103; refine (HC.out _).mono ?_; rintro e w1 ⟨rfl, hb1⟩; have HB1 := Lib.hid hb1; clear hb1; obtain ⟨z3, z4⟩ := HCL.out _ HB1.out))
        go_ret
        exact ⟨rfl, HB.out.trans (HB2.out.mono HB.out.size)⟩
      · obtain rfl : q = z := by rw [hq]; simp [behind, lx, hz, hz0]
        clear hq hz
        go_enter Tryz.func79, Tryz.ntmps79
        go_wp2_with (go_at_call 103; refine (HC.out _).mono ?_; rintro e w1 ⟨rfl, hb1⟩; have HB1 := Lib.hid (HB.out.trans (hb1.mono HB.out.size)); clear hb1)
        go_ret
        exact ⟨rfl, HB1.out⟩
    · have : bad Pl.chk (.mk k n s l) = true := by unfold bad; split <;> simp_all
      have h1 := HFF.out.parts.1
      rw [this] at h1; cases h1
  · have hkz : ¬ (k : Int) = (k' : Int) := by omega
    have HC := Lib.hid (fun W => ints_c (k : Int) (k' : Int) W)
    rw [show cmpI (k : Int) k' = q by rw [hq, cmpV_eq, lx, if_pos fun e => hkz (cmpI_zero e)]] at HC
    have v1 : IntKind.i64.wrap (k : Int) = (k : Int) := IntWalk.i64_in _ (by omega)
    have v2 : IntKind.i64.wrap (k' : Int) = (k' : Int) := IntWalk.i64_in _ (by omega)
    clear hq f f' hkk
    go_enter Tryz.func79, Tryz.ntmps79
    go_wp2_with (go_at_call 101; refine (HC.out _).mono ?_; rintro e w1 ⟨rfl, hb1⟩; have HB1 := Lib.hid (HB.out.trans (hb1.mono HB.out.size)); clear hb1)
    go_ret
    exact ⟨rfl, HB1.out⟩
end Go.Proofs.YtlhkjmckigblpaaGreatDoor
/- QXn: The document's own answers of layer 2: the walk over Bigs. -/
namespace Go.Proofs.YtlhkjmckigblpaaGreatDoor
open Go.RowKit Vp Pl
open Go
attribute [local go_sem] Oper.semAt_some

/-- Digits by their length, then byte by byte. -/
def byLen (s s' : ByteArray) : Int := if s.size = s'.size then Lib.compareBytes s.data.toList s'.data.toList else cmpI (s.size : Int) (s'.size : Int)
set_option maxHeartbeats 1000000 in
theorem bigs_pos (s s' : ByteArray) (hs : s.size ≤ maxLen) (hs' : s'.size ≤ maxLen) (h0 : 0 < s.size) (h0' : 0 < s'.size) (hn : negB s = false) (hn' : negB s' = false) (w : World) :
    Calls Tryz.prog 102 #[.string s, .string s'] w fun e w' => e = .returned (.int .i64 (byLen s s')) ∧ Below w.heap.size w w' := by
  have hmax : maxLen = 9223372036854775807 := rfl
  obtain ⟨q, hq⟩ : ∃ q, q = byLen s s' := ⟨_, rfl⟩
  rw [← hq]
  unfold byLen at hq
  have g : ((s[0].toNat : Int) == 45) = false := by rw [neg_byte h0] at hn; simpa using of_decide_eq_false hn
  have g' : ((s'[0].toNat : Int) == 45) = false := by rw [neg_byte h0'] at hn'; simpa using of_decide_eq_false hn'
  clear hn hn'
  by_cases hl : s.size = s'.size
  · rw [if_pos hl] at hq
    have HC := Lib.hid (fun W => texts_c s s' hs hs' W)
    rw [← hq] at HC
    have hlz : ((s.size : Int) != (s'.size : Int)) = false := by simp [hl]
    have HL := Lib.hid hl
    clear hq hl
    go_enter Tryz.func102, Tryz.ntmps102
    go_upto_region 1 with fail
    go_region
    all_goals
      go_wp2_with (go_at_call 103; refine (HC.out _).mono ?_; rintro e w3 ⟨rfl, hb3⟩; have HB3 := Lib.hid hb3; clear hb3)
      go_ret
      exact ⟨rfl, (Below.refl _ _).drew.trans (HB3.out.mono (Nat.le_refl _))⟩
  · rw [if_neg hl] at hq
    have HC := Lib.hid (fun W => ints_c (s.size : Int) (s'.size : Int) W)
    rw [← hq] at HC
    have hlz : ((s.size : Int) != (s'.size : Int)) = true := by simp; omega
    clear hq hl
    go_enter Tryz.func102, Tryz.ntmps102
    go_upto_region 1 with fail
    go_region
    all_goals
      go_wp2_with (go_at_call 101; refine (HC.out _).mono ?_; rintro e w3 ⟨rfl, hb3⟩; have HB3 := Lib.hid hb3; clear hb3)
      go_ret
      exact ⟨rfl, (Below.refl _ _).drew.trans (HB3.out.mono (Nat.le_refl _))⟩

/-- How two numbers' texts stand, by their signs and digits. -/
def bySign (s s' : ByteArray) : Int :=
  if negB s = negB s' then (if negB s then byLen (s'.extract 1 s'.size) (s.extract 1 s.size) else byLen s s') else if negB s then -1 else 1
theorem tail_pos {s : ByteArray} (h : chk s.data.toList = 0) (hn : negB s = true) : 0 < (s.extract 1 s.size).size ∧ negB (s.extract 1 s.size) = false := by
  obtain ⟨h1, _, h3, _⟩ := chk_good h
  rw [← ext_data hn] at h1 h3
  generalize s.extract 1 s.size = d at h1 h3
  have hp : 0 < d.size := by
    rcases Nat.eq_zero_or_pos d.size with h0 | h0
    · exact absurd (size_zero h0) h1
    · exact h0
  refine ⟨hp, ?_⟩
  rw [neg_byte hp]
  have := List.all_eq_true.1 h3 d[0] (List.mem_iff_getElem.2 ⟨0, by rw [← size_len]; exact hp, rfl⟩)
  unfold isDig at this
  have := of_decide_eq_true this
  exact decide_eq_false (by omega)
set_option maxHeartbeats 1000000 in
theorem bigs_any (s s' : ByteArray) (hc : chk s.data.toList = 0) (hc' : chk s'.data.toList = 0) (w : World) :
    Calls Tryz.prog 102 #[.string s, .string s'] w fun e w' => e = .returned (.int .i64 (bySign s s')) ∧ Below w.heap.size w w' := by
  have hmax : maxLen = 9223372036854775807 := rfl
  obtain ⟨z1, z2⟩ := good_size hc
  obtain ⟨z1', z2'⟩ := good_size hc'
  obtain ⟨q, hq⟩ : ∃ q, q = bySign s s' := ⟨_, rfl⟩
  rw [← hq]
  unfold bySign at hq
  cases hn : negB s with
  | false =>
    cases hn' : negB s' with
    | false =>
      rw [hn, hn'] at hq
      rw [hq]
      exact bigs_pos s s' (by omega) (by omega) z2 z2' hn hn' w
    | true =>
      rw [hn, hn'] at hq
      have hq1 : q = 1 := hq
      subst hq1
      have g : ((s[0].toNat : Int) == 45) = false := by rw [neg_byte z2] at hn; simpa using of_decide_eq_false hn
      have g' : (s'[0].toNat : Int) = 45 := by rw [neg_byte z2'] at hn'; exact of_decide_eq_true hn'
      clear hn hn' hq hc hc'
      go_enter Tryz.func102, Tryz.ntmps102
      go_upto_region 1 with fail
      go_region
      all_goals
        go_wp2_with fail
        go_ret
        exact ⟨rfl, (Below.refl _ _).drew⟩
  | true =>
    cases hn' : negB s' with
    | false =>
      rw [hn, hn'] at hq
      have hq1 : q = -1 := hq
      subst hq1
      have g : (s[0].toNat : Int) = 45 := by rw [neg_byte z2] at hn; exact of_decide_eq_true hn
      have g' : ((s'[0].toNat : Int) == 45) = false := by rw [neg_byte z2'] at hn'; simpa using of_decide_eq_false hn'
      clear hn hn' hq hc hc'
      go_enter Tryz.func102, Tryz.ntmps102
      go_upto_region 1 with fail
      go_region
      all_goals
        go_wp2_with fail
        go_ret
        exact ⟨rfl, (Below.refl _ _).drew⟩
    | true =>
      rw [hn, hn'] at hq
      have hq1 : q = byLen (s'.extract 1 s'.size) (s.extract 1 s.size) := hq
      obtain ⟨t1, t2⟩ := tail_pos hc hn
      obtain ⟨t1', t2'⟩ := tail_pos hc' hn'
      have e1 := ext_size s; have e2 := ext_size s'
      obtain ⟨d, hd⟩ : ∃ d, s.extract 1 s.size = d := ⟨_, rfl⟩
      obtain ⟨d', hd'⟩ : ∃ d, s'.extract 1 s'.size = d := ⟨_, rfl⟩
      rw [hd] at hq1 t1 t2 e1
      rw [hd'] at hq1 t1' t2' e2
      have HC := Lib.hid (fun W => bigs_pos d' d (by omega) (by omega) t1' t1 t2' t2 W)
      rw [← hq1] at HC
      have g : (s[0].toNat : Int) = 45 := by rw [neg_byte z2] at hn; exact of_decide_eq_true hn
      have g' : (s'[0].toNat : Int) = 45 := by rw [neg_byte z2'] at hn'; exact of_decide_eq_true hn'
      have i1 : (1 : Int) ≤ (s.size : Int) := by omega
      have i2 : (1 : Int) ≤ (s'.size : Int) := by omega
      clear hn hn' hq hc hc' hq1 t1 t2 t1' t2' e1 e2
      go_enter Tryz.func102, Tryz.ntmps102
      go_upto_region 1 with fail
      go_region
      all_goals
        go_upto_region 7 with fail
        go_region_held3 (fun _ => True) (trivial)
          (first
            | (go_at_call 102; refine (HC.out _).mono ?_; rintro e w1 ⟨rfl, hb1⟩; have HB1 := Lib.hid ((Below.refl w.heap.size w).drew.drew.trans (hb1.mono (Nat.le_refl _))); clear hb1))
        all_goals
          go_wp2_with fail
          go_ret
          exact ⟨rfl, HB1.out⟩
end Go.Proofs.YtlhkjmckigblpaaGreatDoor
/- QXo: Plain facts: numbers' texts stand as their numbers; Bigs tells it. -/
namespace Go.Proofs.YtlhkjmckigblpaaGreatDoor
open Go.RowKit Vp Pl Dig
open Go

/-- The number of some digits. -/
def numL (l : List UInt8) : Nat := vl 10 (l.reverse.map dig)
theorem numL_cons (x : UInt8) (xs : List UInt8) : numL (x :: xs) = numL xs + 10 ^ xs.length * dig x := by
  unfold numL; rw [List.reverse_cons, List.map_append, List.map_cons, List.map_nil, vl_snoc]; simp
theorem numL_lt (l : List UInt8) (h : l.all isDig = true) : numL l < 10 ^ l.length := by
  have := vl_lt 10 (l.reverse.map dig) fun d hd => by
    obtain ⟨c, hc, rfl⟩ := List.mem_map.1 hd
    have h1 := List.all_eq_true.1 h c (List.mem_reverse.1 hc)
    unfold isDig at h1; have := of_decide_eq_true h1; unfold dig; omega
  simpa [numL] using this
theorem numL_cmp : ∀ (a b : List UInt8), a.length = b.length → a.all isDig = true → b.all isDig = true → Lib.compareBytes a b = cmpI (numL a : Int) (numL b : Int)
  | [], [], _, _, _ => by simp [Lib.compareBytes, cmpI]
  | [], _ :: _, h, _, _ => absurd h (by simp)
  | _ :: _, [], h, _, _ => absurd h (by simp)
  | x :: xs, y :: ys, h, ha, hb => by
    rw [List.all_cons, Bool.and_eq_true] at ha hb
    have hl : xs.length = ys.length := by simpa using h
    have hx := of_decide_eq_true (show decide (48 ≤ x.toNat ∧ x.toNat ≤ 57) = true from ha.1)
    have hy := of_decide_eq_true (show decide (48 ≤ y.toNat ∧ y.toNat ≤ 57) = true from hb.1)
    have ih := numL_cmp xs ys hl ha.2 hb.2
    have l1 := numL_lt xs ha.2
    have l2 := numL_lt ys hb.2
    rw [cb_cons, ih, numL_cons, numL_cons, hl]
    rw [hl] at l1
    generalize 10 ^ ys.length = P at *
    have ex : dig x = x.toNat - 48 := rfl
    have ey : dig y = y.toNat - 48 := rfl
    rcases Nat.lt_trichotomy x.toNat y.toNat with hxy | hxy | hxy
    · have m := Nat.mul_le_mul_left P (show dig x + 1 ≤ dig y by omega)
      rw [Nat.mul_add, Nat.mul_one] at m
      rw [lx, if_pos (by unfold cmpI; rw [if_pos (by omega)]; decide)]
      unfold cmpI; rw [if_pos (by omega), if_pos (by omega)]
    · have e : dig x = dig y := by omega
      rw [e, lx, if_neg (by unfold cmpI; rw [if_neg (by omega), if_neg (by omega)]; decide)]
      unfold cmpI
      repeat' split
      all_goals omega
    · have m := Nat.mul_le_mul_left P (show dig y + 1 ≤ dig x by omega)
      rw [Nat.mul_add, Nat.mul_one] at m
      rw [lx, if_pos (by unfold cmpI; rw [if_neg (by omega), if_pos (by omega)]; decide)]
      unfold cmpI; rw [if_neg (by omega), if_pos (by omega), if_neg (by omega), if_pos (by omega)]
theorem numL_ge {l : List UInt8} (h : l.all isDig = true) (hne : l ≠ []) (h0 : l.head? ≠ some 48) : 10 ^ (l.length - 1) ≤ numL l := by
  cases l with
  | nil => exact absurd rfl hne
  | cons x xs =>
    rw [List.all_cons, Bool.and_eq_true] at h
    have hx := of_decide_eq_true (show decide (48 ≤ x.toNat ∧ x.toNat ≤ 57) = true from h.1)
    have hx0 : x.toNat ≠ 48 := fun e => h0 (by rw [List.head?_cons]; exact congrArg some (UInt8.toNat_inj.1 (by rw [e]; rfl)))
    rw [numL_cons]
    have ex : dig x = x.toNat - 48 := rfl
    have m := Nat.mul_le_mul_left (10 ^ xs.length) (show 1 ≤ dig x by omega)
    rw [Nat.mul_one] at m
    have : (x :: xs).length - 1 = xs.length := by simp
    rw [this]; omega
/-- Digits as a number has them. -/
def Dgs (l : List UInt8) : Prop := l.all isDig = true ∧ l ≠ [] ∧ (l.head? = some 48 → l = [48])
theorem dgs_len {a b : List UInt8} (ha : Dgs a) (hb : Dgs b) (h : a.length < b.length) : numL a < numL b := by
  have h1 := numL_lt a ha.1
  have hp : 0 < a.length := List.length_pos_iff.2 ha.2.1
  have h2 := numL_ge hb.1 hb.2.1 fun e => by have h4 := congrArg List.length (hb.2.2 e); rw [List.length_singleton] at h4; omega
  have h3 : 10 ^ a.length ≤ 10 ^ (b.length - 1) := Nat.pow_le_pow_right (by decide) (by omega)
  omega
theorem byLen_num {s s' : ByteArray} (h : Dgs s.data.toList) (h' : Dgs s'.data.toList) : byLen s s' = cmpI (numL s.data.toList : Int) (numL s'.data.toList : Int) := by
  unfold byLen
  rw [size_len s, size_len s']
  split
  · rename_i e; exact numL_cmp _ _ e h.1 h'.1
  · rename_i e
    rcases Nat.lt_or_ge s.data.toList.length s'.data.toList.length with hl | hl
    · have := dgs_len h h' hl
      unfold cmpI; rw [if_pos (by omega), if_pos (by omega)]
    · have := dgs_len h' h (by omega)
      unfold cmpI; rw [if_neg (by omega), if_pos (by omega), if_neg (by omega), if_pos (by omega)]
theorem dgs_mag {l : List UInt8} (h : chk l = 0) : Dgs (mag l) := by
  obtain ⟨h1, h2, h3, _⟩ := chk_good h
  refine ⟨h3, h1, fun e => ?_⟩
  have : l = [48] := by
    rcases Classical.em (l = [48]) with h | h
    · exact h
    · exact absurd ⟨e, h⟩ h2
  rw [this]; rfl
theorem mag_pos {l : List UInt8} (h : chk l = 0) (hn : l.head? = some 45) : 0 < numL (mag l) := by
  obtain ⟨h1, h2, h3, _⟩ := chk_good h
  have := numL_ge h3 h1 fun e => h2 ⟨e, fun e' => by rw [e'] at hn; simp at hn⟩
  have hp : 0 < 10 ^ ((mag l).length - 1) := Nat.pow_pos (by decide)
  omega
theorem val_neg {s : ByteArray} (h : negB s = true) : valL s.data.toList = -(numL (mag s.data.toList) : Int) := by
  unfold valL; unfold negB at h; rw [h]; rfl
theorem val_pos {s : ByteArray} (h : negB s = false) : valL s.data.toList = (numL (mag s.data.toList) : Int) := by
  unfold valL; unfold negB at h; rw [h]; rfl
theorem bySign_z {s s' : ByteArray} (hc : chk s.data.toList = 0) (hc' : chk s'.data.toList = 0) : bySign s s' = zcmp s.data.toList s'.data.toList := by
  unfold bySign zcmp
  cases hn : negB s with
  | false =>
    cases hn' : negB s' with
    | false =>
      rw [if_pos rfl, if_neg (by simp), val_pos hn, val_pos hn', ← self_data hn, ← self_data hn']
      exact byLen_num (by rw [self_data hn]; exact dgs_mag hc) (by rw [self_data hn']; exact dgs_mag hc')
    | true =>
      have := mag_pos hc' (of_decide_eq_true hn')
      rw [if_neg (by simp), if_neg (by simp), val_pos hn, val_neg hn']
      unfold cmpI; rw [if_neg (by omega), if_pos (by omega)]
  | true =>
    have := mag_pos hc (of_decide_eq_true hn)
    cases hn' : negB s' with
    | false =>
      rw [if_neg (by simp), if_pos rfl, val_neg hn, val_pos hn']
      unfold cmpI; rw [if_pos (by omega)]
    | true =>
      rw [if_pos rfl, if_pos rfl, val_neg hn, val_neg hn', byLen_num (by rw [ext_data hn']; exact dgs_mag hc') (by rw [ext_data hn]; exact dgs_mag hc), ext_data hn, ext_data hn']
      unfold cmpI
      repeat' split
      all_goals omega
theorem bigs_ok : BigsOk := fun s s' w hc hc' => by
  have := bigs_any s s' hc hc' w
  rwa [bySign_z hc hc'] at this
end Go.Proofs.YtlhkjmckigblpaaGreatDoor
/- QXp: The document's own answers of layer 2: two values that may be anything, in their order. -/
namespace Go.Proofs.YtlhkjmckigblpaaGreatDoor
open Go.RowKit Vp Pl
open Go
attribute [local go_sem] Oper.semAt_some

theorem cmpR_last {a b : List V} {pa pb : Bool} (ha : (!invL a) = pa) (hb : (!invL b) = pb) (h : pa = false ∨ pb = false) : cmpR zcmp a b = lastI pa pb := by
  subst ha; subst hb
  unfold cmpR lastI
  cases h1 : invL a <;> cases h2 : invL b <;> simp_all
theorem cmpR_both {a b : List V} (ha : (!invL a) = true) (hb : (!invL b) = true) : cmpR zcmp a b = cmpL zcmp a b := by
  unfold cmpR; cases h1 : invL a <;> cases h2 : invL b <;> simp_all
theorem cmpR_last1 {a b : V} {z z' : Int} (ha : chkV a = z) (hb : chkV b = z') (h : z ≠ 0 ∨ z' ≠ 0) : cmpR zcmp [a] [b] = lastI (z == 0) (z' == 0) := by
  refine cmpR_last ?_ ?_ (by rcases h with h | h <;> simp [h])
  · unfold invL; by_cases e : z = 0 <;> simp [ha, e]
  · unfold invL; by_cases e : z' = 0 <;> simp [hb, e]
theorem cmpR_both1 {a b : V} (ha : chkV a = 0) (hb : chkV b = 0) : cmpR zcmp [a] [b] = cmpV zcmp a b := by
  rw [cmpR_both (by unfold invL; simp [ha]) (by unfold invL; simp [hb]), cmpL_cons, cmpL_nil]
  unfold lx; split <;> simp_all
theorem fine_of {a : V} (h : chkV a = 0) : Fine a := by
  obtain ⟨_, h2, h3⟩ := valid_parts h
  exact ⟨h2, h3⟩
set_option maxHeartbeats 2000000 in
theorem refcmp1_c (a b : V) (u u' : Value) (w : World) (da : depth a < 100000000) (db : depth b < 100000000) (h : VRep w w.heap.size a u) (h' : VRep w w.heap.size b u') :
    Calls Tryz.prog 43 #[u, u'] w fun e w' => e = .returned (.int .i64 (cmpR zcmp [a] [b])) ∧ Below w.heap.size w w' := by
  obtain ⟨k, n, s, l, A, c, ha, rfl, hk, hn, hs, hR⟩ := h.open_
  obtain ⟨k', n', s', l', A', c', hb, rfl, hk', hn', hs', hR'⟩ := h'.open_
  obtain ⟨q, hq⟩ : ∃ q, q = cmpR zcmp [a] [b] := ⟨_, rfl⟩
  rw [← hq]
  obtain ⟨W, hW⟩ : ∃ W, W = (w.alloc (.cells #[.int .u8 (k : Int), .int .i64 n, .string s, .slice A l.length c] 34)).alloc (.cells #[.int .u8 (k' : Int), .int .i64 n', .string s', .slice A' l'.length c'] 34) := ⟨_, rfl⟩
  have hB : Below w.heap.size w W := hW ▸ two_new _ _ _
  have hsz : w.heap.size + 1 < W.heap.size := by rw [hW]; simp
  have b0 : Blk W w.heap.size 34 #[.int .u8 (k : Int), .int .i64 n, .string s, .slice A l.length c] := hW ▸ (Blk.new _ _ _).alloc _
  have b1 : Blk W (w.heap.size + 1) 34 #[.int .u8 (k' : Int), .int .i64 n', .string s', .slice A' l'.length c'] := hW ▸ (by have := Blk.new (w.alloc (.cells #[.int .u8 (k : Int), .int .i64 n, .string s, .slice A l.length c] 34)) 34 #[.int .u8 (k' : Int), .int .i64 n', .string s', .slice A' l'.length c']; rw [World.size_alloc] at this; exact this)
  have hcl : ∀ w', Below W.heap.size W w' → w'.cell? ⟨w.heap.size, 0, none⟩ = some (.int .u8 (k : Int)) ∧ w'.cell? ⟨w.heap.size, 1, none⟩ = some (.int .i64 n) ∧ w'.cell? ⟨w.heap.size, 2, none⟩ = some (.string s) ∧ w'.cell? ⟨w.heap.size, 3, none⟩ = some (.slice A l.length c) ∧ w'.cell? ⟨w.heap.size + 1, 0, none⟩ = some (.int .u8 (k' : Int)) ∧ w'.cell? ⟨w.heap.size + 1, 1, none⟩ = some (.int .i64 n') ∧ w'.cell? ⟨w.heap.size + 1, 2, none⟩ = some (.string s') ∧ w'.cell? ⟨w.heap.size + 1, 3, none⟩ = some (.slice A' l'.length c') := fun w' hb => by
    have c0 := b0.below hb (by omega); have c1 := b1.below hb hsz
    have x0 := c0.cell 0; have x1 := c0.cell 1; have x2 := c0.cell 2; have x3 := c0.cell 3
    have y0 := c1.cell 0; have y1 := c1.cell 1; have y2 := c1.cell 2; have y3 := c1.cell 3
    simp at x0 x1 x2 x3 y0 y1 y2 y3
    exact ⟨x0, x1, x2, x3, y0, y1, y2, y3⟩
  have hva : ∀ W', Below W.heap.size W W' → VRep W' W'.heap.size a (.agg #[.int .u8 (k : Int), .int .i64 n, .string s, .slice A l.length c]) := fun W' hb => (h.under (hB.trans (hb.mono hB.size))).more (hB.trans (hb.mono hB.size)).size
  have hvb : ∀ W', Below W.heap.size W W' → VRep W' W'.heap.size b (.agg #[.int .u8 (k' : Int), .int .i64 n', .string s', .slice A' l'.length c']) := fun W' hb => (h'.under (hB.trans (hb.mono hB.size))).more (hB.trans (hb.mono hB.size)).size
  obtain ⟨z, hz⟩ : ∃ z, chkV a = z := ⟨_, rfl⟩
  obtain ⟨z', hz'⟩ : ∃ z, chkV b = z := ⟨_, rfl⟩
  have hca := fun W' hb => refcheck_c a _ W' da (hva W' hb)
  have hcb := fun W' hb => refcheck_c b _ W' db (hvb W' hb)
  rw [hz] at hca; rw [hz'] at hcb
  have hcmp : z = 0 → z' = 0 → ∀ W', Below W.heap.size W W' → Calls Tryz.prog 79 #[(.agg #[.int .u8 (k : Int), .int .i64 n, .string s, .slice A l.length c]), (.agg #[.int .u8 (k' : Int), .int .i64 n', .string s', .slice A' l'.length c'])] W' fun e w' => e = .returned (.int .i64 q) ∧ Below W'.heap.size W' w' := fun e1 e2 W' hb => by
    rw [hq, cmpR_both1 (hz.trans e1) (hz'.trans e2)]
    exact refcmp_c bigs_ok a b _ _ W' (fine_of (hz.trans e1)) (fine_of (hz'.trans e2)) (hva W' hb) (hvb W' hb)
  have hla : z ≠ 0 ∨ z' ≠ 0 → ∀ W', Calls Tryz.prog 78 #[.bool (z == 0), .bool (z' == 0)] W' fun e w' => e = .returned (.int .i64 q) ∧ Below W'.heap.size W' w' := fun h W' => by
    rw [hq, cmpR_last1 hz hz' h]; exact last_c _ _ W'
  have HCL := Lib.hid hcl; have HCA := Lib.hid hca; have HCB := Lib.hid hcb; have HCM := Lib.hid hcmp; have HLA := Lib.hid hla; have HB := Lib.hid hB; have HR0 := Lib.hid (Below.refl W.heap.size W)
  have HW := Lib.hid hW
  obtain ⟨x0, x1, x2, x3, y0, y1, y2, y3⟩ := hcl W (Below.refl _ _)
  clear hcl hva hvb hca hcb hcmp hla hB b0 b1 hsz hR hR' h h' hq hz hz' ha hb da db
  rw [hW] at x0 x1 x2 x3 y0 y1 y2 y3
  clear hW
  go_enter Tryz.func43, Tryz.ntmps43
  go_upto_region 1 with fail
  rw [← HW.out] at x0 x1 x2 x3 y0 y1 y2 y3 ⊢
  go_region_held3 (fun w' => w'.cell? ⟨w.heap.size, 0, none⟩ = some (.int .u8 (k : Int)) ∧ w'.cell? ⟨w.heap.size, 1, none⟩ = some (.int .i64 n) ∧ w'.cell? ⟨w.heap.size, 2, none⟩ = some (.string s) ∧ w'.cell? ⟨w.heap.size, 3, none⟩ = some (.slice A l.length c) ∧ w'.cell? ⟨w.heap.size + 1, 0, none⟩ = some (.int .u8 (k' : Int)) ∧ w'.cell? ⟨w.heap.size + 1, 1, none⟩ = some (.int .i64 n') ∧ w'.cell? ⟨w.heap.size + 1, 2, none⟩ = some (.string s') ∧ w'.cell? ⟨w.heap.size + 1, 3, none⟩ = some (.slice A' l'.length c')) (go_keep)
    (first
      | (have hx := HB1; clear hx; first
          | (go_at_call 41; with_reducible refine (HCA.out _ HB1.out).mono ?_; rintro e w2 ⟨rfl, hb1⟩; have HB2 := Lib.hid (HB1.out.trans (hb1.mono HB1.out.size)); clear hb1; obtain ⟨p0, p1, p2, p3, p4, p5, p6, p7⟩ := HCL.out _ HB2.out)
          | (go_at_call 41; with_reducible refine (HCB.out _ HB1.out).mono ?_; rintro e w2 ⟨rfl, hb1⟩; have HB2 := Lib.hid (HB1.out.trans (hb1.mono HB1.out.size)); clear hb1; obtain ⟨p0, p1, p2, p3, p4, p5, p6, p7⟩ := HCL.out _ HB2.out))
      | (go_at_call 41; with_reducible refine (HCA.out _ HR0.out.drew).mono ?_; rintro e w1 ⟨rfl, hb1⟩; have HB1 := Lib.hid (HR0.out.drew.trans (hb1.mono HR0.out.drew.size)); clear hb1; obtain ⟨o0, o1, o2, o3, o4, o5, o6, o7⟩ := HCL.out _ HB1.out)
      | (go_at_call 41; with_reducible refine (HCB.out _ HR0.out.drew).mono ?_; rintro e w1 ⟨rfl, hb1⟩; have HB1 := Lib.hid (HR0.out.drew.trans (hb1.mono HR0.out.drew.size)); clear hb1; obtain ⟨o0, o1, o2, o3, o4, o5, o6, o7⟩ := HCL.out _ HB1.out))
  all_goals
    by_cases hboth : z = 0 ∧ z' = 0
    · obtain ⟨rfl, rfl⟩ := hboth
      have HX := Lib.hid (HCM.out rfl rfl)
      clear HCM HLA
      go_wp2_with (go_at_call 79; refine (HX.out _ HB2.out).mono ?_; rintro e w3 ⟨rfl, hb3⟩; have HB3 := Lib.hid (HB2.out.trans (hb3.mono HB2.out.size)); clear hb3)
      go_ret
      exact ⟨rfl, HB.out.trans (HB3.out.mono HB.out.size)⟩
    · have hor : z ≠ 0 ∨ z' ≠ 0 := by omega
      have HX := Lib.hid (HLA.out hor)
      clear HCM HLA
      have hnot : ¬ ((z == 0) = true ∧ (z' == 0) = true) := by simpa using hboth
      clear hboth hor
      generalize hp : (z == 0) = p at HX hnot ⊢
      generalize hp' : (z' == 0) = p' at HX hnot ⊢
      clear hp hp'
      cases p <;> cases p'
      all_goals first
        | exact absurd ⟨rfl, rfl⟩ hnot
        | (clear hnot
           go_wp2_with (go_at_call 78; refine (HX.out _).mono ?_; rintro e w3 ⟨rfl, hb3⟩; have HB3 := Lib.hid (HB2.out.trans (hb3.mono HB2.out.size)); clear hb3)
           go_ret
           exact ⟨rfl, HB.out.trans (HB3.out.mono HB.out.size)⟩)
end Go.Proofs.YtlhkjmckigblpaaGreatDoor
