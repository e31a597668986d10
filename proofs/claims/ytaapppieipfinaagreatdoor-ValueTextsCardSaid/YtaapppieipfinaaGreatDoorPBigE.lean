/- The machine with nine-digit pieces, part E: big.read. -/
import Derived.Test.YtaapppieipfinaaGreatDoorPBigD
namespace Go.Proofs.YtaapppieipfinaaGreatDoor
open Go.RowKit
open Pl Dig

theorem info78 : (Tryz.prog.info? 129).map (fun i => (i.zero, i.size, i.bytes)) = some (some (.int .u32 0), 1, 4) := by kernel_rfl
theorem ret54_2 {fn : Func} {p u : Tmp} (h : fn.results = #[.cell p 105, .tmp u]) {tmps : Array Value} {W : World} {g : Nat} {x y z : Value} (hp : tmps.getD p undef = .pointer (some ⟨g, 0, none⟩)) (hu : tmps.getD u undef = z)
    (hb : Blk W g 105 #[x, y]) : (results fn tmps).run Tryz.prog W = .ok (.tuple #[.agg #[x, y], z]) W := by
  have c0 := hb.cell0
  have c1 := hb.cell1
  rw [Array.getD_eq_getD_getElem?] at hp hu
  simp [results, h, hp, hu, go_sem, c0, c1]
def zero54 : Value := .agg #[.bool false, .slice none 0 0]

set_option maxRecDepth 100000 in
set_option maxHeartbeats 1000000 in
theorem read_bad (s : ByteArray) (w : World) (hs : s.size ≤ maxLen) (h : chk s.data.toList ≠ 0) :
    Calls Tryz.prog 107 #[.string s] w fun e w' => e = .returned (.tuple #[zero54, .int .i64 (chk s.data.toList)]) ∧ Below w.heap.size w w' := by
  unfold zero54
  generalize hk : chk s.data.toList = k at h ⊢
  have HK := Lib.hid hk; clear hk
  have hne : (k != 0) = true := by simpa using h
  clear h
  have bR := Blk.new w 105 #[.bool false, .slice none 0 0]
  have hB := (Below.refl w.heap.size w).alloc (Nat.le_refl _) (.cells #[.bool false, .slice none 0 0] 105)
  have BR := Lib.hid bR; have HB := Lib.hid hB; clear bR hB
  go_enter Tryz.func107, Tryz.ntmps107
  go_wp2_with fail
  refine (big_check s _ hs).mono ?_
  rw [HK.out]
  rintro e w1 ⟨rfl, hB1⟩
  have bR1 := BR.out.below hB1 (by simp)
  have x0 := bR1.cell0; have x1 := bR1.cell1; have k0 := bR1.frozen 0; have k1 := bR1.frozen 1
  have BR1 := Lib.hid bR1; have HB1 := Lib.hid (HB.out.trans (hB1.mono HB.out.size)); clear bR1 hB1
  go_wp2_with fail
  refine bodyPost_ret (ret54_2 (g := w.heap.size) Tryz.results107 rfl rfl BR1.out.store2) rfl ⟨rfl, (HB1.out.setCell (by simp) _).setCell (by simp) _⟩

theorem own_iter {w : World} {base n k pos pos' : Nat} {e : TypeId} {v : Value} {xs : List Value} {s s' : ByteArray} (h : w.ownsRow base e 1 v n xs) (hk : w.heap[k]? = some (.stringIter s pos)) : (w.iterAt k s' pos').ownsRow base e 1 v n xs := by
  refine h.kept (row := some k) ⟨rfl, rfl, rfl, by rw [Lib.iterAt_size]; exact Nat.le_refl _, fun i _ hi => Lib.iterAt_other w k i s' pos' (fun e' => hi (by rw [e']))⟩ (.inr ?_)
  rcases h.2 with ⟨rfl, _⟩ | ⟨g, cap, cur, rfl, _, hg, _⟩
  · simp [Value.ownBlock]
  · intro he
    have : g = k := by simpa [Value.ownBlock] using he
    subst this
    rw [hg] at hk; cases hk
theorem Blk.iter {w : World} {g k pos pos' : Nat} {t : TypeId} {cs : Array Value} {s s' : ByteArray} (h : Blk w g t cs) (hk : w.heap[k]? = some (.stringIter s pos)) : Blk (w.iterAt k s' pos') g t cs := by
  unfold Blk at h ⊢
  rw [Lib.iterAt_other _ _ _ _ _ (by rintro rfl; rw [h] at hk; cases hk)]
  exact h

theorem hor_lt (l : List UInt8) (h : l.all isDig = true) : hor 0 l < 10 ^ l.length := by
  rw [← hor_vl]
  have := vl_lt 10 (l.reverse.map dig) (fun d hd => by
    rw [List.mem_map] at hd
    obtain ⟨c, hc, rfl⟩ := hd
    rw [List.all_eq_true] at h
    have := h c (by simpa using hc)
    unfold isDig at this; unfold dig; have := of_decide_eq_true this; omega)
  simpa using this
theorem hor_take_succ {l : List UInt8} {k : Nat} (hk : k < l.length) : hor 0 (l.take (k + 1)) = hor 0 (l.take k) * 10 + dig l[k] := by
  rw [List.take_succ_eq_append_getElem hk, hor_snoc]
theorem pow_le_b9 {k : Nat} (h : k ≤ 9) : 10 ^ k ≤ b9 := Nat.pow_le_pow_right (n := 10) (by decide) h
/-- One step of the reading. -/
theorem read_step {d : ByteArray} {e k : Nat} {acc : List Nat} (he : e = d.size - 9 * k) (hlt : 9 * k < d.size) (hacc : acc.length = k) (h : vl b9 acc = suf d e) :
    vl b9 (acc ++ [chunk d (e - 9) e]) = suf d (d.size - 9 * (k + 1)) := by
  rw [show d.size - 9 * (k + 1) = e - 9 from by omega, suf_step (d := d) (lo := e - 9) (e := e) (by omega) (by omega), vl_snoc, h, hacc]
  have : d.size - e = 9 * k := by omega
  rw [this, Nat.pow_mul, Nat.mul_comm, Nat.add_comm]
  rfl

set_option maxRecDepth 100000 in
set_option maxHeartbeats 2000000 in
theorem read_good (s : ByteArray) (w : World) (h : chk s.data.toList = 0) :
    Calls Tryz.prog 107 #[.string s] w fun e w' => ∃ v, e = .returned (.tuple #[v, .int .i64 0]) ∧ BigIs w' (valL s.data.toList) v ∧ Below w.heap.size w w' := by
  generalize hvz : valL s.data.toList = z
  have HVZ := Lib.hid hvz; clear hvz
  obtain ⟨d, hd, hdd⟩ : ∃ d : ByteArray, d.data.toList = mag s.data.toList ∧ (⟨(mag s.data.toList).toArray⟩ : ByteArray) = d := ⟨⟨(mag s.data.toList).toArray⟩, rfl, rfl⟩
  have hn : d.size ≤ 200 := by rw [size_len, hd]; exact (chk_good h).2.2.2
  have hss := (good_size h).1
  have hdig : ∀ j, (hj : j < d.size) → isDig d[j] = true := by
    intro j hj
    have h3 := (chk_good h).2.2.1
    rw [← hd, List.all_eq_true] at h3
    exact h3 _ (List.mem_iff_getElem.2 ⟨j, by rw [← size_len]; exact hj, rfl⟩)
  have HC := Lib.hid h; have HDD := Lib.hid hdd; have HD := Lib.hid hd; have HDIG := Lib.hid hdig
  clear h hdd hd hdig
  have bR := Blk.new w 105 #[.bool false, .slice none 0 0]
  have hB := (Below.refl w.heap.size w).alloc (Nat.le_refl _) (.cells #[.bool false, .slice none 0 0] 105)
  have BR := Lib.hid bR; have HB := Lib.hid hB; clear bR hB
  go_enter Tryz.func107, Tryz.ntmps107
  go_wp2_with fail
  refine (big_check s _ (by unfold maxLen; omega)).mono ?_
  rw [HC.out]
  rintro e w1 ⟨rfl, hB1⟩
  have bR1 := BR.out.below hB1 (by simp)
  have BR1 := Lib.hid bR1; have HB1 := Lib.hid (HB.out.trans (hB1.mono HB.out.size)); clear bR1 hB1
  have hz1 := BR1.out.lt
  go_wp2_with (go_at_call 85; refine (Tryz.strings_TrimPrefix s ⟨#[45]⟩ _).mono ?_; rw [show (⟨#[45]⟩ : ByteArray).data.toList = [45] from rfl, trim_mag, HDD.out]; rintro e w' ⟨rfl, hw⟩; obtain rfl := hw.symm)
  go_loopg [6, 7, 8, 10] 300 (fun g s6 s7 s8 s10 wr => ∃ (k : Nat) (acc : List Nat), g = 300 - k ∧ k ≤ 200 ∧ s7 = .int .i64 ((d.size : Int) - 9 * k) ∧ (k = 0 ∨ 9 * k < d.size + 9) ∧ acc.length = k ∧ (∀ x ∈ acc, x < b9) ∧ vl b9 acc = suf d (d.size - 9 * k) ∧
    wr.ownsRow (w.heap.size + 1) 129 1 s6 k (u32s acc) ∧ Blk wr w.heap.size 105 #[.bool false, .slice none 0 0] ∧ Below w.heap.size w wr)
  case atStart =>
    exact ⟨0, [], rfl, by omega, by simp, .inl rfl, rfl, by simp, by simp only [vl, suf, Nat.mul_zero, Nat.sub_zero]; rw [size_len, List.drop_length, hor_nil], World.ownsRow_nil _ _ _ _, BR1.out, HB1.out⟩
  case round =>
    obtain ⟨k, acc, hg, hk, rfl, hk9, hacc, h10, hval, hown, bR, hB⟩ := hrel
    obtain ⟨wo, hwo⟩ : ∃ wo, wo = wr := ⟨_, rfl⟩
    subst hwo
    have hz := bR.lt
    have HG := Lib.hid hg; have HACC := Lib.hid hacc; have H10 := Lib.hid h10; have HVAL := Lib.hid hval; have HOWN := Lib.hid hown; have BR := Lib.hid bR; have HB := Lib.hid hB
    clear hg hacc h10 hval hown bR hB
    by_cases hlt : 9 * k < d.size
    · obtain ⟨e, he⟩ : ∃ e, e = d.size - 9 * k := ⟨_, rfl⟩
      have he1 : ((d.size : Int) - 9 * k) = (e : Int) := by omega
      have he0 : 0 < e := by omega
      have hed : e ≤ d.size := by omega
      rw [he1]
      clear he1
      have HE := Lib.hid he; clear he
      have hmx : max (0 : Int) ((e : Int) - 9) = ((e - 9 : Nat) : Int) := by omega
      obtain ⟨c, hc⟩ : ∃ c, c = d.extract (e - 9) e := ⟨_, rfl⟩
      have hcl : c.data.toList = (d.data.toList.drop (e - 9)).take (e - (e - 9)) := by rw [hc, Lib.extract_data]
      have hcs : c.size ≤ 9 := by rw [size_len, hcl, List.length_take]; omega
      have hca : c.data.toList.all isDig = true := by
        rw [hcl, List.all_eq_true]
        intro x hx
        obtain ⟨i, hi⟩ := List.mem_iff_getElem?.1 (List.mem_of_mem_drop (List.mem_of_mem_take hx))
        obtain ⟨hi1, hi2⟩ := List.getElem?_eq_some_iff.1 hi
        rw [← hi2]
        exact HDIG.out i (by rw [size_len]; exact hi1)
      have hch : chunk d (e - 9) e = hor 0 c.data.toList := by unfold chunk; rw [hcl]
      have HCL := Lib.hid hcl; have HCA := Lib.hid hca; have HCH := Lib.hid hch
      have HCC := Lib.hid hc
      clear hcl hca hch hc
      go_wp2_with fail
      rw [← HCC.out]
      clear hmx
      go_loopg [8, 10] (c.size + 1) (fun g s8 s10 wq => ∃ pos : Nat, g = c.size - pos + 1 ∧ pos ≤ c.size ∧ s8 = .int .u32 ((hor 0 (c.data.toList.take pos) : Nat) : Int) ∧ wq.heap[wo.heap.size]? = some (.stringIter c pos) ∧
        wq.ownsRow (w.heap.size + 1) 129 1 u6 k (u32s acc) ∧ Blk wq w.heap.size 105 #[.bool false, .slice none 0 0] ∧ Below w.heap.size w wq)
      case atStart =>
        exact ⟨0, rfl, by omega, by rw [List.take_zero, hor_nil]; rfl, World.iter_heap _ _ _, HOWN.out.alloc _, BR.out.alloc _, HB.out.alloc (by omega) _⟩
      case round =>
        obtain ⟨pos, hg, hp, rfl, hit, hown, bR, hB⟩ := hrel
        have hz := bR.lt
        have HG2 := Lib.hid hg; have HIT := Lib.hid hit; have HOWN2 := Lib.hid hown; have BR2 := Lib.hid bR; have HB2 := Lib.hid hB
        clear hg hown bR hB
        by_cases hlt2 : pos < c.size
        · have hcd : isDig c[pos] = true := by
            have := HCA.out
            rw [List.all_eq_true] at this
            exact this _ (List.mem_iff_getElem.2 ⟨pos, by rw [← size_len]; exact hlt2, rfl⟩)
          have hc1 : 48 ≤ c[pos].toNat ∧ c[pos].toNat ≤ 57 := by unfold isDig at hcd; exact of_decide_eq_true hcd
          have hnx := fun ty => Lib.run_next_ascii_at (P := Tryz.prog) wr wo.heap.size c pos ty hit hlt2 (by omega)
          have hst := hor_take_succ (l := c.data.toList) (k := pos) (by rw [← size_len]; exact hlt2)
          have hm : hor 0 (c.data.toList.take pos) < 100000000 := by
            have h1 := hor_lt (c.data.toList.take pos) (by rw [List.all_eq_true]; intro x hx; have := HCA.out; rw [List.all_eq_true] at this; exact this x (List.mem_of_mem_take hx))
            have h2 : (c.data.toList.take pos).length ≤ 8 := by rw [List.length_take]; omega
            exact Nat.lt_of_lt_of_le h1 (Nat.pow_le_pow_right (n := 10) (by decide) h2)
          rw [show c.data.toList[pos]'(by rw [← size_len]; exact hlt2) = c[pos] from rfl] at hst
          generalize hor 0 (c.data.toList.take pos) = m at hm hst ⊢
          obtain ⟨y, hy⟩ : ∃ y, y = c[pos].toNat := ⟨_, rfl⟩
          have hyd : dig c[pos] = y - 48 := by rw [hy]; rfl
          rw [← hy] at hc1 hnx
          have hc3 : (48 : Int) ≤ (y : Int) := by omega
          have hc4 : (y : Int) ≤ 57 := by omega
          have hm' : (m : Int) < 100000000 := by omega
          have HST := Lib.hid hst; have HYD := Lib.hid hyd; have HY := Lib.hid hy
          clear hst hyd hy hit hcd hc1
          go_wp2_with fail
          go_roundg (c.size - (pos + 1) + 1)
          case measure => have := HG2.out; omega
          case rel =>
            refine ⟨pos + 1, rfl, by omega, ?_, Lib.iterAt_heap _ _ _ _ _ HIT.out, own_iter HOWN2.out HIT.out, BR2.out.iter HIT.out, Lib.below_iterAt HB2.out (by omega) _ _⟩
            rw [HST.out, HYD.out]; congr 1; omega
        · have hnx := fun ty => Lib.run_next_end_at (P := Tryz.prog) wr wo.heap.size c pos ty hit hlt2
          obtain rfl : pos = c.size := by omega
          rw [List.take_of_length_le (by rw [size_len]; exact Nat.le_refl _)]
          have hm : hor 0 c.data.toList < b9 := Nat.lt_of_lt_of_le (hor_lt _ HCA.out) (pow_le_b9 (by rw [← size_len]; exact hcs))
          generalize hmm : hor 0 c.data.toList = m at hm ⊢
          have HMM := Lib.hid hmm; clear hmm hit
          go_wp2_with (at_builtin; refine wpList_app1 _ rfl (.tmp 41) (.tmp 43) 103 rfl (w.heap.size + 1) 129 (.int .u32 0) 4 Tryz.underlying103 info78 rfl _ k _ rfl (HOWN2.out.alloc _) wr.heap.size 1 (.int .u32 (m : Int)) rfl (by simp [World.cell?_alloc_new]) (by simp [Value.oneCell']) (by omega) (by omega) (by simp; omega) ?_; intro g' cap' w3 hA; have HA := Lib.hid hA; clear hA)
          go_roundg (300 - (k + 1))
          case measure => have := HG.out; omega
          case rel =>
            have ho := HA.out.1
            rw [← u32s_snoc] at ho
            have hst := read_step HE.out hlt HACC.out (by rw [HE.out]; exact HVAL.out)
            rw [HCH.out, HMM.out] at hst
            refine ⟨k + 1, acc ++ [m], rfl, by omega, by have := HE.out; congr 1; omega, .inr (by omega), by rw [List.length_append, HACC.out]; rfl, ?_, hst, ho, HA.out.blk (BR2.out.alloc _) (by decide), (HB2.out.alloc (by omega) _).trans (HA.out.2.2.mono (by omega))⟩
            intro x hx
            rcases List.mem_append.1 hx with h | h
            · exact H10.out x h
            · simp at h; rw [h]; exact hm
    · have hend : ¬ (0 : Int) < (d.size : Int) - 9 * k := by omega
      have hown : wo.ownsRow (w.heap.size + 1) 129 1 u6 acc.length (u32s acc) := by rw [HACC.out]; exact HOWN.out
      obtain ⟨A, c, rfl, hc1, hc2, hrd⟩ := own_slice hown
      have hneg : decide (d.size < s.size) = negB s := by
        have e1 := HD.out
        unfold negB
        rw [size_len d, size_len s, e1]
        unfold mag
        by_cases h : s.data.toList.head? = some 45
        · have h1 : 0 < s.data.toList.length := by rw [List.length_pos_iff]; intro h'; rw [h'] at h; cases h
          rw [if_pos h, List.length_tail, decide_eq_decide]
          exact ⟨fun _ => h, fun _ => by omega⟩
        · rw [if_neg h, decide_eq_decide]
          exact ⟨fun h' => absurd h' (Nat.lt_irrefl _), fun h' => absurd h' h⟩
      have hres : sgn (negB s) (((vl b9 acc : Nat) : Int)).natAbs = z := by
        rw [← HVZ.out, Int.natAbs_natCast, HVAL.out, show d.size - 9 * k = 0 from by omega]
        unfold suf valL negB
        rw [List.drop_zero, ← hor_vl, HD.out]
      have hal : acc.length ≤ 200 := by rw [HACC.out]; exact hk
      have HNEG := Lib.hid hneg; have HRES := Lib.hid hres; have HRD := Lib.hid hrd
      have HT := Lib.hid (trimmed_any A c acc (by omega) hc1 hc2 wo hrd H10.out)
      clear hown hneg hres hrd
      rw [← Int.natAbs_natCast (vl b9 acc)] at HT
      generalize ((vl b9 acc : Nat) : Int) = p at HT HRES
      go_wp2_with fail
      refine HT.out.mono ?_
      rintro e w1 ⟨⟨A1, c1, rfl, m1, m2, m3⟩, hB1⟩
      have bp : BigP w1 p A1 c1 := ⟨m1, m2, m3⟩
      have BP := Lib.hid bp
      have bR1 := BR.out.below hB1 BR.out.lt
      have BR1 := Lib.hid bR1; have HB1 := Lib.hid (HB.out.trans (hB1.mono HB.out.size)); clear bR1 hB1 bp m1 m2 m3
      go_wp2_with fail
      rw [HNEG.out]
      refine (signed_big (negB s) p A1 c1 _ BP.out).mono ?_
      rw [HRES.out]
      rintro e w2 ⟨v2, rfl, hN2, hB2⟩
      obtain ⟨A2, c2, rfl, hN2⟩ := hN2
      have bR2 := BR1.out.below hB2 BR1.out.lt
      have x0 := bR2.cell0; have x1 := bR2.cell1; have k0 := bR2.frozen 0; have k1 := bR2.frozen 1
      have BR2 := Lib.hid bR2; have HB2 := Lib.hid (HB1.out.trans (hB2.mono HB1.out.size)); have HN2 := Lib.hid hN2
      clear bR2 hB2 hN2
      go_wp2_with fail
      refine bodyPost_ret (ret54_2 (g := w.heap.size) Tryz.results107 rfl rfl BR2.out.store2) rfl ⟨_, rfl, ⟨A2, c2, rfl, HN2.out.store54 BR2.out⟩, (HB2.out.setCell (by simp) _).setCell (by simp) _⟩
end Go.Proofs.YtaapppieipfinaaGreatDoor
