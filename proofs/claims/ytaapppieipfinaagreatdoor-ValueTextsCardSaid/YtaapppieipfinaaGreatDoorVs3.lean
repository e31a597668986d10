/- Package value: copies of rows of one value that has no list. -/
import Derived.Test.YtaapppieipfinaaGreatDoorVs2
import Derived.Lib.SliceRun
namespace Go.Proofs.YtaapppieipfinaaGreatDoor
open Go.RowKit Vp
open Go
attribute [local go_sem] Oper.semAt_some

theorem infoV : (Tryz.prog.info? 28).map (fun i => (i.zero, i.size, i.bytes)) = some (some (.agg #[.int .u8 0, .int .i64 0, .string ⟨#[]⟩, .slice none 0 0]), 4, 56) := by kernel_rfl
theorem infoR : (Tryz.prog.info? 48).map (fun i => (i.zero, i.size, i.bytes)) = some (some (.agg #[.slice none 0 0, .bool false]), 2, 32) := by kernel_rfl
theorem infoS : (Tryz.prog.info? 22).map (fun i => (i.zero, i.size, i.bytes)) = some (some (.slice none 0 0), 1, 24) := by kernel_rfl

/-- The cells of a value that has no list. -/
def leaf (k n : Int) (s : ByteArray) : Array Value := #[.int .u8 k, .int .i64 n, .string s, .slice none 0 0]

theorem own_some {w : World} {base e size n : Nat} {v : Value} {xs : List Value} (h : w.ownsRow base e size v n xs) (hn : 0 < n) : ∃ g cap, v = .slice (some ⟨g, 0, none⟩) n cap ∧ base ≤ g ∧ g < w.heap.size ∧ n ≤ cap ∧ cap ≤ maxLen := by
  rcases h.2 with ⟨_, h0⟩ | ⟨g, cap, cur, hv, hb, hh, hc, hm, _, _⟩
  · omega
  · exact ⟨g, cap, hv, hb, Blk.lt hh, hc, hm⟩

set_option maxRecDepth 100000 in
theorem clone_nil (w : World) : Calls Tryz.prog 58 #[.slice none 0 0] w fun e w' => e = .returned (.slice none 0 0) ∧ w = w' := by
  have hE := fun W => Lib.run_eql_slice_nil (P := Tryz.prog) W 22 28 none 0 0 0 0 Tryz.underlying22
  go_enter Tryz.func58, Tryz.ntmps58
  go_wp2_with fail
  go_ret
  exact ⟨rfl, rfl⟩

set_option maxRecDepth 100000 in
set_option maxHeartbeats 1000000 in
theorem clone_leaf (k n : Int) (s : ByteArray) (b c : Nat) (w : World) (hb : b < w.heap.size) (h0 : ∀ i : Nat, ∀ x, (leaf k n s)[i]? = some x → w.cell? ⟨b, i, none⟩ = some x) :
    Calls Tryz.prog 58 #[.slice (some ⟨b, 0, none⟩) 1 c] w fun e w' => (∃ g cap, e = .returned (.slice (some ⟨g, 0, none⟩) 1 cap) ∧ w.heap.size ≤ g ∧ w'.ownsRow w.heap.size 28 4 (.slice (some ⟨g, 0, none⟩) 1 cap) 1 (leaf k n s).toList) ∧ Below w.heap.size w w' := by
  obtain ⟨i, hi, hz, hsz, hby⟩ := info_parts infoV
  have H0 := Lib.hid h0
  clear h0
  have ho : (w.alloc (.cells #[] 28)).ownsRow w.heap.size 28 4 (.slice (some ⟨w.heap.size, 0, none⟩) 0 0) 0 [] := World.ownsRow_lit w #[] 0 (Nat.le_refl _) (by decide) rfl
  have HO := Lib.hid ho
  clear ho
  have hE := fun W => Lib.run_eql_slice_nil (P := Tryz.prog) W 22 28 (some ⟨b, 0, none⟩) 1 c 0 0 Tryz.underlying22
  go_enter Tryz.func58, Tryz.ntmps58
  have hc1 : ∀ (j : Nat) (u : Value), (leaf k n s).toList[j]? = some u → (w.alloc (Obj.cells #[] 28)).cell? ((⟨b, 0, none⟩ : Addr).add j) = some u := by
    intro j u hu
    have h1 := H0.out j u (by simpa using hu)
    have e : (⟨b, 0, none⟩ : Addr).add j = ⟨b, j, none⟩ := by unfold Addr.add; split <;> simp_all
    rw [e, ← h1]
    exact ((Below.refl w.heap.size w).alloc (Nat.le_refl _) _).cell (p := ⟨b, j, none⟩) hb
  have hc2 : ∀ u ∈ (leaf k n s).toList, u.oneCell' = true := by
    intro u hu
    simp [leaf] at hu
    rcases hu with rfl | rfl | rfl | rfl <;> rfl
  have HC1 := Lib.hid hc1; have HC2 := Lib.hid hc2; have HI := Lib.hid (And.intro hi (And.intro hz (And.intro hsz hby)))
  clear hc1 hc2 hi hz hsz hby
  go_wp2_with (at_builtin; refine wpList_append_own _ rfl (.tmp 5) (.tmp 6) 22 rfl w.heap.size 28 i _ 4 56 Tryz.underlying22 HI.out.1 HI.out.2.1 HI.out.2.2.1 HI.out.2.2.2 rfl (by decide) _ 0 [] rfl HO.out ⟨b, 0, none⟩ 1 c (leaf k n s).toList rfl rfl HC1.out HC2.out (by decide) (by decide) (by simp) ?_; intro v' w2 ho2 hgr hnil; have HO2 := Lib.hid ho2; have HGR := Lib.hid hgr; clear ho2 hgr hnil)
  go_ret
  obtain ⟨g, cap, rfl, hg1, _, _, _⟩ := own_some HO2.out (by decide)
  exact ⟨⟨g, cap, rfl, hg1, HO2.out⟩, ((Below.refl w.heap.size w).alloc (Nat.le_refl _) _).grown HGR.out (by simp) (fun k hk => by have h1 : some w.heap.size = some k := hk; injection h1 with h1; omega)⟩

theorem leaf_cells {w : World} {base g cap : Nat} {k n : Int} {s : ByteArray} (h : w.ownsRow base 28 4 (.slice (some ⟨g, 0, none⟩) 1 cap) 1 (leaf k n s).toList) :
    (w.cell? ⟨g, 0, none⟩ = some (.int .u8 k) ∧ w.cell? ⟨g, 1, none⟩ = some (.int .i64 n) ∧ w.cell? ⟨g, 2, none⟩ = some (.string s) ∧ w.cell? ⟨g, 3, none⟩ = some (.slice none 0 0)) ∧
    (w.frozen? ⟨g, 0, none⟩ = false ∧ w.frozen? ⟨g, 1, none⟩ = false ∧ w.frozen? ⟨g, 2, none⟩ = false ∧ w.frozen? ⟨g, 3, none⟩ = false) :=
  ⟨⟨h.cellAt 0 (by decide), h.cellAt 1 (by decide), h.cellAt 2 (by decide), h.cellAt 3 (by decide)⟩, h.frozenAt 0, h.frozenAt 1, h.frozenAt 2, h.frozenAt 3⟩

theorem ret_val {fn : Func} {p : Tmp} {t : TypeId} (ht : t = 28) (h : fn.results = #[.cell p t]) {tmps : Array Value} {W : World} {g : Nat} {x0 x1 x2 x3 : Value} (hp : tmps.getD p undef = .pointer (some ⟨g, 0, none⟩))
    (hb : Blk W g 28 #[x0, x1, x2, x3]) : (results fn tmps).run Tryz.prog W = .ok (.agg #[x0, x1, x2, x3]) W := by
  subst ht
  have c0 := hb.cell 0; have c1 := hb.cell 1; have c2 := hb.cell 2; have c3 := hb.cell 3
  simp at c0 c1 c2 c3
  rw [Array.getD_eq_getD_getElem?] at hp
  simp [results, h, hp, go_sem, c0, c1, c2, c3]

set_option maxRecDepth 100000 in
set_option maxHeartbeats 1000000 in
theorem copyOf_leaf (k n : Int) (s : ByteArray) (w : World) :
    Calls Tryz.prog 59 #[.agg (leaf k n s)] w fun e w' => e = .returned (.agg (leaf k n s)) ∧ Below w.heap.size w w' := by
  unfold leaf
  go_enter Tryz.func59, Tryz.ntmps59
  go_wp2_with (go_at_call 58; refine (clone_nil _).mono ?_; rintro e w1 ⟨rfl, rfl⟩)
  go_loopg [12] 3 (fun gg s12 wr => s12 = .int .i64 0 ∧ Below w.heap.size w wr ∧ Blk wr w.heap.size 28 #[.int .u8 k, .int .i64 n, .string s, .slice none 0 0] ∧ Blk wr (w.heap.size + 1) 28 #[.int .u8 0, .int .i64 0, .string ⟨#[]⟩, .slice none 0 0])
  case atStart =>
    have b1 := Blk.new (w.alloc (Obj.cells #[.int .u8 k, .int .i64 n, .string s, .slice none 0 0] 28)) 28 #[.int .u8 0, .int .i64 0, .string ⟨#[]⟩, .slice none 0 0]
    exact ⟨rfl, ((Below.refl _ _).alloc (Nat.le_refl _) _).alloc (by simp) _, (Blk.new w _ _).alloc _, by simpa using b1⟩
  case round =>
    obtain ⟨rfl, hB, b0, b1⟩ := hrel
    have c0 := b0.cell 0; have c1 := b0.cell 1; have c2 := b0.cell 2; have c3 := b0.cell 3
    have d0 := b1.cell 0; have d1 := b1.cell 1; have d2 := b1.cell 2; have d3 := b1.cell 3
    have k0 := b1.frozen 0; have k1 := b1.frozen 1; have k2 := b1.frozen 2; have k3 := b1.frozen 3
    simp at c0 c1 c2 c3 d0 d1 d2 d3
    have HB := Lib.hid hB; have B1 := Lib.hid b1
    clear hB b0 b1
    go_wp2_with fail
    have hs := (((B1.out.set_ 0 (.int .u8 k)).set_ 1 (.int .i64 n)).set_ 2 (.string s)).set_ 3 (.slice none 0 0)
    refine bodyPost_ret (ret_val (g := w.heap.size + 1) rfl Tryz.results59 rfl hs) rfl ⟨rfl, ?_⟩
    exact (((HB.out.setCell (p := ⟨w.heap.size + 1, 0, none⟩) (by simp) _).setCell (p := ⟨w.heap.size + 1, 1, none⟩) (by simp) _).setCell (p := ⟨w.heap.size + 1, 2, none⟩) (by simp) _).setCell (p := ⟨w.heap.size + 1, 3, none⟩) (by simp) _

/-- A value without a list is not deep. -/
theorem leaf_rep (k : Nat) (n : Int) (s : ByteArray) (hk : k < 256) (hn : -9223372036854775808 ≤ n ∧ n ≤ 9223372036854775807) (hs : s.size ≤ maxLen) (w : World) (B : Nat) : VRep w B (.mk k n s []) (.agg (leaf k n s)) :=
  VRep.of_row (l := []) (A := none) (c := 0) hk hn hs (RRep.nil (by decide))

set_option maxRecDepth 100000 in
set_option maxHeartbeats 2000000 in
/-- copied, of a row of one value without a list. -/
theorem copied_leaf (k : Nat) (n : Int) (s : ByteArray) (hk : k < 256) (hn : -9223372036854775808 ≤ n ∧ n ≤ 9223372036854775807) (hs : s.size ≤ maxLen) (b c : Nat) (i : Bool) (w : World) (hb : b < w.heap.size) (h0 : ∀ j : Nat, ∀ x, (leaf k n s)[j]? = some x → w.cell? ⟨b, j, none⟩ = some x) :
    Calls Tryz.prog 41 #[.agg #[.slice (some ⟨b, 0, none⟩) 1 c, .bool i]] w fun e w' => (∃ g cap, e = .returned (.slice (some ⟨g, 0, none⟩) 1 cap) ∧ w.heap.size ≤ g ∧ g < w'.heap.size ∧ (∃ cur, Blk w' g 28 cur ∧ cur[1]? = some (.int .i64 n))) ∧ Below w.heap.size w w' := by
  have hBW : Below w.heap.size w (w.alloc (.cells #[.slice (some ⟨b, 0, none⟩) 1 c, .bool i] 48)) := (Below.refl _ _).alloc (Nat.le_refl _) _
  have hcl := clone_leaf k n s b c (w.alloc (.cells #[.slice (some ⟨b, 0, none⟩) 1 c, .bool i] 48)) (by simp; omega) (fun j x hx => by rw [hBW.cell (p := ⟨b, j, none⟩) hb]; exact h0 j x hx)
  have hdp := fun W => deeper_c 65536 (.mk k n s []) (.agg (leaf k n s)) W (by decide) (leaf_rep k n s hk hn hs W W.heap.size)
  have hd0 : deeper 65536 (.mk k n s []) = false := rfl
  rw [hd0] at hdp
  have HC := Lib.hid hcl; have HBW := Lib.hid hBW; have HDP := Lib.hid hdp; have HCO := Lib.hid (fun W => copyOf_leaf k n s W)
  clear hcl hBW hdp hd0 h0 hk hn hs
  generalize (k : Int) = ki at *
  go_enter Tryz.func41, Tryz.ntmps41
  go_wp2_with fail
  refine HC.out.mono ?_
  rintro e w1 ⟨⟨g, cap, rfl, hg, ho⟩, hb1⟩
  have HO := Lib.hid ho; have HB1 := Lib.hid (HBW.out.trans (hb1.mono HBW.out.size)); have HG := Lib.hid hg
  clear ho hb1 hg
  go_wp2_with fail
  have hblk : ∃ cur : Array Value, Blk w1 g 28 cur ∧ 4 ≤ cur.size := by
    rcases HO.out.2 with ⟨h, _⟩ | ⟨g', cap', cur, hv, _, hh, hc, _, hs, _⟩
    · injection h with h; cases h
    · injection hv with e1 _ e3
      injection e1 with e1; injection e1 with e1
      subst e1
      exact ⟨cur, hh, by omega⟩
  obtain ⟨cur, hcur, hcs⟩ := hblk
  have hg1 := hcur.lt
  obtain ⟨hlc, _⟩ := leaf_cells HO.out
  have HLC := Lib.hid hlc; have HCUR := Lib.hid hcur
  clear hlc hcur
  go_loopg [11] 4 (fun gg s11 wr => (gg = 4 ∧ s11 = .int .i64 0 ∧ wr = w1) ∨ (gg = 3 ∧ s11 = .int .i64 1 ∧ Below w.heap.size w wr ∧ g < wr.heap.size ∧ ∃ cur, Blk wr g 28 cur ∧ cur[1]? = some (.int .i64 n)))
  case atStart => exact .inl ⟨rfl, rfl, rfl⟩
  case round =>
    rcases hrel with ⟨rfl, rfl, hw⟩ | ⟨rfl, rfl, hB, hgl, hcu⟩
    · obtain rfl := hw
      obtain ⟨c0, c1, c2, c3⟩ := HLC.out
      have hbx := Blk.new wr 28 (leaf ki n s)
      have HBX := Lib.hid hbx
      have HG1 := Lib.hid (HCUR.out.alloc (.cells (leaf ki n s) 28))
      have HBA := Lib.hid (HB1.out.alloc HB1.out.size (.cells (leaf ki n s) 28))
      clear hbx
      unfold leaf at HBX HG1 HBA HDP HCO
      go_wp2_with fail
      refine (HDP.out _).mono ?_
      rintro e w2 ⟨rfl, hb2⟩
      have hbx := HBX.out.below hb2 (by simp)
      have d0 := hbx.cell 0; have d1 := hbx.cell 1; have d2 := hbx.cell 2; have d3 := hbx.cell 3
      simp at d0 d1 d2 d3
      have HG2 := Lib.hid (HG1.out.below hb2 HG1.out.lt); have HB2 := Lib.hid (HBA.out.trans (hb2.mono HBA.out.size))
      clear hbx hb2
      go_wp2_with fail
      refine (HCO.out _).mono ?_
      rintro e w3 ⟨rfl, hb3⟩
      have hg3 := HG2.out.below hb3 HG2.out.lt
      have f0 := hg3.cell 0; have f1 := hg3.cell 1; have f2 := hg3.cell 2; have f3 := hg3.cell 3
      rw [Array.getElem?_eq_getElem (by omega)] at f0 f1 f2 f3
      have k0 := hg3.frozen 0; have k1 := hg3.frozen 1; have k2 := hg3.frozen 2; have k3 := hg3.frozen 3
      have HG3 := Lib.hid hg3; have HB3 := Lib.hid (HB2.out.trans (hb3.mono HB2.out.size))
      clear hg3 hb3 d0 d1 d2 d3
      go_wp2_with fail
      go_roundg 3
      case measure => omega
      case rel =>
        have hs := (((HG3.out.set_ 0 (.int .u8 ki)).set_ 1 (.int .i64 n)).set_ 2 (.string s)).set_ 3 (.slice none 0 0)
        have hgw : w.heap.size ≤ g := by have h1 := HG.out; simp at h1; omega
        refine .inr ⟨rfl, rfl, (((HB3.out.setCell (p := ⟨g, 0, none⟩) hgw _).setCell (p := ⟨g, 1, none⟩) hgw _).setCell (p := ⟨g, 2, none⟩) hgw _).setCell (p := ⟨g, 3, none⟩) hgw _, hs.lt, _, hs, ?_⟩
        simp [Array.getElem?_setIfInBounds]
        omega
    · have HB2 := Lib.hid hB; have HCU := Lib.hid hcu
      clear hB hcu
      go_wp2_with fail
      go_ret
      have h1 := HG.out
      simp at h1
      exact ⟨⟨g, cap, rfl, by omega, hgl, HCU.out⟩, HB2.out⟩
end Go.Proofs.YtaapppieipfinaaGreatDoor
