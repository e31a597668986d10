/- Package intern: the walk of put: a value's number, new or not. -/
import Derived.Test.YtibpebhepoeikaaDoorIe
import Derived.Test.YtibpebhepoeikaaDoorSkw
import Derived.Laws.Cover3
namespace Go.Proofs.YtibpebhepoeikaaDoor
open Go.RowKit Go.Shelf Vp Tx
open Go
attribute [local go_sem] Oper.semAt_some

theorem look_none (w : World) (s : ByteArray) (hs : s.size ≤ maxLen) : (Instr.lookup 55 (.map none) (.string s) true).run Tryd.prog w = .ok (.tuple #[.int .i64 0, .bool false]) w := by
  have h := Maps.look_nil true str_law Tryd.underlying55 (w := w) (z := .int .i64 0) (by kernel_rfl) (WideMaps.keyOf_string_mk Tryd.underlying9 (s := s) hs)
  simpa using h
theorem eql_mapn (w : World) (p : Option Nat) : (binOp .eql 55 (.map p) (.map none)).run Tryd.prog w = .ok (.bool p.isNone) w := by
  simp only [binOp]
  simp [run_equal_map_nil w 55 9 3 p Tryd.underlying55]
attribute [local go_sem] eql_mapn
/-- A value's tree does not lie in a block that has no four cells in a row. -/
theorem VRep.off {w w' : World} {B p : Nat} {t : V} {u : Value} (h : VRep w B t u) (hp : ∀ o, w.cell? ⟨p, o + 3, none⟩ = none) (hk : ∀ b, b < B → b ≠ p → w'.heap[b]? = w.heap[b]?) : VRep w' B t u := by
  induction h with
  | mk E hkk hn hs hc hm hcell hel ih =>
    refine .mk E hkk hn hs hc hm (fun j hj => ?_) ih
    obtain ⟨b, off, h1, h2, h3⟩ := hcell j hj
    obtain ⟨a0, a1, a2, a3, _, hu4⟩ := (hel j hj).cells4
    have hbp : b ≠ p := fun e => by
      have := h3 3 a3 (by rw [hu4]; rfl)
      rw [e, hp] at this
      cases this
    exact ⟨b, off, h1, h2, fun i x hx => (World.cell?_of_block (hk b h2 hbp)).trans (h3 i x hx)⟩
theorem map_off {w : World} {b : Nat} {ts : List V} (h : WM w b ts) (o : Nat) : w.cell? ⟨b, o + 3, none⟩ = none := by
  obtain ⟨es, cl, hm, _⟩ := h
  simp [World.cell?, hm]
theorem tab_off {w : World} {g : Nat} {t : TypeId} {x y : Value} (h : Blk w g t #[x, y]) (o : Nat) : w.cell? ⟨g, o + 3, none⟩ = none := by
  rw [h.cell]
  simp
/-- What the end of put is about: a map at block b, a row, the value in its box. -/
structure Pre (F : Nat → Prop) (ts : List V) (g b B : Nat) (sv : Value) (t : V) (u : Value) (w W : World) (cs : Array Value) : Prop where
  blk : Blk W g 57 #[.map (some b), sv]
  map : WM W b ts
  fb : F b
  fg : F g
  own : OwnG F (SF F g (.map (some b))) ts W sv
  box : Blk W B 42 cs
  rep : VRep W W.heap.size t u
  keep : Keep F w W
/-- A map's entries may have turned. -/
theorem Pre.next {F : Nat → Prop} {ts : List V} {g b B : Nat} {sv : Value} {t : V} {u : Value} {w W W2 : World} {cs : Array Value} (h : Pre F ts g b B sv t u w W cs) (hg : W.grownBy W2 (some b)) :
    Blk W2 g 57 #[.map (some b), sv] ∧ OwnG F (SF F g (.map (some b))) ts W2 sv ∧ Blk W2 B 42 cs ∧ VRep W2 W2.heap.size t u ∧ Keep F w W2 := by
  have hgb := h.map.ne_blk h.blk
  have hBb := h.map.ne_blk h.box
  refine ⟨h.blk.grown hg fun e => hgb (by injection e), h.own.map_ h.map (fun hs => hs.2.2 rfl) hg, h.box.grown hg fun e => hBb (by injection e), ?_, ?_⟩
  · exact (h.rep.off (map_off h.map) fun x hx hne => hg.block x hx fun e => hne (by injection e)).more hg.size
  · exact h.keep.trans (Keep.grown (F := F) hg fun k hk => by injection hk with hk; exact hk ▸ h.fb) fun x _ hx => hx
theorem row_one {W : World} {t : V} {u : Value} {x : Nat} {a b c d : Value} (hu : u = .agg #[a, b, c, d]) (hb : Blk W x 42 #[a, b, c, d]) (hv : VRep W W.heap.size t u) : RRep W W.heap.size [t] (some ⟨x, 0, none⟩) 1 := by
  refine ⟨Nat.le_refl _, by decide, fun _ => u, fun j hj => ⟨x, 0, rfl, hb.lt, fun i y hy => ?_⟩, fun j hj => ?_⟩
  · obtain rfl : j = 0 := by simpa using hj
    rw [hb.cell]
    subst hu
    simpa [Value.cells] using hy
  · obtain rfl : j = 0 := by simpa using hj
    exact hv
theorem CopyR.one {g : Nat} {w : World} {t : V} {A : Option Addr} (h : CopyR g w [t] A) : ∃ (k : Nat) (n : Int) (z : ByteArray) (l : List V) (A' : Option Addr) (c' : Nat), t = .mk k n z l ∧ A = some ⟨g, 0, none⟩ ∧ Blk w g 42 #[.int .u8 (k : Int), .int .i64 n, .string z, .slice A' l.length c'] ∧ Lies (fun b => g < b) w t (.agg #[.int .u8 (k : Int), .int .i64 n, .string z, .slice A' l.length c']) := by
  rcases h with ⟨h, _⟩ | ⟨_, rfl, us, h1, h2, h3, h4⟩
  · cases h
  · match us, h1 with
    | [u], _ =>
      have hl := h4 0 (by simp) (by simp)
      simp only [List.getElem_cons_zero] at hl
      obtain ⟨k, n, z, l, A', c', e1, e2, _⟩ := hl.rep.open_
      subst e2
      exact ⟨k, n, z, l, A', c', e1, rfl, h3, hl⟩
theorem cell_addr {w : World} {g : Nat} {t : TypeId} {a b c d : Value} (h : Blk w g t #[a, b, c, d]) : ∀ j u, [a, b, c, d][j]? = some u → w.cell? ((⟨g, 0, none⟩ : Addr).add j) = some u := fun j u hj => by
  rw [addV, h.cell]
  simpa using hj
theorem TabR.put_ {F : Nat → Prop} {ts : List V} {g b : Nat} {t : V} {w : World} {v : Value} (hok : ∀ t ∈ ts, chkV t = 0 ∧ slim t) (hap : Apart ts) (hp : pos ts (txtV t) = none) (hg : F g) (hb : F b) (hc : chkV t = 0) (hs : slim t) (hblk : Blk w g 57 #[.map (some b), v]) (hm : WM w b (ts ++ [t])) (ho : OwnG F (SF F g (.map (some b))) (ts ++ [t]) w v) : TabR F (putL ts t) w g := by
  have he : putL ts t = ts ++ [t] := by unfold putL; rw [hp]; rfl
  have hap' := putL_apart (t := t) hap
  rw [he] at hap' ⊢
  exact ⟨fun x hx => by
    rcases List.mem_append.1 hx with hx | hx
    · exact hok x hx
    · rw [List.mem_singleton.1 hx]; exact ⟨hc, hs⟩, hap', hg, _, _, hblk, .inr ⟨b, rfl, hb, hm⟩, ho⟩
theorem Keep.trim {F : Nat → Prop} {w w' : World} (h : Keep (fun b => F b ∨ w.heap.size ≤ b) w w') : Keep F w w' :=
  ⟨h.os, h.tape, h.output, h.size, fun b hb hn => h.block b hb fun e => by
    rcases e with e | e
    · exact hn e
    · omega⟩
def SPut (g B : Nat) (sv : Value) (k : Nat) (n : Int) (s : ByteArray) (A : Option Addr) (ln c : Nat) (W : World) : Prop := W.cell? ⟨g, 1, none⟩ = some sv ∧ W.cell? ⟨B, 0, none⟩ = some (.int .u8 (k : Int)) ∧ W.cell? ⟨B, 1, none⟩ = some (.int .i64 n) ∧ W.cell? ⟨B, 2, none⟩ = some (.string s) ∧ W.cell? ⟨B, 3, none⟩ = some (.slice A ln c)
theorem SPut.below {g B : Nat} {sv : Value} {k : Nat} {n : Int} {s : ByteArray} {A : Option Addr} {ln c : Nat} {W W' : World} {B0 : Nat} (h : SPut g B sv k n s A ln c W) (hb : Below B0 W W') (hg : g < B0) (hB : B < B0) : SPut g B sv k n s A ln c W' := by
  obtain ⟨h0, h1, h2, h3, h4⟩ := h
  exact ⟨(hb.cell (p := ⟨g, 1, none⟩) hg).trans h0, (hb.cell (p := ⟨B, 0, none⟩) hB).trans h1, (hb.cell (p := ⟨B, 1, none⟩) hB).trans h2, (hb.cell (p := ⟨B, 2, none⟩) hB).trans h3, (hb.cell (p := ⟨B, 3, none⟩) hB).trans h4⟩
set_option maxRecDepth 100000 in
set_option maxHeartbeats 8000000 in
theorem put_c (F : Nat → Prop) (ts : List V) (g : Nat) (t : V) (u : Value) (w : World) (hT : TabR F ts w g) (hv : VRep w w.heap.size t u) (hch : chkV t = 0) (hsl : slim t) (hlen : ts.length ≤ 90000000) (htx : (txtV t).length ≤ 900000000) :
    Calls Tryd.prog 29 #[.pointer (some ⟨g, 0, none⟩), .string ⟨(txtV t).toArray⟩, u] w fun e w' => e = .returned (.int .i64 (putN ts t : Int)) ∧ Keep F w w' ∧ TabR (fun b => F b ∨ w.heap.size ≤ b) (putL ts t) w' g := by
  obtain ⟨k, n, s, l, A, c, ht, rfl, hk, hn, hs, hR⟩ := hv.open_
  obtain ⟨W0, hW⟩ : ∃ W, W = w.alloc (.cells #[.int .u8 (k : Int), .int .i64 n, .string s, .slice A l.length c] 42) := ⟨_, rfl⟩
  have hBW : Below w.heap.size w W0 := hW ▸ (Below.refl _ _).alloc (Nat.le_refl _) _
  have hbx : Blk W0 w.heap.size 42 #[.int .u8 (k : Int), .int .i64 n, .string s, .slice A l.length c] := hW ▸ Blk.new _ _ _
  have hT0 := hT.below hBW
  have hv0 : VRep W0 W0.heap.size t (.agg #[.int .u8 (k : Int), .int .i64 n, .string s, .slice A l.length c]) := (hv.under hBW).more hBW.size
  have hsz0 : W0.heap.size = w.heap.size + 1 := by rw [hW]; simp
  obtain ⟨mv, sv, hblkw, hmapw, hownw⟩ := hT.rep
  have hownlt := hownw.lt
  have hblk := hblkw.below hBW hblkw.lt
  have hmap := hmapw.keep (fun b _ hl => hBW.block b hl)
  have hown := hownw.keep (fun b _ hl => hBW.block b hl) (fun b _ hl => hBW.block b hl) hBW.size
  clear hblkw hmapw hownw
  obtain ⟨A2, c2, rfl, hrl⟩ := hown.slice
  have hcap := hrl.rep.1
  have htxm : (⟨(txtV t).toArray⟩ : ByteArray).size ≤ maxLen := by show (txtV t).toArray.size ≤ maxLen; simp [maxLen]; omega
  have d0 := hblk.cell 0; have d1 := hblk.cell 1
  have f0 := hblk.frozen 0
  simp at d0 d1
  have HT0 := Lib.hid hT0; have HBW := Lib.hid hBW; have HBX := Lib.hid hbx; have HV0 := Lib.hid hv0; have HBLK := Lib.hid hblk; have HOWN := Lib.hid hown; have HSZ := Lib.hid hsz0; have HSL := Lib.hid hsl; have HCH := Lib.hid hch; have HT := Lib.hid hT; have HLEN := Lib.hid hlen; have HTX := Lib.hid htx; have HTT := Lib.hid ht; have HCAP := Lib.hid hcap; have HW := Lib.hid hW; have HOWNLT := Lib.hid hownlt
  clear hownlt
  rcases hmap with ⟨rfl, hnil⟩ | ⟨b, rfl, hFb, hwm⟩
  · have hlk := look_none W0 ⟨(txtV t).toArray⟩ htxm
    have hp : pos ts (txtV t) = none := by rw [hnil]; rfl
    obtain ⟨W1, hW1⟩ : ∃ W, W = ((w.alloc (.cells #[.int .u8 (k : Int), .int .i64 n, .string s, .slice A l.length c] 42)).alloc (.map #[] 0)).setCell ⟨g, 0, none⟩ (.map (some (w.heap.size + 1))) := ⟨_, rfl⟩
    have hgl : g < w.heap.size := hT.lt
    have hal : Below W0.heap.size W0 (W0.alloc (.map #[] 0)) := (Below.refl _ _).alloc (Nat.le_refl _) _
    have hblkm : Blk (W0.alloc (.map #[] 0)) g 57 #[.map none, .slice A2 ts.length c2] := hblk.alloc _
    have hblk1 : Blk W1 g 57 #[.map (some (w.heap.size + 1)), .slice A2 ts.length c2] := by rw [hW1, ← hW]; exact hblkm.set_ 0 _
    have hwm1 : WM W1 (w.heap.size + 1) ts := by
      rw [hnil]
      have h := World.ownsMap_made (H := Unit) W0 Tryd.prog 9 (plainElem (H := Unit) Tryd.prog 3)
      rw [hsz0] at h
      rw [hW1, ← hW]
      exact WM.keep (w := W0.alloc (.map #[] 0)) h (Below.heap_setCell _ _ _ _ (by show w.heap.size + 1 ≠ g; omega))
    have hown1 : OwnG (fun b => F b ∨ w.heap.size ≤ b) (SF (fun b => F b ∨ w.heap.size ≤ b) g (.map (some (w.heap.size + 1)))) ts W1 (.slice A2 ts.length c2) := by
      have h1 : OwnG (fun b => F b ∨ w.heap.size ≤ b) (SF (fun b => F b ∨ w.heap.size ≤ b) g (.map (some (w.heap.size + 1)))) ts W0 (.slice A2 ts.length c2) := hown.mono (fun _ _ h => .inl h) fun x hx h => ⟨.inl h.1, h.2.1, fun e => by injection e with e; injection e with e; omega⟩
      have h2 := h1.keep (fun b _ hl => hal.block b hl) (fun b _ hl => hal.block b hl) hal.size
      rw [hW1, ← hW]
      exact h2.tab hblkm (fun hs => hs.2.1 rfl) 0 _
    have hbx1 : Blk W1 w.heap.size 42 #[.int .u8 (k : Int), .int .i64 n, .string s, .slice A l.length c] := by
      rw [hW1, ← hW]
      exact (Below.heap_setCell _ _ _ _ (by show w.heap.size ≠ g; omega)).trans (hbx.alloc _)
    have hv1 : VRep W1 W1.heap.size t (.agg #[.int .u8 (k : Int), .int .i64 n, .string s, .slice A l.length c]) := by
      have h1 := (hv0.under hal).more hal.size
      have h2 := h1.off (w' := W1) (tab_off hblkm) fun b _ hne => by rw [hW1, ← hW]; exact Below.heap_setCell _ _ _ _ hne
      exact h2.more (by rw [hW1, ← hW]; simp [World.setCell])
    have hk1 : Keep (fun b => F b ∨ w.heap.size ≤ b) w W1 := by
      rw [hW1, ← hW]
      exact (Keep.of_new ((hBW.alloc hBW.size _))).set ⟨g, 0, none⟩ (.inl hT.own) _
    have hpre : Pre (fun b => F b ∨ w.heap.size ≤ b) ts g (w.heap.size + 1) w.heap.size (.slice A2 ts.length c2) t (.agg #[.int .u8 (k : Int), .int .i64 n, .string s, .slice A l.length c]) w W1 #[.int .u8 (k : Int), .int .i64 n, .string s, .slice A l.length c] :=
      ⟨hblk1, hwm1, .inr (by omega), .inl hT.own, hown1, hbx1, hv1, hk1⟩
    have hput := put_map W1 hwm1 t (by omega) (by unfold maxLen; omega)
    obtain ⟨W2, hrun, hwm2, hgr⟩ := hput
    have hmm := @run_makeMap Tryd.prog
    have e0 := hblkm.cell 0; have e1 := hblkm.cell 1; have f1 := hblkm.frozen 0
    simp at e0 e1
    have HPUT := Lib.hid (And.intro hrun hgr); have HWM2 := Lib.hid hwm2; have HLK := Lib.hid hlk; have HPRE := Lib.hid hpre; have HP := Lib.hid hp
    rw [hW] at HLK d0 d1 f0 e0 e1 f1
    rw [hW1] at HPUT HPRE
    clear hlk hp hT0 hBW hbx hv0 hblk hown hsz0 hsl hch hT hlen htx ht hcap htxm hv hR hrl hW hrun hwm2 hgr hpre hblk1 hwm1 hown1 hbx1 hv1 hk1 hal hblkm hgl hW1 hnil
    go_enter Tryd.func29, Tryd.ntmps29
    go_wp2_with fail
    rw [HLK.out]
    simp only [Result.andThen]
    rw [Oper.upon_value]
    go_wp2_with fail
    rw [HPUT.out.1]
    simp only [Result.andThen]
    rw [Oper.upon_skip]
    go_upto_region 8 with fail
    obtain ⟨hblk2, hown2, hbox2, hrep2, hkeep2⟩ := HPRE.out.next HPUT.out.2
    obtain ⟨WD, hWD⟩ : ∃ W', W' = W2.drew := ⟨_, rfl⟩
    have hS0 : SPut g w.heap.size (.slice A2 ts.length c2) k n s A l.length c WD := by
      rw [hWD]
      have e1 := hblk2.cell 1; have b0 := hbox2.cell 0; have b1 := hbox2.cell 1; have b2 := hbox2.cell 2; have b3 := hbox2.cell 3
      simp at e1 b0 b1 b2 b3
      exact ⟨e1, b0, b1, b2, b3⟩
    have HB2 : Hid (Blk WD g 57 #[.map (some (w.heap.size + 1)), .slice A2 ts.length c2]) := Lib.hid (by rw [hWD]; exact hblk2)
    have HO2 : Hid (OwnG (fun b => F b ∨ w.heap.size ≤ b) (SF (fun b => F b ∨ w.heap.size ≤ b) g (.map (some (w.heap.size + 1)))) ts WD (.slice A2 ts.length c2)) := Lib.hid (by rw [hWD]; exact hown2.keep (fun _ _ _ => rfl) (fun _ _ _ => rfl) (Nat.le_refl _))
    have HX2 : Hid (Blk WD w.heap.size 42 #[.int .u8 (k : Int), .int .i64 n, .string s, .slice A l.length c]) := Lib.hid (by rw [hWD]; exact hbox2)
    have HR2 : Hid (VRep WD WD.heap.size t (.agg #[.int .u8 (k : Int), .int .i64 n, .string s, .slice A l.length c])) := Lib.hid (by rw [hWD]; exact hrep2.under (Below.refl _ _).drew)
    have HK2 : Hid (Keep (fun b => F b ∨ w.heap.size ≤ b) w WD) := Lib.hid (by rw [hWD]; exact hkeep2.drew)
    have HM2 : Hid (WM WD (w.heap.size + 1) (ts ++ [t])) := Lib.hid (by rw [hWD]; exact HWM2.out)
    refine chain_region (SPut g w.heap.size (.slice A2 ts.length c2) k n s A l.length c) 11 (by kernel_rfl) ?_
    rw [← hWD]
    have HS0 := Lib.hid hS0
    have HPRE2 := Lib.hid (And.intro HPRE.out.fb HPRE.out.fg)
    clear hS0 hblk2 hown2 hbox2 hrep2 hkeep2 HPUT HWM2 HPRE hWD d0 d1 f0
    refine T_takeD (i := 0) (v := .pointer (some ⟨g, 0, none⟩)) rfl (by kernel_rfl) (fun _ _ _ h => h) rfl (fun W hS => by go_simp) HS0.out ?_
    go_simp
    refine T_takeD (i := 1) (v := .pointer (some ⟨g, 0, none⟩)) rfl (by kernel_rfl) (fun _ _ _ h => h) rfl (fun W hS => by go_simp) HS0.out ?_
    go_simp
    refine T_takeD (i := 2) (v := .pointer (some ⟨g, 0, none⟩)) rfl (by kernel_rfl) (fun _ _ _ h => h) rfl (fun W hS => by go_simp) HS0.out ?_
    go_simp
    refine T_takeD (i := 3) (v := .pointer (some ⟨g, 1, none⟩)) rfl (by kernel_rfl) (fun _ _ _ h => h) rfl (fun W hS => by go_simp) HS0.out ?_
    go_simp
    refine T_takeD (i := 4) (v := .slice A2 ts.length c2) rfl (by kernel_rfl) (fun _ _ _ h => h) rfl (fun W hS => by unfold SPut at hS; obtain ⟨h0, h1, h2, h3, h4⟩ := hS; go_simp) HS0.out ?_
    go_simp
    obtain ⟨g1, x0, x1, x2, x3⟩ := HS0.out
    refine T_one (i := 5) rfl (by kernel_rfl) rfl ?_
    go_simp
    refine ⟨HS0.out, ?_⟩
    refine T_one (i := 6) rfl (by kernel_rfl) rfl ?_
    go_simp
    obtain ⟨W3, hW3⟩ : ∃ W', W' = WD.alloc (.cells #[.int .u8 (k : Int), .int .i64 n, .string s, .slice A l.length c] 42) := ⟨_, rfl⟩
    have hb3 : Below WD.heap.size WD W3 := hW3 ▸ (Below.refl _ _).alloc (Nat.le_refl _) _
    have hrow3 : RRep W3 W3.heap.size [t] (some ⟨WD.heap.size, 0, none⟩) 1 := row_one rfl (hW3 ▸ Blk.new _ _ _) ((HR2.out.under hb3).more hb3.size)
    have HB3 := Lib.hid hb3; have HROW3 := Lib.hid hrow3
    rw [← hW3]
    have hS3 : SPut g w.heap.size (.slice A2 ts.length c2) k n s A l.length c W3 := HS0.out.below hb3 HB2.out.lt HX2.out.lt
    have HS3 := Lib.hid hS3
    clear hb3 hrow3 hW3 hS3 g1 x0 x1 x2 x3
    refine ⟨HS3.out, ?_⟩
    refine T_one (i := 7) rfl (by kernel_rfl) rfl ?_
    refine op_callT #[.slice (some ⟨WD.heap.size, 0, none⟩) 1 1] (by simp [go_sem]) (enters_of Tryd.func27 (by kernel_rfl) rfl _ _) (copied_c [t] (by simp) (fun x hx => by rw [List.mem_singleton.1 hx]; exact HSL.out) (some ⟨WD.heap.size, 0, none⟩) 1 W3 HROW3.out) ?_
    rintro e W4 ⟨A4, rfl, hcr, hb4⟩
    have HCR := Lib.hid hcr; have HB4 := Lib.hid hb4
    have HS4 := Lib.hid (HS3.out.below hb4 (Nat.lt_of_lt_of_le HB2.out.lt HB3.out.size) (Nat.lt_of_lt_of_le HX2.out.lt HB3.out.size))
    clear hcr hb4
    refine ⟨_, rfl, fun _ => HS4.out, ?_⟩
    go_simp
    obtain ⟨k4, n4, z4, l4, A5, c5, he4, rfl, hblk4, hli4⟩ := HCR.out.one
    have h4 : Below WD.heap.size WD W4 := HB3.out.trans (HB4.out.mono HB3.out.size)
    have hO4 := HO2.out.keep (fun b _ hl => h4.block b hl) (fun b _ hl => h4.block b hl) h4.size
    have hli5 : Lies (fun x => SF (fun b => F b ∨ w.heap.size ≤ b) g (.map (some (w.heap.size + 1))) x ∧ (Value.slice A2 ts.length c2).ownBlock ≠ some x) W4 t (.agg #[.int .u8 (k4 : Int), .int .i64 n4, .string z4, .slice A5 l4.length c5]) := hli4.mono fun x _ hx => by
      have hx : W3.heap.size < x := hx
      have h3s := HB3.out.size
      have hws := HK2.out.size
      refine ⟨⟨.inr (by omega), fun e => ?_, fun e => ?_⟩, fun e => ?_⟩
      · have := HB2.out.lt; omega
      · injection e with e; injection e with e; have := HM2.out.lt; omega
      · have := HO2.out.lt x e; omega
    have HBLK4 := Lib.hid hblk4; have HLI5 := Lib.hid hli5; have H4 := Lib.hid h4; have HO4 := Lib.hid hO4
    clear he4 hblk4 hli4 h4 hO4 hli5
    refine T_one (i := 8) rfl (by kernel_rfl) rfl ?_
    refine append_G W4 (.tmp 44) (.tmp 47) rfl _ _ ts t (.slice A2 ts.length c2) (by simp [go_sem]) HO4.out ⟨W3.heap.size, 0, none⟩ 1 (by simp [go_sem]) k4 n4 z4 A5 l4.length c5 (cell_addr HBLK4.out) HLI5.out (by have := HLEN.out; omega) ?_
    intro v5 W5 hown5 hgr5
    obtain ⟨A6, c6, hv6, _⟩ := hown5.slice
    obtain ⟨ln6, hln6⟩ : ∃ m, m = (ts ++ [t]).length := ⟨_, rfl⟩
    rw [← hln6] at hv6
    subst hv6
    clear hln6
    have hblk5 : Blk W5 g 57 #[.map (some (w.heap.size + 1)), .slice A2 ts.length c2] := (HB2.out.below H4.out HB2.out.lt).grown hgr5 (HO4.out.own_ne (HB2.out.below H4.out HB2.out.lt))
    have hm4 : WM W4 (w.heap.size + 1) (ts ++ [t]) := HM2.out.keep (H4.out.block (w.heap.size + 1) HM2.out.lt)
    have hm5 : WM W5 (w.heap.size + 1) (ts ++ [t]) := hm4.keep (hgr5.block (w.heap.size + 1) hm4.lt (HO4.out.map_ne hm4))
    have hkeep5 : Keep (fun b => F b ∨ w.heap.size ≤ b) w W5 := (HK2.out.trans (Keep.of_new (F := fun _ => False) H4.out) (fun _ _ h => h.elim)).trans (Keep.grown (F := fun b => F b ∨ w.heap.size ≤ b) hgr5 fun x hx => by
      obtain ⟨us, _, _, _, h6, _⟩ := HO4.out
      exact h6 x hx) fun x _ h => h
    have hbox5 : W5.heap.size ≥ W4.heap.size := hgr5.size
    have hown6 : OwnG (fun b => F b ∨ w.heap.size ≤ b) (SF (fun b => F b ∨ w.heap.size ≤ b) g (.map (some (w.heap.size + 1)))) (ts ++ [t]) W5 (.slice A6 ln6 c6) := hown5.mono (fun b _ h => by
      rcases h with h | h
      · exact h
      · exact .inr (by have := HK2.out.size; have := H4.out.size; omega)) fun _ _ h => h
    have HB5 := Lib.hid hblk5; have HM5 := Lib.hid hm5; have HK5 := Lib.hid hkeep5; have HO6 := Lib.hid hown6
    have e0 := hblk5.cell 1
    have f1 := hblk5.frozen 1
    simp at e0
    have hx5 : Blk W5 w.heap.size 42 #[.int .u8 (k : Int), .int .i64 n, .string s, .slice A l.length c] := (HX2.out.below H4.out HX2.out.lt).grown hgr5 fun e => by have := HOWNLT.out w.heap.size e.symm; omega
    have hS5 : SPut g w.heap.size (.slice A2 ts.length c2) k n s A l.length c W5 := by
      have b0 := hx5.cell 0; have b1 := hx5.cell 1; have b2 := hx5.cell 2; have b3 := hx5.cell 3
      simp at b0 b1 b2 b3
      exact ⟨e0, b0, b1, b2, b3⟩
    have HS5 := Lib.hid hS5
    clear hblk5 hm4 hm5 hkeep5 hown5 hown6 hbox5 hS5 hgr5 hx5
    refine ⟨fun _ => HS5.out, ?_⟩
    go_simp
    refine T_one (i := 9) rfl (by kernel_rfl) rfl ?_
    go_simp
    refine ⟨HS5.out, ?_⟩
    refine T_one (i := 10) rfl (by kernel_rfl) rfl ?_
    go_simp
    refine ⟨HS5.out, ?_⟩
    refine T_one (i := 11) rfl (by kernel_rfl) rfl ?_
    go_simp
    refine ⟨by kernel_rfl, ?_⟩
    have hblk6 : Blk (W5.setCell ⟨g, 1, none⟩ (.slice A6 ln6 c6)) g 57 #[.map (some (w.heap.size + 1)), .slice A6 ln6 c6] := HB5.out.set_ 1 (.slice A6 ln6 c6)
    have ho6 := HO6.out.tab HB5.out (fun hs => hs.2.1 rfl) 1 (.slice A6 ln6 c6)
    have hm6 : WM (W5.setCell ⟨g, 1, none⟩ (.slice A6 ln6 c6)) (w.heap.size + 1) (ts ++ [t]) := HM5.out.keep (Below.heap_setCell _ _ _ _ (Ne.symm (HM5.out.ne_blk HB5.out)))
    have hk6 := HK5.out.set ⟨g, 1, none⟩ HPRE2.out.2 (.slice A6 ln6 c6)
    have HEND := Lib.hid (And.intro hblk6 (And.intro ho6 (And.intro hm6 hk6)))
    clear hblk6 ho6 hm6 hk6 e0 f1
    go_wp2_with fail
    go_ret
    obtain ⟨hblk6, ho6, hm6, hk6⟩ := HEND.out
    have e1 : putN ts t = ts.length := by unfold putN; rw [HP.out]; rfl
    rw [e1]
    exact ⟨rfl, hk6.trim, TabR.put_ HT.out.ok HT.out.apart HP.out HPRE2.out.2 HPRE2.out.1 HCH.out HSL.out hblk6 hm6 ho6⟩
  · have hlk := look_map hwm HT.out.apart ⟨(txtV t).toArray⟩ htxm
    have hdata : (⟨(txtV t).toArray⟩ : ByteArray).data.toList = txtV t := rfl
    rw [hdata] at hlk
    have HFB := Lib.hid hFb; have HWM := Lib.hid hwm
    cases hp : pos ts (txtV t) with
    | some i =>
      rw [hp] at hlk
      have HLK := Lib.hid hlk; have HP := Lib.hid hp
      rw [hW] at HLK d0 d1 f0
      clear hlk hp hT0 hBW hbx hv0 hblk hown hsz0 hsl hch hT hlen htx ht hcap hFb hwm hdata htxm hv hR hrl hW
      go_enter Tryd.func29, Tryd.ntmps29
      go_wp2_with fail
      rw [HLK.out]
      simp only [Result.andThen]
      rw [Oper.upon_value]
      go_wp2_with fail
      go_ret
      have e1 : putN ts t = i := by unfold putN; rw [HP.out]; rfl
      have e2 : putL ts t = ts := by unfold putL; rw [HP.out]; rfl
      rw [e1, e2, ← HW.out]
      exact ⟨rfl, Keep.of_new HBW.out, HT0.out.mono fun _ _ h => .inl h⟩
    | none =>
      rw [hp] at hlk
      have hput := put_map W0 hwm t (by omega) (by unfold maxLen; omega)
      obtain ⟨W2, hrun, hwm2, hgr⟩ := hput
      have hpre : Pre (fun b => F b ∨ w.heap.size ≤ b) ts g b w.heap.size (.slice A2 ts.length c2) t (.agg #[.int .u8 (k : Int), .int .i64 n, .string s, .slice A l.length c]) w W0 #[.int .u8 (k : Int), .int .i64 n, .string s, .slice A l.length c] :=
        ⟨hblk, hwm, .inl hFb, .inl hT0.own, hown.mono (fun _ _ h => .inl h) (fun _ _ h => ⟨.inl h.1, h.2⟩), hbx, hv0, Keep.of_new hBW⟩
      have HPUT := Lib.hid (And.intro hrun hgr); have HWM2 := Lib.hid hwm2; have HLK := Lib.hid hlk; have HPRE := Lib.hid hpre; have HP := Lib.hid hp
      rw [hW] at HLK d0 d1 f0 HPUT HPRE
      clear hlk hp hT0 hBW hbx hv0 hblk hown hsz0 hsl hch hT hlen htx ht hcap hFb hwm hdata htxm hv hR hrl hW hrun hwm2 hgr hpre
      go_enter Tryd.func29, Tryd.ntmps29
      go_wp2_with fail
      rw [HLK.out]
      simp only [Result.andThen]
      rw [Oper.upon_value]
      go_wp2_with fail
      rw [HPUT.out.1]
      simp only [Result.andThen]
      rw [Oper.upon_skip]
      go_upto_region 8 with fail
      obtain ⟨hblk2, hown2, hbox2, hrep2, hkeep2⟩ := HPRE.out.next HPUT.out.2
      obtain ⟨WD, hWD⟩ : ∃ W', W' = W2.drew := ⟨_, rfl⟩
      have hS0 : SPut g w.heap.size (.slice A2 ts.length c2) k n s A l.length c WD := by
        rw [hWD]
        have e1 := hblk2.cell 1; have b0 := hbox2.cell 0; have b1 := hbox2.cell 1; have b2 := hbox2.cell 2; have b3 := hbox2.cell 3
        simp at e1 b0 b1 b2 b3
        exact ⟨e1, b0, b1, b2, b3⟩
      have HB2 : Hid (Blk WD g 57 #[.map (some b), .slice A2 ts.length c2]) := Lib.hid (by rw [hWD]; exact hblk2)
      have HO2 : Hid (OwnG (fun b => F b ∨ w.heap.size ≤ b) (SF (fun b => F b ∨ w.heap.size ≤ b) g (.map (some b))) ts WD (.slice A2 ts.length c2)) := Lib.hid (by rw [hWD]; exact hown2.keep (fun _ _ _ => rfl) (fun _ _ _ => rfl) (Nat.le_refl _))
      have HX2 : Hid (Blk WD w.heap.size 42 #[.int .u8 (k : Int), .int .i64 n, .string s, .slice A l.length c]) := Lib.hid (by rw [hWD]; exact hbox2)
      have HR2 : Hid (VRep WD WD.heap.size t (.agg #[.int .u8 (k : Int), .int .i64 n, .string s, .slice A l.length c])) := Lib.hid (by rw [hWD]; exact hrep2.under (Below.refl _ _).drew)
      have HK2 : Hid (Keep (fun b => F b ∨ w.heap.size ≤ b) w WD) := Lib.hid (by rw [hWD]; exact hkeep2.drew)
      have HM2 : Hid (WM WD b (ts ++ [t])) := Lib.hid (by rw [hWD]; exact HWM2.out)
      refine chain_region (SPut g w.heap.size (.slice A2 ts.length c2) k n s A l.length c) 11 (by kernel_rfl) ?_
      rw [← hWD]
      have HS0 := Lib.hid hS0
      have HPRE2 := Lib.hid (And.intro HPRE.out.fb HPRE.out.fg)
      clear hS0 hblk2 hown2 hbox2 hrep2 hkeep2 HPUT HWM2 HPRE hWD d0 d1 f0
      refine T_takeD (i := 0) (v := .pointer (some ⟨g, 0, none⟩)) rfl (by kernel_rfl) (fun _ _ _ h => h) rfl (fun W hS => by go_simp) HS0.out ?_
      go_simp
      refine T_takeD (i := 1) (v := .pointer (some ⟨g, 0, none⟩)) rfl (by kernel_rfl) (fun _ _ _ h => h) rfl (fun W hS => by go_simp) HS0.out ?_
      go_simp
      refine T_takeD (i := 2) (v := .pointer (some ⟨g, 0, none⟩)) rfl (by kernel_rfl) (fun _ _ _ h => h) rfl (fun W hS => by go_simp) HS0.out ?_
      go_simp
      refine T_takeD (i := 3) (v := .pointer (some ⟨g, 1, none⟩)) rfl (by kernel_rfl) (fun _ _ _ h => h) rfl (fun W hS => by go_simp) HS0.out ?_
      go_simp
      refine T_takeD (i := 4) (v := .slice A2 ts.length c2) rfl (by kernel_rfl) (fun _ _ _ h => h) rfl (fun W hS => by unfold SPut at hS; obtain ⟨h0, h1, h2, h3, h4⟩ := hS; go_simp) HS0.out ?_
      go_simp
      obtain ⟨g1, x0, x1, x2, x3⟩ := HS0.out
      refine T_one (i := 5) rfl (by kernel_rfl) rfl ?_
      go_simp
      refine ⟨HS0.out, ?_⟩
      refine T_one (i := 6) rfl (by kernel_rfl) rfl ?_
      go_simp
      obtain ⟨W3, hW3⟩ : ∃ W', W' = WD.alloc (.cells #[.int .u8 (k : Int), .int .i64 n, .string s, .slice A l.length c] 42) := ⟨_, rfl⟩
      have hb3 : Below WD.heap.size WD W3 := hW3 ▸ (Below.refl _ _).alloc (Nat.le_refl _) _
      have hrow3 : RRep W3 W3.heap.size [t] (some ⟨WD.heap.size, 0, none⟩) 1 := row_one rfl (hW3 ▸ Blk.new _ _ _) ((HR2.out.under hb3).more hb3.size)
      have HB3 := Lib.hid hb3; have HROW3 := Lib.hid hrow3
      rw [← hW3]
      have hS3 : SPut g w.heap.size (.slice A2 ts.length c2) k n s A l.length c W3 := HS0.out.below hb3 HB2.out.lt HX2.out.lt
      have HS3 := Lib.hid hS3
      clear hb3 hrow3 hW3 hS3 g1 x0 x1 x2 x3
      refine ⟨HS3.out, ?_⟩
      refine T_one (i := 7) rfl (by kernel_rfl) rfl ?_
      refine op_callT #[.slice (some ⟨WD.heap.size, 0, none⟩) 1 1] (by simp [go_sem]) (enters_of Tryd.func27 (by kernel_rfl) rfl _ _) (copied_c [t] (by simp) (fun x hx => by rw [List.mem_singleton.1 hx]; exact HSL.out) (some ⟨WD.heap.size, 0, none⟩) 1 W3 HROW3.out) ?_
      rintro e W4 ⟨A4, rfl, hcr, hb4⟩
      have HCR := Lib.hid hcr; have HB4 := Lib.hid hb4
      have HS4 := Lib.hid (HS3.out.below hb4 (Nat.lt_of_lt_of_le HB2.out.lt HB3.out.size) (Nat.lt_of_lt_of_le HX2.out.lt HB3.out.size))
      clear hcr hb4
      refine ⟨_, rfl, fun _ => HS4.out, ?_⟩
      go_simp
      obtain ⟨k4, n4, z4, l4, A5, c5, he4, rfl, hblk4, hli4⟩ := HCR.out.one
      have h4 : Below WD.heap.size WD W4 := HB3.out.trans (HB4.out.mono HB3.out.size)
      have hO4 := HO2.out.keep (fun b _ hl => h4.block b hl) (fun b _ hl => h4.block b hl) h4.size
      have hli5 : Lies (fun x => SF (fun b => F b ∨ w.heap.size ≤ b) g (.map (some b)) x ∧ (Value.slice A2 ts.length c2).ownBlock ≠ some x) W4 t (.agg #[.int .u8 (k4 : Int), .int .i64 n4, .string z4, .slice A5 l4.length c5]) := hli4.mono fun x _ hx => by
        have hx : W3.heap.size < x := hx
        have h3s := HB3.out.size
        have hws := HK2.out.size
        refine ⟨⟨.inr (by omega), fun e => ?_, fun e => ?_⟩, fun e => ?_⟩
        · have := HB2.out.lt; omega
        · injection e with e; injection e with e; have := HM2.out.lt; omega
        · have := HO2.out.lt x e; omega
      have HBLK4 := Lib.hid hblk4; have HLI5 := Lib.hid hli5; have H4 := Lib.hid h4; have HO4 := Lib.hid hO4
      clear he4 hblk4 hli4 h4 hO4 hli5
      refine T_one (i := 8) rfl (by kernel_rfl) rfl ?_
      refine append_G W4 (.tmp 44) (.tmp 47) rfl _ _ ts t (.slice A2 ts.length c2) (by simp [go_sem]) HO4.out ⟨W3.heap.size, 0, none⟩ 1 (by simp [go_sem]) k4 n4 z4 A5 l4.length c5 (cell_addr HBLK4.out) HLI5.out (by have := HLEN.out; omega) ?_
      intro v5 W5 hown5 hgr5
      obtain ⟨A6, c6, hv6, _⟩ := hown5.slice
      obtain ⟨ln6, hln6⟩ : ∃ m, m = (ts ++ [t]).length := ⟨_, rfl⟩
      rw [← hln6] at hv6
      subst hv6
      clear hln6
      have hblk5 : Blk W5 g 57 #[.map (some b), .slice A2 ts.length c2] := (HB2.out.below H4.out HB2.out.lt).grown hgr5 (HO4.out.own_ne (HB2.out.below H4.out HB2.out.lt))
      have hm4 : WM W4 b (ts ++ [t]) := HM2.out.keep (H4.out.block b HM2.out.lt)
      have hm5 : WM W5 b (ts ++ [t]) := hm4.keep (hgr5.block b hm4.lt (HO4.out.map_ne hm4))
      have hkeep5 : Keep (fun b => F b ∨ w.heap.size ≤ b) w W5 := (HK2.out.trans (Keep.of_new (F := fun _ => False) H4.out) (fun _ _ h => h.elim)).trans (Keep.grown (F := fun b => F b ∨ w.heap.size ≤ b) hgr5 fun x hx => by
        obtain ⟨us, _, _, _, h6, _⟩ := HO4.out
        exact h6 x hx) fun x _ h => h
      have hbox5 : W5.heap.size ≥ W4.heap.size := hgr5.size
      have hown6 : OwnG (fun b => F b ∨ w.heap.size ≤ b) (SF (fun b => F b ∨ w.heap.size ≤ b) g (.map (some b))) (ts ++ [t]) W5 (.slice A6 ln6 c6) := hown5.mono (fun b _ h => by
        rcases h with h | h
        · exact h
        · exact .inr (by have := HK2.out.size; have := H4.out.size; omega)) fun _ _ h => h
      have HB5 := Lib.hid hblk5; have HM5 := Lib.hid hm5; have HK5 := Lib.hid hkeep5; have HO6 := Lib.hid hown6
      have e0 := hblk5.cell 1
      have f1 := hblk5.frozen 1
      simp at e0
      have hx5 : Blk W5 w.heap.size 42 #[.int .u8 (k : Int), .int .i64 n, .string s, .slice A l.length c] := (HX2.out.below H4.out HX2.out.lt).grown hgr5 fun e => by have := HOWNLT.out w.heap.size e.symm; omega
      have hS5 : SPut g w.heap.size (.slice A2 ts.length c2) k n s A l.length c W5 := by
        have b0 := hx5.cell 0; have b1 := hx5.cell 1; have b2 := hx5.cell 2; have b3 := hx5.cell 3
        simp at b0 b1 b2 b3
        exact ⟨e0, b0, b1, b2, b3⟩
      have HS5 := Lib.hid hS5
      clear hblk5 hm4 hm5 hkeep5 hown5 hown6 hbox5 hS5 hgr5 hx5
      refine ⟨fun _ => HS5.out, ?_⟩
      go_simp
      refine T_one (i := 9) rfl (by kernel_rfl) rfl ?_
      go_simp
      refine ⟨HS5.out, ?_⟩
      refine T_one (i := 10) rfl (by kernel_rfl) rfl ?_
      go_simp
      refine ⟨HS5.out, ?_⟩
      refine T_one (i := 11) rfl (by kernel_rfl) rfl ?_
      go_simp
      refine ⟨by kernel_rfl, ?_⟩
      have hblk6 : Blk (W5.setCell ⟨g, 1, none⟩ (.slice A6 ln6 c6)) g 57 #[.map (some b), .slice A6 ln6 c6] := HB5.out.set_ 1 (.slice A6 ln6 c6)
      have ho6 := HO6.out.tab HB5.out (fun hs => hs.2.1 rfl) 1 (.slice A6 ln6 c6)
      have hm6 : WM (W5.setCell ⟨g, 1, none⟩ (.slice A6 ln6 c6)) b (ts ++ [t]) := HM5.out.keep (Below.heap_setCell _ _ _ _ (Ne.symm (HM5.out.ne_blk HB5.out)))
      have hk6 := HK5.out.set ⟨g, 1, none⟩ HPRE2.out.2 (.slice A6 ln6 c6)
      have HEND := Lib.hid (And.intro hblk6 (And.intro ho6 (And.intro hm6 hk6)))
      clear hblk6 ho6 hm6 hk6 e0 f1
      go_wp2_with fail
      go_ret
      obtain ⟨hblk6, ho6, hm6, hk6⟩ := HEND.out
      have e1 : putN ts t = ts.length := by unfold putN; rw [HP.out]; rfl
      rw [e1]
      exact ⟨rfl, hk6.trim, TabR.put_ HT.out.ok HT.out.apart HP.out HPRE2.out.2 HPRE2.out.1 HCH.out HSL.out hblk6 hm6 ho6⟩
end Go.Proofs.YtibpebhepoeikaaDoor
