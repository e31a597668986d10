/- Package value: CmpRows and Cmp. -/
import Derived.Test.YtaapppieipfinaaGreatDoorVv
namespace Go.Proofs.YtaapppieipfinaaGreatDoor
open Go.RowKit Vp
open Go
attribute [local go_sem] Oper.semAt_some

/-- Block g is just the cells cs of element type t, none of them frozen. -/
def Blk (w : World) (g : Nat) (t : TypeId) (cs : Array Value) : Prop := w.heap[g]? = some (.cells cs t (0, 0))
section
variable {w w' : World} {B B' g : Nat} {e t : TypeId} {cs : Array Value}
theorem Blk.lt (h : Blk w g t cs) : g < w.heap.size := by
  rcases Nat.lt_or_ge g w.heap.size with hlt | hge
  · exact hlt
  · unfold Blk at h; rw [Array.getElem?_eq_none hge] at h; cases h
theorem Blk.cell (h : Blk w g t cs) (i : Nat) : w.cell? ⟨g, i, none⟩ = cs[i]? := cell_of_row w g i cs t (0, 0) h
theorem Blk.frozen (h : Blk w g t cs) (i : Nat) : w.frozen? ⟨g, i, none⟩ = false := by
  unfold Blk at h
  simp [World.frozen?, h]
theorem Blk.new (w : World) (t : TypeId) (cs : Array Value) : Blk (w.alloc (.cells cs t)) w.heap.size t cs := heap_alloc_new w _
theorem Blk.drew (h : Blk w g t cs) : Blk w.drew g t cs := h
theorem Blk.drewN (h : Blk w g t cs) (n : Nat) : Blk (w.drewN n) g t cs := h
theorem Blk.alloc (h : Blk w g t cs) (o : Obj) : Blk (w.alloc o) g t cs := (Below.heap_alloc w o g h.lt).trans h
theorem Blk.set_ (h : Blk w g t cs) (i : Nat) (u : Value) : Blk (w.setCell ⟨g, i, none⟩ u) g t (cs.setIfInBounds i u) := by
  unfold Blk at h ⊢
  simp [World.setCell, Array.getElem?_modify, h]
theorem Blk.far (h : Blk w g t cs) {p : Addr} (hp : g ≠ p.block) (u : Value) : Blk (w.setCell p u) g t cs := (Below.heap_setCell w p u g hp).trans h
theorem Blk.below (h : Blk w g t cs) (hb : Below B w w') (hg : g < B) : Blk w' g t cs := (hb.block g hg).trans h
theorem Blk.grown {row : Option Nat} (h : Blk w g t cs) (hb : w.grownBy w' row) (hg : some g ≠ row) : Blk w' g t cs := (hb.block g h.lt hg).trans h
end
theorem Blk.store2 {w : World} {g : Nat} {t : TypeId} {x y x' y' : Value} (h : Blk w g t #[x, y]) : Blk ((w.setCell ⟨g, 0, none⟩ x').setCell ⟨g, 1, none⟩ y') g t #[x', y'] := (h.set_ 0 x').set_ 1 y'
theorem Blk.cell0 {w : World} {g : Nat} {t : TypeId} {x y : Value} (h : Blk w g t #[x, y]) : w.cell? ⟨g, 0, none⟩ = some x := by simpa using h.cell 0
theorem Blk.cell1 {w : World} {g : Nat} {t : TypeId} {x y : Value} (h : Blk w g t #[x, y]) : w.cell? ⟨g, 1, none⟩ = some y := by simpa using h.cell 1

theorem ret_row {fn : Func} {p : Tmp} {t : TypeId} (ht : t = 48) (h : fn.results = #[.cell p t]) {tmps : Array Value} {W : World} {g : Nat} {x y : Value} (hp : tmps.getD p undef = .pointer (some ⟨g, 0, none⟩))
    (c0 : W.cell? ⟨g, 0, none⟩ = some x) (c1 : W.cell? ⟨g, 1, none⟩ = some y) : (results fn tmps).run Tryz.prog W = .ok (.agg #[x, y]) W := by
  subst ht
  rw [Array.getD_eq_getD_getElem?] at hp
  simp [results, h, hp, go_sem, c0, c1]

theorem checked1_c (t : V) (u : Value) (w : World) (h : VRep w w.heap.size t u) :
    Calls Tryz.prog 48 #[u] w fun e w' => e = .returned (.bool (decide (chkV t ≠ 0))) ∧ Below w.heap.size w w' := by
  obtain ⟨k, n, s, l, A, c, rfl, rfl, hk, hn, hs, hR⟩ := h.open_
  have hW : Below w.heap.size w (w.alloc (.cells #[.int .u8 (k : Int), .int .i64 n, .string s, .slice A l.length c] 28)) := (Below.refl _ _).alloc (Nat.le_refl _) _
  have HC := Lib.hid (check_c _ _ _ ((h.under hW).more hW.size)); have HW := Lib.hid hW
  clear h hR hW
  generalize chkV (.mk k n s l) = q at HC ⊢
  have hq : (!(q == 0)) = decide (q ≠ 0) := by by_cases h : q = 0 <;> simp [h]
  have HQ := Lib.hid hq
  clear hq
  go_enter Tryz.func48, Tryz.ntmps48
  go_wp2_with (go_at_call 25; refine HC.out.mono ?_; rintro e w1 ⟨rfl, hb1⟩; have HB1 := Lib.hid hb1; clear hb1)
  go_ret
  exact ⟨by rw [← HQ.out]; rfl, HW.out.trans (HB1.out.mono HW.out.size)⟩

set_option maxHeartbeats 1000000 in
theorem checked_c (l : List V) (A : Option Addr) (c : Nat) (w : World) (hR : RRep w w.heap.size l A c) :
    Calls Tryz.prog 31 #[.slice A l.length c] w fun e w' => e = .returned (.agg #[.slice A l.length c, .bool (invL l)]) ∧ Below w.heap.size w w' := by
  have hW : Below w.heap.size w (w.alloc (.cells #[.slice none 0 0, .bool false] 48)) := (Below.refl _ _).alloc (Nat.le_refl _) _
  have hcon := contains_func l A c (fun t => decide (chkV t ≠ 0)) 48 #[] _ ((hR.under hW).more hW.size) (enters_of Tryz.func48 (by kernel_rfl) rfl) (PredOn.of fun t _ W u _ hv => checked1_c t u W hv)
  have hq : invL l = l.any fun t => decide (chkV t ≠ 0) := rfl
  rw [← hq] at hcon
  have HC := Lib.hid hcon; have HW := Lib.hid hW
  have hx : (w.alloc (.cells #[.slice none 0 0, .bool false] 48)).heap[w.heap.size]? = some (.cells #[.slice none 0 0, .bool false] 48 (0, 0)) := heap_alloc_new w _
  have HX := Lib.hid hx
  clear hR hcon hW hq hx
  generalize invL l = q at HC ⊢
  go_enter Tryz.func31, Tryz.ntmps31
  go_wp2_with fail
  refine HC.out.mono ?_
  rintro e w1 ⟨rfl, hb1⟩
  have hblk : Blk w1 w.heap.size 48 #[.slice none 0 0, .bool false] := (hb1.block w.heap.size (by simp)).trans HX.out
  have z0 := hblk.cell0; have z1 := hblk.cell1; have f0 := hblk.frozen 0; have f1 := hblk.frozen 1
  have HBLK := Lib.hid hblk; have HB1 := Lib.hid hb1; clear hb1 hblk
  go_wp2_with fail
  have hs := HBLK.out.store2 (x' := .slice A l.length c) (y' := .bool q)
  refine bodyPost_ret (ret_row (g := w.heap.size) rfl Tryz.results31 rfl hs.cell0 hs.cell1) rfl ⟨rfl, ?_⟩
  exact ((HW.out.trans (HB1.out.mono HW.out.size)).setCell (p := ⟨w.heap.size, 0, none⟩) (Nat.le_refl _) _).setCell (p := ⟨w.heap.size, 1, none⟩) (Nat.le_refl _) _

theorem inv_none {l : List V} (h : invL l = false) : ∀ t ∈ l, chkV t = 0 := by
  intro t ht
  unfold invL at h
  rw [List.any_eq_false] at h
  simpa using h t ht

set_option maxHeartbeats 1000000 in
theorem rowcmp_c (zc : List UInt8 → List UInt8 → Int) (hz : BigCmpOk zc) (l l' : List V) (A A' : Option Addr) (c c' : Nat) (w : World) (hR : RRep w w.heap.size l A c) (hR' : RRep w w.heap.size l' A' c') :
    Calls Tryz.prog 32 #[.agg #[.slice A l.length c, .bool (invL l)], .agg #[.slice A' l'.length c', .bool (invL l')]] w fun e w' => e = .returned (.int .i64 (cmpR zc l l')) ∧ Below w.heap.size w w' := by
  obtain ⟨i, hi⟩ : ∃ i, i = invL l := ⟨_, rfl⟩
  obtain ⟨i', hi'⟩ : ∃ i, i = invL l' := ⟨_, rfl⟩
  have hres : cmpR zc l l' = if i ∧ i' then 0 else if i then 1 else if i' then -1 else cmpL zc l l' := by rw [hi, hi']; rfl
  rw [← hi, ← hi', hres]
  clear hres
  have hW : Below w.heap.size w ((w.alloc (.cells #[.slice A l.length c, .bool i] 48)).alloc (.cells #[.slice A' l'.length c', .bool i'] 48)) := ((Below.refl _ _).alloc (Nat.le_refl _) _).alloc (by simp) _
  have HW := Lib.hid hW
  cases i <;> cases i'
  · have hl := inv_none hi.symm; have hl' := inv_none hi'.symm
    have hcon := lists_c (cmpV zc) l l' A A' c c' _ ((hR.under hW).more hW.size) ((hR'.under hW).more hW.size) (fun x hx y hy u u' w h h' => vcmp_c zc hz x (valid_big (hl x hx)) y (valid_big (hl' y hy)) u u' w h h')
    rw [cmpBy_cmpL] at hcon
    have HC := Lib.hid hcon
    clear hcon hl hl' hi hi' hR hR' hW
    generalize cmpL zc l l' = q at HC ⊢
    go_enter Tryz.func32, Tryz.ntmps32
    go_wp2_with (go_at_call 49; refine HC.out.mono ?_; rintro e w1 ⟨rfl, hb1⟩; have HB1 := Lib.hid hb1; clear hb1)
    go_ret
    exact ⟨by first | rfl | (simp; done), HW.out.trans (HB1.out.mono HW.out.size)⟩
  all_goals
    clear hi hi' hR hR' hW
    go_enter Tryz.func32, Tryz.ntmps32
    go_wp2_with fail
    go_ret
    exact ⟨by first | rfl | (simp; done), HW.out⟩

set_option maxHeartbeats 1000000 in
/-- CmpRows. -/
theorem cmpRows_c (zc : List UInt8 → List UInt8 → Int) (hz : BigCmpOk zc) (l l' : List V) (A A' : Option Addr) (c c' : Nat) (w : World) (hR : RRep w w.heap.size l A c) (hR' : RRep w w.heap.size l' A' c') :
    Calls Tryz.prog 11 #[.slice A l.length c, .slice A' l'.length c'] w fun e w' => e = .returned (.int .i64 (cmpR zc l l')) ∧ Below w.heap.size w w' := by
  have HC := Lib.hid (fun W (hb : Below w.heap.size w W) => checked_c l A c W ((hR.under hb).more hb.size))
  have HC' := Lib.hid (fun W (hb : Below w.heap.size w W) => checked_c l' A' c' W ((hR'.under hb).more hb.size))
  have HR := Lib.hid (fun W (hb : Below w.heap.size w W) => rowcmp_c zc hz l l' A A' c c' W ((hR.under hb).more hb.size) ((hR'.under hb).more hb.size))
  clear hR hR'
  generalize cmpR zc l l' = q at HR ⊢
  generalize invL l = i at HC HR
  generalize invL l' = i' at HC' HR
  go_enter Tryz.func11, Tryz.ntmps11
  go_wp2_with fail
  refine (HC.out _ (Below.refl _ _)).mono ?_
  rintro e w1 ⟨rfl, hb1⟩
  have HB1 := Lib.hid hb1; clear hb1
  go_wp2_with fail
  refine (HC'.out _ HB1.out).mono ?_
  rintro e w2 ⟨rfl, hb2⟩
  have HB2 := Lib.hid (HB1.out.trans (hb2.mono HB1.out.size)); clear hb2
  go_wp2_with fail
  refine (HR.out _ HB2.out).mono ?_
  rintro e w3 ⟨rfl, hb3⟩
  have HB3 := Lib.hid (HB2.out.trans (hb3.mono HB2.out.size)); clear hb3
  go_wp2_with fail
  go_ret
  exact ⟨rfl, HB3.out⟩

theorem RRep.one {w : World} {x : V} {u : Value} (h : VRep w w.heap.size x u) {g : Nat} {cs : Array Value} {t : TypeId} (hg : g < w.heap.size) (_hu : u = .agg cs) (hcs : u.cells = cs) (hb : Blk w g t cs) : RRep w w.heap.size [x] (some ⟨g, 0, none⟩) 1 := by
  refine ⟨by simp, by decide, fun _ => u, fun j hj => ⟨g, 0, rfl, hg, fun i y hy => ?_⟩, fun j hj => ?_⟩
  · have : j = 0 := by simpa using hj
    subst this
    rw [hcs] at hy
    have := hb.cell i
    simp only [Nat.zero_mul, Nat.zero_add] at *
    rw [this]; exact hy
  · have : j = 0 := by simpa using hj
    subst this
    exact h

set_option maxHeartbeats 1000000 in
/-- Cmp. -/
theorem cmp_c (zc : List UInt8 → List UInt8 → Int) (hz : BigCmpOk zc) (a b : V) (u u' : Value) (w : World) (h : VRep w w.heap.size a u) (h' : VRep w w.heap.size b u') :
    Calls Tryz.prog 13 #[u, u'] w fun e w' => e = .returned (.int .i64 (cmpR zc [a] [b])) ∧ Below w.heap.size w w' := by
  obtain ⟨k, n, s, l, A, c, ha, rfl, hk, hn, hs, hR⟩ := h.open_
  obtain ⟨k', n', s', l', A', c', hb, rfl, hk', hn', hs', hR'⟩ := h'.open_
  obtain ⟨cs, hcs⟩ : ∃ cs : Array Value, cs = #[.int .u8 (k : Int), .int .i64 n, .string s, .slice A l.length c] := ⟨_, rfl⟩
  obtain ⟨cs', hcs'⟩ : ∃ cs : Array Value, cs = #[.int .u8 (k' : Int), .int .i64 n', .string s', .slice A' l'.length c'] := ⟨_, rfl⟩
  have b2 : Blk ((((w.alloc (.cells cs 28)).alloc (.cells cs' 28)).alloc (.cells cs 28)).alloc (.cells cs' 28)) (w.heap.size + 1 + 1) 28 cs := by
    have := (Blk.new ((w.alloc (.cells cs 28)).alloc (.cells cs' 28)) 28 cs).alloc (.cells cs' 28)
    simpa using this
  have b3 : Blk ((((w.alloc (.cells cs 28)).alloc (.cells cs' 28)).alloc (.cells cs 28)).alloc (.cells cs' 28)) (w.heap.size + 1 + 1 + 1) 28 cs' := by
    have := Blk.new (((w.alloc (.cells cs 28)).alloc (.cells cs' 28)).alloc (.cells cs 28)) 28 cs'
    simpa using this
  have hW : Below w.heap.size w ((((w.alloc (.cells cs 28)).alloc (.cells cs' 28)).alloc (.cells cs 28)).alloc (.cells cs' 28)) :=
    ((((Below.refl _ _).alloc (Nat.le_refl _) _).alloc (by simp) _).alloc (by simp; omega) _).alloc (by simp; omega) _
  have hcon := cmpRows_c zc hz [a] [b] (some ⟨w.heap.size + 1 + 1, 0, none⟩) (some ⟨w.heap.size + 1 + 1 + 1, 0, none⟩) 1 1 _
    (RRep.one ((h.under hW).more hW.size) (by simp) (by rw [hcs]) (by rw [hcs]; rfl) b2) (RRep.one ((h'.under hW).more hW.size) (by simp) (by rw [hcs']) (by rw [hcs']; rfl) b3)
  have HC := Lib.hid hcon; have HW := Lib.hid hW
  clear hcon hW b2 b3 h h' hR hR' ha hb
  subst hcs; subst hcs'
  generalize cmpR zc [a] [b] = q at HC ⊢
  go_enter Tryz.func13, Tryz.ntmps13
  go_wp2_with fail
  refine HC.out.mono ?_
  rintro e w1 ⟨rfl, hb1⟩
  have HB1 := Lib.hid hb1; clear hb1
  go_wp2_with fail
  go_ret
  exact ⟨rfl, HW.out.trans (HB1.out.mono HW.out.size)⟩
end Go.Proofs.YtaapppieipfinaaGreatDoor
