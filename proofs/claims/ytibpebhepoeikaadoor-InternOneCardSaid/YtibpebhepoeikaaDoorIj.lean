/- Package intern: the walks of At and Find. -/
import Derived.Test.YtibpebhepoeikaaDoorIh
import Derived.Test.YtibpebhepoeikaaDoorIi
namespace Go.Proofs.YtibpebhepoeikaaDoor
open Go.RowKit Go.Shelf Vp Tx
open Go
attribute [local go_sem] Oper.semAt_some

theorem rowL_one (ts : List V) (n : Int) : rowL ts [n] = (atN ts n).map fun t => [t] := by
  unfold rowL
  rw [List.mapM_cons]
  cases atN ts n <;> rfl
theorem Lies.set {S : Nat → Prop} {w : World} {t : V} {u : Value} (h : Lies S w t u) (p : Addr) (hp : ¬ S p.block) (x : Value) : Lies S (w.setCell p x) t u :=
  h.keep (fun b hb _ => Below.heap_setCell _ _ _ _ fun e => hp (e ▸ hb)) (by simp [World.setCell])
theorem Blk.store4 {w : World} {g : Nat} {t : TypeId} {x y z u x' y' z' u' : Value} (h : Blk w g t #[x, y, z, u]) : Blk ((((w.setCell ⟨g, 0, none⟩ x').setCell ⟨g, 1, none⟩ y').setCell ⟨g, 2, none⟩ z').setCell ⟨g, 3, none⟩ u') g t #[x', y', z', u'] :=
  (((h.set_ 0 x').set_ 1 y').set_ 2 z').set_ 3 u'
theorem retV4 {fn : Func} {p q : Tmp} (h : fn.results = #[.cell p 42, .tmp q]) {tmps : Array Value} {W : World} {g : Nat} {x y z u v : Value} (hp : tmps.getD p undef = .pointer (some ⟨g, 0, none⟩)) (hq : tmps.getD q undef = v)
    (hb : Blk W g 42 #[x, y, z, u]) : (results fn tmps).run Tryd.prog W = .ok (.tuple #[.agg #[x, y, z, u], v]) W := by
  have c0 := hb.cell 0
  have c1 := hb.cell 1
  have c2 := hb.cell 2
  have c3 := hb.cell 3
  simp at c0 c1 c2 c3
  rw [Array.getD_eq_getD_getElem?] at hp hq
  simp [results, h, hp, hq, go_sem, c0, c1, c2, c3]
/-- What At answers. -/
def Told14 (ts : List V) (n : Int) (e : Ending) (w' : World) : Prop :=
  (∃ t u, atN ts n = some t ∧ t ∈ ts ∧ e = .returned (.tuple #[u, .int .i64 0]) ∧ VRep w' w'.heap.size t u) ∨
  (atN ts n = none ∧ e = .returned (.tuple #[.agg #[.int .u8 0, .int .i64 0, .string ⟨#[]⟩, .slice none 0 0], .int .i64 5]))
set_option maxRecDepth 100000 in
set_option maxHeartbeats 4000000 in
theorem at_c (F : Nat → Prop) (ts : List V) (g : Nat) (n : Int) (w : World) (hT : TabR F ts w g) (hn : -9223372036854775808 ≤ n ∧ n ≤ 9223372036854775807) (ht : ts.length ≤ 100000000) :
    Calls Tryd.prog 14 #[.pointer (some ⟨g, 0, none⟩), .int .i64 n] w fun e w' => Told14 ts n e w' ∧ Below w.heap.size w w' := by
  obtain ⟨W2, hW⟩ : ∃ W, W = (w.alloc (.cells #[.int .u8 0, .int .i64 0, .string ⟨#[]⟩, .slice none 0 0] 42)).alloc (.cells #[.int .i64 n] 3) := ⟨_, rfl⟩
  have hb : Below w.heap.size w W2 := by rw [hW]; exact ((Below.refl _ _).alloc (Nat.le_refl _) _).alloc (by simp) _
  have hsz : W2.heap.size = w.heap.size + 2 := by rw [hW]; simp
  have hz : Blk W2 w.heap.size 42 #[.int .u8 0, .int .i64 0, .string ⟨#[]⟩, .slice none 0 0] := by rw [hW]; exact (Blk.new w _ _).alloc _
  have hi : Blk W2 (w.heap.size + 1) 3 #[.int .i64 n] := by
    have := Blk.new (w.alloc (.cells #[.int .u8 0, .int .i64 0, .string ⟨#[]⟩, .slice none 0 0] 42)) 3 #[.int .i64 n]
    rw [World.size_alloc] at this
    rw [hW]; exact this
  have hI : IRep W2 W2.heap.size [n] (some ⟨w.heap.size + 1, 0, none⟩) 1 := ⟨Nat.le_refl _, by decide, fun x hx => by rw [List.mem_singleton.1 hx]; exact hn, fun j hj => ⟨w.heap.size + 1, 0, rfl, by omega, by
    obtain rfl : j = 0 := by simpa using hj
    rw [hi.cell]; rfl⟩⟩
  have hrow := row_c F ts g [n] (some ⟨w.heap.size + 1, 0, none⟩) 1 W2 (hT.below hb) hI (by simp) ht
  have HROW := Lib.hid hrow; have HB := Lib.hid hb; have HZ := Lib.hid hz; have HSZ := Lib.hid hsz
  rw [hW] at HROW
  clear hrow hb hz hsz hi hI hT
  go_enter Tryd.func14, Tryd.ntmps14
  go_wp2_with fail
  refine HROW.out.mono ?_
  rintro e w1 ⟨h10, hb1⟩
  rw [← hW] at hb1 h10
  have hz1 := HZ.out.below hb1 HZ.out.lt
  have d0 := hz1.cell 0; have d1 := hz1.cell 1; have d2 := hz1.cell 2; have d3 := hz1.cell 3
  have f0 := hz1.frozen 0; have f1 := hz1.frozen 1; have f2 := hz1.frozen 2; have f3 := hz1.frozen 3
  simp at d0 d1 d2 d3
  have HB1 := Lib.hid (HB.out.trans (hb1.mono HB.out.size))
  rcases h10 with ⟨l, A, e1, e2, e3, rfl, gg, hgg, hli⟩ | ⟨e1, rfl⟩
  · rw [rowL_one] at e1
    cases hat : atN ts n with
    | none => rw [hat] at e1; cases e1
    | some t =>
      rw [hat] at e1
      injection e1 with e1
      subst e1
      obtain ⟨k, m, s, l', A', c', ht2, rfl, hbk, hlv⟩ := hli.one
      have c0 := hbk.cell 0; have c1 := hbk.cell 1; have c2 := hbk.cell 2; have c3 := hbk.cell 3
      simp at c0 c1 c2 c3
      have HLV := Lib.hid hlv; have HAT := Lib.hid hat; have HE := Lib.hid (e3 t (by simp)); have HZ1 := Lib.hid hz1; have HGG := Lib.hid hgg
      clear e2 e3 hat ht2 hli hb1 hW hz1 hbk hlv hgg
      go_wp2_with fail
      have hne : ¬ gg < w.heap.size := by have := HGG.out; have := HSZ.out; omega
      have hl4 := (((HLV.out.set ⟨w.heap.size, 0, none⟩ hne (.int .u8 (k : Int))).set ⟨w.heap.size, 1, none⟩ hne (.int .i64 m)).set ⟨w.heap.size, 2, none⟩ hne (.string s)).set ⟨w.heap.size, 3, none⟩ hne (.slice A' l'.length c')
      refine bodyPost_ret (retV4 Tryd.results14 rfl rfl HZ1.out.store4) rfl ⟨.inl ⟨t, _, HAT.out, HE.out, rfl, hl4.rep⟩, (((HB1.out.setCell (Nat.le_refl _) _).setCell (Nat.le_refl _) _).setCell (Nat.le_refl _) _).setCell (Nat.le_refl _) _⟩
  · rw [rowL_one] at e1
    have hat : atN ts n = none := by cases h : atN ts n with | none => rfl | some t => rw [h] at e1; cases e1
    have HAT := Lib.hid hat; have HZ1 := Lib.hid hz1
    clear e1 hat hb1 hW hz1
    go_wp2_with fail
    refine bodyPost_ret (retV4 Tryd.results14 rfl rfl HZ1.out.store4) rfl ⟨.inr ⟨HAT.out, rfl⟩, (((HB1.out.setCell (Nat.le_refl _) _).setCell (Nat.le_refl _) _).setCell (Nat.le_refl _) _).setCell (Nat.le_refl _) _⟩
end Go.Proofs.YtibpebhepoeikaaDoor
