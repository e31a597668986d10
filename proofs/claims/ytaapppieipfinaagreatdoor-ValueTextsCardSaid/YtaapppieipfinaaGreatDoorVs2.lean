/- Package value: three rows are sorted, and the third one is left out, where it is as the second one then. -/
import Derived.Test.YtaapppieipfinaaGreatDoorVs1
import Derived.Deep.RegionHeld3
namespace Go.Proofs.YtaapppieipfinaaGreatDoor
open Go.RowKit Vp
open Go
attribute [local go_sem] Oper.semAt_some

set_option maxHeartbeats 2000000 in
theorem stable3 (x y z : Rw) (q q' : Int) (hq : cmpR zcmp y.l x.l = q) (hq0 : q < 0) (hq' : cmpR zcmp z.l x.l = q') (hq0' : ¬ q' < 0) (B g : Nat) (w : World) (hB : B ≤ g)
    (hx : x.at_ w B) (hy : y.at_ w B) (hz : z.at_ w B) (hg : Blk w g 48 #[x.s, x.b, y.s, y.b, z.s, z.b]) :
    Calls Tryz.prog 38 #[.slice (some ⟨g, 0, none⟩) 3 3, .func (.func 32) #[] #[]] w fun e w' =>
      e = .returned (.tuple #[]) ∧ Blk w' g 48 #[y.s, y.b, x.s, x.b, z.s, z.b] ∧ Below B w w' := by
  have h0 : Calls Tryz.prog 57 #[.slice (some ⟨g, 0, none⟩) 3 3, .int .i64 3, .func (.func 32) #[] #[]] w fun e w' =>
      e = .returned (.tuple #[]) ∧ Blk w' g 48 #[y.s, y.b, x.s, x.b, z.s, z.b] ∧ Below B w w' := by
    have HI := Lib.hid (insertion3 x y z q q' hq hq0 hq' hq0' B g w hB hx hy hz hg)
    clear hq hq0 hq' hq0' hx hy hz hg
    generalize (#[y.s, y.b, x.s, x.b, z.s, z.b] : Array Value) = cs at HI ⊢
    go_enter Tryz.func57, Tryz.ntmps57
    go_wp2_with fail
    go_loopg [7, 8] 5 (fun gg s7 s8 wr => wr = w ∧ s7 = .int .i64 0 ∧ s8 = .int .i64 20)
    case atStart => exact ⟨rfl, rfl, rfl⟩
    case round =>
      obtain ⟨rfl, rfl, rfl⟩ := hrel
      go_wp2_with fail
      refine HI.out.mono ?_
      rintro e w1 ⟨rfl, hg1, hb1⟩
      have HG1 := Lib.hid hg1; have HB1 := Lib.hid hb1
      clear hg1 hb1
      go_wp2_with fail
      go_loopg [6] 5 (fun gg s6 wr => wr = w1 ∧ s6 = .int .i64 20)
      case atStart => exact ⟨rfl, rfl⟩
      case round =>
        obtain ⟨hw, rfl⟩ := hrel
        obtain rfl := hw
        go_wp2_with fail
        refine bodyPost_end (results_none rfl _ _ _) rfl ?_
        exact ⟨rfl, HG1.out, HB1.out⟩
  have H0 := Lib.hid h0
  clear hq hq0 hq' hq0' hx hy hz hg h0
  generalize (#[y.s, y.b, x.s, x.b, z.s, z.b] : Array Value) = cs at H0 ⊢
  go_enter Tryz.func38, Tryz.ntmps38
  go_wp2_with fail
  refine H0.out.mono ?_
  rintro e w1 ⟨rfl, hg1, hb1⟩
  have HG1 := Lib.hid hg1; have HB1 := Lib.hid hb1
  clear hg1 hb1
  go_wp2_with fail
  refine bodyPost_end (results_none rfl _ _ _) rfl ?_
  exact ⟨rfl, HG1.out, HB1.out⟩

/-- equal. -/
theorem rw_equal (r r' : Rw) (p : Bool) (hp : decide (cmpR zcmp r.l r'.l = 0) = p) (B : Nat) (w W : World) (h : r.at_ w B) (h' : r'.at_ w B) (hb : Below B w W) (hB : B ≤ W.heap.size) :
    Calls Tryz.prog 40 #[.agg #[r.s, r.b], .agg #[r'.s, r'.b]] W fun e w' => e = .returned (.bool p) ∧ Below W.heap.size W w' := by
  have hBW : Below W.heap.size W ((W.alloc (.cells #[r.s, r.b] 48)).alloc (.cells #[r'.s, r'.b] 48)) := ((Below.refl _ _).alloc (Nat.le_refl _) _).alloc (by simp) _
  have hc := rw_cmp r r' _ rfl B w _ h h' (hb.trans (hBW.mono hB)) (Nat.le_trans hB hBW.size)
  have hp' : (cmpR zcmp r.l r'.l == 0) = p := by rw [← hp]; by_cases h : cmpR zcmp r.l r'.l = 0 <;> simp [h]
  have HC := Lib.hid hc; have HBW := Lib.hid hBW; have HP := Lib.hid hp'
  clear hc hBW hp' hp h h' hb
  generalize cmpR zcmp r.l r'.l = q at HC HP
  unfold Rw.s Rw.b at *
  generalize r.A = xA at *; generalize r.l.length = xn at *; generalize r.c = xc at *; generalize invL r.l = xi at *
  generalize r'.A = yA at *; generalize r'.l.length = yn at *; generalize r'.c = yc at *; generalize invL r'.l = yi at *
  go_enter Tryz.func40, Tryz.ntmps40
  go_wp2_with fail
  refine HC.out.mono ?_
  rintro e w1 ⟨rfl, hb1⟩
  have HB1 := Lib.hid hb1; clear hb1
  go_wp2_with fail
  go_ret
  exact ⟨by rw [← HP.out]; rfl, HBW.out.trans (HB1.out.mono HBW.out.size)⟩

theorem run_clear1 (g : Nat) (w : World) (a b : Value) (e4 : w.cell? ⟨g, 4, none⟩ = some a) (e5 : w.cell? ⟨g, 5, none⟩ = some b) (k4 : w.frozen? ⟨g, 4, none⟩ = false) (k5 : w.frozen? ⟨g, 5, none⟩ = false) (ty : TypeId) :
    Sem.run Tryz.prog (Builtin.clear_ #[52] ty #[.slice (some ⟨g, 4, none⟩) 1 1]) w = .ok (.tuple #[]) ((w.setCell ⟨g, 4, none⟩ (.slice none 0 0)).setCell ⟨g, 5, none⟩ (.bool false)) := by
  simp [Builtin.clear_, run_underlying Tryz.underlying52, Tryz.zeroValue48, Builtin.zeroCells, go_sem, e4, e5, k4, k5]

set_option maxRecDepth 100000 in
set_option maxHeartbeats 4000000 in
/-- CompactFunc, of three, the second not as the first, the third as the second. -/
theorem compact3 (x y z : Rw) (h1 : decide (cmpR zcmp y.l x.l = 0) = false) (h2 : decide (cmpR zcmp z.l y.l = 0) = true) (B g : Nat) (w : World) (hB : B ≤ g)
    (hx : x.at_ w B) (hy : y.at_ w B) (hz : z.at_ w B) (hg : Blk w g 48 #[x.s, x.b, y.s, y.b, z.s, z.b]) :
    Calls Tryz.prog 39 #[.slice (some ⟨g, 0, none⟩) 3 3, .func (.func 40) #[] #[]] w fun e w' =>
      e = .returned (.slice (some ⟨g, 0, none⟩) 2 3) ∧ (∃ u v, Blk w' g 48 #[x.s, x.b, y.s, y.b, u, v]) ∧ Below B w w' := by
  have hgl := hg.lt
  have HYX := Lib.hid (fun W (hb : Below B w W) => rw_equal y x false h1 B w W hy hx hb (by have := hb.size; omega))
  have HZY := Lib.hid (fun W (hb : Below B w W) => rw_equal z y true h2 B w W hz hy hb (by have := hb.size; omega))
  clear h1 h2 hx hy hz
  unfold Rw.s Rw.b at *
  generalize x.A = xA at *; generalize x.l.length = xn at *; generalize x.c = xc at *; generalize invL x.l = xi at *
  generalize y.A = yA at *; generalize y.l.length = yn at *; generalize y.c = yc at *; generalize invL y.l = yi at *
  generalize z.A = zA at *; generalize z.l.length = zn at *; generalize z.c = zc at *; generalize invL z.l = zi at *
  have HGB := Lib.hid hg
  clear hg
  go_enter Tryz.func39, Tryz.ntmps39
  go_wp2_with fail
  go_loopg [5] 5 (fun gg s5 wr => Below B w wr ∧ Blk wr g 48 #[.slice xA xn xc, .bool xi, .slice yA yn yc, .bool yi, .slice zA zn zc, .bool zi] ∧ ((gg = 5 ∧ s5 = .int .i64 1) ∨ (gg = 4 ∧ s5 = .int .i64 2)))
  case atStart => exact ⟨Below.refl _ _, HGB.out, .inl ⟨rfl, rfl⟩⟩
  case round =>
    obtain ⟨hB1, hg, ⟨rfl, rfl⟩ | ⟨rfl, rfl⟩⟩ := hrel
    · have c0 := hg.cell 0; have c1 := hg.cell 1; have c2 := hg.cell 2; have c3 := hg.cell 3
      simp at c0 c1 c2 c3
      obtain ⟨wo, hwo⟩ : ∃ wo, wo = wr := ⟨_, rfl⟩
      subst hwo
      have HB1 := Lib.hid hB1; have HG := Lib.hid hg
      clear hB1 hg
      go_upto_region 6 with fail
      have hw0 : IntKind.i64.wrap 0 = 0 := by decide
      go_region_held3 (fun w' => w'.cell? ⟨g, 0, none⟩ = some (.slice xA xn xc) ∧ w'.cell? ⟨g, 1, none⟩ = some (.bool xi) ∧ w'.cell? ⟨g, 2, none⟩ = some (.slice yA yn yc) ∧ w'.cell? ⟨g, 3, none⟩ = some (.bool yi)) (go_keep)
        (first
          | (go_at_call 40; refine (HYX.out _ HB1.out.drew).mono ?_; rintro e w1 ⟨rfl, hb1⟩; have hG1 := HG.out.drew.below hb1 HG.out.lt; have d0 := hG1.cell 0; have d1 := hG1.cell 1; have d2 := hG1.cell 2; have d3 := hG1.cell 3; simp at d0 d1 d2 d3; have HG1 := Lib.hid hG1; have HB2 := Lib.hid (HB1.out.drew.trans (hb1.mono (by have := HB1.out.size; have := HG.out.lt; show B ≤ wo.heap.size; omega))); clear hb1 hG1))
      clear c0 c1 c2 c3
      go_wp2_with fail
      go_roundg 4
      case measure => omega
      case rel => exact ⟨HB2.out, HG1.out, .inr ⟨rfl, rfl⟩⟩
    · have c2 := hg.cell 2; have c3 := hg.cell 3; have c4 := hg.cell 4; have c5 := hg.cell 5
      simp at c2 c3 c4 c5
      obtain ⟨wo, hwo⟩ : ∃ wo, wo = wr := ⟨_, rfl⟩
      subst hwo
      have HB1 := Lib.hid hB1; have HG := Lib.hid hg
      clear hB1 hg
      go_upto_region 6 with fail
      have hw0 : IntKind.i64.wrap 1 = 1 := by decide
      go_region_held3 (fun w' => w'.cell? ⟨g, 2, none⟩ = some (.slice yA yn yc) ∧ w'.cell? ⟨g, 3, none⟩ = some (.bool yi) ∧ w'.cell? ⟨g, 4, none⟩ = some (.slice zA zn zc) ∧ w'.cell? ⟨g, 5, none⟩ = some (.bool zi)) (go_keep)
        (first
          | (go_at_call 40; refine (HZY.out _ HB1.out.drew).mono ?_; rintro e w1 ⟨rfl, hb1⟩; have hG1 := HG.out.drew.below hb1 HG.out.lt; have d0 := hG1.cell 2; have d1 := hG1.cell 3; have d2 := hG1.cell 4; have d3 := hG1.cell 5; simp at d0 d1 d2 d3; have HG1 := Lib.hid hG1; have HB2 := Lib.hid (HB1.out.drew.trans (hb1.mono (by have := HB1.out.size; have := HG.out.lt; show B ≤ wo.heap.size; omega))); clear hb1 hG1))
      clear c2 c3 c4 c5
      go_wp2_with fail
      go_loopg [5, 7] 5 (fun gg s5 s7 wr => wr = w1 ∧ s5 = .int .i64 2 ∧ s7 = .int .i64 1)
      case atStart => exact ⟨rfl, rfl, rfl⟩
      case round =>
        obtain ⟨hw, rfl, rfl⟩ := hrel
        obtain rfl := hw
        have e4 := HG1.out.cell 4; have e5 := HG1.out.cell 5; have k4 := HG1.out.frozen 4; have k5 := HG1.out.frozen 5
        simp at e4 e5
        have hcl := run_clear1 g _ _ _ e4 e5 k4 k5 0
        clear e4 e5 k4 k5
        go_wp2_with fail
        go_ret
        have hs := (HG1.out.set_ 4 (.slice none 0 0)).set_ 5 (.bool false)
        exact ⟨rfl, ⟨_, _, hs⟩, (HB2.out.setCell (p := ⟨g, 4, none⟩) hB _).setCell (p := ⟨g, 5, none⟩) hB _⟩
end Go.Proofs.YtaapppieipfinaaGreatDoor
