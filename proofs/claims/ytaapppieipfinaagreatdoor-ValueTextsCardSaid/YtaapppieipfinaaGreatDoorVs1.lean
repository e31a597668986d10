/- Package value: three rows are put into their order, where the second is before the first, and the third not before the first. -/
import Derived.Test.YtaapppieipfinaaGreatDoorPBigL
import Derived.Deep.RegionHeld3
namespace Go.Proofs.YtaapppieipfinaaGreatDoor
open Go.RowKit Vp
open Go
attribute [local go_sem] Oper.semAt_some

/-- A row as it lies: its values, where, and how much room. -/
structure Rw where
  l : List V
  A : Option Addr
  c : Nat
def Rw.s (r : Rw) : Value := .slice r.A r.l.length r.c
def Rw.b (r : Rw) : Value := .bool (invL r.l)
def Rw.at_ (r : Rw) (w : World) (B : Nat) : Prop := RRep w B r.l r.A r.c

theorem rw_cmp (r r' : Rw) (q : Int) (hq : cmpR zcmp r.l r'.l = q) (B : Nat) (w W : World) (h : r.at_ w B) (h' : r'.at_ w B) (hb : Below B w W) (hB : B ≤ W.heap.size) :
    Calls Tryz.prog 32 #[.agg #[r.s, r.b], .agg #[r'.s, r'.b]] W fun e w' => e = .returned (.int .i64 q) ∧ Below W.heap.size W w' := by
  have := rowcmp_c zcmp bigCmp_ok r.l r'.l r.A r'.A r.c r'.c W ((h.under hb).more hB) ((h'.under hb).more hB)
  rw [hq] at this
  exact this

set_option maxRecDepth 100000 in
set_option maxHeartbeats 4000000 in
theorem insertion3 (x y z : Rw) (q q' : Int) (hq : cmpR zcmp y.l x.l = q) (hq0 : q < 0) (hq' : cmpR zcmp z.l x.l = q') (hq0' : ¬ q' < 0) (B g : Nat) (w : World) (hB : B ≤ g)
    (hx : x.at_ w B) (hy : y.at_ w B) (hz : z.at_ w B) (hg : Blk w g 48 #[x.s, x.b, y.s, y.b, z.s, z.b]) :
    Calls Tryz.prog 83 #[.slice (some ⟨g, 0, none⟩) 3 3, .int .i64 0, .int .i64 3, .func (.func 32) #[] #[]] w fun e w' =>
      e = .returned (.tuple #[]) ∧ Blk w' g 48 #[y.s, y.b, x.s, x.b, z.s, z.b] ∧ Below B w w' := by
  have hgl := hg.lt
  have HXY := Lib.hid (fun W (hb : Below B w W) => rw_cmp y x q hq B w W hy hx hb (by have := hb.size; omega))
  have HZX := Lib.hid (fun W (hb : Below B w W) => rw_cmp z x q' hq' B w W hz hx hb (by have := hb.size; omega))
  clear hq hq' hx hy hz
  unfold Rw.s Rw.b at *
  generalize x.A = xA at *; generalize x.l.length = xn at *; generalize x.c = xc at *; generalize invL x.l = xi at *
  generalize y.A = yA at *; generalize y.l.length = yn at *; generalize y.c = yc at *; generalize invL y.l = yi at *
  generalize z.A = zA at *; generalize z.l.length = zn at *; generalize z.c = zc at *; generalize invL z.l = zi at *
  have HGB := Lib.hid hg
  clear hg
  go_enter Tryz.func83, Tryz.ntmps83
  go_wp2_with fail
  go_loopg [8] 5 (fun gg s8 wr => Below B w wr ∧ ((gg = 5 ∧ s8 = .int .i64 1 ∧ Blk wr g 48 #[.slice xA xn xc, .bool xi, .slice yA yn yc, .bool yi, .slice zA zn zc, .bool zi]) ∨ (gg = 4 ∧ s8 = .int .i64 2 ∧ Blk wr g 48 #[.slice yA yn yc, .bool yi, .slice xA xn xc, .bool xi, .slice zA zn zc, .bool zi]) ∨ (gg = 3 ∧ s8 = .int .i64 3 ∧ Blk wr g 48 #[.slice yA yn yc, .bool yi, .slice xA xn xc, .bool xi, .slice zA zn zc, .bool zi])))
  case atStart => exact ⟨Below.refl _ _, .inl ⟨rfl, rfl, HGB.out⟩⟩
  case round =>
    obtain ⟨hB1, ⟨rfl, rfl, hg⟩ | ⟨rfl, rfl, hg⟩ | ⟨rfl, rfl, hg⟩⟩ := hrel
    · have HB1 := Lib.hid hB1; have HG := Lib.hid hg
      clear hB1 hg
      go_wp2_with fail
      go_loopg [9] 5 (fun gg s9 wr => Below B w wr ∧ ((gg = 5 ∧ s9 = .int .i64 1 ∧ Blk wr g 48 #[.slice xA xn xc, .bool xi, .slice yA yn yc, .bool yi, .slice zA zn zc, .bool zi]) ∨ (gg = 4 ∧ s9 = .int .i64 0 ∧ Blk wr g 48 #[.slice yA yn yc, .bool yi, .slice xA xn xc, .bool xi, .slice zA zn zc, .bool zi])))
      case atStart => exact ⟨HB1.out, .inl ⟨rfl, rfl, HG.out⟩⟩
      case round =>
        clear HB1 HG
        obtain ⟨hB1, ⟨rfl, rfl, hg⟩ | ⟨rfl, rfl, hg⟩⟩ := hrel
        · have c0 := hg.cell 0; have c1 := hg.cell 1; have c2 := hg.cell 2; have c3 := hg.cell 3
          simp at c0 c1 c2 c3
          obtain ⟨wo, hwo⟩ : ∃ wo, wo = wr := ⟨_, rfl⟩
          subst hwo
          have HB1 := Lib.hid hB1; have HG := Lib.hid hg
          clear hB1 hg
          go_upto_region 4 with fail
          have hw0 : IntKind.i64.wrap 0 = 0 := by decide
          go_region_held3 (fun w' => w'.cell? ⟨g, 0, none⟩ = some (.slice xA xn xc) ∧ w'.cell? ⟨g, 1, none⟩ = some (.bool xi) ∧ w'.cell? ⟨g, 2, none⟩ = some (.slice yA yn yc) ∧ w'.cell? ⟨g, 3, none⟩ = some (.bool yi)) (go_keep)
            (first
              | (go_at_call 32; refine (HXY.out _ HB1.out.drew).mono ?_; rintro e w1 ⟨rfl, hb1⟩; have hG1 := HG.out.drew.below hb1 HG.out.lt; have d0 := hG1.cell 0; have d1 := hG1.cell 1; have d2 := hG1.cell 2; have d3 := hG1.cell 3; simp at d0 d1 d2 d3; have k0 := hG1.frozen 0; have k1 := hG1.frozen 1; have k2 := hG1.frozen 2; have k3 := hG1.frozen 3; have HG1 := Lib.hid hG1; have HB2 := Lib.hid (HB1.out.drew.trans (hb1.mono (by have := HB1.out.size; have := HG.out.lt; show B ≤ wo.heap.size; omega))); clear hb1 hG1))
          clear c0 c1 c2 c3
          go_upto_region 6 with fail
          go_region
          go_wp2_with fail
          go_roundg 4
          case measure => omega
          case rel =>
            have hs := (((HG1.out.drew.set_ 2 (.slice xA xn xc)).set_ 3 (.bool xi)).set_ 0 (.slice yA yn yc)).set_ 1 (.bool yi)
            exact ⟨((((HB2.out.drew.setCell (p := ⟨g, 2, none⟩) hB _).setCell (p := ⟨g, 3, none⟩) hB _).setCell (p := ⟨g, 0, none⟩) hB _).setCell (p := ⟨g, 1, none⟩) hB _), .inr ⟨rfl, rfl, hs⟩⟩
        · have HB1 := Lib.hid hB1; have HG := Lib.hid hg
          clear hB1 hg
          go_upto_region 4 with fail
          go_region
          go_wp2_with fail
          go_roundg 4
          case measure => omega
          case rel => exact ⟨HB1.out.drew, .inr (.inl ⟨rfl, rfl, HG.out.drew⟩)⟩
    · have HB1 := Lib.hid hB1; have HG := Lib.hid hg
      clear hB1 hg
      go_wp2_with fail
      go_loopg [9] 5 (fun gg s9 wr => Below B w wr ∧ gg = 5 ∧ s9 = .int .i64 2 ∧ Blk wr g 48 #[.slice yA yn yc, .bool yi, .slice xA xn xc, .bool xi, .slice zA zn zc, .bool zi])
      case atStart => exact ⟨HB1.out, rfl, rfl, HG.out⟩
      case round =>
        clear HB1 HG
        obtain ⟨hB1, rfl, rfl, hg⟩ := hrel
        have c2 := hg.cell 2; have c3 := hg.cell 3; have c4 := hg.cell 4; have c5 := hg.cell 5
        simp at c2 c3 c4 c5
        obtain ⟨wo, hwo⟩ : ∃ wo, wo = wr := ⟨_, rfl⟩
        subst hwo
        have HB1 := Lib.hid hB1; have HG := Lib.hid hg
        clear hB1 hg
        go_upto_region 4 with fail
        have hw0 : IntKind.i64.wrap 1 = 1 := by decide
        go_region_held3 (fun w' => w'.cell? ⟨g, 2, none⟩ = some (.slice xA xn xc) ∧ w'.cell? ⟨g, 3, none⟩ = some (.bool xi) ∧ w'.cell? ⟨g, 4, none⟩ = some (.slice zA zn zc) ∧ w'.cell? ⟨g, 5, none⟩ = some (.bool zi)) (go_keep)
          (first
            | (go_at_call 32; refine (HZX.out _ HB1.out.drew).mono ?_; rintro e w1 ⟨rfl, hb1⟩; have hG1 := HG.out.drew.below hb1 HG.out.lt; have d0 := hG1.cell 2; have d1 := hG1.cell 3; have d2 := hG1.cell 4; have d3 := hG1.cell 5; simp at d0 d1 d2 d3; have HG1 := Lib.hid hG1; have HB2 := Lib.hid (HB1.out.drew.trans (hb1.mono (by have := HB1.out.size; have := HG.out.lt; show B ≤ wo.heap.size; omega))); clear hb1 hG1))
        clear c2 c3 c4 c5
        go_wp2_with fail
        go_roundg 3
        case measure => omega
        case rel => exact ⟨HB2.out, .inr (.inr ⟨rfl, rfl, HG1.out⟩)⟩
    · have HB1 := Lib.hid hB1; have HG := Lib.hid hg
      clear hB1 hg
      go_wp2_with fail
      refine bodyPost_end (results_none rfl _ _ _) rfl ?_
      exact ⟨rfl, HG.out, HB1.out⟩
end Go.Proofs.YtaapppieipfinaaGreatDoor
