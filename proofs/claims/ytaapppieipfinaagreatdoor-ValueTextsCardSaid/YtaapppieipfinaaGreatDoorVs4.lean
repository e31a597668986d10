/- Package value: three rows of one value each are sorted, each once. -/
import Derived.Test.YtaapppieipfinaaGreatDoorVs3
namespace Go.Proofs.YtaapppieipfinaaGreatDoor
open Go.RowKit Vp
open Go
attribute [local go_sem] Oper.semAt_some

/-- The cells of the first rows. -/
def rowsTo (r : Nat → Rw) (k : Nat) : List Value := (List.range k).flatMap fun j => [(r j).s, (r j).b]
theorem rowsTo_succ (r : Nat → Rw) (k : Nat) : rowsTo r (k + 1) = rowsTo r k ++ [(r k).s, (r k).b] := by
  unfold rowsTo; rw [List.range_succ, List.flatMap_append]; simp
theorem own_block {w : World} {base e size n : Nat} {g : Nat} {xs : List Value} (h : w.ownsRow base e size (.slice (some ⟨g, 0, none⟩) n n) n xs) : Blk w g e xs.toArray := by
  rcases h.2 with ⟨h, _⟩ | ⟨g', cap', cur, hv, _, hh, _, _, hs, ht⟩
  · injection h with h; cases h
  · injection hv with e1 _ e3
    injection e1 with e1; injection e1 with e1
    subst e1; subst e3
    have : cur.toList = xs := by rw [← ht, List.take_of_length_le (by rw [Array.length_toList]; omega)]
    unfold Blk
    rw [hh, ← this]

theorem grown_of {w w' : World} {row : Option Nat} (h : Below w.heap.size w w') : w.grownBy w' row := ⟨h.os, h.tape, h.output, h.size, fun k hk _ => h.block k hk⟩
theorem rw_checked (r : Rw) (B : Nat) (w W : World) (h : r.at_ w B) (hb : Below B w W) (hB : B ≤ W.heap.size) :
    Calls Tryz.prog 31 #[r.s] W fun e w' => e = .returned (.agg #[r.s, r.b]) ∧ Below W.heap.size W w' :=
  checked_c r.l r.A r.c W ((h.under hb).more hB)
theorem rw_open (r : Rw) : ∃ A n c i, r.s = .slice A n c ∧ r.b = .bool i := ⟨_, _, _, _, rfl, rfl⟩

set_option maxRecDepth 100000 in
set_option maxHeartbeats 4000000 in
theorem sort3 (r : Nat → Rw) (o co : Nat) (w : World) (ho : ∀ k, k < 3 → w.cell? ⟨o, k, none⟩ = some ((r k).s)) (hol : o < w.heap.size) (hr : ∀ k, k < 3 → (r k).at_ w w.heap.size)
    (q q' : Int) (hq : cmpR zcmp (r 1).l (r 0).l = q) (hq0 : q < 0) (hq' : cmpR zcmp (r 2).l (r 0).l = q') (hq0' : ¬ q' < 0) (h1 : decide (cmpR zcmp (r 0).l (r 1).l = 0) = false) (h2 : decide (cmpR zcmp (r 2).l (r 0).l = 0) = true)
    (ny : Int) (hcp : ∀ j, j < 2 → ∀ W, Below w.heap.size w W → Calls Tryz.prog 41 #[.agg #[(r j).s, (r j).b]] W fun e w' => (∃ g cap, e = .returned (.slice (some ⟨g, 0, none⟩) 1 cap) ∧ W.heap.size ≤ g ∧ g < w'.heap.size ∧ (∃ cur, Blk w' g 28 cur ∧ (j = 1 → cur[1]? = some (.int .i64 ny)))) ∧ Below W.heap.size W w') :
    Calls Tryz.prog 16 #[.slice (some ⟨o, 0, none⟩) 3 co] w fun e w' => (∃ G, e = .returned (.slice (some ⟨G, 0, none⟩) 2 2) ∧ ∃ g1 c1, w'.cell? ⟨G, 0, none⟩ = some (.slice (some ⟨g1, 0, none⟩) 1 c1) ∧ w'.cell? ⟨g1, 1, none⟩ = some (.int .i64 ny)) ∧ Below w.heap.size w w' := by
  obtain ⟨iR, hi, hz, hsz, hby⟩ := info_parts infoR
  obtain ⟨iS, hiS, hzS, hszS, hbyS⟩ := info_parts infoS
  have HO := Lib.hid ho; have HR := Lib.hid hr; have HCP := Lib.hid hcp
  have HIR := Lib.hid (And.intro hi (And.intro hz (And.intro hsz hby))); have HIS := Lib.hid (And.intro hiS (And.intro hzS (And.intro hszS hbyS)))
  have HST := Lib.hid (fun g W (hb : Below w.heap.size w W) (hg : w.heap.size ≤ g) (hB : Blk W g 48 #[(r 0).s, (r 0).b, (r 1).s, (r 1).b, (r 2).s, (r 2).b]) => stable3 (r 0) (r 1) (r 2) q q' hq hq0 hq' hq0' w.heap.size g W hg ((hr 0 (by decide)).under hb) ((hr 1 (by decide)).under hb) ((hr 2 (by decide)).under hb) hB)
  have HCT := Lib.hid (fun g W (hb : Below w.heap.size w W) (hg : w.heap.size ≤ g) (hB : Blk W g 48 #[(r 1).s, (r 1).b, (r 0).s, (r 0).b, (r 2).s, (r 2).b]) => compact3 (r 1) (r 0) (r 2) h1 h2 w.heap.size g W hg ((hr 1 (by decide)).under hb) ((hr 0 (by decide)).under hb) ((hr 2 (by decide)).under hb) hB)
  clear ho hr hcp hi hz hsz hby hiS hzS hszS hbyS hq hq0 hq' hq0' h1 h2
  go_enter Tryz.func16, Tryz.ntmps16
  go_wp2_with (at_make; refine wpList_make_own _ rfl (.const (.int .i64 0)) (.tmp 10) 52 rfl w.heap.size 48 iR _ 2 Tryz.underlying52 HIR.out.1 HIR.out.2.1 HIR.out.2.2.1 .i64 .i64 3 3 rfl rfl rfl (by rw [HIR.out.2.2.2]; decide) (by decide) (Nat.le_refl _) ?_; intro w1 hm hgr; have HM := Lib.hid hm; have HB1 := Lib.hid ((Below.refl w.heap.size w).grown hgr (Nat.le_refl _) (fun k hk => by cases hk)); clear hm hgr)
  go_loopg [3, 14] 5 (fun gg s3 s14 wr => ∃ k : Nat, k ≤ 3 ∧ gg = 5 - k ∧ s14 = .int .i64 (k : Int) ∧ s3 = .slice (some ⟨w.heap.size, 0, none⟩) k 3 ∧ wr.ownsRow w.heap.size 48 2 (.slice (some ⟨w.heap.size, 0, none⟩) k 3) k (rowsTo r k) ∧ Below w.heap.size w wr)
  case atStart => exact ⟨0, by omega, by omega, rfl, rfl, HM.out, HB1.out⟩
  case round =>
    obtain ⟨k, hk, hg, rfl, rfl, hown, hB⟩ := hrel
    have HG := Lib.hid hg; have HOWN := Lib.hid hown; have HB := Lib.hid hB
    obtain ⟨wo, hwo⟩ : ∃ wo, wo = wr := ⟨_, rfl⟩
    subst hwo
    clear hg hown hB
    by_cases hlt : k < 3
    · have hltz : (k : Int) < 3 := by omega
      have hck := rw_checked (r k) w.heap.size w wo (HR.out k hlt) HB.out HB.out.size
      have hcell := (HB.out.cell (p := ⟨o, k, none⟩) hol).trans (HO.out k hlt)
      have hsucc := rowsTo_succ r k
      obtain ⟨A, nn, c, i, hs, hb⟩ := rw_open (r k)
      rw [hs, hb] at hck hsucc
      rw [hs] at hcell
      have HCK := Lib.hid hck; have HSU := Lib.hid hsucc
      clear hck hsucc hs hb
      go_wp2_with fail
      refine HCK.out.mono ?_
      rintro e w2 ⟨rfl, hb2⟩
      have HOW2 := Lib.hid (HOWN.out.kept (row := none) (grown_of hb2) (.inr (by simp [Value.ownBlock]))); have HB2 := Lib.hid (HB.out.trans (hb2.mono HB.out.size))
      clear hb2
      have hc1 : ∀ (j : Nat) (u : Value), ([.slice A nn c, .bool i] : List Value)[j]? = some u → (w2.alloc (Obj.cells #[.slice A nn c, .bool i] 48)).cell? ((⟨w2.heap.size, 0, none⟩ : Addr).add j) = some u := by
        intro j u hu
        have e : (⟨w2.heap.size, 0, none⟩ : Addr).add j = ⟨w2.heap.size, j, none⟩ := by unfold Addr.add; split <;> simp_all
        rw [e, (Blk.new w2 48 #[.slice A nn c, .bool i]).cell j]
        simpa using hu
      have hc2 : ∀ u ∈ ([.slice A nn c, .bool i] : List Value), u.oneCell' = true := by
        intro u hu
        simp at hu
        rcases hu with rfl | rfl <;> rfl
      have HC1 := Lib.hid hc1; have HC2 := Lib.hid hc2
      clear hc1 hc2
      go_wp2_with (at_builtin; refine wpList_append_fits _ rfl (.tmp 18) (.tmp 21) 52 rfl w.heap.size 48 iR 2 Tryz.underlying52 HIR.out.1 HIR.out.2.2.1 w.heap.size k 3 (rowsTo r k) rfl (HOW2.out.alloc _) ⟨w2.heap.size, 0, none⟩ 1 1 [.slice A nn c, .bool i] rfl rfl HC1.out HC2.out (by omega) ?_; intro w3 ho3 hg3; rw [← HSU.out] at ho3; have HO3 := Lib.hid ho3; have HB3 := Lib.hid ((HB2.out.alloc HB2.out.size (.cells #[.slice A nn c, .bool i] 48)).grown hg3 (by have := HB2.out.size; simp; omega) (fun j hj => by cases hj; exact Nat.le_refl _)); clear ho3 hg3)
      go_roundg (5 - (k + 1))
      case measure => have := HG.out; omega
      case rel => exact ⟨k + 1, by omega, rfl, by go_num, rfl, HO3.out, HB3.out⟩
    · obtain rfl : k = 3 := by omega
      have hbl := own_block HOWN.out
      have hrt : (rowsTo r 3).toArray = #[(r 0).s, (r 0).b, (r 1).s, (r 1).b, (r 2).s, (r 2).b] := rfl
      rw [hrt] at hbl
      have HBL := Lib.hid hbl
      clear hbl hrt
      go_wp2_with fail
      refine (HST.out _ _ HB.out (Nat.le_refl _) HBL.out).mono ?_
      rintro e w2 ⟨rfl, hg2, hb2⟩
      have HG2 := Lib.hid hg2; have HB2 := Lib.hid (HB.out.trans hb2)
      clear hg2 hb2
      go_wp2_with fail
      refine (HCT.out _ _ HB2.out (Nat.le_refl _) HG2.out).mono ?_
      rintro e w3 ⟨rfl, ⟨uu, vv, hg3⟩, hb3⟩
      have HG3 := Lib.hid hg3; have HB3 := Lib.hid (HB2.out.trans hb3)
      clear hg3 hb3
      go_wp2_with (at_make; refine wpList_make_own _ rfl (.const (.int .i64 0)) (.tmp 29) 30 rfl w.heap.size 22 iS _ 1 Tryz.underlying30 HIS.out.1 HIS.out.2.1 HIS.out.2.2.1 .i64 .i64 2 2 rfl rfl rfl (by rw [HIS.out.2.2.2]; decide) (by decide) HB3.out.size ?_; intro w4 hm4 hgr4; have HM4 := Lib.hid hm4; have HG4 := Lib.hid (HG3.out.grown hgr4 (by simp)); have HB4 := Lib.hid (HB3.out.grown hgr4 HB3.out.size (fun k hk => by cases hk)); clear hm4 hgr4)
      go_loopg [6, 33] 6 (fun gg s6 s33 wr => Below w.heap.size w wr ∧ Blk wr w.heap.size 48 #[(r 1).s, (r 1).b, (r 0).s, (r 0).b, uu, vv] ∧
        ((gg = 6 ∧ s33 = .int .i64 0 ∧ s6 = .slice (some ⟨w3.heap.size, 0, none⟩) 0 2 ∧ ∃ xs, wr.ownsRow w.heap.size 22 1 (.slice (some ⟨w3.heap.size, 0, none⟩) 0 2) 0 xs ∧ True) ∨
         (gg = 4 ∧ s33 = .int .i64 1 ∧ s6 = .slice (some ⟨w3.heap.size, 0, none⟩) 1 2 ∧ ∃ xs, wr.ownsRow w.heap.size 22 1 (.slice (some ⟨w3.heap.size, 0, none⟩) 1 2) 1 xs ∧ (True → ∃ g1 c1 cur, xs[0]? = some (.slice (some ⟨g1, 0, none⟩) 1 c1) ∧ Blk wr g1 28 cur ∧ cur[1]? = some (.int .i64 ny))) ∨
         (gg = 3 ∧ s33 = .int .i64 2 ∧ s6 = .slice (some ⟨w3.heap.size, 0, none⟩) 2 2 ∧ ∃ xs, wr.ownsRow w.heap.size 22 1 (.slice (some ⟨w3.heap.size, 0, none⟩) 2 2) 2 xs ∧ (True → ∃ g1 c1 cur, xs[0]? = some (.slice (some ⟨g1, 0, none⟩) 1 c1) ∧ Blk wr g1 28 cur ∧ cur[1]? = some (.int .i64 ny)))))
      case atStart => exact ⟨HB4.out, HG4.out, .inl ⟨rfl, rfl, rfl, _, HM4.out, trivial⟩⟩
      case round =>
        obtain ⟨hB, hg, hcase⟩ := hrel
        obtain ⟨wo, hwo⟩ : ∃ wo, wo = wr := ⟨_, rfl⟩
        subst hwo
        rcases hcase with ⟨rfl, rfl, rfl, xs, hown, hf⟩ | ⟨rfl, rfl, rfl, xs, hown, hf⟩ | ⟨rfl, rfl, rfl, xs, hown, hf⟩
        · have HX := Lib.hid (show xs = [] from List.eq_nil_of_length_eq_zero (by have := hown.1; simpa using this))
          obtain ⟨A, nn, c, i, hs, hb⟩ := rw_open (r 1)
          have c0 := hg.cell 0; have c1 := hg.cell 1
          simp at c0 c1
          rw [hs] at c0
          rw [hb] at c1
          have hcp := fun W hW => HCP.out 1 (by decide) W hW
          rw [hs, hb] at hcp
          have HB := Lib.hid hB; have HG := Lib.hid hg; have HOWN := Lib.hid hown; have HF := Lib.hid hf; have HCQ := Lib.hid hcp
          clear hB hg hown hf hcp hs hb
          have hbx := Blk.new wo 48 #[.slice A nn c, .bool i]
          have hWA := HB.out.alloc HB.out.size (.cells #[.slice A nn c, .bool i] 48)
          have HWA := Lib.hid hWA
          clear hbx hWA
          go_wp2_with fail
          refine (HCQ.out _ HWA.out).mono ?_
          rintro e w5 ⟨⟨g1, cp1, rfl, hg1, hgl1, cur1, hcur1, hny1⟩, hb5⟩
          have hB5 := HWA.out.trans (hb5.mono HWA.out.size)
          have hwo5 : Below wo.heap.size wo w5 := ((Below.refl wo.heap.size wo).alloc (Nat.le_refl _) _).trans (hb5.mono (by simp))
          have HOW5 := Lib.hid (HOWN.out.kept (row := none) (grown_of hwo5) (.inr (by simp [Value.ownBlock]))); have HB5 := Lib.hid hB5; have HG5 := Lib.hid (HG.out.below hwo5 HG.out.lt); have HCUR := Lib.hid hcur1; have HNY := Lib.hid hny1; have HW05 := Lib.hid hwo5
          clear hb5 hB5 hwo5 hcur1 hny1 hg1
          have hc1 : ∀ (j : Nat) (u : Value), ([.slice (some ⟨g1, 0, none⟩) 1 cp1] : List Value)[j]? = some u → (w5.alloc (Obj.cells #[.slice (some ⟨g1, 0, none⟩) 1 cp1] 22)).cell? ((⟨w5.heap.size, 0, none⟩ : Addr).add j) = some u := by
            intro j u hu
            have e : (⟨w5.heap.size, 0, none⟩ : Addr).add j = ⟨w5.heap.size, j, none⟩ := by unfold Addr.add; split <;> simp_all
            rw [e, (Blk.new w5 22 #[.slice (some ⟨g1, 0, none⟩) 1 cp1]).cell j]
            simpa using hu
          have hc2 : ∀ u ∈ ([.slice (some ⟨g1, 0, none⟩) 1 cp1] : List Value), u.oneCell' = true := by
            intro u hu
            simp at hu
            rcases hu with rfl; rfl
          have HC1 := Lib.hid hc1; have HC2 := Lib.hid hc2
          clear hc1 hc2
          go_wp2_with (at_builtin; refine wpList_append_fits _ rfl (.tmp 37) (.tmp 40) 30 rfl w.heap.size 22 iS 1 Tryz.underlying30 HIS.out.1 HIS.out.2.2.1 w3.heap.size 0 2 xs rfl (HOW5.out.alloc _) ⟨w5.heap.size, 0, none⟩ 1 1 [.slice (some ⟨g1, 0, none⟩) 1 cp1] rfl rfl HC1.out HC2.out (by decide) ?_; intro w6 ho6 hgr6; have HO6 := Lib.hid ho6; have HGR6 := Lib.hid hgr6; clear ho6 hgr6)
          go_roundg 4
          case measure => omega
          case rel =>
            have hne : ∀ {X : Nat} {t : TypeId} {cs : Array Value}, Blk w5 X t cs → t ≠ 22 → some X ≠ some w3.heap.size := fun h ht => (own_any_ne HOW5.out h (Ne.symm ht)) ∘ Eq.symm
            have hG6 := (HG5.out.alloc (.cells #[.slice (some ⟨g1, 0, none⟩) 1 cp1] 22)).grown HGR6.out (hne HG5.out (by decide))
            have hB6 := (HB5.out.alloc HB5.out.size (.cells #[.slice (some ⟨g1, 0, none⟩) 1 cp1] 22)).grown HGR6.out (by have := HB5.out.size; simp; omega) (fun j hj => by cases hj; exact HB3.out.size)
            have hc6 := (HCUR.out.alloc (.cells #[.slice (some ⟨g1, 0, none⟩) 1 cp1] 22)).grown HGR6.out (hne HCUR.out (by decide))
            exact ⟨hB6, hG6, .inr (.inl ⟨rfl, rfl, rfl, _, HO6.out, fun _ => ⟨g1, cp1, cur1, by rw [HX.out]; rfl, hc6, by simpa using HNY.out⟩⟩)⟩
        · have HLEN := Lib.hid (show xs.length = 1 from by have := hown.1; simpa using this)
          obtain ⟨A, nn, c, i, hs, hb⟩ := rw_open (r 0)
          have c0 := hg.cell 2; have c1 := hg.cell 3
          simp at c0 c1
          rw [hs] at c0
          rw [hb] at c1
          have hcp := fun W hW => HCP.out 0 (by decide) W hW
          rw [hs, hb] at hcp
          have HB := Lib.hid hB; have HG := Lib.hid hg; have HOWN := Lib.hid hown; have HF := Lib.hid hf; have HCQ := Lib.hid hcp
          clear hB hg hown hf hcp hs hb
          have hbx := Blk.new wo 48 #[.slice A nn c, .bool i]
          have hWA := HB.out.alloc HB.out.size (.cells #[.slice A nn c, .bool i] 48)
          have HWA := Lib.hid hWA
          clear hbx hWA
          go_wp2_with fail
          refine (HCQ.out _ HWA.out).mono ?_
          rintro e w5 ⟨⟨g1, cp1, rfl, hg1, hgl1, cur1, hcur1, hny1⟩, hb5⟩
          have hB5 := HWA.out.trans (hb5.mono HWA.out.size)
          have hwo5 : Below wo.heap.size wo w5 := ((Below.refl wo.heap.size wo).alloc (Nat.le_refl _) _).trans (hb5.mono (by simp))
          have HOW5 := Lib.hid (HOWN.out.kept (row := none) (grown_of hwo5) (.inr (by simp [Value.ownBlock]))); have HB5 := Lib.hid hB5; have HG5 := Lib.hid (HG.out.below hwo5 HG.out.lt); have HCUR := Lib.hid hcur1; have HNY := Lib.hid hny1; have HW05 := Lib.hid hwo5
          clear hb5 hB5 hwo5 hcur1 hny1 hg1
          have hc1 : ∀ (j : Nat) (u : Value), ([.slice (some ⟨g1, 0, none⟩) 1 cp1] : List Value)[j]? = some u → (w5.alloc (Obj.cells #[.slice (some ⟨g1, 0, none⟩) 1 cp1] 22)).cell? ((⟨w5.heap.size, 0, none⟩ : Addr).add j) = some u := by
            intro j u hu
            have e : (⟨w5.heap.size, 0, none⟩ : Addr).add j = ⟨w5.heap.size, j, none⟩ := by unfold Addr.add; split <;> simp_all
            rw [e, (Blk.new w5 22 #[.slice (some ⟨g1, 0, none⟩) 1 cp1]).cell j]
            simpa using hu
          have hc2 : ∀ u ∈ ([.slice (some ⟨g1, 0, none⟩) 1 cp1] : List Value), u.oneCell' = true := by
            intro u hu
            simp at hu
            rcases hu with rfl; rfl
          have HC1 := Lib.hid hc1; have HC2 := Lib.hid hc2
          clear hc1 hc2
          go_wp2_with (at_builtin; refine wpList_append_fits _ rfl (.tmp 37) (.tmp 40) 30 rfl w.heap.size 22 iS 1 Tryz.underlying30 HIS.out.1 HIS.out.2.2.1 w3.heap.size 1 2 xs rfl (HOW5.out.alloc _) ⟨w5.heap.size, 0, none⟩ 1 1 [.slice (some ⟨g1, 0, none⟩) 1 cp1] rfl rfl HC1.out HC2.out (by decide) ?_; intro w6 ho6 hgr6; have HO6 := Lib.hid ho6; have HGR6 := Lib.hid hgr6; clear ho6 hgr6)
          go_roundg 3
          case measure => omega
          case rel =>
            have hne : ∀ {X : Nat} {t : TypeId} {cs : Array Value}, Blk w5 X t cs → t ≠ 22 → some X ≠ some w3.heap.size := fun h ht => (own_any_ne HOW5.out h (Ne.symm ht)) ∘ Eq.symm
            have hG6 := (HG5.out.alloc (.cells #[.slice (some ⟨g1, 0, none⟩) 1 cp1] 22)).grown HGR6.out (hne HG5.out (by decide))
            have hB6 := (HB5.out.alloc HB5.out.size (.cells #[.slice (some ⟨g1, 0, none⟩) 1 cp1] 22)).grown HGR6.out (by have := HB5.out.size; simp; omega) (fun j hj => by cases hj; exact HB3.out.size)
            obtain ⟨g0, cp0, cur0, hx0, hc0, hn0⟩ := HF.out trivial
            have h05 := hc0.below HW05.out hc0.lt
            have hc6 := (h05.alloc (.cells #[.slice (some ⟨g1, 0, none⟩) 1 cp1] 22)).grown HGR6.out (hne h05 (by decide))
            exact ⟨hB6, hG6, .inr (.inr ⟨rfl, rfl, rfl, _, HO6.out, fun _ => ⟨g0, cp0, cur0, by rw [List.getElem?_append_left (by rw [HLEN.out]; decide)]; exact hx0, hc6, hn0⟩⟩)⟩
        · have HB := Lib.hid hB; have HG := Lib.hid hg; have HOWN := Lib.hid hown; have HF := Lib.hid hf
          clear hB hg hown hf
          go_wp2_with fail
          go_ret
          obtain ⟨g0, cp0, cur0, hx0, hc0, hn0⟩ := HF.out trivial
          refine ⟨⟨w3.heap.size, rfl, g0, cp0, ?_, ?_⟩, HB.out⟩
          · rw [HOWN.out.cellAt 0 (by decide)]; exact hx0
          · rw [hc0.cell 1]; exact hn0
end Go.Proofs.YtaapppieipfinaaGreatDoor
