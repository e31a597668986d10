/- Package unify: newVar. -/
import Derived.Test.YtfhjfhbfgndheaaDoorFn
import Derived.Test.YtfhjfhbfgndheaaDoorObx
import Derived.BigRegion
namespace Go.Proofs.YtfhjfhbfgndheaaDoor
open Go.RowKit Go.Shelf Un
open Go
attribute [local go_sem] Oper.semAt_some

section
variable {B0 K : Nat} {F : Nat → Prop} {st : St} {up : List Nat} {rk : Nat → Nat} {ins : List Bool} {tv ov : Value} {mb kb g : Nat} {w w' : World}
theorem BRx.untaken {tk' : Int → Bool} (h : BRx B0 F K st up rk ins tv ov mb kb w g) (hg : w.grownBy w' (some kb)) (hm : Gm.MapR Tryd.prog 3 (plainElem (H := Unit) Tryd.prog 4) Gm.kI Gm.eB w' kb K (tkF tk')) :
    BRx B0 F K { st with tk := tk' } up rk ins tv ov mb kb w' g := by
  have hb0 : Below B0 w w' := (Keep.grown (F := fun b => b = kb) hg fun k hk => by injection hk with hk; exact hk.symm).below (fun x hx e => by have := h.base _ h.fk; omega) h.b0
  have far : ∀ b, b < w.heap.size → b ≠ kb → w'.heap[b]? = w.heap[b]? := fun b hb hn => hg.block b hb fun e => hn (by injection e)
  refine { h with glob := h.glob.below hb0, blk := ?_, map := ?_, tak := hm, upR := ?_, tsR := ?_ }
  · exact (far _ h.blk.lt h.gk).trans h.blk
  · exact h.map.keep (far _ h.map.lt h.mkb)
  · exact h.upR.keep (fun b hb => far b (own_lt h.upR b hb).1 fun e => h.okn (e ▸ hb)) (fun _ h _ => h.elim) hg.size
  · exact h.tsR.keep (fun b hb => far b (own_lt h.tsR b hb).1 fun e => h.tkn (e ▸ hb)) (fun b hs hl => far b hl hs.2.2.2.1) hg.size
theorem BRx.setLast (h : BRx B0 F K st up rk ins tv ov mb kb w g) (j : Int) (hj : 0 ≤ j ∧ j ≤ K) : BRx B0 F K { st with last := j } up rk ins tv ov mb kb (w.setCell ⟨g, 3, none⟩ (.int .i64 j)) g := by
  have hb0 : Below B0 w (w.setCell ⟨g, 3, none⟩ (.int .i64 j)) := (Below.refl _ _).setCell (by have := h.base _ h.fg; exact this) _
  have far : ∀ b, b ≠ g → (w.setCell ⟨g, 3, none⟩ (.int .i64 j)).heap[b]? = w.heap[b]? := fun b hb => Below.heap_setCell _ _ _ _ hb
  refine { h with glob := h.glob.below hb0, blk := ?_, map := ?_, tak := ?_, upR := ?_, tsR := ?_, las := hj }
  · exact h.blk.set_ 3 _
  · exact h.map.keep (far _ fun e => h.gm e.symm)
  · exact h.tak.keep (far _ fun e => h.gk e.symm)
  · exact h.upR.keep (fun b hb => far b fun e => h.on (e ▸ hb)) (fun _ h _ => h.elim) (by simp)
  · exact h.tsR.keep (fun b hb => far b fun e => h.tn (e ▸ hb)) (fun b hs _ => far b hs.2.1) (by simp)
end
/-- What is taken yet, when those from last to j were gone by. -/
def RmT (tk : Int → Bool) (last j : Int) : Int → Bool := fun k => tk k && !(decide (last < k) && decide (k < j))
theorem RmT_start (tk : Int → Bool) (last : Int) : RmT tk last (last + 1) = tk := by
  funext k
  unfold RmT
  by_cases h : last < k
  · have : ¬ k < last + 1 := by omega
    simp [this]
  · simp [h]
theorem RmT_at {tk : Int → Bool} {last j : Int} : RmT tk last j j = tk j := by unfold RmT; simp
theorem RmT_next (tk : Int → Bool) {last j : Int} (h : last < j) (k : Int) : (if k = j then none else tkF (RmT tk last j) k) = tkF (RmT tk last (j + 1)) k := by
  unfold tkF RmT
  by_cases e : k = j
  · subst e
    rw [if_pos rfl]
    have : k < k + 1 := by omega
    simp [h, this]
  · rw [if_neg e]
    by_cases h2 : k < j
    · have : k < j + 1 := by omega
      simp [h2, this]
    · have : ¬ k < j + 1 := by omega
      simp [h2, this]
def SNew (g kb : Nat) (j : Int) (b : Bool) (W : World) : Prop := W.cell? ⟨g, 4, none⟩ = some (.map (some kb)) ∧ W.cell? ⟨g, 3, none⟩ = some (.int .i64 j) ∧ (Instr.lookup 58 (.map (some kb)) (.int .i64 j) false).run Tryd.prog W = .ok (.bool b) W
set_option maxRecDepth 100000 in
set_option maxHeartbeats 4000000 in
theorem newVar_c {B0 K : Nat} {F : Nat → Prop} {st : St} {up : List Nat} {rk : Nat → Nat} {ins : List Bool} {tv ov : Value} {mb kb g : Nat} {w : World} (h : BRx B0 F K st up rk ins tv ov mb kb w g) (nx : Int) (h1 : st.last < nx) (h2 : st.tk nx = false)
    (h3 : ∀ j, st.last < j → j < nx → st.tk j = true) (hK : nx ≤ K) :
    Calls Tryd.prog 20 #[.pointer (some ⟨g, 0, none⟩)] w fun e w' => e = .returned (.agg #[.string (newNm nx), .slice none 0 0]) ∧ BRx B0 F K { st with last := nx, tk := RmT st.tk st.last nx } up rk ins tv ov mb kb w' g ∧ Keep (fun b => b = g ∨ b = kb) w w' := by
  have hb0 := h.base
  have hb1 := h.b0
  have h := h.mono (F' := fun b => F b ∧ b < w.heap.size) (fun b hb hf => ⟨hf, hb⟩) fun x hx => h.base x hx.1
  have hlas := h.las
  have hlim := h.lim
  have hgl := h.blk.lt
  have ng : g ≠ w.heap.size := by omega
  have hwr : IntKind.i64.wrap (st.last + 1) = st.last + 1 := IntWalk.i64_in _ (by omega)
  have c3 := h.blk.cell 3
  have f3 := h.blk.frozen 3
  simp at c3
  have hS0 := h.setLast (st.last + 1) (by omega)
  have hz : (w.setCell ⟨g, 3, none⟩ (.int .i64 (st.last + 1))).heap.size = w.heap.size := by simp
  have hal : Below w.heap.size (w.setCell ⟨g, 3, none⟩ (.int .i64 (st.last + 1))) ((w.setCell ⟨g, 3, none⟩ (.int .i64 (st.last + 1))).alloc (.cells #[.string ⟨#[]⟩, .slice none 0 0] 36)) := (Below.refl _ _).alloc (by rw [hz]; exact Nat.le_refl _) _
  have hS := hS0.below (hal.mono (Nat.le_of_eq hz)) hS0.b0
  have hK1 : Keep (fun b => b = g ∨ b = kb) w ((w.setCell ⟨g, 3, none⟩ (.int .i64 (st.last + 1))).alloc (.cells #[.string ⟨#[]⟩, .slice none 0 0] 36)) := ((Keep.refl _ _).set ⟨g, 3, none⟩ (.inl rfl) _).trans (F' := fun b => b = g ∨ b = kb) (Keep.of_below hal fun x h1 h2 => by rw [hz] at h2; omega) fun _ _ h => h
  have hbk : Blk ((w.setCell ⟨g, 3, none⟩ (.int .i64 (st.last + 1))).alloc (.cells #[.string ⟨#[]⟩, .slice none 0 0] 36)) w.heap.size 36 #[.string ⟨#[]⟩, .slice none 0 0] := by
    have := Blk.new (w.setCell ⟨g, 3, none⟩ (.int .i64 (st.last + 1))) 36 #[.string ⟨#[]⟩, .slice none 0 0]
    rwa [hz] at this
  have HS := Lib.hid hS; have HK1 := Lib.hid hK1; have HBK := Lib.hid hbk; have H3 := Lib.hid h3
  have hkbl := h.tak.lt
  clear h hS0 hS hK1 hbk h3 hal hz
  go_enter Tryd.func20, Tryd.ntmps20
  go_wp2_with fail
  go_loopg [] ((nx - (st.last + 1)).toNat + 1) (fun gg wr => ∃ j : Int, st.last < j ∧ j ≤ nx ∧ gg = (nx - j).toNat + 1 ∧ BRx B0 (fun b => F b ∧ b < w.heap.size) K { st with last := j, tk := RmT st.tk st.last j } up rk ins tv ov mb kb wr g ∧ Blk wr w.heap.size 36 #[.string ⟨#[]⟩, .slice none 0 0] ∧ Keep (fun b => b = g ∨ b = kb) w wr)
  case atStart => exact ⟨st.last + 1, by omega, by omega, by omega, by rw [RmT_start]; exact HS.out, HBK.out, HK1.out⟩
  case round =>
    obtain ⟨j, hj1, hj2, hg, hR, hB, hKp⟩ := hrel
    have hsz := hKp.size
    have hbd : -9223372036854775808 ≤ j ∧ j ≤ 9223372036854775807 := by omega
    have g3 := hR.blk.cell 3
    have g4 := hR.blk.cell 4
    have fz := fun i => hR.blk.frozen i
    simp at g3 g4
    have hlook := fun (W : World) (hW : W.heap[kb]? = wr.heap[kb]?) => mapB_look1 (hR.tak.keep hW) j hbd
    have HR := Lib.hid hR; have HB := Lib.hid hB; have HKP := Lib.hid hKp; have HG := Lib.hid hg; have HLK := Lib.hid hlook
    by_cases hlt : j < nx
    · have htk := H3.out j hj1 hlt
      have hval : ((tkF (RmT st.tk st.last j) j).getD false) = true := by unfold tkF; rw [RmT_at, htk]; rfl
      have hwj : IntKind.i64.wrap (j + 1) = j + 1 := IntWalk.i64_in _ (by omega)
      have hdel : ∀ W : World, W.heap[kb]? = wr.heap[kb]? → ∃ w', (Builtin.delete_ #[58, 3] 0 #[.map (some kb), .int .i64 j]).run Tryd.prog W = .ok (.tuple #[]) w' ∧ Gm.MapR Tryd.prog 3 (plainElem (H := Unit) Tryd.prog 4) Gm.kI Gm.eB w' kb K (tkF (RmT st.tk st.last (j + 1))) ∧ W.grownBy w' (some kb) := fun W hW => by
        obtain ⟨w', e1, e2, e3⟩ := (HR.out.tak.keep hW).del int_law Tryd.underlying58 Gm.kI_inj (key := .int .i64 j) j (key_i hbd) 0
        exact ⟨w', e1, e2.congr (RmT_next st.tk hj1), e3⟩
      have HDEL := Lib.hid hdel
      clear hR hB hKp hg hlook hdel
      go_upto_region 2 with fail
      have hSS : SNew g kb j true wr.drew := ⟨g4, g3, by have := HLK.out wr.drew rfl; rw [hval] at this; exact this⟩
      refine chain_region (SNew g kb j true) 9 (by kernel_rfl) ?_
      have HSS := Lib.hid hSS
      clear hSS
      refine T_takeD (i := 0) (v := .pointer (some ⟨g, 0, none⟩)) rfl (by kernel_rfl) (fun _ _ _ h => h) rfl (fun W hS => by go_simp) HSS.out ?_
      go_simp
      refine T_takeD (i := 1) (v := .pointer (some ⟨g, 0, none⟩)) rfl (by kernel_rfl) (fun _ _ _ h => h) rfl (fun W hS => by go_simp) HSS.out ?_
      go_simp
      refine T_takeD (i := 2) (v := .pointer (some ⟨g, 4, none⟩)) rfl (by kernel_rfl) (fun _ _ _ h => h) rfl (fun W hS => by go_simp) HSS.out ?_
      go_simp
      refine T_takeD (i := 3) (v := .map (some kb)) rfl (by kernel_rfl) (fun _ _ _ h => h) rfl (fun W hS => by unfold SNew at hS; obtain ⟨h0, h1, h2⟩ := hS; go_simp) HSS.out ?_
      go_simp
      refine T_takeD (i := 4) (v := .pointer (some ⟨g, 0, none⟩)) rfl (by kernel_rfl) (fun _ _ _ h => h) rfl (fun W hS => by go_simp) HSS.out ?_
      go_simp
      refine T_takeD (i := 5) (v := .pointer (some ⟨g, 0, none⟩)) rfl (by kernel_rfl) (fun _ _ _ h => h) rfl (fun W hS => by go_simp) HSS.out ?_
      go_simp
      refine T_takeD (i := 6) (v := .pointer (some ⟨g, 3, none⟩)) rfl (by kernel_rfl) (fun _ _ _ h => h) rfl (fun W hS => by go_simp) HSS.out ?_
      go_simp
      refine T_takeD (i := 7) (v := .int .i64 j) rfl (by kernel_rfl) (fun _ _ _ h => h) rfl (fun W hS => by unfold SNew at hS; obtain ⟨h0, h1, h2⟩ := hS; go_simp) HSS.out ?_
      go_simp
      refine T_takeD (i := 8) (v := .bool true) rfl (by kernel_rfl) (fun _ _ _ h => h) rfl (fun W hS => by unfold SNew at hS; obtain ⟨h0, h1, h2⟩ := hS; go_simp) HSS.out ?_
      go_simp
      refine T_done (by kernel_rfl) ?_
      go_wp2_with fail
      clear HSS
      obtain ⟨w5, hrun, m5, hg5⟩ := HDEL.out wr.drew.drew rfl
      have hR2 := ((HR.out.below (((Below.refl _ _).drew).drew) HR.out.b0).untaken hg5 m5)
      have hz5 : IntKind.i64.wrap (j + 1) = j + 1 := IntWalk.i64_in _ (by omega)
      have d3 := hR2.blk.cell 3
      have fz5 := fun i => hR2.blk.frozen i
      simp at d3
      have hR3 := hR2.setLast (j + 1) (by omega)
      have hne : w.heap.size ≠ g := by omega
      have hne2 : w.heap.size ≠ kb := by have := HB.out.lt; omega
      have hB5 : Blk (w5.setCell ⟨g, 3, none⟩ (.int .i64 (j + 1))) w.heap.size 36 #[.string ⟨#[]⟩, .slice none 0 0] := Blk.far (p := ⟨g, 3, none⟩) ((hg5.block _ HB.out.lt fun e => hne2 (by injection e)).trans HB.out) hne _
      have hK5 : Keep (fun b => b = g ∨ b = kb) w (w5.setCell ⟨g, 3, none⟩ (.int .i64 (j + 1))) := ((HKP.out.drew.drew).trans (F' := fun b => b = g ∨ b = kb) (Keep.grown hg5 fun x hx => by injection hx with hx; exact .inr hx.symm) fun _ _ h => h).set ⟨g, 3, none⟩ (.inl rfl) _
      have HRUN := Lib.hid hrun; have HR3 := Lib.hid hR3; have HB5 := Lib.hid hB5; have HK5 := Lib.hid hK5
      have hSS : SNew g kb j true wr.drew.drew := ⟨g4, g3, by have := HLK.out wr.drew.drew rfl; rw [hval] at this; exact this⟩
      clear hrun m5 hg5 hR2 hR3 hB5 hK5 HDEL HLK hval g3 g4
      refine chain_region (SNew g kb j true) 8 (by kernel_rfl) ?_
      have HSS := Lib.hid hSS
      clear hSS
      refine T_takeD (i := 0) (v := .pointer (some ⟨g, 0, none⟩)) rfl (by kernel_rfl) (fun _ _ _ h => h) rfl (fun W hS => by go_simp) HSS.out ?_
      go_simp
      refine T_takeD (i := 1) (v := .pointer (some ⟨g, 0, none⟩)) rfl (by kernel_rfl) (fun _ _ _ h => h) rfl (fun W hS => by go_simp) HSS.out ?_
      go_simp
      refine T_takeD (i := 2) (v := .pointer (some ⟨g, 4, none⟩)) rfl (by kernel_rfl) (fun _ _ _ h => h) rfl (fun W hS => by go_simp) HSS.out ?_
      go_simp
      refine T_takeD (i := 3) (v := .map (some kb)) rfl (by kernel_rfl) (fun _ _ _ h => h) rfl (fun W hS => by unfold SNew at hS; obtain ⟨h0, h1, h2⟩ := hS; go_simp) HSS.out ?_
      go_simp
      refine T_takeD (i := 4) (v := .pointer (some ⟨g, 0, none⟩)) rfl (by kernel_rfl) (fun _ _ _ h => h) rfl (fun W hS => by go_simp) HSS.out ?_
      go_simp
      refine T_takeD (i := 5) (v := .pointer (some ⟨g, 0, none⟩)) rfl (by kernel_rfl) (fun _ _ _ h => h) rfl (fun W hS => by go_simp) HSS.out ?_
      go_simp
      refine T_takeD (i := 6) (v := .pointer (some ⟨g, 3, none⟩)) rfl (by kernel_rfl) (fun _ _ _ h => h) rfl (fun W hS => by go_simp) HSS.out ?_
      go_simp
      refine T_takeD (i := 7) (v := .int .i64 j) rfl (by kernel_rfl) (fun _ _ _ h => h) rfl (fun W hS => by unfold SNew at hS; obtain ⟨h0, h1, h2⟩ := hS; go_simp) HSS.out ?_
      go_simp
      refine T_one (i := 8) rfl (by kernel_rfl) rfl ?_
      go_simp
      rw [HRUN.out]
      go_simp
      refine T_done (by kernel_rfl) ?_
      clear HRUN HSS
      go_simp
      go_wp2_with fail
      go_roundg ((nx - (j + 1)).toNat + 1)
      case measure => have := HG.out; omega
      case rel => exact ⟨j + 1, by omega, by omega, rfl, HR3.out, HB5.out, HK5.out⟩
    · obtain rfl : j = nx := by omega
      have hval : ((tkF (RmT st.tk st.last j) j).getD false) = false := by unfold tkF; rw [RmT_at, h2]; rfl
      have htab : ∀ W, Below wr.heap.size wr W → Lib.TabIs Tryd.prog W "internal/strconv.uint64pow10" .u64 Lib.pow10Tab := fun W hW => (HR.out.glob W (hW.mono HR.out.b0)).1
      have hnm := newName_c j (by omega) (by omega) wr.drew (htab _ (Below.refl _ _).drew)
      have hend : ∀ W, Below wr.heap.size wr W → Blk W w.heap.size 36 #[.string ⟨#[]⟩, .slice none 0 0] ∧ (∀ x, Blk ((W.setCell ⟨w.heap.size, 0, none⟩ (.string x)).setCell ⟨w.heap.size, 1, none⟩ (.slice none 0 0)) w.heap.size 36 #[.string x, .slice none 0 0] ∧
          BRx B0 F K { st with last := j, tk := RmT st.tk st.last j } up rk ins tv ov mb kb ((W.setCell ⟨w.heap.size, 0, none⟩ (.string x)).setCell ⟨w.heap.size, 1, none⟩ (.slice none 0 0)) g ∧ Keep (fun b => b = g ∨ b = kb) w ((W.setCell ⟨w.heap.size, 0, none⟩ (.string x)).setCell ⟨w.heap.size, 1, none⟩ (.slice none 0 0))) := fun W hW => by
        have hb := HB.out.below hW HB.out.lt
        have hzW := hW.size
        refine ⟨hb, fun x => ⟨hb.store2, ?_, ?_⟩⟩
        · have q := HR.out.below hW HR.out.b0
          have q2 := q.keep (w' := (W.setCell ⟨w.heap.size, 0, none⟩ (.string x)).setCell ⟨w.heap.size, 1, none⟩ (.slice none 0 0)) (fun b hf _ => (Below.heap_setCell _ _ _ _ (by show b ≠ w.heap.size; have := hf.2; omega)).trans (Below.heap_setCell _ _ _ _ (by show b ≠ w.heap.size; have := hf.2; omega))) (((Below.refl _ _).setCell hb1 _).setCell hb1 _)
          exact q2.mono (fun b _ hf => hf.1) hb0
        · have k := HKP.out.trans (F' := fun _ => False) (Keep.of_new hW) fun _ _ h => h.elim
          exact ⟨k.os, k.tape, k.output, by have := k.size; simpa using this, fun b hl hn => ((Below.heap_setCell _ _ _ _ (by show b ≠ w.heap.size; omega)).trans (Below.heap_setCell _ _ _ _ (by show b ≠ w.heap.size; omega))).trans (k.block b hl hn)⟩
      have HNM := Lib.hid hnm; have HEND := Lib.hid hend
      clear hR hB hKp hg hlook hnm hend htab
      go_upto_region 2 with fail
      have hSS : SNew g kb j false wr.drew := ⟨g4, g3, by have := HLK.out wr.drew rfl; rw [hval] at this; exact this⟩
      refine chain_region (SNew g kb j false) 9 (by kernel_rfl) ?_
      have HSS := Lib.hid hSS
      clear hSS HLK hval
      refine T_takeD (i := 0) (v := .pointer (some ⟨g, 0, none⟩)) rfl (by kernel_rfl) (fun _ _ _ h => h) rfl (fun W hS => by go_simp) HSS.out ?_
      go_simp
      refine T_takeD (i := 1) (v := .pointer (some ⟨g, 0, none⟩)) rfl (by kernel_rfl) (fun _ _ _ h => h) rfl (fun W hS => by go_simp) HSS.out ?_
      go_simp
      refine T_takeD (i := 2) (v := .pointer (some ⟨g, 4, none⟩)) rfl (by kernel_rfl) (fun _ _ _ h => h) rfl (fun W hS => by go_simp) HSS.out ?_
      go_simp
      refine T_takeD (i := 3) (v := .map (some kb)) rfl (by kernel_rfl) (fun _ _ _ h => h) rfl (fun W hS => by unfold SNew at hS; obtain ⟨h0, h1, h2⟩ := hS; go_simp) HSS.out ?_
      go_simp
      refine T_takeD (i := 4) (v := .pointer (some ⟨g, 0, none⟩)) rfl (by kernel_rfl) (fun _ _ _ h => h) rfl (fun W hS => by go_simp) HSS.out ?_
      go_simp
      refine T_takeD (i := 5) (v := .pointer (some ⟨g, 0, none⟩)) rfl (by kernel_rfl) (fun _ _ _ h => h) rfl (fun W hS => by go_simp) HSS.out ?_
      go_simp
      refine T_takeD (i := 6) (v := .pointer (some ⟨g, 3, none⟩)) rfl (by kernel_rfl) (fun _ _ _ h => h) rfl (fun W hS => by go_simp) HSS.out ?_
      go_simp
      refine T_takeD (i := 7) (v := .int .i64 j) rfl (by kernel_rfl) (fun _ _ _ h => h) rfl (fun W hS => by unfold SNew at hS; obtain ⟨h0, h1, h2⟩ := hS; go_simp) HSS.out ?_
      go_simp
      refine T_takeD (i := 8) (v := .bool false) rfl (by kernel_rfl) (fun _ _ _ h => h) rfl (fun W hS => by unfold SNew at hS; obtain ⟨h0, h1, h2⟩ := hS; go_simp) HSS.out ?_
      go_simp
      refine T_done (by kernel_rfl) ?_
      clear HSS
      go_wp2_with (go_at_call 37; refine HNM.out.mono ?_; rintro e W ⟨rfl, hb⟩; obtain ⟨r1, r2⟩ := HEND.out W ((Below.refl _ _).drew.trans hb); have R2 := Lib.hid r2; have b0 := r1.cell 0; have b1 := r1.cell 1; have g0 := r1.frozen 0; have g1 := r1.frozen 1; simp at b0 b1; clear r1 r2 hb)
      exact bodyPost_ret (retT1 Tryd.results20 rfl (R2.out _).1) rfl ⟨rfl, (R2.out _).2.1, (R2.out _).2.2⟩
end Go.Proofs.YtfhjfhbfgndheaaDoor
