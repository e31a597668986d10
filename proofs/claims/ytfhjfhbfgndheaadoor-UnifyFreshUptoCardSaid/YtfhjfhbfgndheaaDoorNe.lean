/- Package unify: root. -/
import Derived.Test.YtfhjfhbfgndheaaDoorNd
import Derived.BigRegion
namespace Go.Proofs.YtfhjfhbfgndheaaDoor
open Go.RowKit Go.Shelf Un
open Go
attribute [local go_sem] Oper.semAt_some

/-- What a place of the list of roots reads as. -/
theorem up_cell {F : Nat → Prop} {up : List Nat} {w : World} {ob l c : Nat} (h : Gd.Own F (fun _ => False) 3 1 (up.map numD) w (.slice (some ⟨ob, 0, none⟩) l c)) {n : Nat} (hn : n < up.length) :
    l = up.length ∧ w.cell? ⟨ob, n, none⟩ = some (.int .i64 (up[n] : Int)) ∧ w.frozen? ⟨ob, n, none⟩ = false ∧ ob < w.heap.size ∧ up.length ≤ c ∧ c ≤ maxLen := by
  obtain ⟨g, c', cs, hv, h1, h2, h3, _, _, h4, h5, h6, _⟩ := h.at_ (j := n) (by simpa using hn)
  injection hv with e1 e2 e3
  injection e1 with e1
  injection e1 with e1
  subst e1 e2 e3
  have hr := (h4.rep)
  simp only [List.getElem_map] at hr
  obtain ⟨rfl, _⟩ := hr.int_
  have := h5 0 _ rfl
  simp only [Nat.mul_one, Nat.add_zero] at this
  simp only [List.length_map] at h1 ⊢
  exact ⟨trivial, this, h6 n, h3, h1, h2⟩
theorem own_some {F S : Nat → Prop} {e : TypeId} {sz : Nat} {ds : List Gd.D} {w : World} {v : Value} (h : Gd.Own F S e sz ds w v) (hn : 0 < ds.length) : ∃ ob c, v = .slice (some ⟨ob, 0, none⟩) ds.length c := by
  rcases h.val with ⟨_, rfl⟩ | ⟨g, c, hv, _⟩
  · simp at hn
  · exact ⟨g, c, hv⟩
set_option maxRecDepth 100000 in
set_option maxHeartbeats 2000000 in
theorem root_c {B0 K : Nat} {F : Nat → Prop} {st : St} {up : List Nat} {rk : Nat → Nat} {ins : List Bool} {tv ov : Value} {mb kb g : Nat} {w : World} (h : BRx B0 F K st up rk ins tv ov mb kb w g) (n : Nat) (hn : n < st.ts.length) :
    Calls Tryd.prog 45 #[.pointer (some ⟨g, 0, none⟩), .int .i64 (n : Int)] w fun e w' => e = .returned (.int .i64 (st.ρ n : Int)) ∧ (∃ up', BRx B0 F K st up' rk ins tv ov mb kb w' g) ∧ Keep (fun b => ov.ownBlock = some b) w w' := by
  have hlen := h.len
  obtain ⟨ob, c, rfl⟩ := own_some h.upR (by rw [List.length_map]; omega)
  rw [List.length_map] at h ⊢
  have hmax : maxLen = 9223372036854775807 := rfl
  have HH := Lib.hid h
  clear h
  go_enter Tryd.func45, Tryd.ntmps45
  go_wp2_with fail
  go_loopg [1] (rk n + 1) (fun gg s1 wr => ∃ (m : Nat) (up' : List Nat), m < st.ts.length ∧ st.ρ m = st.ρ n ∧ gg = rk m + 1 ∧ s1 = .int .i64 (m : Int) ∧ BRx B0 F K st up' rk ins tv (.slice (some ⟨ob, 0, none⟩) up.length c) mb kb wr g ∧ Keep (fun b => (Value.slice (some ⟨ob, 0, none⟩) up.length c).ownBlock = some b) w wr)
  case atStart => exact ⟨n, up, hn, rfl, rfl, rfl, HH.out, Keep.refl _ _⟩
  case round =>
    obtain ⟨m, up', hm, hr, hg, rfl, hB, hK⟩ := hrel
    have hm' : m < up'.length := by rw [hB.len]; exact hm
    obtain ⟨hl, c0, c1, hob, hc1, hc2⟩ := up_cell hB.upR hm'
    have g1 := hB.blk.cell 1
    simp at g1
    have hf := hB.for_
    have hmi : (m : Int) < (up.length : Int) := by omega
    by_cases he : up'[m] = m
    · have hei : ((up'[m] : Nat) : Int) = (m : Int) := by omega
      have hres : st.ρ n = m := by rw [← hr, hf.fix m hm' he]
      have HB := Lib.hid hB; have HK := Lib.hid hK
      clear hB hK hf
      rw [hei] at c0
      go_wp2_with fail
      go_ret
      rw [hres]
      exact ⟨rfl, ⟨_, HB.out⟩, HK.out⟩
    · have hnei : ¬ ((up'[m] : Nat) : Int) = (m : Int) := by omega
      have h2 := hf.lt m hm'
      obtain ⟨_, d0, d1, _⟩ := up_cell hB.upR h2
      have hp : ((up'[m] : Nat) : Int) < (up.length : Int) := by omega
      have hB2 := hB.setUp (x := up'[up'[m]]) hm' rfl (st' := st) (rk' := rk) ⟨rfl, rfl, rfl⟩ (hf.halve hm' he) hB.ins_ (by have := hf.lt _ h2; have := hB.few; have := hB.lim; have := hB.len; omega)
      have hK2 := hK.set ⟨ob, m, none⟩ rfl (.int .i64 ((up'[up'[m]] : Nat) : Int))
      have hm2 : up'[up'[m]] < (up'.set m up'[up'[m]]).length := by rw [List.length_set]; exact hf.lt _ h2
      obtain ⟨x1, hx1⟩ : ∃ x : Nat, x = up'[m] := ⟨_, rfl⟩
      obtain ⟨x2, hx2⟩ : ∃ x : Nat, x = up'[up'[m]] := ⟨_, rfl⟩
      rw [← hx2] at hB2 hK2
      have hdec := hf.dec m hm' he
      have hst := hf.st m hm'
      have hst2 := hf.st _ h2
      have hr2 : rk x2 < rk m ∧ x2 < st.ts.length ∧ st.ρ x2 = st.ρ n := by
        rw [hx2]
        refine ⟨?_, by have := hf.lt _ h2; have := hB.len; omega, by rw [hst2, hst, hr]⟩
        by_cases e : up'[up'[m]] = up'[m]
        · rw [e]; exact hdec
        · have := hf.dec _ h2 e; omega
      have e0 := (hB2.blk.cell 1)
      have e1 := (up_cell hB2.upR (n := m) (by rw [List.length_set]; exact hm')).2.1
      rw [List.getElem_set_self] at e1
      simp at e0
      rw [← hx2] at d0
      rw [← hx1] at c0 d0 d1 hp hnei
      have hx0 : (0 : Int) ≤ (x1 : Int) := by omega
      have HB2 := Lib.hid hB2; have HK2 := Lib.hid hK2; have HG := Lib.hid hg; have HR := Lib.hid hr2
      clear hB hK hf hB2 hK2 hm2 hdec hst hst2 hr2 hx1 hx2 he h2 hg
      obtain ⟨W, hW⟩ : ∃ W, W = wr := ⟨_, rfl⟩
      go_wp2_with fail
      go_region
      go_wp2_with fail
      go_roundg (rk x2 + 1)
      case measure => have := HG.out; have := HR.out.1; omega
      case rel => exact ⟨x2, _, HR.out.2.1, HR.out.2.2, rfl, rfl, HB2.out.drew, HK2.out.drew⟩
end Go.Proofs.YtfhjfhbfgndheaaDoor
