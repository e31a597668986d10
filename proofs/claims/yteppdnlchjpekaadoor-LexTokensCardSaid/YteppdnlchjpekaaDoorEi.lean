/- Package lex: the finder of signs. -/
import Derived.Test.YteppdnlchjpekaaDoorEh
import Derived.Deep.WholeRow
import Derived.Laws.Rows
namespace Go.Proofs.YteppdnlchjpekaaDoor
open Go.RowKit Lx
open Go
attribute [local go_sem] Oper.semAt_some

namespace Lx
def signs : List (List UInt8) := [[58, 45], [61, 61], [33, 61], [60, 61], [62, 61], [43, 43], [40], [41], [44], [46], [58], [61], [124], [60], [62], [43], [45], [42], [47], [37], [39]]
def fSign (l : List UInt8) : Fnd :=
  match signs.find? (fun g => Lib.hasPrefix l g) with
  | some g => (8, g, g.length)
  | none => no
end Lx
def sgV : Array Value := #[.string ⟨#[58, 45]⟩, .string ⟨#[61, 61]⟩, .string ⟨#[33, 61]⟩, .string ⟨#[60, 61]⟩, .string ⟨#[62, 61]⟩, .string ⟨#[43, 43]⟩, .string ⟨#[40]⟩, .string ⟨#[41]⟩, .string ⟨#[44]⟩, .string ⟨#[46]⟩, .string ⟨#[58]⟩, .string ⟨#[61]⟩, .string ⟨#[124]⟩, .string ⟨#[60]⟩, .string ⟨#[62]⟩, .string ⟨#[43]⟩, .string ⟨#[45]⟩, .string ⟨#[42]⟩, .string ⟨#[47]⟩, .string ⟨#[37]⟩, .string ⟨#[39]⟩]
theorem sgV_eq : (#[.string ⟨#[58, 45]⟩, .string ⟨#[61, 61]⟩, .string ⟨#[33, 61]⟩, .string ⟨#[60, 61]⟩, .string ⟨#[62, 61]⟩, .string ⟨#[43, 43]⟩, .string ⟨#[40]⟩, .string ⟨#[41]⟩, .string ⟨#[44]⟩, .string ⟨#[46]⟩, .string ⟨#[58]⟩, .string ⟨#[61]⟩, .string ⟨#[124]⟩, .string ⟨#[60]⟩, .string ⟨#[62]⟩, .string ⟨#[43]⟩, .string ⟨#[45]⟩, .string ⟨#[42]⟩, .string ⟨#[47]⟩, .string ⟨#[37]⟩, .string ⟨#[39]⟩] : Array Value) = sgV := rfl
theorem ix0 (W : World) : (Instr.index 94 (.agg sgV) (.int .i64 0)).run Tryd.prog W = .ok (.string ⟨#[58, 45]⟩) W := by kernel_rfl
theorem ix1 (W : World) : (Instr.index 94 (.agg sgV) (.int .i64 1)).run Tryd.prog W = .ok (.string ⟨#[61, 61]⟩) W := by kernel_rfl
theorem ix2 (W : World) : (Instr.index 94 (.agg sgV) (.int .i64 2)).run Tryd.prog W = .ok (.string ⟨#[33, 61]⟩) W := by kernel_rfl
theorem ix3 (W : World) : (Instr.index 94 (.agg sgV) (.int .i64 3)).run Tryd.prog W = .ok (.string ⟨#[60, 61]⟩) W := by kernel_rfl
theorem ix4 (W : World) : (Instr.index 94 (.agg sgV) (.int .i64 4)).run Tryd.prog W = .ok (.string ⟨#[62, 61]⟩) W := by kernel_rfl
theorem ix5 (W : World) : (Instr.index 94 (.agg sgV) (.int .i64 5)).run Tryd.prog W = .ok (.string ⟨#[43, 43]⟩) W := by kernel_rfl
theorem ix6 (W : World) : (Instr.index 94 (.agg sgV) (.int .i64 6)).run Tryd.prog W = .ok (.string ⟨#[40]⟩) W := by kernel_rfl
theorem ix7 (W : World) : (Instr.index 94 (.agg sgV) (.int .i64 7)).run Tryd.prog W = .ok (.string ⟨#[41]⟩) W := by kernel_rfl
theorem ix8 (W : World) : (Instr.index 94 (.agg sgV) (.int .i64 8)).run Tryd.prog W = .ok (.string ⟨#[44]⟩) W := by kernel_rfl
theorem ix9 (W : World) : (Instr.index 94 (.agg sgV) (.int .i64 9)).run Tryd.prog W = .ok (.string ⟨#[46]⟩) W := by kernel_rfl
theorem ix10 (W : World) : (Instr.index 94 (.agg sgV) (.int .i64 10)).run Tryd.prog W = .ok (.string ⟨#[58]⟩) W := by kernel_rfl
theorem ix11 (W : World) : (Instr.index 94 (.agg sgV) (.int .i64 11)).run Tryd.prog W = .ok (.string ⟨#[61]⟩) W := by kernel_rfl
theorem ix12 (W : World) : (Instr.index 94 (.agg sgV) (.int .i64 12)).run Tryd.prog W = .ok (.string ⟨#[124]⟩) W := by kernel_rfl
theorem ix13 (W : World) : (Instr.index 94 (.agg sgV) (.int .i64 13)).run Tryd.prog W = .ok (.string ⟨#[60]⟩) W := by kernel_rfl
theorem ix14 (W : World) : (Instr.index 94 (.agg sgV) (.int .i64 14)).run Tryd.prog W = .ok (.string ⟨#[62]⟩) W := by kernel_rfl
theorem ix15 (W : World) : (Instr.index 94 (.agg sgV) (.int .i64 15)).run Tryd.prog W = .ok (.string ⟨#[43]⟩) W := by kernel_rfl
theorem ix16 (W : World) : (Instr.index 94 (.agg sgV) (.int .i64 16)).run Tryd.prog W = .ok (.string ⟨#[45]⟩) W := by kernel_rfl
theorem ix17 (W : World) : (Instr.index 94 (.agg sgV) (.int .i64 17)).run Tryd.prog W = .ok (.string ⟨#[42]⟩) W := by kernel_rfl
theorem ix18 (W : World) : (Instr.index 94 (.agg sgV) (.int .i64 18)).run Tryd.prog W = .ok (.string ⟨#[47]⟩) W := by kernel_rfl
theorem ix19 (W : World) : (Instr.index 94 (.agg sgV) (.int .i64 19)).run Tryd.prog W = .ok (.string ⟨#[37]⟩) W := by kernel_rfl
theorem ix20 (W : World) : (Instr.index 94 (.agg sgV) (.int .i64 20)).run Tryd.prog W = .ok (.string ⟨#[39]⟩) W := by kernel_rfl
theorem ix_sg (k : Nat) (hk : k < 21) (W : World) : (Instr.index 94 (.agg sgV) (.int .i64 (k : Int))).run Tryd.prog W = .ok (.string ⟨(signs.getD k []).toArray⟩) W := by
  have hks : k = 0 ∨ k = 1 ∨ k = 2 ∨ k = 3 ∨ k = 4 ∨ k = 5 ∨ k = 6 ∨ k = 7 ∨ k = 8 ∨ k = 9 ∨ k = 10 ∨ k = 11 ∨ k = 12 ∨ k = 13 ∨ k = 14 ∨ k = 15 ∨ k = 16 ∨ k = 17 ∨ k = 18 ∨ k = 19 ∨ k = 20 := by omega
  rcases hks with rfl | rfl | rfl | rfl | rfl | rfl | rfl | rfl | rfl | rfl | rfl | rfl | rfl | rfl | rfl | rfl | rfl | rfl | rfl | rfl | rfl
  · exact ix0 W
  · exact ix1 W
  · exact ix2 W
  · exact ix3 W
  · exact ix4 W
  · exact ix5 W
  · exact ix6 W
  · exact ix7 W
  · exact ix8 W
  · exact ix9 W
  · exact ix10 W
  · exact ix11 W
  · exact ix12 W
  · exact ix13 W
  · exact ix14 W
  · exact ix15 W
  · exact ix16 W
  · exact ix17 W
  · exact ix18 W
  · exact ix19 W
  · exact ix20 W
def zerV : Array Value := Array.replicate 21 (.string ⟨#[]⟩)
theorem alloc_sg (w : World) : (Instr.alloc 94 true (.tuple #[])).run Tryd.prog w = .ok (.pointer (some ⟨w.heap.size, 0, none⟩)) (w.alloc (.cells zerV 94)) := by kernel_rfl
section
variable {P : Program} {ops : Array Oper} {rest : List Oper} {o : Oper} {a : Act} {Q : Exit → Act → World → Prop} {w w' : World}
theorem wpList_v (hg : o.guard = none) {s : Sem Value} {x : Value} (he : execOp a.eval o = (do pure (.value (← s)))) (hr : s.run P w = .ok x w') (h : wpList P ops Q rest (a.put o.dst x) w') : wpList P ops Q (o :: rest) a w := by
  refine wpList_plain hg fun K' hK' => ?_
  unfold Oper.wp
  rw [he]
  simp [hr, Result.andThen]
  exact hK' _ _ h
theorem wpList_u (hg : o.guard = none) {s : Sem Unit} (he : execOp a.eval o = (do s; pure .skip)) (hr : s.run P w = .ok () w') (h : wpList P ops Q rest (a.put o.dst undef) w') : wpList P ops Q (o :: rest) a w := by
  refine wpList_plain hg fun K' hK' => ?_
  unfold Oper.wp
  rw [he]
  simp [hr, Result.andThen]
  exact hK' _ _ h
end
theorem sg_len : ∀ k : Nat, k < 21 → (signs.getD k []).length ≤ 2 := by decide
theorem sg_get (k : Nat) (hk : k < 21) : signs[k]? = some (signs.getD k []) := by
  rw [List.getD_eq_getElem?_getD, List.getElem?_eq_getElem (by exact hk)]; rfl
theorem sign_at {l : List UInt8} {k : Nat} {g : List UInt8} (hn : ∀ x ∈ signs.take k, Lib.hasPrefix l x = false) (hg : signs[k]? = some g) (h : Lib.hasPrefix l g = true) : fSign l = (8, g, g.length) := by
  have e : signs.find? (fun g => Lib.hasPrefix l g) = some g := by
    rw [← List.take_append_drop k signs, List.find?_append, List.find?_eq_none.2 (fun x hx => by simp [hn x hx]), Option.none_or]
    obtain ⟨hk, rfl⟩ := List.getElem?_eq_some_iff.1 hg
    rw [List.drop_eq_getElem_cons hk, List.find?_cons, h]
  unfold fSign
  rw [e]
theorem sign_no {l : List UInt8} (hn : ∀ x ∈ signs, Lib.hasPrefix l x = false) : fSign l = no := by
  unfold fSign
  rw [List.find?_eq_none.2 (fun x hx => by simp [hn x hx])]
theorem sign_more {l : List UInt8} {k : Nat} {g : List UInt8} (hn : ∀ x ∈ signs.take k, Lib.hasPrefix l x = false) (hg : signs[k]? = some g) (h : Lib.hasPrefix l g = false) : ∀ x ∈ signs.take (k + 1), Lib.hasPrefix l x = false := by
  intro x hx
  obtain ⟨hk, rfl⟩ := List.getElem?_eq_some_iff.1 hg
  rw [List.take_succ_eq_append_getElem hk] at hx
  rcases List.mem_append.1 hx with h' | h'
  · exact hn x h'
  · rw [List.mem_singleton.1 h']; exact h
set_option maxRecDepth 100000 in
set_option maxHeartbeats 800000 in
theorem fsign_c (s : ByteArray) (w : World) : Calls Tryd.prog 42 #[.string s] w fun e w' => e = .returned (fv (fSign s.data.toList)) ∧ Below w.heap.size w w' := by
  obtain ⟨F0, hF0⟩ : ∃ F0, F0 = fSign s.data.toList := ⟨_, rfl⟩
  rw [← hF0]
  have HP := Lib.hid (fun p W => Tryd.strings_HasPrefix s p W)
  have HF0 := Lib.hid hF0
  clear hF0
  go_enter Tryd.func42, Tryd.ntmps42
  go_upto_region 1 with fail
  refine wp_region_list ?_
  refine wpList_v rfl rfl (run_build _ _ _ sgV (by kernel_rfl)) ?_
  refine wpList_v rfl rfl (alloc_sg _) ?_
  refine wpList_u rfl rfl (run_storeAt_new _ _ zerV sgV (by kernel_rfl) (by kernel_rfl) (by kernel_rfl)) ?_
  refine wpList_nil ?_
  go_upto_region 2 with fail
  refine wp_region_list ?_
  refine wpList_v rfl rfl (run_loadAt_new _ _ sgV _ _ Tryd.underlying94 (by kernel_rfl)) ?_
  go_wp2_with fail
  go_loopg [9] 22 (fun gg s9 wr => ∃ k : Nat, k ≤ 21 ∧ gg = 22 - k ∧ s9 = .int .i64 (k : Int) ∧ (∀ x ∈ signs.take k, Lib.hasPrefix s.data.toList x = false) ∧ Blk wr w.heap.size 44 #[.int .i64 0, .int .i64 0, .int .u8 0, .string ⟨#[]⟩] ∧ Below w.heap.size w wr)
  case atStart => exact ⟨0, Nat.zero_le _, rfl, rfl, by simp, (Blk.new _ _ _).alloc _, ((Below.refl _ _).alloc (Nat.le_refl _) _).alloc (by simp) _⟩
  case round =>
    obtain ⟨k, hk, hg, rfl, ha, hx, hb⟩ := hrel
    have HG := Lib.hid hg; have HA := Lib.hid ha; have HX := Lib.hid hx; have HB1 := Lib.hid hb
    have y0 := hx.cell 0; have y1 := hx.cell 1; have y2 := hx.cell 2; have y3 := hx.cell 3; have z0 := hx.frozen 0; have z1 := hx.frozen 1; have z2 := hx.frozen 2; have z3 := hx.frozen 3
    simp at y0 y1 y2 y3
    clear hg ha hx hb
    by_cases hlt : k < 21
    · have hltz : (k : Int) < 21 := by omega
      have hix := ix_sg k hlt wr
      have hgl := sg_len k hlt
      have hgt := sg_get k hlt
      obtain ⟨G, hG⟩ : ∃ G : ByteArray, G = ⟨(signs.getD k []).toArray⟩ := ⟨_, rfl⟩
      have hG2 : G.data.toList = signs.getD k [] := by rw [hG]
      rw [← hG] at hix
      rw [← hG2] at hgl hgt
      have hgs : G.size ≤ 2 := by rw [size_list]; exact hgl
      have hp := HP.out G wr
      obtain ⟨q, hq⟩ : ∃ q, Lib.hasPrefix s.data.toList G.data.toList = q := ⟨_, rfl⟩
      rw [hq] at hp
      have HPP := Lib.hid hp; have HQ := Lib.hid hq; have HIX := Lib.hid hix; have HGT := Lib.hid hgt; have HSL := Lib.hid (size_list G)
      clear hp hq hix hG hG2 hgl hgt
      cases q
      · go_wp2_with fail
        rw [HIX.out]
        simp only [Result.andThen]
        rw [Oper.upon_value]
        go_wp2_with fail
        refine HPP.out.mono ?_
        rintro e w2 ⟨rfl, rfl⟩
        go_wp2_with fail
        go_roundg (22 - (k + 1))
        case measure => have := HG.out; omega
        case rel => exact ⟨k + 1, by omega, rfl, by go_num, sign_more HA.out HGT.out HQ.out, HX.out, HB1.out⟩
      · go_wp2_with fail
        rw [HIX.out]
        simp only [Result.andThen]
        rw [Oper.upon_value]
        go_wp2_with fail
        refine HPP.out.mono ?_
        rintro e w2 ⟨rfl, rfl⟩
        go_wp2_with fail
        have hs0 := sign_at HA.out HGT.out HQ.out
        refine bodyPost_ret (retF Tryd.results42 rfl rfl HX.out.store4) rfl ⟨by rw [HF0.out, hs0]; exact congrArg Ending.returned (fv_i (k := 8) (S := G) rfl (by rw [HSL.out])), ((((HB1.out.setCell (by simp) _).setCell (by simp) _).setCell (by simp) _).setCell (by simp) _)⟩
    · have hltz : ¬ (k : Int) < 21 := by omega
      obtain rfl : k = 21 := by omega
      go_wp2_with fail
      have hs0 := sign_no HA.out
      refine bodyPost_ret (retF Tryd.results42 rfl rfl HX.out.store4) rfl ⟨by rw [HF0.out, hs0]; rfl, ((((HB1.out.setCell (by simp) _).setCell (by simp) _).setCell (by simp) _).setCell (by simp) _)⟩
end Go.Proofs.YteppdnlchjpekaaDoor
