/- Package code: a value's kind, and what stands behind it, are written. -/
import Derived.Test.YtlhkjmckigblpaaGreatDoorYd
import Derived.Test.YtlhkjmckigblpaaGreatDoorYm
namespace Go.Proofs.YtlhkjmckigblpaaGreatDoor
open Go.RowKit Go.Shelf Vp Cp
open Go
attribute [local go_sem] Oper.semAt_some

theorem own_under {B : Nat} {e : TypeId} {k : Nat} {v : Value} {n : Nat} {xs : List Value} {w w' : World} (h : w.ownsRow B e k v n xs) (hb : Below w.heap.size w w') : w'.ownsRow B e k v n xs :=
  World.ownsRow.kept h (row := none) ⟨hb.os, hb.tape, hb.output, hb.size, fun j hj _ => hb.block j hj⟩ (by cases hv : v.ownBlock <;> simp)
theorem bys_of {B : Nat} {l : List UInt8} {c : UInt8} {w : World} {v : Value} {u : Value} (h : w.ownsRow B 5 1 v (l.length + 1) (Lib.byteCells l ++ [u])) (hu : u = .int .u8 (c.toNat : Int)) : Bys B (l ++ [c]) w v := by
  subst hu
  unfold Bys
  rw [byteCells_app, List.length_append]
  simpa [Lib.byteCells] using h
section
variable {P : Program} (w : World)
/-- append of one byte, as a step of a region that draws. -/
theorem step_appB {ops : Array Oper} {o : Oper} {a : Act} {K : Act → World → Prop} {Q : Exit → Act → World → Prop} {E : Prop} (hgd : o.guard = none) (s x : Operand) (t : TypeId)
    (ho : o.op = .call { callee := .builtin .append, args := #[s, x], argTypes := #[t, t] })
    (base : Nat) (e : TypeId) (z : Value) (ht : P.underlying t = some (.slice e)) (hinfo : (P.info? e).map (fun i => (i.zero, i.size, i.bytes)) = some (some z, 1, 1)) (hzs : z.cells.size = 1)
    (v : Value) (n : Nat) (xs : List Value) (hs : a.eval s = v) (hown : w.ownsRow base e 1 v n xs)
    (g c : Nat) (u : Value) (hx : a.eval x = .slice (some ⟨g, 0, none⟩) 1 c) (hu : w.cell? ⟨g, 0, none⟩ = some u) (h1 : u.oneCell' = true)
    (h63 : n + 1 ≤ 140737488355328) (hbase : base ≤ w.heap.size)
    (h : ∀ g' cap' w', Apped w w' base e n g' cap' (xs ++ [u]) → K (a.put o.dst (.slice (some ⟨g', 0, none⟩) (n + 1) cap')) w') :
    if Region.wanted o (yielded ops a.tmps) = true then Oper.wp P o a w K Q else E := by
  obtain ⟨i, hi, hz, hsize, hby⟩ := info_parts hinfo
  refine step_append_own w hgd s x t ho base e i z 1 1 ht hi hz hsize hby hzs (by decide) v n xs hs hown ⟨g, 0, none⟩ 1 c [u] hx rfl ?_ (by simpa using h1) (by unfold maxLen; omega) (by omega) hbase ?_
  · intro j u' hj
    match j, hj with
    | 0, hj => simp at hj; subst hj; simpa [Addr.add] using hu
  · intro v' w' h2 h3 _
    obtain ⟨g', cap', rfl, hA⟩ := apped_of hown hbase h2 h3
    exact h g' cap' w' hA
end

theorem fld (fn : FuncId) (rd : Value) (W : World) : (Instr.field 105 (.agg #[.func (.func fn) #[] #[], rd]) 0).run Tryz.prog W = .ok (.func (.func fn) #[] #[]) W := by kernel_rfl
theorem of_wanted {c : Bool} {X E : Prop} (h : if c = true then X else E) (hc : c = true) : X := by rwa [if_pos hc] at h
theorem s_of {w : World} {g : Nat} {t : TypeId} {x y z u : Value} (h : Blk w g t #[x, y, z, u]) : w.cell? ⟨g, 0, none⟩ = some x ∧ w.cell? ⟨g, 1, none⟩ = some y ∧ w.cell? ⟨g, 2, none⟩ = some z ∧ w.cell? ⟨g, 3, none⟩ = some u := by
  have q0 := h.cell 0; have q1 := h.cell 1; have q2 := h.cell 2; have q3 := h.cell 3
  simp at q0 q1 q2 q3
  exact ⟨q0, q1, q2, q3⟩

set_option maxRecDepth 100000 in
set_option maxHeartbeats 8000000 in
/-- A kind's byte, then what the kind's own writer writes. -/
theorem to_c (B : Nat) (l body : List UInt8) (v : Value) (k : Nat) (hk : k < 256) (n : Int) (s : ByteArray) (A : Option Addr) (N c : Nat) (fn : FuncId) (rd : Value) (w : World) (h : Bys B l w v) (hl : l.length ≤ 60000000000000) (hB : B ≤ w.heap.size)
    (hfo : ∀ W, Calls Tryz.prog 90 #[.int .u8 (k : Int)] W fun e w' => e = .returned (.agg #[.func (.func fn) #[] #[], rd]) ∧ Below W.heap.size W w')
    (hen : Enters Tryz.prog fn)
    (hp : ∀ (W : World) (v' : Value), Below B w W → Bys B (l ++ [UInt8.ofNat k]) W v' → Calls Tryz.prog fn #[.agg #[.int .u8 (k : Int), .int .i64 n, .string s, .slice A N c], v'] W fun e w' => Gives B W (l ++ [UInt8.ofNat k] ++ body) e w') :
    Calls Tryz.prog 53 #[.agg #[.int .u8 (k : Int), .int .i64 n, .string s, .slice A N c], v] w fun e w' => Gives B w (l ++ (UInt8.ofNat k :: body)) e w' := by
  have hfin : l ++ (UInt8.ofNat k :: body) = l ++ [UInt8.ofNat k] ++ body := by simp
  rw [hfin]
  obtain ⟨AB, CB, rfl, _, _, _⟩ := own_slice h
  have HY := Lib.hid (World.ownsRow.drew (h.alloc_ (.cells #[.int .u8 (k : Int), .int .i64 n, .string s, .slice A N c] 79)))
  have HB := Lib.hid (bx_below hB (.cells #[.int .u8 (k : Int), .int .i64 n, .string s, .slice A N c] 79)).drew
  have HX := Lib.hid (Blk.new w 79 #[.int .u8 (k : Int), .int .i64 n, .string s, .slice A N c]).drew
  have HP := Lib.hid hp; have HFO := Lib.hid hfo; have HEN := Lib.hid hen
  have HK : Hid ((.int .u8 (k : Int) : Value) = .int .u8 ((UInt8.ofNat k).toNat : Int)) := Lib.hid (by rw [UInt8.toNat_ofNat', Nat.mod_eq_of_lt hk])
  have hlz : l.length + 1 ≤ 140737488355328 := by omega
  clear h hp hfin hfo hen
  go_enter Tryz.func53, Tryz.ntmps53
  go_upto_region 1 with fail
  generalize w.alloc (.cells #[.int .u8 (k : Int), .int .i64 n, .string s, .slice A N c] 79) = W at HX HB HY ⊢
  refine chain_region (fun W' => W'.cell? ⟨w.heap.size, 0, none⟩ = some (.int .u8 (k : Int)) ∧ W'.cell? ⟨w.heap.size, 1, none⟩ = some (.int .i64 n) ∧ W'.cell? ⟨w.heap.size, 2, none⟩ = some (.string s) ∧ W'.cell? ⟨w.heap.size, 3, none⟩ = some (.slice A N c)) 10 (by kernel_rfl) ?_
  refine T_take (i := 0) (v := .pointer (some ⟨w.heap.size, 0, none⟩)) rfl (by kernel_rfl) (fun _ _ _ h => h) rfl (fun W hS => by go_simp) (s_of HX.out) ?_
  refine T_take (i := 1) (v := .int .u8 (k : Int)) rfl (by kernel_rfl) (fun _ _ _ h => h) rfl (fun W hS => by obtain ⟨h1, h2, h3, h4⟩ := hS; go_simp) (s_of HX.out) ?_
  refine T_take (i := 4) (v := .agg #[.int .u8 (k : Int), .int .i64 n, .string s, .slice A N c]) rfl (by kernel_rfl) (fun _ _ _ h => h) rfl (fun W hS => by obtain ⟨h1, h2, h3, h4⟩ := hS; go_simp) (s_of HX.out) ?_
  refine T_take (i := 5) (v := .slice AB l.length CB) rfl (by kernel_rfl) (fun _ _ _ h => h) rfl (fun W hS => by go_simp) (s_of HX.out) ?_
  refine T_take (i := 6) (v := .pointer (some ⟨w.heap.size, 0, none⟩)) rfl (by kernel_rfl) (fun _ _ _ h => h) rfl (fun W hS => by go_simp) (s_of HX.out) ?_
  refine T_take (i := 7) (v := .int .u8 (k : Int)) rfl (by kernel_rfl) (fun _ _ _ h => h) rfl (fun W hS => by obtain ⟨h1, h2, h3, h4⟩ := hS; go_simp) (s_of HX.out) ?_
  refine T_two (i := 2) (k := 8) rfl rfl (by kernel_rfl) rfl rfl ?_ ?_
  · refine op_callT #[.int .u8 (k : Int)] (by simp [go_sem]) (enters_of Tryz.func90 (by kernel_rfl) rfl _ _) (HFO.out _) ?_
    rintro e wn ⟨rfl, hb1⟩
    have HX1 := Lib.hid (HX.out.below hb1 HX.out.lt); clear HX; have HX := HX1; clear HX1
    have HY1 := Lib.hid (own_under HY.out hb1); clear HY; have HY := HY1; clear HY1
    have HB1 := Lib.hid (HB.out.trans (hb1.mono (Nat.le_trans hB HB.out.size))); clear HB; have HB := HB1; clear HB1
    refine ⟨_, rfl, fun _ => s_of HX.out, ?_⟩
    clear hb1
    refine T_take (i := 3) (v := .func (.func fn) #[] #[]) rfl (by kernel_rfl) (fun _ _ _ h => h) rfl (fun W hS => by go_simp; rw [fld]; rfl) (s_of HX.out) ?_
    refine T_one (i := 8) rfl (by kernel_rfl) rfl ?_
    have HU := Lib.hid (Blk.new wn 5 #[.int .u8 (k : Int)])
    go_simp
    have HX1 := Lib.hid (HX.out.alloc (.cells #[.int .u8 (k : Int)] 5)); clear HX; have HX := HX1; clear HX1
    have HY1 := Lib.hid (World.ownsRow.alloc HY.out (.cells #[.int .u8 (k : Int)] 5)); clear HY; have HY := HY1; clear HY1
    refine ⟨s_of HX.out, ?_⟩
    have HB1 := Lib.hid (HB.out.alloc (Nat.le_trans hB HB.out.size) (.cells #[.int .u8 (k : Int)] 5)); clear HB; have HB := HB1; clear HB1
    refine T_one (i := 9) rfl (by kernel_rfl) rfl ?_
    refine of_wanted (E := False) (step_appB (ops := #[]) _ rfl (.tmp 10) (.tmp 13) 23 rfl B 5 (.int .u8 0) Tryz.underlying23 infoB rfl _ l.length _ rfl HY.out _ 1 (.int .u8 (k : Int)) rfl (HU.out.cell 0) (by simp [Value.oneCell']) hlz (Nat.le_trans hB HB.out.size) ?_) rfl
    intro g' cap' w3 hA
    have HX1 := Lib.hid (hA.blk HX.out (by decide)); clear HX; have HX := HX1; clear HX1
    have HB1 := Lib.hid (HB.out.trans hA.2.2); clear HB; have HB := HB1; clear HB1
    have HY1 := Lib.hid (hA.1); clear HY; have HY := HY1; clear HY1
    refine ⟨fun _ => s_of HX.out, ?_⟩
    refine T_one (i := 10) rfl (by kernel_rfl) rfl ?_
    refine op_callV #[.agg #[.int .u8 (k : Int), .int .i64 n, .string s, .slice A N c], .slice (some ⟨g', 0, none⟩) (l.length + 1) cap'] rfl (by simp [go_sem]) (HEN.out _ _) (HP.out _ _ HB.out (bys_of HY.out HK.out)) ?_
    rintro e w9 ⟨v9, rfl, hy9, hb9⟩
    have HF := Lib.hid hy9; have HBF := Lib.hid (HB.out.trans hb9); clear hy9 hb9
    refine ⟨_, rfl, fun hh => absurd hh (by decide), ?_⟩
    refine T_one (i := 11) rfl (by kernel_rfl) rfl ?_
    go_simp
    refine T_done (by kernel_rfl) ?_
    go_wp2_with fail
    go_ret
    exact Gives.mk_ HF.out HBF.out
  · have HU := Lib.hid (Blk.new W.drew 5 #[.int .u8 (k : Int)])
    go_simp
    have HX1 := Lib.hid (HX.out.alloc (.cells #[.int .u8 (k : Int)] 5)); clear HX; have HX := HX1; clear HX1
    have HY1 := Lib.hid (World.ownsRow.alloc HY.out (.cells #[.int .u8 (k : Int)] 5)); clear HY; have HY := HY1; clear HY1
    refine ⟨s_of HX.out, ?_⟩
    have HB1 := Lib.hid (HB.out.alloc (Nat.le_trans hB HB.out.size) (.cells #[.int .u8 (k : Int)] 5)); clear HB; have HB := HB1; clear HB1
    refine T_one (i := 2) rfl (by kernel_rfl) rfl ?_
    refine op_callT #[.int .u8 (k : Int)] (by simp [go_sem]) (enters_of Tryz.func90 (by kernel_rfl) rfl _ _) (HFO.out _) ?_
    rintro e wn ⟨rfl, hb1⟩
    have HX1 := Lib.hid (HX.out.below hb1 HX.out.lt); clear HX; have HX := HX1; clear HX1
    have HY1 := Lib.hid (own_under HY.out hb1); clear HY; have HY := HY1; clear HY1
    have HB1 := Lib.hid (HB.out.trans (hb1.mono (Nat.le_trans hB HB.out.size))); clear HB; have HB := HB1; clear HB1
    have HU1 := Lib.hid (HU.out.below hb1 HU.out.lt); clear HU; have HU := HU1; clear HU1
    refine ⟨_, rfl, fun _ => s_of HX.out, ?_⟩
    clear hb1
    refine T_take (i := 3) (v := .func (.func fn) #[] #[]) rfl (by kernel_rfl) (fun _ _ _ h => h) rfl (fun W hS => by go_simp; rw [fld]; rfl) (s_of HX.out) ?_
    refine T_one (i := 9) rfl (by kernel_rfl) rfl ?_
    refine of_wanted (E := False) (step_appB (ops := #[]) _ rfl (.tmp 10) (.tmp 13) 23 rfl B 5 (.int .u8 0) Tryz.underlying23 infoB rfl _ l.length _ rfl HY.out _ 1 (.int .u8 (k : Int)) rfl (HU.out.cell 0) (by simp [Value.oneCell']) hlz (Nat.le_trans hB HB.out.size) ?_) rfl
    intro g' cap' w3 hA
    have HX1 := Lib.hid (hA.blk HX.out (by decide)); clear HX; have HX := HX1; clear HX1
    have HB1 := Lib.hid (HB.out.trans hA.2.2); clear HB; have HB := HB1; clear HB1
    have HY1 := Lib.hid (hA.1); clear HY; have HY := HY1; clear HY1
    refine ⟨fun _ => s_of HX.out, ?_⟩
    refine T_one (i := 10) rfl (by kernel_rfl) rfl ?_
    refine op_callV #[.agg #[.int .u8 (k : Int), .int .i64 n, .string s, .slice A N c], .slice (some ⟨g', 0, none⟩) (l.length + 1) cap'] rfl (by simp [go_sem]) (HEN.out _ _) (HP.out _ _ HB.out (bys_of HY.out HK.out)) ?_
    rintro e w9 ⟨v9, rfl, hy9, hb9⟩
    have HF := Lib.hid hy9; have HBF := Lib.hid (HB.out.trans hb9); clear hy9 hb9
    refine ⟨_, rfl, fun hh => absurd hh (by decide), ?_⟩
    refine T_one (i := 11) rfl (by kernel_rfl) rfl ?_
    go_simp
    refine T_done (by kernel_rfl) ?_
    go_wp2_with fail
    go_ret
    exact Gives.mk_ HF.out HBF.out
end Go.Proofs.YtlhkjmckigblpaaGreatDoor
