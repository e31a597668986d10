/- Package intern: the walk of Find. -/
import Derived.Test.YtibpebhepoeikaaDoorIj
namespace Go.Proofs.YtibpebhepoeikaaDoor
open Go.RowKit Go.Shelf Vp Tx
open Go
attribute [local go_sem] Oper.semAt_some

/-- What a look in a table, for any value, says. -/
def findV (ts : List V) (t : V) : Option Nat := if chkV t = 0 then pos ts (txtV t) else none
theorem pos_nil {ts : List V} (h : ∀ t ∈ ts, chkV t = 0) : pos ts [] = none := by
  unfold pos
  rw [List.findIdx?_eq_none_iff]
  intro t ht
  have := txt_some (valid_fine (h t ht))
  simp [this]
theorem look_any {F : Nat → Prop} {ts : List V} {w : World} {mv : Value} (hm : MapR F ts w mv) (hd : Apart ts) (s : List UInt8) (hs : s.length ≤ maxLen) :
    (Instr.lookup 55 mv (.string ⟨s.toArray⟩) true).run Tryd.prog w = .ok (.tuple #[.int .i64 (((pos ts s).getD 0 : Nat) : Int), .bool (pos ts s).isSome]) w := by
  have hsz : (⟨s.toArray⟩ : ByteArray).size ≤ maxLen := by show s.toArray.size ≤ maxLen; simpa using hs
  rcases hm with ⟨rfl, rfl⟩ | ⟨b, rfl, _, h⟩
  · exact look_none w _ hsz
  · exact look_map h hd ⟨s.toArray⟩ hsz
theorem findV_eq {ts : List V} {t : V} (h : ∀ t ∈ ts, chkV t = 0) {s : List UInt8} (hs : s = if chkV t = 0 then txtV t else []) : pos ts s = findV ts t := by
  unfold findV
  rw [hs]
  by_cases hc : chkV t = 0
  · rw [if_pos hc, if_pos hc]
  · rw [if_neg hc, if_neg hc, pos_nil h]
def SFind (g B : Nat) (mv : Value) (k : Nat) (n : Int) (s : ByteArray) (A : Option Addr) (ln c : Nat) (W : World) : Prop := W.cell? ⟨g, 0, none⟩ = some mv ∧ W.cell? ⟨B, 0, none⟩ = some (.int .u8 (k : Int)) ∧ W.cell? ⟨B, 1, none⟩ = some (.int .i64 n) ∧ W.cell? ⟨B, 2, none⟩ = some (.string s) ∧ W.cell? ⟨B, 3, none⟩ = some (.slice A ln c)
theorem SFind.below {g B : Nat} {sv : Value} {k : Nat} {n : Int} {s : ByteArray} {A : Option Addr} {ln c : Nat} {W W' : World} {B0 : Nat} (h : SFind g B sv k n s A ln c W) (hb : Below B0 W W') (hg : g < B0) (hB : B < B0) : SFind g B sv k n s A ln c W' := by
  obtain ⟨h0, h1, h2, h3, h4⟩ := h
  exact ⟨(hb.cell (p := ⟨g, 0, none⟩) hg).trans h0, (hb.cell (p := ⟨B, 0, none⟩) hB).trans h1, (hb.cell (p := ⟨B, 1, none⟩) hB).trans h2, (hb.cell (p := ⟨B, 2, none⟩) hB).trans h3, (hb.cell (p := ⟨B, 3, none⟩) hB).trans h4⟩
set_option maxRecDepth 100000 in
set_option maxHeartbeats 4000000 in
theorem find_c (F : Nat → Prop) (ts : List V) (g : Nat) (t : V) (u : Value) (w : World) (hT : TabR F ts w g) (hv : VRep w w.heap.size t u) (htx : chkV t = 0 → (txtV t).length ≤ 900000000) (htab : TabF w.heap.size w) :
    Calls Tryd.prog 15 #[.pointer (some ⟨g, 0, none⟩), u] w fun e w' => e = .returned (.tuple #[.int .i64 (((findV ts t).getD 0 : Nat) : Int), .bool (findV ts t).isSome]) ∧ Below w.heap.size w w' := by
  obtain ⟨k, n, s, l, A, c, ht, rfl, hk, hn, hs, hR⟩ := hv.open_
  obtain ⟨W0, hW⟩ : ∃ W, W = w.alloc (.cells #[.int .u8 (k : Int), .int .i64 n, .string s, .slice A l.length c] 42) := ⟨_, rfl⟩
  have hBW : Below w.heap.size w W0 := hW ▸ (Below.refl _ _).alloc (Nat.le_refl _) _
  have hbx : Blk W0 w.heap.size 42 #[.int .u8 (k : Int), .int .i64 n, .string s, .slice A l.length c] := hW ▸ Blk.new _ _ _
  obtain ⟨mv, sv, hblk, hmap, _⟩ := hT.rep
  obtain ⟨x, hx⟩ : ∃ x : List UInt8, x = if chkV t = 0 then txtV t else [] := ⟨_, rfl⟩
  have hsh : ∀ W', Below W0.heap.size W0 W' → Calls Tryd.prog 30 #[.agg #[.int .u8 (k : Int), .int .i64 n, .string s, .slice A l.length c]] W' fun e w' => e = .returned (.string ⟨x.toArray⟩) ∧ Below W'.heap.size W' w' := fun W' hb => by
    have hv' := (hv.under (hBW.trans (hb.mono hBW.size))).more (Nat.le_trans hBW.size hb.size)
    by_cases hc : chkV t = 0
    · rw [if_pos hc] at hx
      rw [hx]
      exact show_c t hc (htx hc) _ W' hv' ((htab.below (hBW.trans (hb.mono hBW.size))).more (Nat.le_trans hBW.size hb.size))
    · rw [if_neg hc] at hx
      rw [hx]
      exact show_bad t _ rfl hc _ W' hv'
  have hxl : x.length ≤ maxLen := by
    rw [hx]; unfold maxLen; split
    · have := htx ‹_›; omega
    · simp
  have hfind := findV_eq (fun t ht => (hT.ok t ht).1) hx
  have hlk : ∀ W', Below w.heap.size w W' → (Instr.lookup 55 mv (.string ⟨x.toArray⟩) true).run Tryd.prog W' = .ok (.tuple #[.int .i64 (((findV ts t).getD 0 : Nat) : Int), .bool (findV ts t).isSome]) W' := fun W' hb => by
    rw [← hfind]
    exact look_any (hmap.keep fun b _ hl => hb.block b hl) hT.apart x hxl
  obtain ⟨m, hm⟩ : ∃ m : Nat, m = (findV ts t).getD 0 := ⟨_, rfl⟩
  obtain ⟨q, hq⟩ : ∃ q : Bool, q = (findV ts t).isSome := ⟨_, rfl⟩
  rw [← hm, ← hq] at hlk ⊢
  have hS0 : SFind g w.heap.size mv k n s A l.length c W0 := by
    have d0 := (hblk.below hBW hblk.lt).cell 0
    have b0 := hbx.cell 0; have b1 := hbx.cell 1; have b2 := hbx.cell 2; have b3 := hbx.cell 3
    simp at d0 b0 b1 b2 b3
    exact ⟨d0, b0, b1, b2, b3⟩
  have HSH := Lib.hid hsh; have HLK := Lib.hid hlk; have HS0 := Lib.hid hS0; have HBW := Lib.hid hBW; have HG := Lib.hid hblk.lt
  have HSZ : Hid (W0.heap.size = w.heap.size + 1) := Lib.hid (by rw [hW]; simp)
  have HW := Lib.hid hW
  clear hsh hlk hS0 hBW hbx hblk hmap hT hv hR htx htab hx hxl hfind hm hq ht hW
  go_enter Tryd.func15, Tryd.ntmps15
  go_upto_region 3 with fail
  rw [← HW.out]
  obtain ⟨WD, hWD⟩ : ∃ W', W' = W0.drew := ⟨_, rfl⟩
  have hb9 : Below w.heap.size w WD := by rw [hWD]; exact HBW.out.drew
  have hb8 : Below W0.heap.size W0 WD := by rw [hWD]; exact (Below.refl _ _).drew
  refine chain_region (SFind g w.heap.size mv k n s A l.length c) 12 (by kernel_rfl) ?_
  rw [← hWD]
  have HSD := Lib.hid (HS0.out.below hb8 (by have := HG.out; have := HSZ.out; omega) (by have := HSZ.out; omega))
  have HB9 := Lib.hid hb9; have HB8 := Lib.hid hb8
  clear hb9 hb8 hWD
  refine T_takeD (i := 0) (v := .pointer (some ⟨g, 0, none⟩)) rfl (by kernel_rfl) (fun _ _ _ h => h) rfl (fun W hS => by go_simp) HSD.out ?_
  go_simp
  refine T_takeD (i := 1) (v := .pointer (some ⟨g, 0, none⟩)) rfl (by kernel_rfl) (fun _ _ _ h => h) rfl (fun W hS => by go_simp) HSD.out ?_
  go_simp
  refine T_takeD (i := 2) (v := .pointer (some ⟨g, 0, none⟩)) rfl (by kernel_rfl) (fun _ _ _ h => h) rfl (fun W hS => by go_simp) HSD.out ?_
  go_simp
  refine T_takeD (i := 3) (v := mv) rfl (by kernel_rfl) (fun _ _ _ h => h) rfl (fun W hS => by unfold SFind at hS; obtain ⟨h0, h1, h2, h3, h4⟩ := hS; go_simp) HSD.out ?_
  go_simp
  refine T_takeD (i := 4) (v := .agg #[.int .u8 (k : Int), .int .i64 n, .string s, .slice A l.length c]) rfl (by kernel_rfl) (fun _ _ _ h => h) rfl (fun W hS => by unfold SFind at hS; obtain ⟨h0, h1, h2, h3, h4⟩ := hS; go_simp) HSD.out ?_
  go_simp
  refine T_one (i := 5) rfl (by kernel_rfl) rfl ?_
  refine op_callT #[.agg #[.int .u8 (k : Int), .int .i64 n, .string s, .slice A l.length c]] (by simp [go_sem]) (enters_of Tryd.func30 (by kernel_rfl) rfl _ _) (HSH.out WD HB8.out) ?_
  rintro e W4 ⟨rfl, hb4⟩
  have HS4 := Lib.hid (HSD.out.below hb4 (Nat.lt_of_lt_of_le HG.out HB9.out.size) (by have := HSZ.out; have := HB8.out.size; omega))
  have HB4 := Lib.hid (HB9.out.trans (hb4.mono HB9.out.size))
  have hlk4 := HLK.out W4 HB4.out
  have HLK4 := Lib.hid hlk4
  clear hb4 hlk4
  refine ⟨_, rfl, fun _ => HS4.out, ?_⟩
  go_simp
  refine T_one (i := 6) rfl (by kernel_rfl) rfl ?_
  go_simp
  rw [HLK4.out]
  simp only [Result.andThen]
  rw [Oper.upon_value]
  refine ⟨HS4.out, ?_⟩
  go_simp
  refine T_one (i := 7) rfl (by kernel_rfl) rfl ?_
  go_simp
  refine ⟨HS4.out, ?_⟩
  refine T_takeD (i := 8) (v := .int .i64 (m : Int)) rfl (by kernel_rfl) (fun _ _ _ h => h) rfl (fun W hS => by go_simp) HS4.out ?_
  go_simp
  refine T_takeD (i := 9) (v := .bool q) rfl (by kernel_rfl) (fun _ _ _ h => h) rfl (fun W hS => by go_simp) HS4.out ?_
  go_simp
  refine T_one (i := 10) rfl (by kernel_rfl) rfl ?_
  go_simp
  refine ⟨HS4.out, ?_⟩
  refine T_one (i := 11) rfl (by kernel_rfl) rfl ?_
  go_simp
  refine ⟨HS4.out, by kernel_rfl, ?_⟩
  go_wp2_with fail
  go_ret2
  exact ⟨rfl, HB4.out⟩
end Go.Proofs.YtibpebhepoeikaaDoor
