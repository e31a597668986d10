/- Package code: Num, Count, Str, Flag. -/
import Derived.Test.YtlhkjmckigblpaaGreatDoorCc
namespace Go.Proofs.YtlhkjmckigblpaaGreatDoor
open Go.RowKit Cp
open Go
attribute [local go_sem] Oper.semAt_some

/-- A truth value's byte. -/
def flgB (f : Bool) : List UInt8 := [if f then 1 else 0]
theorem Bys.sees {B : Nat} {l : List UInt8} {w : World} {v : Value} (h : Bys B l w v) : Sees w v l := by
  by_cases hl : l = []
  · subst hl
    rcases h.2 with ⟨rfl, _⟩ | ⟨g, c, cur, rfl, h3, h4, _⟩
    · exact .inl ⟨0, 0, rfl, rfl⟩
    · exact .inr ⟨⟨g, 0, none⟩, c, rfl, fun i hi => absurd hi (by simp), (Array.getElem?_eq_some_iff.1 h4).1⟩
  · obtain ⟨g, c, rfl⟩ := h.some_ hl
    obtain ⟨_, _, cur, h4, _⟩ := h.open_
    exact .inr ⟨⟨g, 0, none⟩, c, rfl, fun i hi => by
      have := h.cell (i := i) (List.getElem?_eq_getElem hi)
      unfold Addr.add
      split
      · rename_i h0; subst h0; exact this
      · simpa using this, (Array.getElem?_eq_some_iff.1 h4).1⟩
theorem Sees.nil_ (w : World) (n c : Nat) : Sees w (.slice none n c) [] := .inl ⟨n, c, rfl, rfl⟩
theorem Sees.under {w w' : World} {v : Value} {l : List UInt8} (h : Sees w v l) (hb : Below w.heap.size w w') : Sees w' v l := by
  rcases h with ⟨n, c, rfl, rfl⟩ | ⟨a, c, rfl, h1, h2⟩
  · exact .inl ⟨n, c, rfl, rfl⟩
  · refine .inr ⟨a, c, rfl, fun i hi => ?_, Nat.lt_of_lt_of_le h2 hb.size⟩
    rw [hb.cell (p := a.add i) (by unfold Addr.add; split <;> exact h2)]
    exact h1 i hi
theorem clone_c (l : List UInt8) (v : Value) (w : World) (h : Sees w v l) (hl : l.length ≤ 140000000000000) : Calls Tryz.prog 44 #[v] w fun e w' => Gives w.heap.size w l e w' := by
  rcases h with ⟨n, c, rfl, rfl⟩ | ⟨a, c, rfl, h1, _⟩
  · refine (Tryz.bytes_Clone_nil n c w).mono ?_
    rintro e w' ⟨rfl, rfl⟩
    exact Gives.mk_ ⟨rfl, .inl ⟨rfl, rfl⟩⟩ (Below.refl _ _)
  · refine (Tryz.bytes_Clone_at a l.length c (l.map fun x => (x.toNat : Int)) w (by simp) (by omega) fun i hi => by rw [h1 i hi]; simp [hi]).mono ?_
    rintro e w' ⟨v', rfl, h2, _, h3⟩
    refine Gives.mk_ ?_ h3
    unfold Bys
    have e1 : (l.map fun x => (x.toNat : Int)).map (Value.int .u8) = Lib.byteCells l := by simp [Lib.byteCells]
    rw [e1] at h2; exact h2

set_option maxRecDepth 100000 in
set_option maxHeartbeats 2000000 in
theorem num_c (l : List UInt8) (v : Value) (n : Int) (h0 : -9223372036854775808 ≤ n) (h1 : n ≤ 9223372036854775807) (w : World) (h : Sees w v l) (hl : l.length ≤ 140000000000000) :
    Calls Tryz.prog 11 #[v, .int .i64 n] w fun e w' => Gives w.heap.size w (l ++ numB n) e w' := by
  have hc := clone_c l v w h hl
  have HC := Lib.hid hc
  clear hc h
  go_enter Tryz.func11, Tryz.ntmps11
  go_wp2_with fail
  refine HC.out.mono ?_
  rintro e w1 ⟨v1, rfl, hy, hb⟩
  have HA := Lib.hid (appendNum_c w.heap.size l v1 n h0 h1 w1 hy hl hb.size); have HB := Lib.hid hb
  clear hy hb
  go_wp2_with fail
  refine HA.out.mono ?_
  rintro e w2 ⟨v2, rfl, hy, hb⟩
  have HY := Lib.hid hy; have HB2 := Lib.hid (HB.out.trans hb)
  clear hy hb
  go_wp2_with fail
  go_ret
  exact Gives.mk_ HY.out HB2.out

set_option maxRecDepth 100000 in
set_option maxHeartbeats 2000000 in
theorem appendCount_c (B : Nat) (l : List UInt8) (v : Value) (n : Nat) (hn : n ≤ 2147483647) (w : World) (h : Bys B l w v) (hl : l.length ≤ 140000000000000) (hB : B ≤ w.heap.size) :
    Calls Tryz.prog 45 #[v, .int .i64 (n : Int)] w fun e w' => Gives B w (l ++ own 0 n) e w' := by
  have HA := Lib.hid (appendOwn_c B l v 0 n (by decide) (by omega) w h hl hB)
  clear h
  go_enter Tryz.func45, Tryz.ntmps45
  go_wp2_with fail
  refine HA.out.mono ?_
  rintro e w1 ⟨v', rfl, hy, hb⟩
  have HY := Lib.hid hy; have HB := Lib.hid hb
  clear hy hb
  go_wp2_with fail
  go_ret
  exact Gives.mk_ HY.out HB.out

set_option maxRecDepth 100000 in
set_option maxHeartbeats 2000000 in
theorem count_c (l : List UInt8) (v : Value) (n : Int) (w : World) (h : Sees w v l) (hl : l.length ≤ 140000000000000) :
    Calls Tryz.prog 10 #[v, .int .i64 n] w fun e w' => Gives w.heap.size w (l ++ cntB n) e w' := by
  have hc := clone_c l v w h hl
  have HC := Lib.hid hc
  clear hc h
  by_cases hr : 0 ≤ n ∧ n ≤ 2147483647
  · obtain ⟨hr0, hr1⟩ := hr
    obtain ⟨m, rfl⟩ : ∃ m : Nat, n = (m : Int) := ⟨n.toNat, by omega⟩
    have hcb : cntB (m : Int) = own 0 m := by unfold cntB; rw [if_pos ⟨hr0, hr1⟩, Int.toNat_natCast]
    rw [hcb]
    clear hcb
    go_enter Tryz.func10, Tryz.ntmps10
    go_wp2_with fail
    refine HC.out.mono ?_
    rintro e w1 ⟨v1, rfl, hy, hb⟩
    have HA := Lib.hid (appendCount_c w.heap.size l v1 m (by omega) w1 hy hl hb.size); have HB := Lib.hid hb
    clear hy hb
    go_wp2_with fail
    refine HA.out.mono ?_
    rintro e w2 ⟨v2, rfl, hy, hb⟩
    have HY := Lib.hid hy; have HB2 := Lib.hid (HB.out.trans hb)
    clear hy hb
    go_wp2_with fail
    go_ret
    exact Gives.mk_ HY.out HB2.out
  · have hcb : cntB n = [] := by unfold cntB; rw [if_neg hr]
    rw [hcb, List.append_nil]
    clear hcb
    by_cases hneg : n < 0
    · clear hr
      go_enter Tryz.func10, Tryz.ntmps10
      go_wp2_with fail
      refine HC.out.mono ?_
      rintro e w1 ⟨v1, rfl, hy, hb⟩
      have HY := Lib.hid hy; have HB := Lib.hid hb
      clear hy hb
      go_wp2_with fail
      go_ret
      exact Gives.mk_ HY.out HB.out
    · have hgt : 2147483647 < n := by omega
      clear hr
      go_enter Tryz.func10, Tryz.ntmps10
      go_wp2_with fail
      refine HC.out.mono ?_
      rintro e w1 ⟨v1, rfl, hy, hb⟩
      have HY := Lib.hid hy; have HB := Lib.hid hb
      clear hy hb
      go_wp2_with fail
      go_ret
      exact Gives.mk_ HY.out HB.out

set_option maxRecDepth 100000 in
set_option maxHeartbeats 2000000 in
theorem appendFlag_c (B : Nat) (l : List UInt8) (v : Value) (f : Bool) (w : World) (h : Bys B l w v) (hl : l.length ≤ 140000000000000) (hB : B ≤ w.heap.size) :
    Calls Tryz.prog 67 #[v, .bool f] w fun e w' => Gives B w (l ++ flgB f) e w' := by
  have H := Lib.hid h
  clear h
  cases f
  · go_enter Tryz.func67, Tryz.ntmps67
    go_wp2_with (at_builtin; refine wpList_appB _ rfl (.tmp 9) (.tmp 10) 23 rfl B 5 (.int .u8 0) Tryz.underlying23 infoB rfl _ l.length _ rfl (H.out.alloc _) w.heap.size 1 (.int .u8 0) rfl (by simp [World.cell?_alloc_new]) (by simp [Value.oneCell']) (by omega) (by simp; omega) ?_; intro g' cap' w3 hA; have HA := Lib.hid hA; clear hA)
    go_ret
    refine Gives.mk_ ?_ (((Below.refl B w).alloc hB _).trans HA.out.2.2)
    have := HA.out.1
    unfold Bys
    rw [byteCells_app]
    simpa [Lib.byteCells, flgB] using this
  · go_enter Tryz.func67, Tryz.ntmps67
    go_wp2_with (at_builtin; refine wpList_appB _ rfl (.tmp 6) (.tmp 7) 23 rfl B 5 (.int .u8 0) Tryz.underlying23 infoB rfl _ l.length _ rfl (H.out.alloc _) w.heap.size 1 (.int .u8 1) rfl (by simp [World.cell?_alloc_new]) (by simp [Value.oneCell']) (by omega) (by simp; omega) ?_; intro g' cap' w3 hA; have HA := Lib.hid hA; clear hA)
    go_ret
    refine Gives.mk_ ?_ (((Below.refl B w).alloc hB _).trans HA.out.2.2)
    have := HA.out.1
    unfold Bys
    rw [byteCells_app]
    simpa [Lib.byteCells, flgB] using this

set_option maxRecDepth 100000 in
set_option maxHeartbeats 2000000 in
theorem flag_c (l : List UInt8) (v : Value) (f : Bool) (w : World) (h : Sees w v l) (hl : l.length ≤ 140000000000000) :
    Calls Tryz.prog 33 #[v, .bool f] w fun e w' => Gives w.heap.size w (l ++ flgB f) e w' := by
  have hc := clone_c l v w h hl
  have HC := Lib.hid hc
  clear hc h
  go_enter Tryz.func33, Tryz.ntmps33
  go_wp2_with fail
  refine HC.out.mono ?_
  rintro e w1 ⟨v1, rfl, hy, hb⟩
  have HA := Lib.hid (appendFlag_c w.heap.size l v1 f w1 hy hl hb.size); have HB := Lib.hid hb
  clear hy hb
  go_wp2_with fail
  refine HA.out.mono ?_
  rintro e w2 ⟨v2, rfl, hy, hb⟩
  have HY := Lib.hid hy; have HB2 := Lib.hid (HB.out.trans hb)
  clear hy hb
  go_wp2_with fail
  go_ret
  exact Gives.mk_ HY.out HB2.out
end Go.Proofs.YtlhkjmckigblpaaGreatDoor
