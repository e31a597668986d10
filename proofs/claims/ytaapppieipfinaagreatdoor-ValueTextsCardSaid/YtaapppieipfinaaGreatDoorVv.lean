/- Package value: how two values, and two rows, stand. -/
import Derived.Test.YtaapppieipfinaaGreatDoorVg
namespace Go.Proofs.YtaapppieipfinaaGreatDoor
open Go.RowKit Vp
open Go
attribute [local go_sem] Oper.semAt_some

/-- What is asked of the order of numbers' texts. -/
def BigCmpOk (zc : List UInt8 → List UInt8 → Int) : Prop := ∀ (a b : ByteArray) (w : World), Pl.chk a.data.toList = 0 → Pl.chk b.data.toList = 0 →
    Calls Tryz.prog 77 #[.string a, .string b] w fun e w' => e = .returned (.tuple #[.int .i64 (zc a.data.toList b.data.toList), .int .i64 0]) ∧ Below w.heap.size w w'
theorem cmpBy_cmpL (zc : List UInt8 → List UInt8 → Int) : ∀ l l' : List V, cmpBy (cmpV zc) l l' = cmpL zc l l'
  | [], [] => by rw [cmpBy, cmpL]
  | [], _ :: _ => by rw [cmpBy, cmpL]
  | _ :: _, [] => by rw [cmpBy, cmpL]
  | x :: xs, y :: ys => by rw [cmpBy, cmpL, cmpBy_cmpL zc xs ys]

/-- The function in compareLists. -/
theorem lists1_c (q : Int) (u u' : Value) (x y : V) (w : World) (h : VRep w w.heap.size x u) (h' : VRep w w.heap.size y u')
    (ih : ∀ (w : World), VRep w w.heap.size x u → VRep w w.heap.size y u' → Calls Tryz.prog 50 #[u, u'] w fun e w' => e = .returned (.int .i64 q) ∧ Below w.heap.size w w')
    (B : Nat) (hB : B < w.heap.size) (hc : w.cell? ⟨B, 0, none⟩ = some (.func (.func 50) #[] #[])) :
    Calls Tryz.prog 74 #[u, u', .pointer (some ⟨B, 0, none⟩)] w fun e w' => e = .returned (.int .i64 q) ∧ Below w.heap.size w w' := by
  obtain ⟨k, n, s, l, A, c, rfl, rfl, hk, hn, hs, hR⟩ := h.open_
  obtain ⟨k', n', s', l', A', c', rfl, rfl, hk', hn', hs', hR'⟩ := h'.open_
  have hW : Below w.heap.size w ((w.alloc (.cells #[.int .u8 (k : Int), .int .i64 n, .string s, .slice A l.length c] 28)).alloc (.cells #[.int .u8 (k' : Int), .int .i64 n', .string s', .slice A' l'.length c'] 28)) :=
    ((Below.refl _ _).alloc (Nat.le_refl _) _).alloc (by simp) _
  have HC := Lib.hid (ih _ ((h.under hW).more hW.size) ((h'.under hW).more hW.size))
  have HW := Lib.hid hW
  have hne : B ≠ w.heap.size := by omega
  have hne' : B ≠ w.heap.size + 1 := by omega
  clear h h' ih hR hR' hW
  go_enter Tryz.func74, Tryz.ntmps74
  go_wp2_with (go_at_call 50; refine HC.out.mono ?_; rintro e w1 ⟨rfl, hb1⟩; have HB1 := Lib.hid hb1; clear hb1)
  go_ret
  exact ⟨rfl, HW.out.trans (HB1.out.mono HW.out.size)⟩

set_option maxHeartbeats 1000000 in
theorem lists_c (cf : V → V → Int) (l l' : List V) (A A' : Option Addr) (c c' : Nat) (w : World) (hR : RRep w w.heap.size l A c) (hR' : RRep w w.heap.size l' A' c')
    (ih : ∀ x ∈ l, ∀ y ∈ l', ∀ (u u' : Value) (w : World), VRep w w.heap.size x u → VRep w w.heap.size y u' → Calls Tryz.prog 50 #[u, u'] w fun e w' => e = .returned (.int .i64 (cf x y)) ∧ Below w.heap.size w w') :
    Calls Tryz.prog 49 #[.slice A l.length c, .slice A' l'.length c', .func (.func 50) #[] #[]] w fun e w' => e = .returned (.int .i64 (cmpBy cf l l')) ∧ Below w.heap.size w w' := by
  have hW : Below w.heap.size w (w.alloc (.cells #[.func (.func 50) #[] #[]] 64)) := (Below.refl _ _).alloc (Nat.le_refl _) _
  have hcon := compareFunc_c l l' A A' c c' cf 74 #[.pointer (some ⟨w.heap.size, 0, none⟩)] _ ((hR.under hW).more hW.size) ((hR'.under hW).more hW.size) (enters_of Tryz.func74 (by kernel_rfl) rfl)
    (fun x hx y hy W u u' hb hv hv' => by
      refine lists1_c (cf x y) u u' x y W hv hv' (fun w h h' => ih x hx y hy u u' w h h') w.heap.size (by have := hb.size; simp at this; omega) ?_
      rw [hb.cell (p := ⟨w.heap.size, 0, none⟩) (by simp)]
      simp)
  have HC := Lib.hid hcon; have HW := Lib.hid hW
  clear hcon hW hR hR' ih
  generalize cmpBy cf l l' = q at HC ⊢
  go_enter Tryz.func49, Tryz.ntmps49
  go_wp2_with (go_at_call 73; refine HC.out.mono ?_; rintro e w1 ⟨rfl, hb1⟩; have HB1 := Lib.hid hb1; clear hb1)
  go_ret
  exact ⟨rfl, HW.out.trans (HB1.out.mono HW.out.size)⟩

set_option maxRecDepth 100000 in
set_option maxHeartbeats 4000000 in
theorem vcmp_c (zc : List UInt8 → List UInt8 → Int) (hz : BigCmpOk zc) : ∀ a : V, bigOk a = true → ∀ b : V, bigOk b = true → ∀ (u u' : Value) (w : World), VRep w w.heap.size a u → VRep w w.heap.size b u' →
    Calls Tryz.prog 50 #[u, u'] w fun e w' => e = .returned (.int .i64 (cmpV zc a b)) ∧ Below w.heap.size w w' := by
  intro a
  induction a using V.ind with
  | h k n s l ih =>
    intro hoa b hob u u' w h h'
    obtain ⟨k', n', s', l', A', c', rfl, rfl, hk', hn', hs', hR'⟩ := h'.open_
    obtain ⟨k0, n0, s0, l0, A, c, ht, rfl, hk, hn, hs, hR⟩ := h.open_
    injection ht with e1 e2 e3 e4
    subst e1; subst e2; subst e3; subst e4
    obtain ⟨hoa3, hoal⟩ := bigOk_parts hoa
    obtain ⟨hob3, hobl⟩ := bigOk_parts hob
    obtain ⟨q, hq⟩ : ∃ q, q = cmpV zc (.mk k n s l) (.mk k' n' s' l') := ⟨_, rfl⟩
    rw [← hq]
    rw [cmpV] at hq
    have hW : Below w.heap.size w ((w.alloc (.cells #[.int .u8 (k : Int), .int .i64 n, .string s, .slice A l.length c] 66)).alloc (.cells #[.int .u8 (k' : Int), .int .i64 n', .string s', .slice A' l'.length c'] 66)) :=
      ((Below.refl _ _).alloc (Nat.le_refl _) _).alloc (by simp) _
    have HW := Lib.hid hW
    by_cases hkk : k = k'
    · subst hkk
      rw [if_neg (by simp)] at hq
      by_cases h12 : k = 1 ∨ k = 2
      · rw [if_pos h12] at hq
        have HQ := Lib.hid hq
        clear hq ih hoa hob hoa3 hoal hob3 hobl h h' hR hR' hW hk hk'
        rcases h12 with rfl | rfl
        all_goals
          go_enter Tryz.func50, Tryz.ntmps50
          go_wp2_with (go_at_call 76; refine (cmp_i64 _ _ _).mono ?_; rintro e w1 ⟨rfl, rfl⟩)
          go_ret
          exact ⟨by rw [HQ.out]; rfl, HW.out⟩
      · rw [if_neg h12] at hq
        by_cases h3 : k = 3
        · rw [if_pos h3] at hq
          have hbc := hz s s' ((w.alloc (.cells #[.int .u8 (k : Int), .int .i64 n, .string s, .slice A l.length c] 66)).alloc (.cells #[.int .u8 (k : Int), .int .i64 n', .string s', .slice A' l'.length c'] 66)) (hoa3 h3) (hob3 h3)
          subst h3
          rw [← hq] at hbc
          have HBC := Lib.hid hbc
          clear hq ih hoa hob hoa3 hoal hob3 hobl h h' hR hR' hW hk hk' h12 hbc
          go_enter Tryz.func50, Tryz.ntmps50
          go_wp2_with (go_at_call 77; refine HBC.out.mono ?_; rintro e w1 ⟨rfl, hb1⟩; have HB1 := Lib.hid hb1; clear hb1)
          go_ret
          exact ⟨rfl, HW.out.trans (HB1.out.mono HW.out.size)⟩
        · rw [if_neg h3] at hq
          have e1 : ¬ (k : Int) = 1 := by omega
          have e2 : ¬ (k : Int) = 2 := by omega
          have e3 : ¬ (k : Int) = 3 := by omega
          obtain ⟨cb, hcb⟩ : ∃ cb, cb = Lib.compareBytes s.data.toList s'.data.toList := ⟨_, rfl⟩
          obtain ⟨cl, hcl⟩ : ∃ cl, cl = cmpL zc l l' := ⟨_, rfl⟩
          rw [← hcb, ← hcl] at hq
          have hsc := fun W => Tryz.strings_Compare s s' W
          rw [← hcb] at hsc
          have hlc : ∀ W', Below w.heap.size w W' → Calls Tryz.prog 49 #[.slice A l.length c, .slice A' l'.length c', .func (.func 50) #[] #[]] W' fun e w' => e = .returned (.int .i64 cl) ∧ Below W'.heap.size W' w' := by
            intro W' hb
            have := lists_c (cmpV zc) l l' A A' c c' W' ((hR.under hb).more hb.size) ((hR'.under hb).more hb.size) (fun x hx y hy u u' w h h' => ih x hx (hoal x hx) y (hobl y hy) u u' w h h')
            rwa [cmpBy_cmpL, ← hcl] at this
          have HQ := Lib.hid hq; have HSC := Lib.hid hsc; have HLC := Lib.hid hlc
          clear hq hsc hlc hcb hcl ih hoa hob hoa3 hoal hob3 hobl h h' hR hR' hk hk' h12 h3 hW
          go_enter Tryz.func50, Tryz.ntmps50
          go_upto_region 10 with fail
          have b0 : ((w.alloc (.cells #[.int .u8 (k : Int), .int .i64 n, .string s, .slice A l.length c] 66)).alloc (.cells #[.int .u8 (k : Int), .int .i64 n', .string s', .slice A' l'.length c'] 66)).cell? ⟨w.heap.size, 2, none⟩ = some (.string s) := by simp
          have b1 : ((w.alloc (.cells #[.int .u8 (k : Int), .int .i64 n, .string s, .slice A l.length c] 66)).alloc (.cells #[.int .u8 (k : Int), .int .i64 n', .string s', .slice A' l'.length c'] 66)).cell? ⟨w.heap.size, 3, none⟩ = some (.slice A l.length c) := by simp
          have b2 : ((w.alloc (.cells #[.int .u8 (k : Int), .int .i64 n, .string s, .slice A l.length c] 66)).alloc (.cells #[.int .u8 (k : Int), .int .i64 n', .string s', .slice A' l'.length c'] 66)).cell? ⟨w.heap.size + 1, 2, none⟩ = some (.string s') := by simp
          have b3 : ((w.alloc (.cells #[.int .u8 (k : Int), .int .i64 n, .string s, .slice A l.length c] 66)).alloc (.cells #[.int .u8 (k : Int), .int .i64 n', .string s', .slice A' l'.length c'] 66)).cell? ⟨w.heap.size + 1, 3, none⟩ = some (.slice A' l'.length c') := by simp
          have hsz : ((w.alloc (.cells #[.int .u8 (k : Int), .int .i64 n, .string s, .slice A l.length c] 66)).alloc (.cells #[.int .u8 (k : Int), .int .i64 n', .string s', .slice A' l'.length c'] 66)).heap.size = w.heap.size + 1 + 1 := by simp
          generalize (w.alloc (.cells #[.int .u8 (k : Int), .int .i64 n, .string s, .slice A l.length c] 66)).alloc (.cells #[.int .u8 (k : Int), .int .i64 n', .string s', .slice A' l'.length c'] 66) = W at b0 b1 b2 b3 hsz HW ⊢
          have HS0 : Hid (W.drew.cell? ⟨w.heap.size, 2, none⟩ = some (.string s) ∧ W.drew.cell? ⟨w.heap.size, 3, none⟩ = some (.slice A l.length c) ∧ W.drew.cell? ⟨w.heap.size + 1, 2, none⟩ = some (.string s') ∧ W.drew.cell? ⟨w.heap.size + 1, 3, none⟩ = some (.slice A' l'.length c')) := Lib.hid ⟨b0, b1, b2, b3⟩
          have HSZ := Lib.hid hsz
          have HSK : Hid (∀ W', Below W.heap.size W W' → W'.cell? ⟨w.heap.size, 2, none⟩ = some (.string s) ∧ W'.cell? ⟨w.heap.size, 3, none⟩ = some (.slice A l.length c) ∧ W'.cell? ⟨w.heap.size + 1, 2, none⟩ = some (.string s') ∧ W'.cell? ⟨w.heap.size + 1, 3, none⟩ = some (.slice A' l'.length c')) := Lib.hid fun W' hb =>
            ⟨(hb.cell (p := ⟨w.heap.size, 2, none⟩) (by show w.heap.size < _; omega)).trans b0, (hb.cell (p := ⟨w.heap.size, 3, none⟩) (by show w.heap.size < _; omega)).trans b1, (hb.cell (p := ⟨w.heap.size + 1, 2, none⟩) (by show w.heap.size + 1 < _; omega)).trans b2, (hb.cell (p := ⟨w.heap.size + 1, 3, none⟩) (by show w.heap.size + 1 < _; omega)).trans b3⟩
          clear b0 b1 b2 b3 hsz
          refine plain_region (fun W' => W'.cell? ⟨w.heap.size, 2, none⟩ = some (.string s) ∧ W'.cell? ⟨w.heap.size, 3, none⟩ = some (.slice A l.length c) ∧ W'.cell? ⟨w.heap.size + 1, 2, none⟩ = some (.string s') ∧ W'.cell? ⟨w.heap.size + 1, 3, none⟩ = some (.slice A' l'.length c')) 13 (by kernel_rfl) ?_
          refine M_take (i := 0) (v := .pointer (some ⟨w.heap.size, 2, none⟩)) rfl (by kernel_rfl) (fun _ _ _ h => h) rfl (fun W hS => by go_simp) HS0.out ?_
          refine M_take (i := 1) (v := .string s) rfl (by kernel_rfl) (fun _ _ _ h => h) rfl (fun W hS => by obtain ⟨h1, h2, h3, h4⟩ := hS; go_simp) HS0.out ?_
          refine M_take (i := 2) (v := .pointer (some ⟨w.heap.size + 1, 2, none⟩)) rfl (by kernel_rfl) (fun _ _ _ h => h) rfl (fun W hS => by go_simp) HS0.out ?_
          refine M_take (i := 3) (v := .string s') rfl (by kernel_rfl) (fun _ _ _ h => h) rfl (fun W hS => by obtain ⟨h1, h2, h3, h4⟩ := hS; go_simp) HS0.out ?_
          refine M_take (i := 5) (v := .pointer (some ⟨w.heap.size, 3, none⟩)) rfl (by kernel_rfl) (fun _ _ _ h => h) rfl (fun W hS => by go_simp) HS0.out ?_
          refine M_take (i := 6) (v := .slice A l.length c) rfl (by kernel_rfl) (fun _ _ _ h => h) rfl (fun W hS => by obtain ⟨h1, h2, h3, h4⟩ := hS; go_simp) HS0.out ?_
          refine M_take (i := 7) (v := .pointer (some ⟨w.heap.size + 1, 3, none⟩)) rfl (by kernel_rfl) (fun _ _ _ h => h) rfl (fun W hS => by go_simp) HS0.out ?_
          refine M_take (i := 8) (v := .slice A' l'.length c') rfl (by kernel_rfl) (fun _ _ _ h => h) rfl (fun W hS => by obtain ⟨h1, h2, h3, h4⟩ := hS; go_simp) HS0.out ?_
          refine M_one (i := 4) rfl (by kernel_rfl) rfl ?_
          refine op_call #[.string s, .string s'] (by simp [go_sem]) (enters_of Tryz.func79 (by kernel_rfl) rfl _ _) (HSC.out _) ?_
          rintro e w1 ⟨rfl, rfl⟩
          refine ⟨_, rfl, fun _ => HS0.out, ?_⟩
          refine M_one (i := 9) rfl (by kernel_rfl) rfl ?_
          refine op_call #[.slice A l.length c, .slice A' l'.length c', .func (.func 50) #[] #[]] (by simp [go_sem]) (enters_of Tryz.func49 (by kernel_rfl) rfl _ _) (HLC.out W.drew HW.out.drew) ?_
          rintro e w2 ⟨rfl, hb2⟩
          have hb2' : Below W.heap.size W w2 := (Below.refl _ W).drew.trans hb2
          have HWB := Lib.hid hb2'
          have HB2 := Lib.hid (HW.out.trans (hb2'.mono HW.out.size))
          refine ⟨_, rfl, fun _ => HSK.out w2 hb2', ?_⟩
          clear hb2 hb2' HS0
          refine M_one (i := 10) rfl (by kernel_rfl) rfl ?_
          go_simp
          have hWA := HWB.out.alloc HWB.out.size (.cells #[.int .i64 cb, .int .i64 cl] 3)
          refine ⟨HSK.out _ hWA, ?_⟩
          have HWA := Lib.hid hWA
          have hor := or_c cb cl (w2.alloc (.cells #[.int .i64 cb, .int .i64 cl] 3)) w2.heap.size (by simp) (by simp) (by simp)
          rw [← HQ.out] at hor
          have HOR := Lib.hid hor
          clear hor hWA
          refine M_one (i := 11) rfl (by kernel_rfl) rfl ?_
          refine op_call #[.slice (some ⟨w2.heap.size, 0, none⟩) 2 2] (by simp [go_sem]) (enters_of Tryz.func78 (by kernel_rfl) rfl _ _) HOR.out ?_
          rintro e w3 ⟨rfl, hb3⟩
          have hW3 := HWA.out.trans (hb3.mono HWA.out.size)
          refine ⟨_, rfl, fun _ => HSK.out _ hW3, ?_⟩
          have HB3 := Lib.hid (HW.out.trans (hW3.mono HW.out.size))
          have HS3 := Lib.hid (HSK.out _ hW3)
          clear hb3 hW3
          refine M_one (i := 12) rfl (by kernel_rfl) rfl ?_
          go_simp
          refine ⟨HS3.out, ?_⟩
          refine M_done (by kernel_rfl) ?_
          go_wp2_with fail
          go_ret
          exact ⟨rfl, HB3.out⟩
    · rw [if_pos hkk] at hq
      have HQ := Lib.hid hq
      have hne : ¬ (k : Int) = (k' : Int) := by omega
      clear hq ih hoa hob hoa3 hoal hob3 hobl h h' hR hR' hW hk hk' hkk
      go_enter Tryz.func50, Tryz.ntmps50
      go_wp2_with (go_at_call 75; refine (cmp_u8 _ _ _).mono ?_; rintro e w1 ⟨rfl, rfl⟩)
      go_ret
      exact ⟨by rw [HQ.out]; rfl, HW.out⟩
end Go.Proofs.YtaapppieipfinaaGreatDoor
