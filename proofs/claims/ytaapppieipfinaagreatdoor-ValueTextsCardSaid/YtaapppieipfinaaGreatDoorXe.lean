/- ValueTexts: the walk. -/
import Derived.Test.YtaapppieipfinaaGreatDoorXd
import Derived.Test.YtaapppieipfinaaGreatDoorVi
import Derived.Test.YtaapppieipfinaaGreatDoorVa
namespace Go.Proofs.YtaapppieipfinaaGreatDoor
open Go.RowKit Vp
open Go
attribute [local go_sem] Oper.semAt_some

theorem light3_cases {l : List V} {e : Ending} (h : Tx.TellsLight3 l e) : e = .returned (.bool true) ∨ (e = .returned (.bool false) ∧ Tx.bulkL l < 600) := by
  obtain ⟨p, rfl, hp⟩ := h
  cases p with
  | true => exact .inl rfl
  | false => exact .inr ⟨rfl, hp rfl⟩
theorem str_ne {l m : List UInt8} (h : l ≠ m) : ((⟨l.toArray⟩ : ByteArray).toList == (⟨m.toArray⟩ : ByteArray).toList) = false := by
  rw [Lib.toList_data, Lib.toList_data, beq_eq_false_iff_ne]
  simpa using h
theorem str_some {l : List UInt8} (h : l ≠ []) : ((⟨l.toArray⟩ : ByteArray).toList == []) = false ∧ (⟨l.toArray⟩ : ByteArray).toList.isEmpty = false := by
  rw [Lib.toList_data]
  cases l with
  | nil => exact absurd rfl h
  | cons c l => exact ⟨rfl, rfl⟩
set_option maxRecDepth 100000 in
set_option maxHeartbeats 8000000 in
theorem texts_c (a b : V) (u v : Value) (w : World) (ha : VRep w w.heap.size a u) (hb : VRep w w.heap.size b v) (htab : Tx.TabF w.heap.size w) :
    Calls Tryz.prog 7 #[u, v] w fun e w' => e = .returned (.bool true) ∧ Below w.heap.size w w' := by
  obtain ⟨k, n, s, l, A, c, hta, rfl, hk, hn, hs, hR⟩ := ha.open_
  obtain ⟨k', n', s', l', A', c', htb, rfl, hk', hn', hs', hR'⟩ := hb.open_
  obtain ⟨W, hW⟩ : ∃ W, W = ((w.alloc (.cells #[.int .u8 (k : Int), .int .i64 n, .string s, .slice A l.length c] 28)).alloc (.cells #[.int .u8 (k' : Int), .int .i64 n', .string s', .slice A' l'.length c'] 28)).alloc (.cells #[.int .u8 (k : Int), .int .i64 n, .string s, .slice A l.length c, .int .u8 (k' : Int), .int .i64 n', .string s', .slice A' l'.length c'] 28) := ⟨_, rfl⟩
  have hB : Below w.heap.size w W := hW ▸ (world2 _ _ _).alloc (by simp; omega) _
  have b0 : Blk W w.heap.size 28 #[.int .u8 (k : Int), .int .i64 n, .string s, .slice A l.length c] := hW ▸ ((Blk.new _ _ _).alloc _).alloc _
  have b1 : Blk W (w.heap.size + 1) 28 #[.int .u8 (k' : Int), .int .i64 n', .string s', .slice A' l'.length c'] := hW ▸ (by have := (Blk.new (w.alloc (.cells #[.int .u8 (k : Int), .int .i64 n, .string s, .slice A l.length c] 28)) 28 #[.int .u8 (k' : Int), .int .i64 n', .string s', .slice A' l'.length c']); rw [World.size_alloc] at this; exact this.alloc _)
  have b2 : Blk W (w.heap.size + 1 + 1) 28 #[.int .u8 (k : Int), .int .i64 n, .string s, .slice A l.length c, .int .u8 (k' : Int), .int .i64 n', .string s', .slice A' l'.length c'] := hW ▸ (by have := (Blk.new ((w.alloc (.cells #[.int .u8 (k : Int), .int .i64 n, .string s, .slice A l.length c] 28)).alloc (.cells #[.int .u8 (k' : Int), .int .i64 n', .string s', .slice A' l'.length c'] 28)) 28 #[.int .u8 (k : Int), .int .i64 n, .string s, .slice A l.length c, .int .u8 (k' : Int), .int .i64 n', .string s', .slice A' l'.length c']); rw [World.size_alloc, World.size_alloc] at this; exact this)
  have hsz : W.heap.size = w.heap.size + 1 + 1 + 1 := by rw [hW]; simp
  have hrow : RRep W W.heap.size [a, b] (some ⟨w.heap.size + 1 + 1, 0, none⟩) 2 := rrep_two ((ha.under hB).more hB.size) ((hb.under hB).more hB.size) rfl rfl rfl (by omega) b2
  have hheavy := Tx.heavy3_c [a, b] _ 2 W hrow
  have hca := fun W1 (h : Below W.heap.size W W1) => check_c a _ W1 (((ha.under hB).under (h.mono hB.size)).more (Nat.le_trans hB.size h.size))
  have hcb := fun W1 (h : Below W.heap.size W W1) => check_c b _ W1 (((hb.under hB).under (h.mono hB.size)).more (Nat.le_trans hB.size h.size))
  have hss := fun W1 (h : Below W.heap.size W W1) => same_c a b _ _ W1 (((ha.under hB).under (h.mono hB.size)).more (Nat.le_trans hB.size h.size)) (((hb.under hB).under (h.mono hB.size)).more (Nat.le_trans hB.size h.size))
  have hsa := fun (hc : chkV a = 0) (hl : (Tx.txtV a).length ≤ 900000000) W1 (h : Below W.heap.size W W1) => Tx.show_c a hc hl _ W1 (((ha.under hB).under (h.mono hB.size)).more (Nat.le_trans hB.size h.size)) ((htab.below (hB.trans (h.mono hB.size))).more (Nat.le_trans hB.size h.size))
  have hsb := fun (hc : chkV b = 0) (hl : (Tx.txtV b).length ≤ 900000000) W1 (h : Below W.heap.size W W1) => Tx.show_c b hc hl _ W1 (((hb.under hB).under (h.mono hB.size)).more (Nat.le_trans hB.size h.size)) ((htab.below (hB.trans (h.mono hB.size))).more (Nat.le_trans hB.size h.size))
  have hcl : ∀ W1, Below W.heap.size W W1 → W1.cell? ⟨w.heap.size, 0, none⟩ = some (.int .u8 (k : Int)) ∧ W1.cell? ⟨w.heap.size, 1, none⟩ = some (.int .i64 n) ∧ W1.cell? ⟨w.heap.size, 2, none⟩ = some (.string s) ∧ W1.cell? ⟨w.heap.size, 3, none⟩ = some (.slice A l.length c) ∧
      W1.cell? ⟨w.heap.size + 1, 0, none⟩ = some (.int .u8 (k' : Int)) ∧ W1.cell? ⟨w.heap.size + 1, 1, none⟩ = some (.int .i64 n') ∧ W1.cell? ⟨w.heap.size + 1, 2, none⟩ = some (.string s') ∧ W1.cell? ⟨w.heap.size + 1, 3, none⟩ = some (.slice A' l'.length c') := fun W1 h => by
    have q0 := b0.below h b0.lt; have q1 := b1.below h b1.lt
    have x0 := q0.cell 0; have x1 := q0.cell 1; have x2 := q0.cell 2; have x3 := q0.cell 3; have y0 := q1.cell 0; have y1 := q1.cell 1; have y2 := q1.cell 2; have y3 := q1.cell 3
    simp at x0 x1 x2 x3 y0 y1 y2 y3
    exact ⟨x0, x1, x2, x3, y0, y1, y2, y3⟩
  have hra : Tx.rng a = true := Tx.VRep.rng ha
  have hrb : Tx.rng b = true := Tx.VRep.rng hb
  have HHV := Lib.hid hheavy; have HCA := Lib.hid hca; have HCB := Lib.hid hcb; have HSS := Lib.hid hss; have HSA := Lib.hid hsa; have HSB := Lib.hid hsb; have HCL := Lib.hid hcl; have HW := Lib.hid hW
  have HRG := Lib.hid (And.intro hra hrb); have HB := Lib.hid hB
  clear hheavy hca hcb hss hsa hsb hcl b0 b1 b2 hrow ha hb hR hR' hta htb hra hrb hB htab hsz
  go_enter Tryz.func7, Tryz.ntmps7
  go_wp2_with fail
  rw [← hW]
  refine HHV.out.mono ?_
  rintro e w1 ⟨hq, hb⟩
  have HB1 := Lib.hid hb; clear hb
  rcases light3_cases hq with rfl | ⟨rfl, hlt⟩
  · clear hq hW
    go_wp2_with (go_at_call 10; refine (awake_c _).mono ?_; rintro e w2 ⟨rfl, hb⟩; have HB2 := Lib.hid (HB1.out.trans (hb.mono HB1.out.size)); clear hb)
    go_ret
    exact ⟨rfl, HB.out.trans (HB2.out.mono HB.out.size)⟩
  have HLT := Lib.hid hlt
  clear hq hlt hW
  go_wp2_with fail
  refine (awake_c _).mono ?_
  rintro e w2 ⟨rfl, hb⟩
  have HB2 := Lib.hid (HB1.out.trans (hb.mono HB1.out.size)); clear hb
  obtain ⟨p0, p1, p2, p3, r0, r1, r2, r3⟩ := HCL.out _ HB2.out
  go_wp2_with fail
  refine (HCA.out _ HB2.out).mono ?_
  rintro e w3 ⟨rfl, hb⟩
  have HB3 := Lib.hid (HB2.out.trans (hb.mono HB2.out.size)); clear hb
  clear p0 p1 p2 p3 r0 r1 r2 r3
  obtain ⟨p0, p1, p2, p3, r0, r1, r2, r3⟩ := HCL.out _ HB3.out
  by_cases hva : chkV a = 0
  case neg =>
    obtain ⟨z, hz⟩ : ∃ z, chkV a = z := ⟨_, rfl⟩
    rw [hz] at hva ⊢
    clear hz
    go_wp2_with fail
    go_ret
    exact ⟨rfl, HB.out.trans (HB3.out.mono HB.out.size)⟩
  rw [hva]
  have HVA := Lib.hid hva; clear hva
  go_wp2_with fail
  refine (HCB.out _ HB3.out).mono ?_
  rintro e w4 ⟨rfl, hb⟩
  have HB4 := Lib.hid (HB3.out.trans (hb.mono HB3.out.size)); clear hb
  clear p0 p1 p2 p3 r0 r1 r2 r3
  by_cases hvb : chkV b = 0
  case neg =>
    obtain ⟨z, hz⟩ : ∃ z, chkV b = z := ⟨_, rfl⟩
    rw [hz] at hvb ⊢
    clear hz
    go_wp2_with fail
    go_ret
    exact ⟨rfl, HB.out.trans (HB4.out.mono HB.out.size)⟩
  rw [hvb]
  have HVB := Lib.hid hvb; clear hvb
  have hfa := Tx.valid_fine HVA.out; have hfb := Tx.valid_fine HVB.out
  have hla := Tx.txt_light HLT.out (t := a) (by simp) hfa HRG.out.1
  have hlb := Tx.txt_light HLT.out (t := b) (by simp) hfb HRG.out.2
  have hsa := HSA.out HVA.out (by omega)
  have hsb := HSB.out HVB.out (by omega)
  have hnn := str_some (Tx.txt_some hfa)
  by_cases heq : a = b
  · subst heq
    have hss := fun W1 h => (HSS.out W1 h).mono fun e w' (h : TellsIf _ e ∧ _) => And.intro (h.1.yes rfl) h.2
    have hn1 := hnn.1; have hn2 := hnn.2
    have HA := Lib.hid hsa; have HC := Lib.hid hsb; have HD := Lib.hid hss
    obtain ⟨q0, q1, q2, q3, v0, v1, v2, v3⟩ := HCL.out _ HB4.out
    clear hsa hsb hss hnn hfa hfb hla hlb HSS HCA HCB HSA HSB HRG HHV
    generalize (⟨(Tx.txtV a).toArray⟩ : ByteArray) = sa at HA HC hn1 hn2
    go_upto_region 5 with fail
    go_region_held3 (fun w' => w'.cell? ⟨w.heap.size, 0, none⟩ = some (.int .u8 (k : Int)) ∧ w'.cell? ⟨w.heap.size, 1, none⟩ = some (.int .i64 n) ∧ w'.cell? ⟨w.heap.size, 2, none⟩ = some (.string s) ∧ w'.cell? ⟨w.heap.size, 3, none⟩ = some (.slice A l.length c) ∧ w'.cell? ⟨w.heap.size + 1, 0, none⟩ = some (.int .u8 (k' : Int)) ∧ w'.cell? ⟨w.heap.size + 1, 1, none⟩ = some (.int .i64 n') ∧ w'.cell? ⟨w.heap.size + 1, 2, none⟩ = some (.string s') ∧ w'.cell? ⟨w.heap.size + 1, 3, none⟩ = some (.slice A' l'.length c')) (go_keep)
      (first
        | (have hx := HBc; clear hx; (first | go_at_call 26 | go_at_call 29); (first | (with_reducible refine (HA.out _ HBc.out).mono ?_) | (with_reducible refine (HC.out _ HBc.out).mono ?_) | (with_reducible refine (HD.out _ HBc.out).mono ?_)); rintro e wn ⟨rfl, hb1⟩; have HBd := Lib.hid (HBc.out.trans (hb1.mono HBc.out.size)); clear hb1 HBc; have HBc := HBd; clear HBd; obtain ⟨o0, o1, o2, o3, o4, o5, o6, o7⟩ := HCL.out _ HBc.out)
        | ((first | go_at_call 26 | go_at_call 29); (first | (with_reducible refine (HA.out _ HB4.out.drew).mono ?_) | (with_reducible refine (HC.out _ HB4.out.drew).mono ?_) | (with_reducible refine (HD.out _ HB4.out.drew).mono ?_)); rintro e wn ⟨rfl, hb1⟩; have HBc := Lib.hid (HB4.out.drew.trans (hb1.mono HB4.out.size)); clear hb1; obtain ⟨o0, o1, o2, o3, o4, o5, o6, o7⟩ := HCL.out _ HBc.out))
    go_wp2_with fail
    go_ret
    exact ⟨rfl, HB.out.trans (HBc.out.mono HB.out.size)⟩
  · have hss := fun W1 h => (HSS.out W1 h).mono fun e w' (h : TellsIf _ e ∧ _) => And.intro (h.1.no heq) h.2
    have hn1 := hnn.1; have hn2 := hnn.2
    have hab := str_ne (l := Tx.txtV a) (m := Tx.txtV b) fun h => heq (Tx.txt_only hfa hfb h)
    have HA := Lib.hid hsa; have HC := Lib.hid hsb; have HD := Lib.hid hss
    obtain ⟨q0, q1, q2, q3, v0, v1, v2, v3⟩ := HCL.out _ HB4.out
    clear hsa hsb hss hnn hfa hfb hla hlb HSS HCA HCB HSA HSB HRG HHV heq
    generalize (⟨(Tx.txtV a).toArray⟩ : ByteArray) = sa at HA hn1 hn2 hab
    generalize (⟨(Tx.txtV b).toArray⟩ : ByteArray) = sb at HC hab
    go_upto_region 5 with fail
    go_region_held3 (fun w' => w'.cell? ⟨w.heap.size, 0, none⟩ = some (.int .u8 (k : Int)) ∧ w'.cell? ⟨w.heap.size, 1, none⟩ = some (.int .i64 n) ∧ w'.cell? ⟨w.heap.size, 2, none⟩ = some (.string s) ∧ w'.cell? ⟨w.heap.size, 3, none⟩ = some (.slice A l.length c) ∧ w'.cell? ⟨w.heap.size + 1, 0, none⟩ = some (.int .u8 (k' : Int)) ∧ w'.cell? ⟨w.heap.size + 1, 1, none⟩ = some (.int .i64 n') ∧ w'.cell? ⟨w.heap.size + 1, 2, none⟩ = some (.string s') ∧ w'.cell? ⟨w.heap.size + 1, 3, none⟩ = some (.slice A' l'.length c')) (go_keep)
      (first
        | (have hx := HBc; clear hx; (first | go_at_call 26 | go_at_call 29); (first | (with_reducible refine (HA.out _ HBc.out).mono ?_) | (with_reducible refine (HC.out _ HBc.out).mono ?_) | (with_reducible refine (HD.out _ HBc.out).mono ?_)); rintro e wn ⟨rfl, hb1⟩; have HBd := Lib.hid (HBc.out.trans (hb1.mono HBc.out.size)); clear hb1 HBc; have HBc := HBd; clear HBd; obtain ⟨o0, o1, o2, o3, o4, o5, o6, o7⟩ := HCL.out _ HBc.out)
        | ((first | go_at_call 26 | go_at_call 29); (first | (with_reducible refine (HA.out _ HB4.out.drew).mono ?_) | (with_reducible refine (HC.out _ HB4.out.drew).mono ?_) | (with_reducible refine (HD.out _ HB4.out.drew).mono ?_)); rintro e wn ⟨rfl, hb1⟩; have HBc := Lib.hid (HB4.out.drew.trans (hb1.mono HB4.out.size)); clear hb1; obtain ⟨o0, o1, o2, o3, o4, o5, o6, o7⟩ := HCL.out _ HBc.out))
    go_wp2_with fail
    go_ret
    exact ⟨rfl, HB.out.trans (HBc.out.mono HB.out.size)⟩
end Go.Proofs.YtaapppieipfinaaGreatDoor
