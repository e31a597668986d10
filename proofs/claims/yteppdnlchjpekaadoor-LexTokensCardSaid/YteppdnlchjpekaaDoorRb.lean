/- The document's own reading of a name. -/
import Derived.Test.YteppdnlchjpekaaDoorRa
namespace Go.Proofs.YteppdnlchjpekaaDoor
open Go.RowKit Lx
open Go
attribute [local go_sem] Oper.semAt_some

/-- What stands at a place, as the document tells it. -/
def atV (i : Nat) (x : Fnd × Nat) : Value := if x.2 = 0 then .tuple #[.agg #[.int .u8 (x.1.1 : Int), .int .i64 ((i + x.1.2.2 : Nat) : Int), .string ⟨x.1.2.1.toArray⟩], .int .i64 0] else .tuple #[.agg #[.int .u8 0, .int .i64 0, .string ⟨#[]⟩], .int .i64 (x.2 : Int)]
theorem at_ok {i k n er : Nat} {x : Fnd × Nat} {l : List UInt8} (h : x = ((k, l, n), er)) (her : er = 0) {S : ByteArray} (hS : S.data.toList = l) {z : Int} (hz : z = ((i + n : Nat) : Int)) : Value.tuple #[.agg #[.int .u8 (k : Int), .int .i64 z, .string S], .int .i64 0] = atV i x := by
  subst her
  unfold atV
  rw [h, if_pos rfl, ba_eq hS, hz]
theorem at_err {i er : Nat} {x : Fnd × Nat} (h : x.2 = er) (her : er ≠ 0) : Value.tuple #[.agg #[.int .u8 0, .int .i64 0, .string ⟨#[]⟩], .int .i64 (er : Int)] = atV i x := by
  unfold atV
  rw [h, if_neg her]
theorem retG {fn : Func} {p q : Tmp} (h : fn.results = #[.cell p 69, .tmp q]) {tmps : Array Value} {W : World} {g : Nat} {x y z v : Value} (hp : tmps.getD p undef = .pointer (some ⟨g, 0, none⟩)) (hq : tmps.getD q undef = v)
    (hb : Blk W g 69 #[x, y, z]) : (results fn tmps).run Tryd.prog W = .ok (.tuple #[.agg #[x, y, z], v]) W := by
  have c0 := hb.cell 0
  have c1 := hb.cell 1
  have c2 := hb.cell 2
  simp at c0 c1 c2
  rw [Array.getD_eq_getD_getElem?] at hp hq
  simp [results, h, hp, hq, go_sem, c0, c1, c2]
theorem Blk.store3 {w : World} {g : Nat} {t : TypeId} {x y z x' y' z' : Value} (h : Blk w g t #[x, y, z]) : Blk (((w.setCell ⟨g, 0, none⟩ x').setCell ⟨g, 1, none⟩ y').setCell ⟨g, 2, none⟩ z') g t #[x', y', z'] :=
  ((h.set_ 0 x').set_ 1 y').set_ 2 z'
theorem mid_list (s : ByteArray) (i j : Nat) (_ : i ≤ j) (_ : j ≤ s.size) : (s.extract i j).data.toList = (s.data.toList.drop i).take (j - i) := by
  rw [ByteArray.data_extract, Array.toList_extract]
theorem lead_take (l : List UInt8) : l.take (lead l).length = lead l := by
  exact (List.prefix_iff_eq_take.1 (Lx.lead_pre' l)).symm
theorem drop_at (s : ByteArray) (i : Nat) (hi : i < s.size) : s.data.toList.drop i = s[i] :: s.data.toList.drop (i + 1) := by
  have : i < s.data.toList.length := by rw [← size_list]; exact hi
  rw [List.drop_eq_getElem_cons this]; rfl
theorem below3 {B : Nat} {a w : World} {g : Nat} (h : Below B a w) (hg : B ≤ g) (x y z : Value) : Below B a (((w.setCell ⟨g, 0, none⟩ x).setCell ⟨g, 1, none⟩ y).setCell ⟨g, 2, none⟩ z) := ((h.setCell hg _).setCell hg _).setCell hg _
/-- The plain facts of a name. -/
theorem name_facts (L : List UInt8) (i : Nat) (c : UInt8) (t : List UInt8) (hL : L.drop i = c :: t) (hc : lowB c = true) (e : Nat) (he : e = i + (lead (L.drop i)).length) :
    (isW (lead (L.drop i)) = true → fFirst (L.drop i) = ((1, lead (L.drop i), (lead (L.drop i)).length), 0)) ∧
    (isW (lead (L.drop i)) = false → fieldN (L.drop e) = [] → fFirst (L.drop i) = ((2, lead (L.drop i), (lead (L.drop i)).length), if 32 < (lead (L.drop i)).length then 63 else 0)) ∧
    (isW (lead (L.drop i)) = false → ∀ B, fieldN (L.drop e) = B → B ≠ [] → fFirst (L.drop i) = ((2, lead (L.drop i) ++ 46 :: B, (lead (L.drop i)).length + (1 + B.length)), if 32 < (lead (L.drop i)).length ∨ 32 < B.length then 63 else 0)) ∧ 1 ≤ (lead (L.drop i)).length := by
  have hd : L.drop e = (L.drop i).drop (lead (L.drop i)).length := by rw [List.drop_drop, he]
  rw [hd, hL]
  refine ⟨fun h => at_word h, fun h hf => at_name hc h hf, fun h B hB hf => at_names hc h hB hf, ?_⟩
  rw [lead_part (low_part hc)]
  exact Nat.succ_pos _

set_option maxRecDepth 100000 in
set_option maxHeartbeats 8000000 in
theorem rname_c (s : ByteArray) (hs : s.size ≤ 100000) (i : Nat) (hi : i < s.size) (hc : lowB s[i] = true) (w : World) :
    Calls Tryd.prog 54 #[.string s, .int .i64 (i : Int)] w fun e w' => e = .returned (atV i (fFirst (s.data.toList.drop i))) ∧ Below w.heap.size w w' := by
  have hmax : maxLen = 9223372036854775807 := rfl
  have hszl := size_list s
  obtain ⟨e, he⟩ : ∃ e, e = i + (lead (s.data.toList.drop i)).length := ⟨_, rfl⟩
  obtain ⟨f1, f2, f3, f4⟩ := name_facts s.data.toList i s[i] _ (drop_at s i hi) hc e he
  have hll := lead_len (s.data.toList.drop i)
  rw [List.length_drop] at hll
  have hie : i < e := by omega
  have hes : e ≤ s.size := by omega
  have HE1 := Lib.hid (fun W => rend_c s hs i (by omega) W)
  rw [← he] at HE1
  have ht1 : (s.extract i e).data.toList = lead (s.data.toList.drop i) := by rw [mid_list s i e (by omega) hes, he, Nat.add_sub_cancel_left, lead_take]
  have HW1 := Lib.hid (fun W => rword_c (s.extract i e) W)
  rw [ht1] at HW1
  have ha : (lead (s.data.toList.drop i)).length = e - i := by omega
  obtain ⟨R, hR⟩ : ∃ R, R = fFirst (s.data.toList.drop i) := ⟨_, rfl⟩
  rw [← hR] at f1 f2 f3 ⊢
  rw [ha] at f1 f2 f3
  generalize hA : lead (s.data.toList.drop i) = A at *
  obtain ⟨q1, hq1⟩ : ∃ q, q = isW A := ⟨_, rfl⟩
  rw [← hq1] at f1 f2 f3 HW1
  obtain ⟨p, hp⟩ : ∃ p, p = w.heap.size := ⟨_, rfl⟩
  have hbk := Blk.new w 69 #[.int .u8 0, .int .i64 0, .string ⟨#[]⟩]
  have hb0 : Below w.heap.size w (w.alloc (.cells #[.int .u8 0, .int .i64 0, .string ⟨#[]⟩] 69)) := (Below.refl _ _).alloc (Nat.le_refl _) _
  have HBK0 := Lib.hid hbk; have HB0 := Lib.hid hb0
  have F1 := Lib.hid f1; have F2 := Lib.hid f2; have F3 := Lib.hid f3; have HT1 := Lib.hid ht1; have HEI := Lib.hid he; have HAL := Lib.hid ha; have HAE := Lib.hid hA; have HS := Lib.hid hszl
  clear hp f1 f2 f3 ht1 he ha hq1 hbk hb0 hll f4 hR hA hszl hc
  cases q1
  · have hcs : ¬ (e : Int) + 1 < (s.size : Int) ∨ ((e : Int) + 1 < (s.size : Int)) := by omega
    have hl1 : (32 : Int) < (e : Int) - (i : Int) ∨ ¬ (32 : Int) < (e : Int) - (i : Int) := by omega
    have noF : fieldN (s.data.toList.drop e) = [] → (32 < e - i → R.2 = 63) ∧ (¬ 32 < e - i → R = ((2, A, e - i), 0)) := fun hf => by
      have := F2.out rfl hf
      exact ⟨fun h => by rw [this, if_pos h], fun h => by rw [this, if_neg h]⟩
    have NOF := Lib.hid noF
    clear noF
    rcases hcs with hn | hn
    · have hF : fieldN (s.data.toList.drop e) = [] := by
        have : (s.data.toList.drop e).length ≤ 1 := by rw [List.length_drop, ← HS.out]; omega
        match s.data.toList.drop e, this with
        | [], _ => rfl
        | [x], _ =>
          by_cases hx : x = 46
          · rw [hx]; exact field_46
          · exact field_np hx
        | x :: y :: l, h => simp at h
      obtain ⟨G1, G2⟩ := NOF.out hF
      have HG1 := Lib.hid G1; have HG2 := Lib.hid G2
      clear G1 G2 hF
      rcases hl1 with h32 | h32
      · go_enter Tryd.func54, Tryd.ntmps54
        go_wp2_with fail
        refine (HE1.out _).mono ?_
        rintro e0 w0 ⟨rfl, rfl⟩
        go_wp2_with fail
        refine (HW1.out _).mono ?_
        rintro e0 w1 ⟨rfl, hb1⟩
        have HBK := Lib.hid (HBK0.out.below hb1 HBK0.out.lt); have HB := Lib.hid (HB0.out.trans (hb1.mono (by simp)))
        clear hb1
        have d0 := HBK.out.cell 0; have d1 := HBK.out.cell 1; have d2 := HBK.out.cell 2; have z0 := HBK.out.frozen 0; have z1 := HBK.out.frozen 1; have z2 := HBK.out.frozen 2
        simp at d0 d1 d2
        go_wp2_with fail
        refine bodyPost_ret (retG Tryd.results54 rfl rfl HBK.out.store3) rfl ⟨congrArg Ending.returned (at_err (er := 63) (HG1.out (by omega)) (by decide)), below3 HB.out (Nat.le_refl _) _ _ _⟩
      · go_enter Tryd.func54, Tryd.ntmps54
        go_wp2_with fail
        refine (HE1.out _).mono ?_
        rintro e0 w0 ⟨rfl, rfl⟩
        go_wp2_with fail
        refine (HW1.out _).mono ?_
        rintro e0 w1 ⟨rfl, hb1⟩
        have HBK := Lib.hid (HBK0.out.below hb1 HBK0.out.lt); have HB := Lib.hid (HB0.out.trans (hb1.mono (by simp)))
        clear hb1
        have d0 := HBK.out.cell 0; have d1 := HBK.out.cell 1; have d2 := HBK.out.cell 2; have z0 := HBK.out.frozen 0; have z1 := HBK.out.frozen 1; have z2 := HBK.out.frozen 2
        simp at d0 d1 d2
        go_wp2_with fail
        refine bodyPost_ret (retG Tryd.results54 rfl rfl HBK.out.store3) rfl ⟨congrArg Ending.returned (at_ok (k := 2) (HG2.out (by omega)) rfl HT1.out (by have := HAL.out; omega)), below3 HB.out (Nat.le_refl _) _ _ _⟩
    · have hes' : e < s.size := by omega
      have hesz : (e : Int) < (s.size : Int) := by omega
      have hde := drop_at s e hes'
      have HDE := Lib.hid hde
      clear hde
      by_cases h46 : s[e] = 46
      · have h46z : (s[e].toNat : Int) = 46 := by rw [h46]; rfl
        have hes1 : e + 1 < s.size := by omega
        have hd1 := drop_at s (e + 1) hes1
        have HD1 := Lib.hid hd1
        have HL1 := Lib.hid (fun W => rlow_c s[e + 1] W)
        clear hd1
        obtain ⟨q2, hq2⟩ : ∃ q, q = lowB s[e + 1] := ⟨_, rfl⟩
        rw [← hq2] at HL1
        have HQ2 := Lib.hid hq2
        have H46 := Lib.hid h46
        clear hq2 h46
        cases q2
        · have hF : fieldN (s.data.toList.drop e) = [] := by rw [HDE.out, H46.out, HD1.out]; exact field_low HQ2.out.symm
          obtain ⟨G1, G2⟩ := NOF.out hF
          have HG1 := Lib.hid G1; have HG2 := Lib.hid G2
          clear G1 G2 hF
          rcases hl1 with h32 | h32
          · go_enter Tryd.func54, Tryd.ntmps54
            go_wp2_with fail
            refine (HE1.out _).mono ?_
            rintro e0 w0 ⟨rfl, rfl⟩
            go_wp2_with fail
            refine (HW1.out _).mono ?_
            rintro e0 w1 ⟨rfl, hb1⟩
            have HBK := Lib.hid (HBK0.out.below hb1 HBK0.out.lt); have HB := Lib.hid (HB0.out.trans (hb1.mono (by simp)))
            clear hb1
            have d0 := HBK.out.cell 0; have d1 := HBK.out.cell 1; have d2 := HBK.out.cell 2; have z0 := HBK.out.frozen 0; have z1 := HBK.out.frozen 1; have z2 := HBK.out.frozen 2
            simp at d0 d1 d2
            go_wp2_with fail
            refine (HL1.out _).mono ?_
            rintro e0 w2 ⟨rfl, rfl⟩
            go_wp2_with fail
            refine bodyPost_ret (retG Tryd.results54 rfl rfl HBK.out.store3) rfl ⟨congrArg Ending.returned (at_err (er := 63) (HG1.out (by omega)) (by decide)), below3 HB.out (Nat.le_refl _) _ _ _⟩
          · go_enter Tryd.func54, Tryd.ntmps54
            go_wp2_with fail
            refine (HE1.out _).mono ?_
            rintro e0 w0 ⟨rfl, rfl⟩
            go_wp2_with fail
            refine (HW1.out _).mono ?_
            rintro e0 w1 ⟨rfl, hb1⟩
            have HBK := Lib.hid (HBK0.out.below hb1 HBK0.out.lt); have HB := Lib.hid (HB0.out.trans (hb1.mono (by simp)))
            clear hb1
            have d0 := HBK.out.cell 0; have d1 := HBK.out.cell 1; have d2 := HBK.out.cell 2; have z0 := HBK.out.frozen 0; have z1 := HBK.out.frozen 1; have z2 := HBK.out.frozen 2
            simp at d0 d1 d2
            go_wp2_with fail
            refine (HL1.out _).mono ?_
            rintro e0 w2 ⟨rfl, rfl⟩
            go_wp2_with fail
            refine bodyPost_ret (retG Tryd.results54 rfl rfl HBK.out.store3) rfl ⟨congrArg Ending.returned (at_ok (k := 2) (HG2.out (by omega)) rfl HT1.out (by have := HAL.out; omega)), below3 HB.out (Nat.le_refl _) _ _ _⟩
        · obtain ⟨j, hj⟩ : ∃ j, j = e + 1 + (lead (s.data.toList.drop (e + 1))).length := ⟨_, rfl⟩
          have HE2 := Lib.hid (fun W => rend_c s hs (e + 1) (by omega) W)
          rw [← hj] at HE2
          have hll2 := lead_len (s.data.toList.drop (e + 1))
          rw [List.length_drop, ← HS.out] at hll2
          have hjs : j ≤ s.size := by omega
          have hej : e + 1 ≤ j := by omega
          have ht2 : (s.extract (e + 1) j).data.toList = lead (s.data.toList.drop (e + 1)) := by rw [mid_list s (e + 1) j hej hjs, hj, Nat.add_sub_cancel_left, lead_take]
          have ht3 : (s.extract i j).data.toList = A ++ 46 :: lead (s.data.toList.drop (e + 1)) := by
            rw [mid_list s i j (by omega) hjs, show j - i = (e - i) + (1 + (lead (s.data.toList.drop (e + 1))).length) by omega, List.take_add, List.drop_drop, show i + (e - i) = e by omega, HDE.out, H46.out, Nat.add_comm 1, List.take_succ_cons, lead_take, ← HAL.out, ← HAE.out, lead_take]
          have HW2 := Lib.hid (fun W => rword_c (s.extract (e + 1) j) W)
          rw [ht2] at HW2
          have hbl : (lead (s.data.toList.drop (e + 1))).length = j - e - 1 := by omega
          obtain ⟨q3, hq3⟩ : ∃ q, q = isW (lead (s.data.toList.drop (e + 1))) := ⟨_, rfl⟩
          rw [← hq3] at HW2
          rw [HD1.out] at hq3
          have HQ3 := Lib.hid hq3; have HT3 := Lib.hid ht3; have HBL := Lib.hid hbl; have HJ := Lib.hid hj
          clear hq3 ht2 ht3 hll2 hbl hj
          cases q3
          · have hFF : fieldN (s.data.toList.drop e) = lead (s.data.toList.drop (e + 1)) := by rw [HDE.out, H46.out, HD1.out]; exact field_some HQ2.out.symm HQ3.out.symm
            have hne : lead (s.data.toList.drop (e + 1)) ≠ [] := by rw [HD1.out, lead_part (low_part HQ2.out.symm)]; simp
            have hres := F3.out rfl _ hFF hne
            rw [HBL.out] at hres
            have G1 : (32 < e - i ∨ 32 < j - e - 1) → R.2 = 63 := fun h => by rw [hres, if_pos h]
            have G2 : ¬ (32 < e - i ∨ 32 < j - e - 1) → R = ((2, A ++ 46 :: lead (s.data.toList.drop (e + 1)), e - i + (1 + (j - e - 1))), 0) := fun h => by rw [hres, if_neg h]
            have HG1 := Lib.hid G1; have HG2 := Lib.hid G2
            clear G1 G2 hFF hne hres
            have hl2 : (32 : Int) < (e : Int) - (i : Int) ∨ (¬ (32 : Int) < (e : Int) - (i : Int) ∧ (32 : Int) < (j : Int) - (e : Int) - 1) ∨ (¬ (32 : Int) < (e : Int) - (i : Int) ∧ ¬ (32 : Int) < (j : Int) - (e : Int) - 1) := by omega
            rcases hl2 with h32 | ⟨h32, h33⟩ | ⟨h32, h33⟩
            · go_enter Tryd.func54, Tryd.ntmps54
              go_wp2_with fail
              refine (HE1.out _).mono ?_
              rintro e0 w0 ⟨rfl, rfl⟩
              go_wp2_with fail
              refine (HW1.out _).mono ?_
              rintro e0 w1 ⟨rfl, hb1⟩
              have HBK := Lib.hid (HBK0.out.below hb1 HBK0.out.lt); have HB := Lib.hid (HB0.out.trans (hb1.mono (by simp)))
              clear hb1
              have d0 := HBK.out.cell 0; have d1 := HBK.out.cell 1; have d2 := HBK.out.cell 2; have z0 := HBK.out.frozen 0; have z1 := HBK.out.frozen 1; have z2 := HBK.out.frozen 2
              simp at d0 d1 d2
              go_wp2_with fail
              refine (HL1.out _).mono ?_
              rintro e0 w2 ⟨rfl, rfl⟩
              go_wp2_with fail
              refine (HE2.out _).mono ?_
              rintro e0 w2 ⟨rfl, rfl⟩
              go_wp2_with fail
              refine (HW2.out _).mono ?_
              rintro e0 w3 ⟨rfl, hb3⟩
              have HBK' := Lib.hid (HBK.out.below hb3 HBK.out.lt); have HB' := Lib.hid (HB.out.trans (hb3.mono HB.out.size))
              clear hb3 HBK HB d0 d1 d2 z0 z1 z2
              have HBK := HBK'; have HB := HB'
              clear HBK' HB'
              have d0 := HBK.out.cell 0; have d1 := HBK.out.cell 1; have d2 := HBK.out.cell 2; have z0 := HBK.out.frozen 0; have z1 := HBK.out.frozen 1; have z2 := HBK.out.frozen 2
              simp at d0 d1 d2
              go_wp2_with fail
              refine bodyPost_ret (retG Tryd.results54 rfl rfl HBK.out.store3) rfl ⟨congrArg Ending.returned (at_err (er := 63) (HG1.out (by omega)) (by decide)), below3 HB.out (Nat.le_refl _) _ _ _⟩
            · go_enter Tryd.func54, Tryd.ntmps54
              go_wp2_with fail
              refine (HE1.out _).mono ?_
              rintro e0 w0 ⟨rfl, rfl⟩
              go_wp2_with fail
              refine (HW1.out _).mono ?_
              rintro e0 w1 ⟨rfl, hb1⟩
              have HBK := Lib.hid (HBK0.out.below hb1 HBK0.out.lt); have HB := Lib.hid (HB0.out.trans (hb1.mono (by simp)))
              clear hb1
              have d0 := HBK.out.cell 0; have d1 := HBK.out.cell 1; have d2 := HBK.out.cell 2; have z0 := HBK.out.frozen 0; have z1 := HBK.out.frozen 1; have z2 := HBK.out.frozen 2
              simp at d0 d1 d2
              go_wp2_with fail
              refine (HL1.out _).mono ?_
              rintro e0 w2 ⟨rfl, rfl⟩
              go_wp2_with fail
              refine (HE2.out _).mono ?_
              rintro e0 w2 ⟨rfl, rfl⟩
              go_wp2_with fail
              refine (HW2.out _).mono ?_
              rintro e0 w3 ⟨rfl, hb3⟩
              have HBK' := Lib.hid (HBK.out.below hb3 HBK.out.lt); have HB' := Lib.hid (HB.out.trans (hb3.mono HB.out.size))
              clear hb3 HBK HB d0 d1 d2 z0 z1 z2
              have HBK := HBK'; have HB := HB'
              clear HBK' HB'
              have d0 := HBK.out.cell 0; have d1 := HBK.out.cell 1; have d2 := HBK.out.cell 2; have z0 := HBK.out.frozen 0; have z1 := HBK.out.frozen 1; have z2 := HBK.out.frozen 2
              simp at d0 d1 d2
              go_wp2_with fail
              refine bodyPost_ret (retG Tryd.results54 rfl rfl HBK.out.store3) rfl ⟨congrArg Ending.returned (at_err (er := 63) (HG1.out (by omega)) (by decide)), below3 HB.out (Nat.le_refl _) _ _ _⟩
            · go_enter Tryd.func54, Tryd.ntmps54
              go_wp2_with fail
              refine (HE1.out _).mono ?_
              rintro e0 w0 ⟨rfl, rfl⟩
              go_wp2_with fail
              refine (HW1.out _).mono ?_
              rintro e0 w1 ⟨rfl, hb1⟩
              have HBK := Lib.hid (HBK0.out.below hb1 HBK0.out.lt); have HB := Lib.hid (HB0.out.trans (hb1.mono (by simp)))
              clear hb1
              have d0 := HBK.out.cell 0; have d1 := HBK.out.cell 1; have d2 := HBK.out.cell 2; have z0 := HBK.out.frozen 0; have z1 := HBK.out.frozen 1; have z2 := HBK.out.frozen 2
              simp at d0 d1 d2
              go_wp2_with fail
              refine (HL1.out _).mono ?_
              rintro e0 w2 ⟨rfl, rfl⟩
              go_wp2_with fail
              refine (HE2.out _).mono ?_
              rintro e0 w2 ⟨rfl, rfl⟩
              go_wp2_with fail
              refine (HW2.out _).mono ?_
              rintro e0 w3 ⟨rfl, hb3⟩
              have HBK' := Lib.hid (HBK.out.below hb3 HBK.out.lt); have HB' := Lib.hid (HB.out.trans (hb3.mono HB.out.size))
              clear hb3 HBK HB d0 d1 d2 z0 z1 z2
              have HBK := HBK'; have HB := HB'
              clear HBK' HB'
              have d0 := HBK.out.cell 0; have d1 := HBK.out.cell 1; have d2 := HBK.out.cell 2; have z0 := HBK.out.frozen 0; have z1 := HBK.out.frozen 1; have z2 := HBK.out.frozen 2
              simp at d0 d1 d2
              go_wp2_with fail
              refine bodyPost_ret (retG Tryd.results54 rfl rfl HBK.out.store3) rfl ⟨congrArg Ending.returned (at_ok (k := 2) (HG2.out (by omega)) rfl HT3.out (by have := HAL.out; omega)), below3 HB.out (Nat.le_refl _) _ _ _⟩
          · have hF : fieldN (s.data.toList.drop e) = [] := by rw [HDE.out, H46.out, HD1.out]; exact field_word HQ3.out.symm
            obtain ⟨G1, G2⟩ := NOF.out hF
            have HG1 := Lib.hid G1; have HG2 := Lib.hid G2
            clear G1 G2 hF
            rcases hl1 with h32 | h32
            · go_enter Tryd.func54, Tryd.ntmps54
              go_wp2_with fail
              refine (HE1.out _).mono ?_
              rintro e0 w0 ⟨rfl, rfl⟩
              go_wp2_with fail
              refine (HW1.out _).mono ?_
              rintro e0 w1 ⟨rfl, hb1⟩
              have HBK := Lib.hid (HBK0.out.below hb1 HBK0.out.lt); have HB := Lib.hid (HB0.out.trans (hb1.mono (by simp)))
              clear hb1
              have d0 := HBK.out.cell 0; have d1 := HBK.out.cell 1; have d2 := HBK.out.cell 2; have z0 := HBK.out.frozen 0; have z1 := HBK.out.frozen 1; have z2 := HBK.out.frozen 2
              simp at d0 d1 d2
              go_wp2_with fail
              refine (HL1.out _).mono ?_
              rintro e0 w2 ⟨rfl, rfl⟩
              go_wp2_with fail
              refine (HE2.out _).mono ?_
              rintro e0 w2 ⟨rfl, rfl⟩
              go_wp2_with fail
              refine (HW2.out _).mono ?_
              rintro e0 w3 ⟨rfl, hb3⟩
              have HBK' := Lib.hid (HBK.out.below hb3 HBK.out.lt); have HB' := Lib.hid (HB.out.trans (hb3.mono HB.out.size))
              clear hb3 HBK HB d0 d1 d2 z0 z1 z2
              have HBK := HBK'; have HB := HB'
              clear HBK' HB'
              have d0 := HBK.out.cell 0; have d1 := HBK.out.cell 1; have d2 := HBK.out.cell 2; have z0 := HBK.out.frozen 0; have z1 := HBK.out.frozen 1; have z2 := HBK.out.frozen 2
              simp at d0 d1 d2
              go_wp2_with fail
              refine bodyPost_ret (retG Tryd.results54 rfl rfl HBK.out.store3) rfl ⟨congrArg Ending.returned (at_err (er := 63) (HG1.out (by omega)) (by decide)), below3 HB.out (Nat.le_refl _) _ _ _⟩
            · go_enter Tryd.func54, Tryd.ntmps54
              go_wp2_with fail
              refine (HE1.out _).mono ?_
              rintro e0 w0 ⟨rfl, rfl⟩
              go_wp2_with fail
              refine (HW1.out _).mono ?_
              rintro e0 w1 ⟨rfl, hb1⟩
              have HBK := Lib.hid (HBK0.out.below hb1 HBK0.out.lt); have HB := Lib.hid (HB0.out.trans (hb1.mono (by simp)))
              clear hb1
              have d0 := HBK.out.cell 0; have d1 := HBK.out.cell 1; have d2 := HBK.out.cell 2; have z0 := HBK.out.frozen 0; have z1 := HBK.out.frozen 1; have z2 := HBK.out.frozen 2
              simp at d0 d1 d2
              go_wp2_with fail
              refine (HL1.out _).mono ?_
              rintro e0 w2 ⟨rfl, rfl⟩
              go_wp2_with fail
              refine (HE2.out _).mono ?_
              rintro e0 w2 ⟨rfl, rfl⟩
              go_wp2_with fail
              refine (HW2.out _).mono ?_
              rintro e0 w3 ⟨rfl, hb3⟩
              have HBK' := Lib.hid (HBK.out.below hb3 HBK.out.lt); have HB' := Lib.hid (HB.out.trans (hb3.mono HB.out.size))
              clear hb3 HBK HB d0 d1 d2 z0 z1 z2
              have HBK := HBK'; have HB := HB'
              clear HBK' HB'
              have d0 := HBK.out.cell 0; have d1 := HBK.out.cell 1; have d2 := HBK.out.cell 2; have z0 := HBK.out.frozen 0; have z1 := HBK.out.frozen 1; have z2 := HBK.out.frozen 2
              simp at d0 d1 d2
              go_wp2_with fail
              refine bodyPost_ret (retG Tryd.results54 rfl rfl HBK.out.store3) rfl ⟨congrArg Ending.returned (at_ok (k := 2) (HG2.out (by omega)) rfl HT1.out (by have := HAL.out; omega)), below3 HB.out (Nat.le_refl _) _ _ _⟩
      · have hF : fieldN (s.data.toList.drop e) = [] := by rw [HDE.out]; exact field_np h46
        have h46z : ¬ (s[e].toNat : Int) = 46 := fun h => h46 (UInt8.toNat_inj.1 (by show s[e].toNat = 46; omega))
        have h46y : ((s[e].toNat : Int) == 46) = false := by rw [beq_eq_false_iff_ne]; exact h46z
        obtain ⟨G1, G2⟩ := NOF.out hF
        have HG1 := Lib.hid G1; have HG2 := Lib.hid G2
        clear G1 G2 hF h46
        rcases hl1 with h32 | h32
        · go_enter Tryd.func54, Tryd.ntmps54
          go_wp2_with fail
          refine (HE1.out _).mono ?_
          rintro e0 w0 ⟨rfl, rfl⟩
          go_wp2_with fail
          refine (HW1.out _).mono ?_
          rintro e0 w1 ⟨rfl, hb1⟩
          have HBK := Lib.hid (HBK0.out.below hb1 HBK0.out.lt); have HB := Lib.hid (HB0.out.trans (hb1.mono (by simp)))
          clear hb1
          have d0 := HBK.out.cell 0; have d1 := HBK.out.cell 1; have d2 := HBK.out.cell 2; have z0 := HBK.out.frozen 0; have z1 := HBK.out.frozen 1; have z2 := HBK.out.frozen 2
          simp at d0 d1 d2
          go_wp2_with fail
          refine bodyPost_ret (retG Tryd.results54 rfl rfl HBK.out.store3) rfl ⟨congrArg Ending.returned (at_err (er := 63) (HG1.out (by omega)) (by decide)), below3 HB.out (Nat.le_refl _) _ _ _⟩
        · go_enter Tryd.func54, Tryd.ntmps54
          go_wp2_with fail
          refine (HE1.out _).mono ?_
          rintro e0 w0 ⟨rfl, rfl⟩
          go_wp2_with fail
          refine (HW1.out _).mono ?_
          rintro e0 w1 ⟨rfl, hb1⟩
          have HBK := Lib.hid (HBK0.out.below hb1 HBK0.out.lt); have HB := Lib.hid (HB0.out.trans (hb1.mono (by simp)))
          clear hb1
          have d0 := HBK.out.cell 0; have d1 := HBK.out.cell 1; have d2 := HBK.out.cell 2; have z0 := HBK.out.frozen 0; have z1 := HBK.out.frozen 1; have z2 := HBK.out.frozen 2
          simp at d0 d1 d2
          go_wp2_with fail
          refine bodyPost_ret (retG Tryd.results54 rfl rfl HBK.out.store3) rfl ⟨congrArg Ending.returned (at_ok (k := 2) (HG2.out (by omega)) rfl HT1.out (by have := HAL.out; omega)), below3 HB.out (Nat.le_refl _) _ _ _⟩
  · have HG := Lib.hid (F1.out rfl)
    go_enter Tryd.func54, Tryd.ntmps54
    go_wp2_with fail
    refine (HE1.out _).mono ?_
    rintro e0 w0 ⟨rfl, rfl⟩
    go_wp2_with fail
    refine (HW1.out _).mono ?_
    rintro e0 w1 ⟨rfl, hb1⟩
    have HBK := Lib.hid (HBK0.out.below hb1 HBK0.out.lt); have HB := Lib.hid (HB0.out.trans (hb1.mono (by simp)))
    clear hb1
    have d0 := HBK.out.cell 0; have d1 := HBK.out.cell 1; have d2 := HBK.out.cell 2; have z0 := HBK.out.frozen 0; have z1 := HBK.out.frozen 1; have z2 := HBK.out.frozen 2
    simp at d0 d1 d2
    go_wp2_with fail
    refine bodyPost_ret (retG Tryd.results54 rfl rfl HBK.out.store3) rfl ⟨congrArg Ending.returned (at_ok (k := 1) HG.out rfl HT1.out (by have := HAL.out; omega)), below3 HB.out (Nat.le_refl _) _ _ _⟩
end Go.Proofs.YteppdnlchjpekaaDoor
