/- BigNames: so many digits 9, and its walk. -/
import Derived.Test.YtcclclginhhlaaaDoorRingW
namespace Go.Proofs.YtcclclginhhlaaaDoor
open Go.RowKit Go.Shelf
open Pl Dig

/-- The bytes, when so many are set. -/
def ninesAt (n i : Nat) : List UInt8 := List.replicate i 57 ++ List.replicate (n - i) 0
theorem nines_len {n i : Nat} (h : i ≤ n) : (ninesAt n i).length = n := by simp [ninesAt]; omega
theorem nines_set {n i : Nat} (h : i < n) : (byt (ninesAt n i)).set i (.int .u8 57) = byt (ninesAt n (i + 1)) := by
  apply List.ext_getElem
  · simp [byt, ninesAt]; omega
  · intro k h1 h2
    simp only [List.getElem_set, byt, List.getElem_map, ninesAt, List.getElem_append, List.getElem_replicate, List.length_replicate]
    by_cases hk : i = k
    · subst hk; rw [if_pos rfl, dif_pos (by omega)]; rfl
    · rw [if_neg hk]
      by_cases hlt : k < i
      · rw [dif_pos hlt, dif_pos (by omega)]
      · rw [dif_neg hlt, dif_neg (by omega)]
theorem nines_end (n : Nat) : ninesAt n n = List.replicate n 57 := by simp [ninesAt]
theorem made_u8 (n : Nat) : (madeCells #[.int .u8 0] n).toList = byt (ninesAt n 0) := by rw [toList_madeCells_one]; simp [byt, ninesAt]

set_option maxRecDepth 100000 in
set_option maxHeartbeats 1000000 in
theorem nines_any (n : Nat) (w : World) (hn : n ≤ 201) (h0 : 0 < n) :
    Calls Tryd.prog 14 #[.int .i64 n] w fun e w' => e = .returned (.string ⟨(List.replicate n 57).toArray⟩) ∧ Below w.heap.size w w' := by
  obtain ⟨i5, hi, hz0, hz1, hz2⟩ := info_parts info5
  have HI := Lib.hid hi; have HZ0 := Lib.hid hz0; have HZ1 := Lib.hid hz1; have HZ2 := Lib.hid hz2
  clear hi hz0 hz1 hz2
  obtain ⟨N, hN⟩ : ∃ N : ByteArray, N = ⟨(List.replicate n 57).toArray⟩ := ⟨_, rfl⟩
  rw [← hN]
  have HN := Lib.hid hN
  clear hN
  go_enter Tryd.func14, Tryd.ntmps14
  go_wp2_with (at_make; refine wpList_make_full _ rfl _ _ 48 rfl w.heap.size 5 i5 (.int .u8 0) 1 Tryd.underlying48 HI.out HZ0.out HZ1.out .i64 .i64 _ _ n rfl rfl (by omega) (by omega) (by rw [HZ2.out]; omega) (by unfold maxLen; omega) (Nat.le_refl _) ?_; intro w1 hown hgr; have HOWN := Lib.hid hown; have HBL := Lib.hid (made_below hgr); clear hown hgr)
  go_loopg [4] (n + 1) (fun g s4 wr => ∃ i : Nat, g = n + 1 - i ∧ i ≤ n ∧ s4 = .int .i64 (i : Int) ∧ wr.ownsRow w.heap.size 5 1 (.slice (some ⟨w.heap.size, 0, none⟩) n n) n (byt (ninesAt n i)) ∧ Below w.heap.size w wr)
  case atStart =>
    refine ⟨0, rfl, by omega, rfl, ?_, HBL.out⟩
    have := HOWN.out; rw [show (Value.int IntKind.u8 0).cells = #[.int .u8 0] from rfl, Nat.mul_one, made_u8] at this; exact this
  case round =>
    obtain ⟨i, hg, hi, rfl, hown, hB⟩ := hrel
    have HG := Lib.hid hg; have HOWN := Lib.hid hown; have HBW := Lib.hid hB
    clear hg hown hB
    by_cases hlt : i < n
    · have hfp := HOWN.out.frozenAt i
      have hcp := HOWN.out.cellAt i (by omega)
      have hge : i < (byt (ninesAt n i)).length := by simp only [byt, List.length_map, nines_len hi]; exact hlt
      rw [List.getElem?_eq_getElem hge] at hcp
      generalize (byt (ninesAt n i))[i] = u at hcp
      clear hge
      go_wp2_with fail
      go_roundg (n + 1 - (i + 1))
      case measure => have := HG.out; omega
      case rel =>
        have ho := (HOWN.out.stored i (.int .u8 57)).1
        rw [nines_set hlt] at ho
        exact ⟨i + 1, rfl, by omega, by go_num, ho, HBW.out.setCell (Nat.le_refl _) _⟩
    · obtain rfl : i = n := by omega
      rw [nines_end] at HOWN
      obtain ⟨g, cap, hv, hcv⟩ := own_convert HOWN.out (by intro h; have := congrArg List.length h; simp at this; omega)
      simp only [Value.slice.injEq, Option.some.injEq, Addr.mk.injEq] at hv
      obtain ⟨⟨rfl, _⟩, _, rfl⟩ := hv
      rw [← HN.out] at hcv
      go_wp2_with fail
      go_ret
      exact ⟨rfl, HBW.out⟩

abbrev nL (n : Nat) : List UInt8 := List.replicate n 57
theorem nl_chk : chk (nL 200) = 0 ∧ chk (45 :: nL 200) = 0 ∧ chk (nL 100) = 0 ∧ chk (nL 101) = 0 ∧ chk (nL 201) = 80 := by decide +kernel
theorem out_over {z : Int} (h : 10 ^ 200 ≤ z.natAbs) : (txtOut z).2 = 80 := by
  unfold txtOut; rw [if_neg]
  intro k; have := (dg_len (b := 10) (by decide) _ _).1 k; omega
theorem nl_add : (txtOut (valL (nL 200) + valL [49])).2 = 80 := out_over (by decide +kernel)
theorem nl_mul : (txtOut (valL (nL 100) * valL (nL 101))).2 = 80 := out_over (by decide +kernel)
theorem nl_sub : (txtOut (valL (45 :: nL 200) - valL [49])).2 = 80 := out_over (by decide +kernel)
theorem nl_zero : txtOut (valL (nL 200) + valL [48]) = (nL 200, 0) := by
  have e : valL (nL 200) + valL [48] = valL (nL 200) := by rw [show valL [48] = 0 from by decide]; omega
  rw [e]; unfold txtOut; rw [if_pos (val_len nl_chk.1), txt_val nl_chk.1]
theorem nl_sq : (txtOut (valL (nL 100) * valL (nL 100))).2 = 0 ∧ (txtOut (valL (nL 100) * valL (nL 100))).1.length = 200 := by
  have h1 : (dg 10 (valL (nL 100) * valL (nL 100)).natAbs).length ≤ 200 := (dg_len (by decide) _ _).2 (by decide +kernel)
  have h2 : ¬ (dg 10 (valL (nL 100) * valL (nL 100)).natAbs).length ≤ 199 := fun k => absurd ((dg_len (by decide) _ _).1 k) (by decide +kernel)
  have h3 : valL (nL 100) * valL (nL 100) ≠ 0 := by decide +kernel
  have h4 : ¬ (valL (nL 100) * valL (nL 100)) < 0 := by decide +kernel
  generalize valL (nL 100) * valL (nL 100) = z at *
  unfold txtOut; rw [if_pos h1]
  refine ⟨rfl, ?_⟩
  show (txt z).length = 200
  rw [txt_ne h3, if_neg h4, List.nil_append, body_len]; omega
theorem nl_div : divOut (45 :: nL 200) [45, 49] ((valL (45 :: nL 200)).tdiv (valL [45, 49])) = (nL 200, 0) := by
  have e : (valL (45 :: nL 200)).tdiv (valL [45, 49]) = valL (nL 200) := by decide +kernel
  rw [e]; unfold divOut
  rw [if_neg (by rw [pair_ok nl_chk.2.1 (by decide)]; simp), if_neg (by decide)]
  unfold txtOut; rw [if_pos (val_len nl_chk.1), txt_val nl_chk.1]
theorem nl_d0 : (divOut [55] [48] ((valL [55]).tdiv (valL [48]))).2 = 81 ∧ (divOut [48] [48] ((valL [48]).tmod (valL [48]))).2 = 81 := by decide +kernel
theorem nl_int : (intOut [57, 50, 50, 51, 51, 55, 50, 48, 51, 54, 56, 53, 52, 55, 55, 53, 56, 48, 56]).2 = 80 ∧ intOut [45, 57, 50, 50, 51, 51, 55, 50, 48, 51, 54, 56, 53, 52, 55, 55, 53, 56, 48, 56] = (-9223372036854775808, 0) ∧
    (intOut [45, 57, 50, 50, 51, 51, 55, 50, 48, 51, 54, 56, 53, 52, 55, 55, 53, 56, 48, 57]).2 = 80 := by decide +kernel
theorem nl_of : txt (-9223372036854775808) = [45, 57, 50, 50, 51, 51, 55, 50, 48, 51, 54, 56, 53, 52, 55, 55, 53, 56, 48, 56] := by
  have h : chk [45, 57, 50, 50, 51, 51, 55, 50, 48, 51, 54, 56, 53, 52, 55, 55, 53, 56, 48, 56] = 0 := by decide +kernel
  have e : valL [45, 57, 50, 50, 51, 51, 55, 50, 48, 51, 54, 56, 53, 52, 55, 55, 53, 56, 48, 56] = -9223372036854775808 := by decide +kernel
  rw [← e, txt_val h]
theorem nl_bad (z : Int) : (opOut [120] (nL 201) z).2 = 4 ∧ (opOut (nL 201) [120] z).2 = 80 := by
  have h1 : pairE [120] (nL 201) = 4 := by decide +kernel
  have h2 : pairE (nL 201) [120] = 80 := by decide +kernel
  unfold opOut; rw [h1, h2]; exact ⟨rfl, rfl⟩

/-- The twelve texts that are no numbers. -/
def badT : List (List UInt8) := [[], [45], [45, 48], [48, 49], [43, 49], [49, 46, 53], [49, 32], [45, 48, 49], [45, 45, 49], [97], [49, 101, 51], [255]]
theorem badT_chk : ∀ l ∈ badT, chk l = 4 := by decide +kernel
theorem badT_len : ∀ l ∈ badT, l.length ≤ 3 := by decide +kernel
def badC : Array Value := (badT.map fun l => Value.string ⟨l.toArray⟩).toArray
theorem badC_eq : badC = #[.string ⟨#[]⟩, .string ⟨#[45]⟩, .string ⟨#[45, 48]⟩, .string ⟨#[48, 49]⟩, .string ⟨#[43, 49]⟩, .string ⟨#[49, 46, 53]⟩, .string ⟨#[49, 32]⟩, .string ⟨#[45, 48, 49]⟩, .string ⟨#[45, 45, 49]⟩, .string ⟨#[97]⟩, .string ⟨#[49, 101, 51]⟩, .string ⟨#[255]⟩] := rfl
theorem badC_get {i : Nat} (h : i < 12) : ∃ s : ByteArray, badC[i]? = some (.string s) ∧ chk s.data.toList = 4 ∧ s.size ≤ maxLen := by
  have hl : i < badT.length := h
  refine ⟨⟨(badT[i]).toArray⟩, ?_, badT_chk _ (List.getElem_mem hl), ?_⟩
  · unfold badC; simp [List.getElem?_eq_getElem hl]
  · rw [size_len]; have := badT_len _ (List.getElem_mem hl); show (badT[i]).length ≤ maxLen; unfold maxLen; omega


theorem bT_nines (n : Nat) : (bT (nL n)).data.toList = nL n := rfl
theorem out_at {z : Int} {s : List UInt8} {k : Int} (h : txtOut z = (s, k)) : bT (txtOut z).1 = bT s ∧ (txtOut z).2 = k := by rw [h]; exact ⟨rfl, rfl⟩

set_option maxRecDepth 100000 in
set_option maxHeartbeats 2000000 in
theorem names_walk (w : World) (N N1 N2 N3 G A B E C X Y Z D : ByteArray) (x y : Int) (htab : ∀ W, Below w.heap.size w W → Lib.TabIs Tryd.prog W "internal/strconv.uint64pow10" .u64 Lib.pow10Tab)
    (hN : N.size = 200) (hE : (E.size : Int) = 200)
    (hG : (⟨#[45]⟩ : ByteArray) ++ N = G)
    (n1 : Tells 14 #[.int .i64 200] (.string N)) (n2 : Tells 14 #[.int .i64 100] (.string N1)) (n3 : Tells 14 #[.int .i64 101] (.string N2)) (n4 : Tells 14 #[.int .i64 201] (.string N3))
    (h1 : Says 15 #[.string N, .string ⟨#[49]⟩] A 80)
    (h2 : Says 15 #[.string N, .string ⟨#[48]⟩] N 0)
    (h3 : Says 16 #[.string N1, .string N2] B 80)
    (h4 : Says 16 #[.string N1, .string N1] E 0)
    (h5 : Says 17 #[.string ⟨#[55]⟩, .string ⟨#[48]⟩] C 81)
    (h6 : Says 18 #[.string ⟨#[48]⟩, .string ⟨#[48]⟩] X 81)
    (i1 : ∀ W, Below w.heap.size w W → Calls Tryd.prog 19 #[.string ⟨#[57, 50, 50, 51, 51, 55, 50, 48, 51, 54, 56, 53, 52, 55, 55, 53, 56, 48, 56]⟩] W fun e w' => e = .returned (.tuple #[.int .i64 x, .int .i64 80]) ∧ Below W.heap.size W w')
    (i2 : ∀ W, Below w.heap.size w W → Calls Tryd.prog 19 #[.string ⟨#[45, 57, 50, 50, 51, 51, 55, 50, 48, 51, 54, 56, 53, 52, 55, 55, 53, 56, 48, 56]⟩] W fun e w' => e = .returned (.tuple #[.int .i64 (-9223372036854775808), .int .i64 0]) ∧ Below W.heap.size W w')
    (i3 : ∀ W, Below w.heap.size w W → Calls Tryd.prog 19 #[.string ⟨#[45, 57, 50, 50, 51, 51, 55, 50, 48, 51, 54, 56, 53, 52, 55, 55, 53, 56, 48, 57]⟩] W fun e w' => e = .returned (.tuple #[.int .i64 y, .int .i64 80]) ∧ Below W.heap.size W w')
    (h7 : Says 20 #[.string G, .string ⟨#[49]⟩] Y 80)
    (h8 : Says 17 #[.string G, .string ⟨#[45, 49]⟩] N 0)
    (h9 : Says 15 #[.string ⟨#[120]⟩, .string N3] Z 4)
    (h0 : Says 15 #[.string N3, .string ⟨#[120]⟩] D 80)
    (k1 : Tells 13 #[.string N3] (.int .i64 80)) (k2 : Tells 13 #[.string G] (.int .i64 0))
    (o1 : ∀ w, Tab w → Calls Tryd.prog 21 #[.int .i64 (-9223372036854775808)] w fun e w' => e = .returned (.string ⟨#[45, 57, 50, 50, 51, 51, 55, 50, 48, 51, 54, 56, 53, 52, 55, 55, 53, 56, 48, 56]⟩) ∧ Below w.heap.size w w')
    (o2 : ∀ w, Tab w → Calls Tryd.prog 21 #[.int .i64 0] w fun e w' => e = .returned (.string ⟨#[48]⟩) ∧ Below w.heap.size w w') :
    Calls Tryd.prog 3 #[] w fun e w' => e = .returned (.bool true) ∧ Below w.heap.size w w' := by
  have HT := Lib.hid htab; clear htab
  have N1 := Lib.hid n1; have N2 := Lib.hid n2; have N3 := Lib.hid n3; have N4 := Lib.hid n4; have H1 := Lib.hid h1; have H2 := Lib.hid h2; have H3 := Lib.hid h3; have H4 := Lib.hid h4; have H5 := Lib.hid h5; have H6 := Lib.hid h6; have I1 := Lib.hid i1; have I2 := Lib.hid i2; have I3 := Lib.hid i3; have H7 := Lib.hid h7; have H8 := Lib.hid h8; have H9 := Lib.hid h9; have H0 := Lib.hid h0; have K1 := Lib.hid k1; have K2 := Lib.hid k2; have O1 := Lib.hid o1; have O2 := Lib.hid o2; clear n1 n2 n3 n4 h1 h2 h3 h4 h5 h6 i1 i2 i3 h7 h8 h9 h0 k1 k2 o1 o2
  go_enter Tryd.func3, Tryd.ntmps3
  go_wp2_with fail
  refine (works_any _ HT.out).mono ?_
  rintro e w1 ⟨rfl, hB1⟩
  have HB1 := Lib.hid hB1; clear hB1
  go_wp2_with fail
  obtain ⟨cs, hcs⟩ : ∃ cs, cs = badC := ⟨_, rfl⟩
  have HCS := Lib.hid hcs
  rw [badC_eq] at hcs
  rw [← hcs]
  clear hcs
  go_loopg [42] (13) (fun g s42 wr => ∃ i : Nat, g = 13 - i ∧ i ≤ 12 ∧ s42 = .int .i64 (i : Int) ∧ Blk wr w1.heap.size 9 cs ∧ Below w.heap.size w wr)
  case atStart => exact ⟨0, rfl, by omega, rfl, Blk.new w1 9 cs, HB1.out.alloc HB1.out.size _⟩
  case round =>
    obtain ⟨i, hg, hi, rfl, hblk, hB⟩ := hrel
    have HG2 := Lib.hid hg; have HBK := Lib.hid hblk; have HB2 := Lib.hid hB
    clear hg hblk hB
    by_cases hlt : i < 12
    · obtain ⟨s, hs, hc, hl⟩ := badC_get hlt
      have hcell : wr.cell? ⟨w1.heap.size, i, none⟩ = some (.string s) := by
        have := HBK.out.cell i
        rw [HCS.out] at this
        rw [this]; exact hs
      have hlt' : (i : Int) < 12 := by omega
      have HC := Lib.hid (says_check (n := 4) hl hc)
      clear hs hc hl
      go_wp2_with fail
      refine (HC.out _).mono ?_
      rintro e w3 ⟨rfl, hB3⟩
      have HB3 := Lib.hid (HB2.out.trans (hB3.mono HB2.out.size)); have HBK3 := Lib.hid (HBK.out.below hB3 HBK.out.lt); clear hB3
      go_wp2_with fail
      go_roundg (13 - (i + 1))
      case measure => have := HG2.out; omega
      case rel => exact ⟨i + 1, rfl, by omega, by go_num, HBK3.out, HB3.out⟩
    · obtain rfl : i = 12 := by omega
      clear HG2 HBK hlt
      go_wp2_with fail
      refine (N1.out _).mono ?_
      rintro e w3 ⟨rfl, hB3⟩
      have HB3 := Lib.hid (HB2.out.trans (hB3.mono HB2.out.size)); clear hB3
      go_wp2_with fail
      refine (H1.out _ (tab_on HT.out HB3.out)).mono ?_
      rintro e w4 ⟨rfl, hB4⟩
      have HB4 := Lib.hid (HB3.out.trans (hB4.mono HB3.out.size)); clear hB4
      go_wp2_with fail
      refine (H2.out _ (tab_on HT.out HB4.out)).mono ?_
      rintro e w5 ⟨rfl, hB5⟩
      have HB5 := Lib.hid (HB4.out.trans (hB5.mono HB4.out.size)); clear hB5
      go_wp2_with fail
      refine (N2.out _).mono ?_
      rintro e w6 ⟨rfl, hB6⟩
      have HB6 := Lib.hid (HB5.out.trans (hB6.mono HB5.out.size)); clear hB6
      go_wp2_with fail
      refine (N3.out _).mono ?_
      rintro e w7 ⟨rfl, hB7⟩
      have HB7 := Lib.hid (HB6.out.trans (hB7.mono HB6.out.size)); clear hB7
      go_wp2_with fail
      refine (H3.out _ (tab_on HT.out HB7.out)).mono ?_
      rintro e w8 ⟨rfl, hB8⟩
      have HB8 := Lib.hid (HB7.out.trans (hB8.mono HB7.out.size)); clear hB8
      go_wp2_with fail
      refine (N2.out _).mono ?_
      rintro e w9 ⟨rfl, hB9⟩
      have HB9 := Lib.hid (HB8.out.trans (hB9.mono HB8.out.size)); clear hB9
      go_wp2_with fail
      refine (N2.out _).mono ?_
      rintro e w10 ⟨rfl, hB10⟩
      have HB10 := Lib.hid (HB9.out.trans (hB10.mono HB9.out.size)); clear hB10
      go_wp2_with fail
      refine (H4.out _ (tab_on HT.out HB10.out)).mono ?_
      rintro e w11 ⟨rfl, hB11⟩
      have HB11 := Lib.hid (HB10.out.trans (hB11.mono HB10.out.size)); clear hB11
      go_wp2_with fail
      refine (H5.out _ (tab_on HT.out HB11.out)).mono ?_
      rintro e w12 ⟨rfl, hB12⟩
      have HB12 := Lib.hid (HB11.out.trans (hB12.mono HB11.out.size)); clear hB12
      go_wp2_with fail
      refine (H6.out _ (tab_on HT.out HB12.out)).mono ?_
      rintro e w13 ⟨rfl, hB13⟩
      have HB13 := Lib.hid (HB12.out.trans (hB13.mono HB12.out.size)); clear hB13
      go_wp2_with fail
      refine (I1.out _ HB13.out).mono ?_
      rintro e w14 ⟨rfl, hB14⟩
      have HB14 := Lib.hid (HB13.out.trans (hB14.mono HB13.out.size)); clear hB14
      go_wp2_with fail
      refine (I2.out _ HB14.out).mono ?_
      rintro e w15 ⟨rfl, hB15⟩
      have HB15 := Lib.hid (HB14.out.trans (hB15.mono HB14.out.size)); clear hB15
      go_wp2_with fail
      refine (I3.out _ HB15.out).mono ?_
      rintro e w16 ⟨rfl, hB16⟩
      have HB16 := Lib.hid (HB15.out.trans (hB16.mono HB15.out.size)); clear hB16
      go_wp2_with fail
      refine (H7.out _ (tab_on HT.out HB16.out)).mono ?_
      rintro e w17 ⟨rfl, hB17⟩
      have HB17 := Lib.hid (HB16.out.trans (hB17.mono HB16.out.size)); clear hB17
      go_wp2_with fail
      refine (H8.out _ (tab_on HT.out HB17.out)).mono ?_
      rintro e w18 ⟨rfl, hB18⟩
      have HB18 := Lib.hid (HB17.out.trans (hB18.mono HB17.out.size)); clear hB18
      go_wp2_with fail
      refine (N4.out _).mono ?_
      rintro e w19 ⟨rfl, hB19⟩
      have HB19 := Lib.hid (HB18.out.trans (hB19.mono HB18.out.size)); clear hB19
      go_wp2_with fail
      refine (H9.out _ (tab_on HT.out HB19.out)).mono ?_
      rintro e w20 ⟨rfl, hB20⟩
      have HB20 := Lib.hid (HB19.out.trans (hB20.mono HB19.out.size)); clear hB20
      go_wp2_with fail
      refine (N4.out _).mono ?_
      rintro e w21 ⟨rfl, hB21⟩
      have HB21 := Lib.hid (HB20.out.trans (hB21.mono HB20.out.size)); clear hB21
      go_wp2_with fail
      refine (H0.out _ (tab_on HT.out HB21.out)).mono ?_
      rintro e w22 ⟨rfl, hB22⟩
      have HB22 := Lib.hid (HB21.out.trans (hB22.mono HB21.out.size)); clear hB22
      go_wp2_with fail
      refine (N4.out _).mono ?_
      rintro e w23 ⟨rfl, hB23⟩
      have HB23 := Lib.hid (HB22.out.trans (hB23.mono HB22.out.size)); clear hB23
      go_wp2_with fail
      refine (K1.out _).mono ?_
      rintro e w24 ⟨rfl, hB24⟩
      have HB24 := Lib.hid (HB23.out.trans (hB24.mono HB23.out.size)); clear hB24
      go_wp2_with fail
      refine (K2.out _).mono ?_
      rintro e w25 ⟨rfl, hB25⟩
      have HB25 := Lib.hid (HB24.out.trans (hB25.mono HB24.out.size)); clear hB25
      go_wp2_with fail
      refine (O1.out _ (tab_on HT.out HB25.out)).mono ?_
      rintro e w26 ⟨rfl, hB26⟩
      have HB26 := Lib.hid (HB25.out.trans (hB26.mono HB25.out.size)); clear hB26
      go_wp2_with fail
      refine (O2.out _ (tab_on HT.out HB26.out)).mono ?_
      rintro e w27 ⟨rfl, hB27⟩
      have HB27 := Lib.hid (HB26.out.trans (hB27.mono HB26.out.size)); clear hB27
      go_wp2_with fail
      go_ret
      exact ⟨rfl, HB27.out⟩

theorem says_eq {f : Nat} {args : Array Value} {s s' : ByteArray} {n n' : Int} (h : Says f args s n) (e : s = s') (k : n = n') : Says f args s' n' := by subst e; subst k; exact h
theorem law_names (w : World) (htab : ∀ W, Below w.heap.size w W → Lib.TabIs Tryd.prog W "internal/strconv.uint64pow10" .u64 Lib.pow10Tab)
    (tp : TypeId) (p : Value) (hv : ∀ W, Below w.heap.size w W → W.var? Tryd.prog "strconv.ErrRange" = some #[.iface tp p]) :
    Calls Tryd.prog 3 #[] w fun e w' => e = .returned (.bool true) ∧ Below w.heap.size w w' := by
  have k200 : chk (bT (nL 200)).data.toList = 0 := nl_chk.1
  have kneg : chk (bT (45 :: nL 200)).data.toList = 0 := nl_chk.2.1
  have k100 : chk (bT (nL 100)).data.toList = 0 := nl_chk.2.2.1
  have k101 : chk (bT (nL 101)).data.toList = 0 := nl_chk.2.2.2.1
  have s201 : (bT (nL 201)).size ≤ maxLen := by rw [bT_size, List.length_replicate]; unfold maxLen; omega
  have q1 : chk (⟨#[49]⟩ : ByteArray).data.toList = 0 := by decide
  have q0 : chk (⟨#[48]⟩ : ByteArray).data.toList = 0 := by decide
  have x1 : (⟨#[120]⟩ : ByteArray).size ≤ maxLen := by decide
  have hx : ∀ (l : ByteArray), l.size ≤ 1000 → ∀ W, Below w.heap.size w W → Calls Tryd.prog 19 #[.string l] W fun e w' => e = .returned (.tuple #[.int .i64 (intOut l.data.toList).1, .int .i64 (intOut l.data.toList).2]) ∧ Below W.heap.size W w' :=
    fun l hl W hW => big_int l W hl tp p (fun V hV => hv V (hW.trans (hV.mono hW.size)))
  have i1 := hx ⟨#[57, 50, 50, 51, 51, 55, 50, 48, 51, 54, 56, 53, 52, 55, 55, 53, 56, 48, 56]⟩ (by decide)
  have i2 := hx ⟨#[45, 57, 50, 50, 51, 51, 55, 50, 48, 51, 54, 56, 53, 52, 55, 55, 53, 56, 48, 56]⟩ (by decide)
  have i3 := hx ⟨#[45, 57, 50, 50, 51, 51, 55, 50, 48, 51, 54, 56, 53, 52, 55, 55, 53, 56, 48, 57]⟩ (by decide)
  dsimp only at i1 i2 i3
  rw [nl_int.1] at i1
  rw [nl_int.2.1] at i2
  rw [nl_int.2.2] at i3
  have o1 : ∀ w, Tab w → Calls Tryd.prog 21 #[.int .i64 (-9223372036854775808)] w fun e w' => e = .returned (.string ⟨#[45, 57, 50, 50, 51, 51, 55, 50, 48, 51, 54, 56, 53, 52, 55, 55, 53, 56, 48, 56]⟩) ∧ Below w.heap.size w w' := by
    intro W hW
    have := big_of (-9223372036854775808) (by decide) (by decide) W hW
    rw [nl_of] at this; exact this
  have o2 : ∀ w, Tab w → Calls Tryd.prog 21 #[.int .i64 0] w fun e w' => e = .returned (.string ⟨#[48]⟩) ∧ Below w.heap.size w w' :=
    fun W hW => big_of 0 (by decide) (by decide) W hW
  have h9 : Says 15 #[.string ⟨#[120]⟩, .string (bT (nL 201))] (bT (opOut [120] (nL 201) (valL [120] + valL (nL 201))).1) 4 :=
    says_eq (fun W hW => add_out ⟨#[120]⟩ (bT (nL 201)) W x1 s201 hW) rfl (nl_bad _).1
  have h0 : Says 15 #[.string (bT (nL 201)), .string ⟨#[120]⟩] (bT (opOut (nL 201) [120] (valL (nL 201) + valL [120])).1) 80 :=
    says_eq (fun W hW => add_out (bT (nL 201)) ⟨#[120]⟩ W s201 x1 hW) rfl (nl_bad _).2
  have h5 : Says 17 #[.string ⟨#[55]⟩, .string ⟨#[48]⟩] (bT (divOut [55] [48] ((valL [55]).tdiv (valL [48]))).1) 81 :=
    says_eq (fun W hW => div_out ⟨#[55]⟩ ⟨#[48]⟩ W (by decide) (by decide) hW) rfl nl_d0.1
  have h6 : Says 18 #[.string ⟨#[48]⟩, .string ⟨#[48]⟩] (bT (divOut [48] [48] ((valL [48]).tmod (valL [48]))).1) 81 :=
    says_eq (fun W hW => mod_out ⟨#[48]⟩ ⟨#[48]⟩ W (by decide) (by decide) hW) rfl nl_d0.2
  have h8 : Says 17 #[.string (bT (45 :: nL 200)), .string ⟨#[45, 49]⟩] (bT (nL 200)) 0 :=
    says_eq (fun W hW => div_out (bT (45 :: nL 200)) ⟨#[45, 49]⟩ W (size_chk kneg) (by decide) hW) (by show bT (divOut (45 :: nL 200) [45, 49] ((valL (45 :: nL 200)).tdiv (valL [45, 49]))).1 = _; rw [nl_div])
      (by show (divOut (45 :: nL 200) [45, 49] ((valL (45 :: nL 200)).tdiv (valL [45, 49]))).2 = _; rw [nl_div])
  refine names_walk w (bT (nL 200)) (bT (nL 100)) (bT (nL 101)) (bT (nL 201)) (bT (45 :: nL 200)) _ _ (bT (txtOut (valL (nL 100) * valL (nL 100))).1) _ _ _ _ _ _ _ htab (by rw [bT_size, List.length_replicate]) (by rw [bT_size, nl_sq.2]; rfl) (by apply ByteArray.ext; rfl)
    (fun W => nines_any 200 W (by omega) (by omega)) (fun W => nines_any 100 W (by omega) (by omega)) (fun W => nines_any 101 W (by omega) (by omega)) (fun W => nines_any 201 W (by omega) (by omega))
    (says_eq (says_add k200 q1 rfl) rfl nl_add) (says_eq (says_add k200 q0 rfl) (out_at nl_zero).1 (out_at nl_zero).2) (says_eq (says_mul k100 k101 rfl) rfl nl_mul) (says_eq (says_mul k100 k100 rfl) rfl nl_sq.1)
    h5 h6 i1 i2 i3 (says_eq (says_sub kneg q1 rfl) rfl nl_sub) h8 h9 h0 (says_check s201 nl_chk.2.2.2.2) (says_check (size_chk kneg) kneg) o1 o2
end Go.Proofs.YtcclclginhhlaaaDoor
