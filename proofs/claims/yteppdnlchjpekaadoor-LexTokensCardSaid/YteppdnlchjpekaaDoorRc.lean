/- The document's own reading of a number. -/
import Derived.Test.YteppdnlchjpekaaDoorRb
namespace Go.Proofs.YteppdnlchjpekaaDoor
open Go.RowKit Lx
open Go
attribute [local go_sem] Oper.semAt_some

theorem digs_pre (l : List UInt8) : digs l <+: l := List.takeWhile_prefix _
theorem digs_get {l : List UInt8} {j : Nat} (h : j < (digs l).length) : ∃ a, l[j]? = some a ∧ digB a = true := by
  obtain ⟨b, hb⟩ := digs_pre l
  refine ⟨(digs l)[j], ?_, digs_all l _ (List.getElem_mem h)⟩
  have : (digs l ++ b)[j]? = some (digs l)[j] := by rw [List.getElem?_append_left h, List.getElem?_eq_getElem h]
  rwa [hb] at this
theorem digs_stop (l : List UInt8) {b : UInt8} (h : l[(digs l).length]? = some b) : digB b = false := by
  induction l with
  | nil => simp at h
  | cons c l ih =>
    unfold digs at ih h
    rw [List.takeWhile_cons] at h
    split at h
    · rw [List.length_cons, List.getElem?_cons_succ] at h; exact ih h
    · rename_i hc
      simp only [List.length_nil, List.getElem?_cons_zero, Option.some.injEq] at h
      subst h
      simpa using hc
theorem at_byte_drop (s : ByteArray) (i m : Nat) (him : i ≤ m) (hm : m < s.size) : (s.data.toList.drop i)[m - i]? = some s[m] := by
  have hks : m < s.data.toList.length := by rw [← size_list]; exact hm
  rw [List.getElem?_drop, show i + (m - i) = m by omega, List.getElem?_eq_getElem hks]; rfl
set_option maxRecDepth 100000 in
set_option maxHeartbeats 8000000 in
theorem rnumber_c (s : ByteArray) (hs : s.size ≤ 100000) (i : Nat) (hi : i < s.size) (hc : digB s[i] = true) (w : World) :
    Calls Tryd.prog 56 #[.string s, .int .i64 (i : Int)] w fun e w' => e = .returned (atV i (fFirst (s.data.toList.drop i))) ∧ Below w.heap.size w w' := by
  have hmax : maxLen = 9223372036854775807 := rfl
  have hszl := size_list s
  obtain ⟨E, hE, hEd⟩ := digs_lead (s.data.toList.drop i)
  obtain ⟨k, hk⟩ : ∃ k, k = i + (digs (s.data.toList.drop i)).length := ⟨_, rfl⟩
  obtain ⟨e, he⟩ : ∃ e, e = i + (lead (s.data.toList.drop i)).length := ⟨_, rfl⟩
  have hf : fFirst (s.data.toList.drop i) = if (1 < (digs (s.data.toList.drop i)).length ∧ s[i] = 48) ∨ (E ≠ [] ∧ E ≠ [98]) then (no, 4) else ((if E = [] then 5 else 6, digs (s.data.toList.drop i), (lead (s.data.toList.drop i)).length), if 200 < (digs (s.data.toList.drop i)).length then 80 else 0) := by
    rw [drop_at s i hi] at hE ⊢
    exact at_num hc hE hEd
  have hel : (lead (s.data.toList.drop i)).length = (digs (s.data.toList.drop i)).length + E.length := by rw [hE, List.length_append]
  have hll := lead_len (s.data.toList.drop i)
  rw [List.length_drop] at hll
  have hd1 : 1 ≤ (digs (s.data.toList.drop i)).length := by
    rw [drop_at s i hi]
    unfold digs
    rw [List.takeWhile_cons, hc, if_pos rfl]
    exact Nat.succ_pos _
  have hik : i < k := by omega
  have hke : k ≤ e := by omega
  have hes : e ≤ s.size := by omega
  have HE1 := Lib.hid (fun W => rend_c s hs i (by omega) W)
  rw [← he] at HE1
  have ht1 : (s.extract i k).data.toList = digs (s.data.toList.drop i) := by rw [mid_list s i k (by omega) (by omega), hk, Nat.add_sub_cancel_left]; exact (List.prefix_iff_eq_take.1 (digs_pre _)).symm
  have ht2 : (s.extract k e).data.toList = E := by
    have h1 : (s.data.toList.drop i).take (e - i) = digs (s.data.toList.drop i) ++ E := by rw [he, Nat.add_sub_cancel_left, lead_take, hE]
    rw [mid_list s k e hke hes]
    have h2 : s.data.toList.drop k = (s.data.toList.drop i).drop (digs (s.data.toList.drop i)).length := by rw [List.drop_drop, hk]
    rw [h2, show e - k = (e - i) - (digs (s.data.toList.drop i)).length by omega, ← List.drop_take, h1, List.drop_left]
  have hdg : ∀ m (h1 : i ≤ m) (h2 : m < k) (h3 : m < s.size), digB s[m] = true := fun m h1 h2 h3 => by
    obtain ⟨a, h4, h5⟩ := digs_get (l := s.data.toList.drop i) (j := m - i) (by omega)
    rw [at_byte_drop s i m h1 h3] at h4
    injection h4 with h4
    rw [h4]; exact h5
  have hnd : ∀ h : k < s.size, digB s[k] = false := fun h => by
    have := at_byte_drop s i k (by omega) h
    rw [show k - i = (digs (s.data.toList.drop i)).length by omega] at this
    exact digs_stop _ this
  have hDL : (digs (s.data.toList.drop i)).length = k - i := by omega
  have hLL : (lead (s.data.toList.drop i)).length = e - i := by omega
  have hEL : E.length = e - k := by omega
  obtain ⟨R, hR⟩ : ∃ R, R = fFirst (s.data.toList.drop i) := ⟨_, rfl⟩
  rw [← hR] at hf ⊢
  rw [hDL, hLL] at hf
  have hbk := Blk.new w 69 #[.int .u8 0, .int .i64 0, .string ⟨#[]⟩]
  have hb0 : Below w.heap.size w (w.alloc (.cells #[.int .u8 0, .int .i64 0, .string ⟨#[]⟩] 69)) := (Below.refl _ _).alloc (Nat.le_refl _) _
  have HBK := Lib.hid hbk; have HB := Lib.hid hb0
  have HF := Lib.hid hf; have HT1 := Lib.hid ht1; have HT2 := Lib.hid ht2; have HDG := Lib.hid hdg; have HND := Lib.hid hnd; have HEL := Lib.hid hEL
  generalize hD : digs (s.data.toList.drop i) = D at *
  clear hf ht1 ht2 hdg hnd hDL hLL hEL hbk hb0 hE hEd hll hd1 hR hk he hel hszl hc hD
  obtain ⟨c, hcc⟩ : ∃ c, c = s[i] := ⟨_, rfl⟩
  have hcz : (s[i].toNat : Int) = (c.toNat : Int) := by rw [hcc]
  rw [← hcc] at HF
  clear hcc
  have d0 := HBK.out.cell 0; have d1 := HBK.out.cell 1; have d2 := HBK.out.cell 2; have z0 := HBK.out.frozen 0; have z1 := HBK.out.frozen 1; have z2 := HBK.out.frozen 2
  simp at d0 d1 d2
  go_enter Tryd.func56, Tryd.ntmps56
  go_wp2_with fail
  have hW : w.alloc (.cells #[.int .u8 0, .int .i64 0, .string ⟨#[]⟩] 69) = w.alloc (.cells #[.int .u8 0, .int .i64 0, .string ⟨#[]⟩] 69) := rfl
  clear hW
  generalize w.alloc (.cells #[.int .u8 0, .int .i64 0, .string ⟨#[]⟩] 69) = W0 at HBK HB z0 z1 z2 ⊢
  go_loopg [6] (s.size + 1 - i) (fun gg s6 wr => ∃ m : Nat, i ≤ m ∧ m ≤ k ∧ gg = s.size + 1 - m ∧ s6 = .int .i64 (m : Int) ∧ W0 = wr)
  case atStart => exact ⟨i, Nat.le_refl _, by omega, rfl, rfl, rfl⟩
  case round =>
    obtain ⟨m, him, hmk, hg, rfl, rfl⟩ := hrel
    have HG := Lib.hid hg
    clear hg
    by_cases hlt : m < k
    · have hms : m < s.size := by omega
      have hmz : (m : Int) < (s.size : Int) := by omega
      have hp := rdigit_c s[m] W0
      rw [HDG.out m him hlt hms] at hp
      have HP := Lib.hid hp
      clear hp
      go_wp2_with fail
      refine HP.out.mono ?_
      rintro e0 w1 ⟨rfl, rfl⟩
      go_wp2_with fail
      go_roundg (s.size + 1 - (m + 1))
      case measure => have := HG.out; omega
      case rel => exact ⟨m + 1, by omega, by omega, rfl, by go_num, rfl⟩
    · obtain rfl : m = k := by omega
      clear HG HDG
      have d0 := HBK.out.cell 0; have d1 := HBK.out.cell 1; have d2 := HBK.out.cell 2
      simp at d0 d1 d2
      have c48 : ((c.toNat : Int) = 48 ∧ c = 48) ∨ (¬ (c.toNat : Int) = 48 ∧ ((c.toNat : Int) == 48) = false ∧ ¬ c = 48) := by
        by_cases h : c = 48
        · exact Or.inl ⟨by rw [h]; rfl, h⟩
        · have h' : ¬ (c.toNat : Int) = 48 := fun e => h (UInt8.toNat_inj.1 (by show c.toNat = 48; omega))
          exact Or.inr ⟨h', by rw [beq_eq_false_iff_ne]; exact h', h⟩
      have hend : (m < s.size ∧ (m : Int) < (s.size : Int)) ∨ (¬ (m : Int) < (s.size : Int)) := by omega
      have hA : ((1 : Int) < (m : Int) - (i : Int) ∧ (c.toNat : Int) = 48 ∧ c = 48) ∨ (¬ (1 : Int) < (m : Int) - (i : Int)) ∨ ((1 : Int) < (m : Int) - (i : Int) ∧ ¬ (c.toNat : Int) = 48 ∧ ((c.toNat : Int) == 48) = false ∧ ¬ c = 48) := by
        rcases c48 with ⟨h1, h2⟩ | ⟨h1, h2, h3⟩
        · by_cases h : (1 : Int) < (m : Int) - (i : Int)
          · exact Or.inl ⟨h, h1, h2⟩
          · exact Or.inr (Or.inl h)
        · by_cases h : (1 : Int) < (m : Int) - (i : Int)
          · exact Or.inr (Or.inr ⟨h, h1, h2, h3⟩)
          · exact Or.inr (Or.inl h)
      clear c48
      have h200 : (200 : Int) < (m : Int) - (i : Int) ∨ ¬ (200 : Int) < (m : Int) - (i : Int) := by omega
      have hB : (¬ (m : Int) < (e : Int) ∧ E = []) ∨ ((m : Int) < (e : Int) ∧ s.extract m e = ⟨#[98]⟩ ∧ E = [98]) ∨ ((m : Int) < (e : Int) ∧ ¬ (s.extract m e).toList = [98] ∧ ((s.extract m e).toList == [98]) = false ∧ E ≠ [] ∧ E ≠ [98]) := by
        have hEL := HEL.out
        by_cases h : (m : Int) < (e : Int)
        · by_cases h98 : E = [98]
          · exact Or.inr (Or.inl ⟨h, ba_eq (HT2.out.trans h98), h98⟩)
          · have h1 : ¬ (s.extract m e).toList = [98] := by rw [Lib.toList_data, HT2.out]; exact h98
            exact Or.inr (Or.inr ⟨h, h1, by rw [beq_eq_false_iff_ne]; exact h1, by intro hh; rw [hh] at hEL; simp at hEL; omega, h98⟩)
        · exact Or.inl ⟨h, List.length_eq_zero_iff.1 (by omega)⟩
      have HA := Lib.hid hA; have HBB := Lib.hid hB
      clear hA hB
      rcases hend with ⟨hms, hmz⟩ | hmz
      · have hp := rdigit_c s[m] W0
        rw [HND.out hms] at hp
        have HP := Lib.hid hp
        clear hp
        rcases HA.out with ⟨a1, a2, a3⟩ | a1 | ⟨a1, a2, a2', a3⟩
        · have hres : R.2 = 4 := by rw [HF.out, if_pos (Or.inl ⟨by omega, a3⟩)]
          have HRES := Lib.hid hres
          clear hres a3
          go_wp2_with fail
          refine HP.out.mono ?_
          rintro e0 w1 ⟨rfl, rfl⟩
          go_wp2_with fail
          refine (HE1.out _).mono ?_
          rintro e0 w1 ⟨rfl, rfl⟩
          go_wp2_with fail
          refine bodyPost_ret (retG Tryd.results56 rfl rfl HBK.out.store3) rfl ⟨congrArg Ending.returned (at_err (er := 4) HRES.out (by decide)), below3 HB.out (Nat.le_refl _) _ _ _⟩
        · have hna : ¬ (1 < m - i ∧ c = 48) := fun h => a1 (by have := h.1; omega)
          have HNA := Lib.hid hna
          clear hna 
          rcases HBB.out with ⟨b1, b2⟩ | ⟨b1, b2, b3⟩ | ⟨b1, b2, b2', b3, b4⟩
          · have hres : R = ((5, D, e - i), if 200 < m - i then 80 else 0) := by rw [HF.out, if_neg (by rintro (h | h); exact HNA.out h; exact h.1 b2), if_pos b2]
            have HRES := Lib.hid hres
            clear hres b2
            rcases h200 with h2 | h2
            · exact absurd h2 (by omega)
            · go_wp2_with fail
              refine HP.out.mono ?_
              rintro e0 w1 ⟨rfl, rfl⟩
              go_wp2_with fail
              refine (HE1.out _).mono ?_
              rintro e0 w1 ⟨rfl, rfl⟩
              go_wp2_with fail
              refine bodyPost_ret (retG Tryd.results56 rfl rfl HBK.out.store3) rfl ⟨congrArg Ending.returned (at_ok (k := 5) HRES.out (if_neg (by omega)) HT1.out (by have := HEL.out; omega)), below3 HB.out (Nat.le_refl _) _ _ _⟩
          · have hres : R = ((6, D, e - i), if 200 < m - i then 80 else 0) := by rw [HF.out, if_neg (by rintro (h | h); exact HNA.out h; exact h.2 b3), if_neg (by rw [b3]; simp)]
            have HRES := Lib.hid hres
            clear hres b3
            rcases h200 with h2 | h2
            · exact absurd h2 (by omega)
            · go_wp2_with fail
              refine HP.out.mono ?_
              rintro e0 w1 ⟨rfl, rfl⟩
              go_wp2_with fail
              refine (HE1.out _).mono ?_
              rintro e0 w1 ⟨rfl, rfl⟩
              go_wp2_with fail
              refine bodyPost_ret (retG Tryd.results56 rfl rfl HBK.out.store3) rfl ⟨congrArg Ending.returned (at_ok (k := 6) HRES.out (if_neg (by omega)) HT1.out (by have := HEL.out; omega)), below3 HB.out (Nat.le_refl _) _ _ _⟩
          · have hres : R.2 = 4 := by rw [HF.out, if_pos (Or.inr ⟨b3, b4⟩)]
            have HRES := Lib.hid hres
            clear hres b3 b4
            go_wp2_with fail
            refine HP.out.mono ?_
            rintro e0 w1 ⟨rfl, rfl⟩
            go_wp2_with fail
            refine (HE1.out _).mono ?_
            rintro e0 w1 ⟨rfl, rfl⟩
            go_wp2_with fail
            refine bodyPost_ret (retG Tryd.results56 rfl rfl HBK.out.store3) rfl ⟨congrArg Ending.returned (at_err (er := 4) HRES.out (by decide)), below3 HB.out (Nat.le_refl _) _ _ _⟩
        · have hna : ¬ (1 < m - i ∧ c = 48) := fun h => a3 h.2
          have HNA := Lib.hid hna
          clear hna a3
          rcases HBB.out with ⟨b1, b2⟩ | ⟨b1, b2, b3⟩ | ⟨b1, b2, b2', b3, b4⟩
          · have hres : R = ((5, D, e - i), if 200 < m - i then 80 else 0) := by rw [HF.out, if_neg (by rintro (h | h); exact HNA.out h; exact h.1 b2), if_pos b2]
            have HRES := Lib.hid hres
            clear hres b2
            rcases h200 with h2 | h2
            · go_wp2_with fail
              refine HP.out.mono ?_
              rintro e0 w1 ⟨rfl, rfl⟩
              go_wp2_with fail
              refine (HE1.out _).mono ?_
              rintro e0 w1 ⟨rfl, rfl⟩
              go_wp2_with fail
              refine bodyPost_ret (retG Tryd.results56 rfl rfl HBK.out.store3) rfl ⟨congrArg Ending.returned (at_err (er := 80) (by rw [HRES.out]; dsimp only; rw [if_pos (by omega)]) (by decide)), below3 HB.out (Nat.le_refl _) _ _ _⟩

            · go_wp2_with fail
              refine HP.out.mono ?_
              rintro e0 w1 ⟨rfl, rfl⟩
              go_wp2_with fail
              refine (HE1.out _).mono ?_
              rintro e0 w1 ⟨rfl, rfl⟩
              go_wp2_with fail
              refine bodyPost_ret (retG Tryd.results56 rfl rfl HBK.out.store3) rfl ⟨congrArg Ending.returned (at_ok (k := 5) HRES.out (if_neg (by omega)) HT1.out (by have := HEL.out; omega)), below3 HB.out (Nat.le_refl _) _ _ _⟩
          · have hres : R = ((6, D, e - i), if 200 < m - i then 80 else 0) := by rw [HF.out, if_neg (by rintro (h | h); exact HNA.out h; exact h.2 b3), if_neg (by rw [b3]; simp)]
            have HRES := Lib.hid hres
            clear hres b3
            rcases h200 with h2 | h2
            · go_wp2_with fail
              refine HP.out.mono ?_
              rintro e0 w1 ⟨rfl, rfl⟩
              go_wp2_with fail
              refine (HE1.out _).mono ?_
              rintro e0 w1 ⟨rfl, rfl⟩
              go_wp2_with fail
              refine bodyPost_ret (retG Tryd.results56 rfl rfl HBK.out.store3) rfl ⟨congrArg Ending.returned (at_err (er := 80) (by rw [HRES.out]; dsimp only; rw [if_pos (by omega)]) (by decide)), below3 HB.out (Nat.le_refl _) _ _ _⟩

            · go_wp2_with fail
              refine HP.out.mono ?_
              rintro e0 w1 ⟨rfl, rfl⟩
              go_wp2_with fail
              refine (HE1.out _).mono ?_
              rintro e0 w1 ⟨rfl, rfl⟩
              go_wp2_with fail
              refine bodyPost_ret (retG Tryd.results56 rfl rfl HBK.out.store3) rfl ⟨congrArg Ending.returned (at_ok (k := 6) HRES.out (if_neg (by omega)) HT1.out (by have := HEL.out; omega)), below3 HB.out (Nat.le_refl _) _ _ _⟩
          · have hres : R.2 = 4 := by rw [HF.out, if_pos (Or.inr ⟨b3, b4⟩)]
            have HRES := Lib.hid hres
            clear hres b3 b4
            go_wp2_with fail
            refine HP.out.mono ?_
            rintro e0 w1 ⟨rfl, rfl⟩
            go_wp2_with fail
            refine (HE1.out _).mono ?_
            rintro e0 w1 ⟨rfl, rfl⟩
            go_wp2_with fail
            refine bodyPost_ret (retG Tryd.results56 rfl rfl HBK.out.store3) rfl ⟨congrArg Ending.returned (at_err (er := 4) HRES.out (by decide)), below3 HB.out (Nat.le_refl _) _ _ _⟩
      · have HND2 := HND
        rcases HA.out with ⟨a1, a2, a3⟩ | a1 | ⟨a1, a2, a2', a3⟩
        · have hres : R.2 = 4 := by rw [HF.out, if_pos (Or.inl ⟨by omega, a3⟩)]
          have HRES := Lib.hid hres
          clear hres a3
          go_wp2_with fail
          refine (HE1.out _).mono ?_
          rintro e0 w1 ⟨rfl, rfl⟩
          go_wp2_with fail
          refine bodyPost_ret (retG Tryd.results56 rfl rfl HBK.out.store3) rfl ⟨congrArg Ending.returned (at_err (er := 4) HRES.out (by decide)), below3 HB.out (Nat.le_refl _) _ _ _⟩
        · have hna : ¬ (1 < m - i ∧ c = 48) := fun h => a1 (by have := h.1; omega)
          have HNA := Lib.hid hna
          clear hna 
          rcases HBB.out with ⟨b1, b2⟩ | ⟨b1, b2, b3⟩ | ⟨b1, b2, b2', b3, b4⟩
          · have hres : R = ((5, D, e - i), if 200 < m - i then 80 else 0) := by rw [HF.out, if_neg (by rintro (h | h); exact HNA.out h; exact h.1 b2), if_pos b2]
            have HRES := Lib.hid hres
            clear hres b2
            rcases h200 with h2 | h2
            · exact absurd h2 (by omega)
            · go_wp2_with fail
              refine (HE1.out _).mono ?_
              rintro e0 w1 ⟨rfl, rfl⟩
              go_wp2_with fail
              refine bodyPost_ret (retG Tryd.results56 rfl rfl HBK.out.store3) rfl ⟨congrArg Ending.returned (at_ok (k := 5) HRES.out (if_neg (by omega)) HT1.out (by have := HEL.out; omega)), below3 HB.out (Nat.le_refl _) _ _ _⟩
          · exact absurd b1 (by omega)
          · exact absurd b1 (by omega)
        · have hna : ¬ (1 < m - i ∧ c = 48) := fun h => a3 h.2
          have HNA := Lib.hid hna
          clear hna a3
          rcases HBB.out with ⟨b1, b2⟩ | ⟨b1, b2, b3⟩ | ⟨b1, b2, b2', b3, b4⟩
          · have hres : R = ((5, D, e - i), if 200 < m - i then 80 else 0) := by rw [HF.out, if_neg (by rintro (h | h); exact HNA.out h; exact h.1 b2), if_pos b2]
            have HRES := Lib.hid hres
            clear hres b2
            rcases h200 with h2 | h2
            · go_wp2_with fail
              refine (HE1.out _).mono ?_
              rintro e0 w1 ⟨rfl, rfl⟩
              go_wp2_with fail
              refine bodyPost_ret (retG Tryd.results56 rfl rfl HBK.out.store3) rfl ⟨congrArg Ending.returned (at_err (er := 80) (by rw [HRES.out]; dsimp only; rw [if_pos (by omega)]) (by decide)), below3 HB.out (Nat.le_refl _) _ _ _⟩

            · go_wp2_with fail
              refine (HE1.out _).mono ?_
              rintro e0 w1 ⟨rfl, rfl⟩
              go_wp2_with fail
              refine bodyPost_ret (retG Tryd.results56 rfl rfl HBK.out.store3) rfl ⟨congrArg Ending.returned (at_ok (k := 5) HRES.out (if_neg (by omega)) HT1.out (by have := HEL.out; omega)), below3 HB.out (Nat.le_refl _) _ _ _⟩
          · exact absurd b1 (by omega)
          · exact absurd b1 (by omega)
end Go.Proofs.YteppdnlchjpekaaDoor
