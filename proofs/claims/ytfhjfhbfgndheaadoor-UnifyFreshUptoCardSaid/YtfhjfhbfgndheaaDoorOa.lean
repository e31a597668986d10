/- Package unify: note: which new names are taken. -/
import Derived.Test.YtfhjfhbfgndheaaDoorNh
import Derived.Lib.ItoaLen
namespace Go.Proofs.YtfhjfhbfgndheaaDoor
open Go.RowKit Go.Shelf Un Go.Sort
open Go
attribute [local go_sem] Oper.semAt_some

def newNm (n : Int) : ByteArray := { data := #[39] } ++ ⟨(Lib.itoa n).toArray⟩
/-- The number that strconv.Atoi makes of what stands behind the first byte. -/
def atoiN (s : ByteArray) : Int := match Lib.atoiAll (s.data.toList.drop 1) with
  | .ok v => v
  | Lib.NumEnd.syntax => 0
  | .range => Lib.atoiSat (s.data.toList.drop 1)
def noteF (last : Int) (tk : Int → Bool) (s : ByteArray) : Int → Bool := bif decide (last < atoiN s) && decide (newNm (atoiN s) = s) then fun k => bif decide (k = atoiN s) then true else tk k else tk
theorem below_grow (w : World) (k : Nat) (os : Array Obj) : Below w.heap.size w (grow (w.drewN k) os) := by
  refine ⟨rfl, rfl, rfl, ?_, fun b hb => ?_⟩
  · show w.heap.size ≤ (w.heap ++ os).size
    rw [Array.size_append]
    omega
  · show (w.heap ++ os)[b]? = w.heap[b]?
    rw [Array.getElem?_append_left hb]
theorem newName_c (n : Int) (h0 : -9223372036854775808 ≤ n) (h1 : n ≤ 9223372036854775807) (w : World) (htab : Lib.TabIs Tryd.prog w "internal/strconv.uint64pow10" .u64 Lib.pow10Tab) :
    Calls Tryd.prog 37 #[.int .i64 n] w fun e w' => e = .returned (.string (newNm n)) ∧ Below w.heap.size w w' := by
  have HI := Lib.hid (Tryd.strconv_Itoa n h0 h1 w htab)
  clear htab
  unfold newNm
  have hsz : (⟨(Lib.itoa n).toArray⟩ : ByteArray).size ≤ 21 := by
    have := Lib.itoa_length_le n h0 h1
    show (Lib.itoa n).toArray.size ≤ 21
    simpa using this
  generalize (⟨(Lib.itoa n).toArray⟩ : ByteArray) = s at HI hsz ⊢
  have hmax : maxLen = 9223372036854775807 := rfl
  go_enter Tryd.func37, Tryd.ntmps37
  go_wp2_with (go_at_call 42; refine HI.out.mono ?_; rintro e w' ⟨rfl, k, os, rfl⟩)
  go_ret
  exact ⟨rfl, below_grow _ _ _⟩
/-- strconv.Atoi, of any text. -/
theorem atoi_c (s : ByteArray) (hs : s.size ≤ 281474976710656) (w : World) (e0 : ErrV w 0) (e1 : ErrV w 1) :
    Calls Tryd.prog 36 #[.string s] w fun e w' => ∃ ev, e = .returned (.tuple #[.int .i64 (match Lib.atoiAll s.data.toList with | .ok v => v | Lib.NumEnd.syntax => 0 | .range => Lib.atoiSat s.data.toList), ev]) ∧ Below w.heap.size w w' := by
  obtain ⟨v0, h0, h0'⟩ := e0
  obtain ⟨v1, h1, h1'⟩ := e1
  cases h : Lib.atoiAll s.data.toList with
  | ok v =>
    refine (Tryd.strconv_Atoi_ok s (by omega) v h w).mono ?_
    rintro e w' ⟨rfl, hw⟩
    refine ⟨_, rfl, ?_⟩
    rcases hw with rfl | ⟨t, rfl⟩
    · exact Below.refl _ _
    · exact ⟨rfl, rfl, rfl, by rw [Lib.bytesWorld_size]; omega, fun k hk => Lib.bytesWorld_at_old w _ _ k (by omega)⟩
  | range =>
    refine (Tryd.strconv_Atoi_range s hs h v1 w h1 h1').mono ?_
    rintro e w' ⟨N, rfl, _, _, hb⟩
    exact ⟨_, rfl, hb⟩
  | _ =>
    refine (Tryd.strconv_Atoi_syntax s hs h v0 w h0 h0').mono ?_
    rintro e w' ⟨N, rfl, _, _, hb⟩
    exact ⟨_, rfl, hb⟩
/-- The names of variables are longer than one byte. -/
theorem varsF_long {k : Nat} : ∀ (l : List ByteArray) (t : Ty), (∀ s ∈ l, 1 < s.size) → ∀ s ∈ (allPM varsF k l t).2, 1 < s.size := by
  induction k with
  | zero => exact fun l t h => h
  | succ k ih =>
    intro l t h
    rw [allPM]
    have key : ∀ (xs : List Ty) (l : List ByteArray), (∀ s ∈ l, 1 < s.size) → ∀ s ∈ (scan (allPM varsF k) l xs).2, 1 < s.size := fun xs => by
      induction xs with
      | nil => exact fun l h => h
      | cons a xs ih2 =>
        intro l h
        rw [scan]
        have h1 := ih l a h
        have h2 := allP_vars k l a
        obtain ⟨⟨q, l'⟩, hq⟩ : ∃ q, allPM varsF k l a = q := ⟨_, rfl⟩
        rw [hq] at h1 h2 ⊢
        simp at h2
        subst h2
        exact ih2 l' h1
    have hstep : ∀ s ∈ (varsF l t).2, 1 < s.size := fun s hs => by
      unfold varsF at hs
      cases hv : isVarT t && !inB t.name l with
      | false => rw [hv] at hs; exact h s hs
      | true =>
        rw [hv] at hs
        have hs : s ∈ l ++ [t.name] := hs
        rcases List.mem_append.1 hs with hs | hs
        · exact h s hs
        · rw [List.mem_singleton.1 hs]
          simp only [isVarT, Bool.and_eq_true, decide_eq_true_eq] at hv
          exact hv.1.1.2
    exact key _ _ hstep
theorem varsT_long (l : List Ty) : ∀ s ∈ varsT l, 1 < s.size := by
  unfold varsT
  split
  · unfold varsL
    have : ∀ (l : List Ty) (b : List ByteArray), (∀ s ∈ b, 1 < s.size) → ∀ s ∈ l.foldl (fun s t => (allPM varsF 64 s t).2) b, 1 < s.size := fun l => by
      induction l with
      | nil => exact fun b h => h
      | cons t l ih => exact fun b h => ih _ (varsF_long b t h)
    exact this l [] (by simp)
  · simp
theorem atoiN_bounds (s : ByteArray) : -9223372036854775808 ≤ atoiN s ∧ atoiN s ≤ 9223372036854775807 := by
  unfold atoiN
  cases h : Lib.atoiAll (s.data.toList.drop 1) with
  | ok v => exact Lib.atoiAll_bounds h
  | range =>
    simp only [Lib.atoiSat]
    split <;> omega
  | _ => simp
section
variable {B0 K : Nat} {F : Nat → Prop} {st : St} {up : List Nat} {rk : Nat → Nat} {ins : List Bool} {tv ov : Value} {mb kb g : Nat} {w w' : World}
theorem BRx.moreK {K' : Nat} (h : BRx B0 F K st up rk ins tv ov mb kb w g) (hk : K ≤ K') (hl : K' ≤ 50000000) : BRx B0 F K' st up rk ins tv ov mb kb w g :=
  { h with map := h.map.mono hk, tak := h.tak.mono hk, few := Nat.le_trans h.few hk, sum := Nat.le_trans h.sum hk, lim := hl, las := ⟨h.las.1, by have := h.las.2; omega⟩ }
/-- The taken numbers are others. -/
theorem BRx.taken {tk' : Int → Bool} (h : BRx B0 F K st up rk ins tv ov mb kb w g) (hg : w.grownBy w' (some kb)) (hm : Gm.MapR Tryd.prog 3 (plainElem (H := Unit) Tryd.prog 4) Gm.kI Gm.eB w' kb (K + 1) (tkF tk')) (hl : K + 1 ≤ 50000000) :
    BRx B0 F (K + 1) { st with tk := tk' } up rk ins tv ov mb kb w' g := by
  have hb0 : Below B0 w w' := (Keep.grown (F := fun b => b = kb) hg fun k hk => by injection hk with hk; exact hk.symm).below (fun x hx e => by have := h.base _ h.fk; omega) h.b0
  have far : ∀ b, b < w.heap.size → b ≠ kb → w'.heap[b]? = w.heap[b]? := fun b hb hn => hg.block b hb fun e => hn (by injection e)
  have h2 := h.moreK (Nat.le_succ K) hl
  refine { h2 with glob := h.glob.below hb0, blk := ?_, map := ?_, tak := hm, upR := ?_, tsR := ?_ }
  · exact (far _ h.blk.lt h.gk).trans h.blk
  · exact h2.map.keep (far _ h.map.lt h.mkb)
  · exact h.upR.keep (fun b hb => far b (own_lt h.upR b hb).1 fun e => h.okn (e ▸ hb)) (fun _ h _ => h.elim) hg.size
  · exact h.tsR.keep (fun b hb => far b (own_lt h.tsR b hb).1 fun e => h.tkn (e ▸ hb)) (fun b hs hl => far b hl hs.2.2.2.1) hg.size
end
theorem tkF_put (tk : Int → Bool) (n k : Int) : (if k = n then some true else tkF tk k) = tkF (fun k => bif decide (k = n) then true else tk k) k := by
  unfold tkF
  by_cases h : k = n
  · rw [if_pos h]; simp only []; rw [decide_eq_true h]; rfl
  · rw [if_neg h]; simp only []; rw [decide_eq_false h]; rfl
set_option maxRecDepth 100000 in
set_option maxHeartbeats 8000000 in
theorem note_c {B0 K : Nat} {F : Nat → Prop} {st : St} {up : List Nat} {rk : Nat → Nat} {ins : List Bool} {tv ov : Value} {mb kb g : Nat} {w : World} (h : BRx B0 F K st up rk ins tv ov mb kb w g) (l : List Ty) (A : Option Addr) (c : Nat) (hl : LRep w w.heap.size l A c) (hll : l.length ≤ 10000)
    (hK : K + (varsT l).length ≤ 50000000) (hsz : ∀ s ∈ varsT l, s.size ≤ 1000000000) :
    Calls Tryd.prog 19 #[.pointer (some ⟨g, 0, none⟩), .slice A l.length c] w fun e w' => e = .returned (.tuple #[]) ∧ BRx B0 F (K + (varsT l).length) { st with tk := (varsT l).foldl (noteF st.last) st.tk } up rk ins tv ov mb kb w' g ∧ Keep (fun b => b = kb) w w' := by
  have hvars := vars_c l A c w hl hll
  have hlong := varsT_long l
  have hlas := h.las
  have hkl := h.tak.lt
  have hlim := h.lim
  generalize varsT l = names at hvars hlong hK hsz ⊢
  have HV := Lib.hid hvars; have HH := Lib.hid h; have HSZ := Lib.hid hsz; have HLG := Lib.hid hlong
  have hmax : maxLen = 9223372036854775807 := rfl
  clear hvars h hsz hlong hl
  go_enter Tryd.func19, Tryd.ntmps19
  go_wp2_with (go_at_call 10; refine HV.out.mono ?_; rintro e w1 ⟨⟨v, rfl, hlies⟩, _, hnl, hb⟩; obtain ⟨A1, c1, hv1, hc1, hc2, -⟩ := hlies.rep.seq_; rw [List.length_map] at hv1 hc1; have hv1 := List.head_eq_of_cons_eq hv1; subst hv1; have HL := Lib.hid hlies; have HB := Lib.hid hb; clear hlies hb)
  go_loopg [5, 6, 7, 11] (names.length + 1) (fun gg _ _ _ s11 wr => ∃ k : Nat, k ≤ names.length ∧ gg = names.length + 1 - k ∧ s11 = .int .i64 (k : Int) ∧ BRx B0 F (K + k) { st with tk := (names.take k).foldl (noteF st.last) st.tk } up rk ins tv ov mb kb wr g ∧ Keep (fun b => b = kb) w1 wr)
  case atStart => exact ⟨0, Nat.zero_le _, by omega, rfl, HH.out.below HB.out HH.out.b0, Keep.refl _ _⟩
  case round =>
    obtain ⟨k, hk, hg, rfl, hR, hKp⟩ := hrel
    have HR := Lib.hid hR; have HKP := Lib.hid hKp; have HG := Lib.hid hg
    have hs1 := HB.out.size
    by_cases hlt : k < names.length
    · have hltz : (k : Int) < (names.length : Int) := by omega
      have hrep := (HL.out wr fun b hb hl => hKp.block b hl fun e => by omega).seq_
      obtain ⟨A2, c2, e2, _, _, hel⟩ := hrep
      have e2 := List.head_eq_of_cons_eq e2
      injection e2 with q1 q2 q3
      clear q2 q3
      subst q1
      obtain ⟨b, off, cs, hA, _, _, hr, hcell⟩ := hel k (by simpa using hlt)
      subst hA
      rw [List.getElem_map] at hr
      obtain ⟨rfl, hsm⟩ := hr.str_
      have c0 := hcell 0 _ rfl
      simp only [Nat.mul_one, Nat.add_zero] at c0
      have h1 := HLG.out names[k] (List.getElem_mem hlt)
      have h2 := HSZ.out names[k] (List.getElem_mem hlt)
      have h0 : 1 ≤ names[k].size := by omega
      have htk : (names.take (k + 1)).foldl (noteF st.last) st.tk = noteF st.last ((names.take k).foldl (noteF st.last) st.tk) names[k] := by
        rw [List.take_add_one, List.getElem?_eq_getElem hlt, List.foldl_append]
        rfl
      obtain ⟨nmk, hnmk⟩ : ∃ s, s = names[k] := ⟨_, rfl⟩
      rw [← hnmk] at c0 h1 h2 h0 htk
      have g3 := hR.blk.cell 3
      have g4 := hR.blk.cell 4
      simp at g3 g4
      have hglob := hR.glob _ (Below.refl _ _)
      have hz1 : (1 : Int) ≤ (nmk.size : Int) := by omega
      have hat := atoi_c (nmk.extract 1 nmk.size) (by rw [ByteArray.size_extract]; omega) wr hglob.2.1 hglob.2.2
      have hdl : (nmk.extract 1 nmk.size).data.toList = nmk.data.toList.drop 1 := by
        rw [ByteArray.data_extract, Array.toList_extract]
        simp only [List.extract]
        rw [List.take_of_length_le]
        rw [List.length_drop, Array.length_toList]
        exact Nat.le_refl _
      rw [hdl] at hat
      have hat2 : Calls Tryd.prog 36 #[.string (nmk.extract 1 nmk.size)] wr fun e w' => ∃ ev, e = .returned (.tuple #[.int .i64 (atoiN nmk), ev]) ∧ Below wr.heap.size wr w' := hat
      have hbd := atoiN_bounds nmk
      have hafter : ∀ w2, Below wr.heap.size wr w2 → w2.cell? ⟨g, 3, none⟩ = some (.int .i64 st.last) ∧ BRx B0 F (K + k) { st with tk := (names.take k).foldl (noteF st.last) st.tk } up rk ins tv ov mb kb w2 g := fun w2 hb => by
        have := HR.out.below hb HR.out.b0
        exact ⟨by simpa using this.blk.cell 3, this⟩
      have HAT := Lib.hid hat2; have HAF := Lib.hid hafter; have HTK := Lib.hid htk; have HNM := Lib.hid hnmk
      obtain ⟨z, hz⟩ : ∃ z, z = atoiN nmk := ⟨_, rfl⟩
      rw [← hz] at HAT hbd
      have HZ := Lib.hid hz
      have htab := fun w2 (hb : Below wr.heap.size wr w2) => (HR.out.glob w2 (hb.mono HR.out.b0)).1
      have hnn := fun w2 (hb : Below wr.heap.size wr w2) => newName_c z hbd.1 hbd.2 w2 (htab w2 hb)
      have HNN := Lib.hid hnn
      clear hR hKp hg hel hat hat2 hdl hafter htk hnmk hglob hz htab hnn hr hcell
      by_cases hgt : st.last < z
      · by_cases heq : newNm z = nmk
        · have hput : ∀ w3, BRx B0 F (K + k) { st with tk := (names.take k).foldl (noteF st.last) st.tk } up rk ins tv ov mb kb w3 g → Keep (fun b => b = kb) w1 w3 → ∃ w4, (Instr.mapUpdate 58 (.map (some kb)) (.int .i64 z) (.bool true)).run Tryd.prog w3 = .ok () w4 ∧
              BRx B0 F (K + (k + 1)) { st with tk := (names.take (k + 1)).foldl (noteF st.last) st.tk } up rk ins tv ov mb kb w4 g ∧ Keep (fun b => b = kb) w1 w4 := fun w3 h3 hk3 => by
            obtain ⟨w4, p1, p2, p3⟩ := mapB_put w3 h3.tak (by omega) z hbd true
            have p2' := p2.congr (tkF_put _ z)
            have := h3.taken p3 p2' (by omega)
            rw [HTK.out]
            have hn : noteF st.last ((names.take k).foldl (noteF st.last) st.tk) nmk = fun k' => bif decide (k' = z) then true else (names.take k).foldl (noteF st.last) st.tk k' := by
              unfold noteF
              rw [← HZ.out, decide_eq_true hgt, decide_eq_true heq]
              rfl
            rw [hn]
            exact ⟨w4, p1, this, hk3.trans (Keep.grown p3 fun x hx => by injection hx with hx; exact hx.symm) fun _ _ h => h⟩
          have HP := Lib.hid hput
          clear hput
          rw [heq] at HNN
          go_wp2_with first
            | (go_at_call 36; refine HAT.out.mono ?_; rintro e w2 ⟨ev, rfl, hb2⟩; obtain ⟨d3, hR2⟩ := HAF.out _ hb2; have HB2 := Lib.hid hb2; have HNN2 := Lib.hid (HNN.out _ hb2); clear hb2 hR2)
            | (go_at_call 37; refine HNN2.out.mono ?_; rintro e w3 ⟨rfl, hb3⟩; have hb23 := HB2.out.trans (hb3.mono HB2.out.size); obtain ⟨e3, hR3⟩ := HAF.out _ hb23; obtain ⟨w4, hrun4, hR4, hK4⟩ := HP.out _ hR3 (HKP.out.trans (Keep.of_new (F := fun _ => False) hb23) fun _ _ h => h.elim); have e4 := hR3.blk.cell 4; simp at e4; have HRUN4 := Lib.hid hrun4; have HR4 := Lib.hid hR4; have HK4 := Lib.hid hK4; clear hb3 hb23 hR3 hrun4 hR4 hK4)
          rw [HRUN4.out]
          simp only [Result.andThen]
          rw [Oper.upon_skip]
          go_wp2_with fail
          go_roundg (names.length + 1 - (k + 1))
          case measure => have := HG.out; omega
          case rel => exact ⟨k + 1, by omega, rfl, by go_num, HR4.out, HK4.out⟩
        · have hsame : ∀ w3, BRx B0 F (K + k) { st with tk := (names.take k).foldl (noteF st.last) st.tk } up rk ins tv ov mb kb w3 g → BRx B0 F (K + (k + 1)) { st with tk := (names.take (k + 1)).foldl (noteF st.last) st.tk } up rk ins tv ov mb kb w3 g := fun w3 h3 => by
            rw [HTK.out]
            have hn : noteF st.last ((names.take k).foldl (noteF st.last) st.tk) nmk = (names.take k).foldl (noteF st.last) st.tk := by
              unfold noteF
              rw [← HZ.out, decide_eq_false heq, Bool.and_false]
              rfl
            rw [hn]
            exact h3.moreK (by omega) (by omega)
          have HSM := Lib.hid hsame
          clear hsame
          have heq2 : ((newNm z).toList == nmk.toList) = false := by
            rw [Lib.toList_data, Lib.toList_data, beq_eq_false_iff_ne]
            exact fun e => heq (ByteArray.ext (Array.ext' e))
          clear HTK
          generalize newNm z = s at heq heq2 HNN
          go_wp2_with first
            | (go_at_call 36; refine HAT.out.mono ?_; rintro e w2 ⟨ev, rfl, hb2⟩; obtain ⟨d3, hR2⟩ := HAF.out _ hb2; have HB2 := Lib.hid hb2; have HNN2 := Lib.hid (HNN.out _ hb2); clear hb2 hR2)
            | (go_at_call 37; refine HNN2.out.mono ?_; rintro e w3 ⟨rfl, hb3⟩; have hb23 := HB2.out.trans (hb3.mono HB2.out.size); obtain ⟨e3, hR3⟩ := HAF.out _ hb23; have HR4 := Lib.hid (HSM.out _ hR3); have HK4 := Lib.hid (HKP.out.trans (Keep.of_new (F := fun _ => False) hb23) fun _ _ h => h.elim); clear hb3 hb23 hR3)
          go_roundg (names.length + 1 - (k + 1))
          case measure => have := HG.out; omega
          case rel => exact ⟨k + 1, by omega, rfl, by go_num, HR4.out, HK4.out⟩
      · have hsame : ∀ w3, BRx B0 F (K + k) { st with tk := (names.take k).foldl (noteF st.last) st.tk } up rk ins tv ov mb kb w3 g → BRx B0 F (K + (k + 1)) { st with tk := (names.take (k + 1)).foldl (noteF st.last) st.tk } up rk ins tv ov mb kb w3 g := fun w3 h3 => by
          rw [HTK.out]
          have hn : noteF st.last ((names.take k).foldl (noteF st.last) st.tk) nmk = (names.take k).foldl (noteF st.last) st.tk := by
            unfold noteF
            rw [← HZ.out, decide_eq_false hgt, Bool.false_and]
            rfl
          rw [hn]
          exact h3.moreK (by omega) (by omega)
        have HSM := Lib.hid hsame
        clear hsame HTK
        go_wp2_with (go_at_call 36; refine HAT.out.mono ?_; rintro e w2 ⟨ev, rfl, hb2⟩; obtain ⟨d3, hR2⟩ := HAF.out _ hb2; have HR4 := Lib.hid (HSM.out _ hR2); have HK4 := Lib.hid (HKP.out.trans (Keep.of_new (F := fun _ => False) hb2) fun _ _ h => h.elim); clear hb2 hR2)
        go_roundg (names.length + 1 - (k + 1))
        case measure => have := HG.out; omega
        case rel => exact ⟨k + 1, by omega, rfl, by go_num, HR4.out, HK4.out⟩
    · have hltz : ¬ (k : Int) < (names.length : Int) := by omega
      obtain rfl : k = names.length := by omega
      rw [List.take_length] at HR
      clear hR hKp hg
      go_wp2_with fail
      refine bodyPost_end (results_none rfl _ _ _) rfl ⟨rfl, HR.out, ?_⟩
      exact (Keep.of_new HB.out).trans HKP.out fun _ _ h => h
end Go.Proofs.YtfhjfhbfgndheaaDoor
