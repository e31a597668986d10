/- Package unify: Fresh. -/
import Derived.Test.YtfhjfhbfgndheaaDoorFe
import Derived.Test.YtfhjfhbfgndheaaDoorFc
namespace Go.Proofs.YtfhjfhbfgndheaaDoor
open Go.RowKit Go.Shelf Un
open Go
attribute [local go_sem] Oper.semAt_some

/-! ### What is noted -/
theorem noteF_old {last : Int} {tk : Int → Bool} {s : ByteArray} {k : Int} (h : noteF last tk s k = true) : tk k = true ∨ k = atoiN s := by
  unfold noteF at h
  cases hb : (decide (last < atoiN s) && decide (newNm (atoiN s) = s)) with
  | false => rw [hb] at h; exact .inl h
  | true =>
    rw [hb] at h
    by_cases e : k = atoiN s
    · exact .inr e
    · left; simpa [e] using h
theorem noteF_keep {last : Int} {tk : Int → Bool} {s : ByteArray} {k : Int} (h : tk k = true) : noteF last tk s k = true := by
  unfold noteF
  cases (decide (last < atoiN s) && decide (newNm (atoiN s) = s)) with
  | false => exact h
  | true =>
    show (bif decide (k = atoiN s) then true else tk k) = true
    rw [h]
    cases decide (k = atoiN s) <;> rfl
theorem fold_old {last : Int} : ∀ {V : List ByteArray} {tk : Int → Bool} {k : Int}, (V.foldl (noteF last) tk) k = true → tk k = true ∨ k ∈ V.map atoiN
  | [], _, _, h => .inl h
  | s :: V, tk, k, h => by
    rcases fold_old (V := V) h with h | h
    · rcases noteF_old h with h | h
      · exact .inl h
      · exact .inr (by simp [h])
    · exact .inr (by simp at h ⊢; exact .inr h)
theorem fold_keep {last : Int} : ∀ {V : List ByteArray} {tk : Int → Bool} {k : Int}, tk k = true → (V.foldl (noteF last) tk) k = true
  | [], _, _, h => h
  | _ :: V, _, _, h => fold_keep (V := V) (noteF_keep h)
theorem fold_new {last : Int} : ∀ {V : List ByteArray} {tk : Int → Bool} {s : ByteArray}, s ∈ V → last < atoiN s → newNm (atoiN s) = s → (V.foldl (noteF last) tk) (atoiN s) = true
  | [], _, _, h, _, _ => by simp at h
  | x :: V, tk, s, h, h1, h2 => by
    rcases List.mem_cons.1 h with e | e
    · subst e
      refine fold_keep (V := V) ?_
      unfold noteF
      rw [decide_eq_true h1, decide_eq_true h2]
      simp
    · exact fold_new (V := V) e h1 h2
/-- Numbers of new names, one behind the other. -/
def NumsI (last0 : Int) (tk1 : Int → Bool) (M : Int) (ks : List Int) (last : Int) (tk : Int → Bool) : Prop :=
  ks.Pairwise (fun a b => a < b) ∧ (∀ k ∈ ks, last0 < k ∧ k ≤ last ∧ tk1 k = false) ∧ last0 ≤ last ∧ (∀ k, last < k → tk k = tk1 k) ∧ ∃ L : List Int, (∀ k, last < k → tk k = true → k ∈ L) ∧ last + (L.length : Nat) ≤ M + (ks.length : Nat)
theorem NumsI.next {last0 last M : Int} {tk1 tk : Int → Bool} {ks : List Int} (h : NumsI last0 tk1 M ks last tk) : ∃ nx, last < nx ∧ tk nx = false ∧ (∀ j, last < j → j < nx → tk j = true) ∧ nx ≤ M + (ks.length : Nat) + 1 ∧ NumsI last0 tk1 M (ks ++ [nx]) nx (RmT tk last nx) := by
  obtain ⟨h1, h2, h3, h4, L, h5, h6⟩ := h
  obtain ⟨nx, q1, q2, q3, q4⟩ := exists_nx tk L.length L last (Nat.le_refl _) h5
  refine ⟨nx, q1, q2, q3, by omega, ?_, ?_, by omega, ?_, L.filter (fun k => decide (nx < k)), ?_, ?_⟩
  · rw [List.pairwise_append]
    exact ⟨h1, by simp, fun a ha b hb => by rw [List.mem_singleton] at hb; have := (h2 a ha).2.1; omega⟩
  · intro k hk
    rcases List.mem_append.1 hk with hk | hk
    · have := h2 k hk
      exact ⟨this.1, by omega, this.2.2⟩
    · rw [List.mem_singleton] at hk
      subst hk
      exact ⟨by omega, Int.le_refl _, by rw [← h4 k q1]; exact q2⟩
  · intro k hk
    rw [← h4 k (by omega)]
    unfold RmT
    have : ¬ k < nx := by omega
    simp [this]
  · intro k hk ht
    unfold RmT at ht
    rw [Bool.and_eq_true] at ht
    exact List.mem_filter.2 ⟨h5 k (by omega) ht.1, by simpa using hk⟩
  · rw [List.length_append, List.length_singleton]
    omega
theorem zip_snoc {V : List ByteArray} {W : List ByteArray} {s : ByteArray} (h : W.length < V.length) : V.zip (W ++ [s]) = V.zip W ++ [(V[W.length], s)] := by
  induction V generalizing W with
  | nil => simp at h
  | cons v V ih =>
    cases W with
    | nil => simp
    | cons x W =>
      simp only [List.length_cons] at h
      rw [List.cons_append, List.zip_cons_cons, ih (by omega), List.zip_cons_cons, List.cons_append]
      rfl
theorem newNm_size {n : Int} (h0 : -9223372036854775808 ≤ n) (h1 : n ≤ 9223372036854775807) : (newNm n).size ≤ maxLen := by
  have h2 : (⟨(Lib.itoa n).toArray⟩ : ByteArray).size ≤ 21 := by
    have := Lib.itoa_length_le n h0 h1
    show (Lib.itoa n).toArray.size ≤ 21
    simpa using this
  unfold newNm
  rw [ByteArray.size_append]
  have hm : maxLen = 9223372036854775807 := rfl
  show 1 + _ ≤ _
  omega
set_option maxRecDepth 2000 in
set_option maxHeartbeats 8000000 in
theorem fresh_c {B0 K : Nat} {F : Nat → Prop} {st : St} {w : World} {T : Nat} (h : TN B0 F K st w T) (N : Nat → Prop) (l : List Ty) (A : Option Addr) (c : Nat) (hl : LN N w l A c) (hN : ∀ b, N b → ¬ F b ∧ b < w.heap.size) (hll : l.length ≤ 10000)
    (hv : l.all mayT = true) (hsz : ∀ s ∈ varsT l, s.size ≤ 1000000000) (L : List Int) (hL : ∀ k, st.last < k → st.tk k = true → k ∈ L) (M : Int) (hM : st.last + (L.length : Nat) ≤ M) (hMK : M + 2 * ((varsT l).length : Nat) + 1 ≤ K) (hK : K + (varsT l).length ≤ 50000000) :
    Calls Tryd.prog 7 #[.pointer (some ⟨T, 0, none⟩), .slice A l.length c] w fun e w' => ∃ (ks : List Int) (st' : St) (A' : Option Addr) (c' X : Nat), e = .returned (.tuple #[.slice A' l.length c', .int .i64 0]) ∧ ks.length = (varsT l).length ∧
      NumsI st.last ((varsT l).foldl (noteF st.last) st.tk) (M + ((varsT l).length : Nat)) ks st'.last st'.tk ∧ w.heap.size ≤ X ∧ LN (fun b => X ≤ b) w' (freshL l (ks.map newNm)) A' c' ∧ TN B0 (fun b => (F b ∨ w.heap.size ≤ b) ∧ b < X) (K + (varsT l).length) st' w' T ∧ Keep F w w' := by
  have hlt := h.lt
  have hbase := h.2.1
  have hFT := h.2.2.1
  have hlen := hl.len
  have hrep : ∀ W, (∀ b, N b → W.heap[b]? = w.heap[b]?) → w.heap.size ≤ W.heap.size → LRep W W.heap.size l A c := fun W hW hs => (hl.keep (N' := fun b => b < w.heap.size) (fun b hb _ => hW b hb) fun b hb => (hN b hb).2).rep fun b hb _ => by omega
  have hV := allValid_c l A c w (hrep w (fun _ _ => rfl) (Nat.le_refl _))
  rw [hv] at hV
  have hbnd : ∀ W, Below w.heap.size w W → Calls Tryd.prog 18 #[.pointer (some ⟨T, 0, none⟩)] W fun e w' => ∃ g, e = .returned (.pointer (some ⟨g, 0, none⟩)) ∧ Blk w' T 45 #[.pointer (some ⟨g, 0, none⟩)] ∧ BR B0 (fun b => F b ∨ W.heap.size ≤ b) K st w' g ∧ Keep F W w' := fun W hW => bindings_c (h.below hW)
  have hnote : ∀ (W : World) (up : List Nat) (rk : Nat → Nat) (ins : List Bool) (tv ov : Value) (mb kb g : Nat) (F' : Nat → Prop), BRx B0 F' K st up rk ins tv ov mb kb W g → (∀ b, N b → W.heap[b]? = w.heap[b]?) → w.heap.size ≤ W.heap.size →
      Calls Tryd.prog 19 #[.pointer (some ⟨g, 0, none⟩), .slice A l.length c] W fun e w' => e = .returned (.tuple #[]) ∧ BRx B0 F' (K + (varsT l).length) { st with tk := (varsT l).foldl (noteF st.last) st.tk } up rk ins tv ov mb kb w' g ∧ Keep (fun b => b = kb) W w' :=
    fun W up rk ins tv ov mb kb g F' hb hW hs => note_c hb l A c (hrep W hW hs) hll hK hsz
  have hvars : ∀ W, (∀ b, N b → W.heap[b]? = w.heap[b]?) → w.heap.size ≤ W.heap.size → Calls Tryd.prog 10 #[.slice A l.length c] W fun e w' => (∃ v, e = .returned v ∧ Gd.Lies (fun b => W.heap.size ≤ b) w' (.seq 1 ((varsT l).map Gd.D.str)) [v]) ∧ (∀ s ∈ varsT l, s.size ≤ maxLen) ∧ (varsT l).length ≤ 20480000 ∧ Below W.heap.size W w' := fun W hW hs => vars_c l A c W (hrep W hW hs) hll
  have hall : ∀ (W : World) (mb n : Nat) (f : ByteArray → Option ByteArray), (∀ b, N b → W.heap[b]? = w.heap[b]?) → w.heap.size ≤ W.heap.size → MapV W mb n f → Calls Tryd.prog 21 #[.slice A l.length c, .map (some mb)] W fun e w' => ∃ A' c', e = .returned (.slice A' l.length c') ∧ LN (fun b => W.heap.size ≤ b) w' (l.map (substV f)) A' c' ∧ Below W.heap.size W w' := fun W mb n f hW hs hm =>
    all_c W.heap.size (some mb) f l (by omega) (fun t ht => replaced_c W.heap.size (some mb) f t (narrow hv t ht)) A c W (looks_map hm (Gm.MapR.lt hm)) (Nat.le_refl _) (hrep W hW hs)
  have hst0 : NumsI st.last ((varsT l).foldl (noteF st.last) st.tk) (M + ((varsT l).length : Nat)) [] st.last ((varsT l).foldl (noteF st.last) st.tk) := ⟨by simp, by simp, Int.le_refl _, fun _ _ => rfl, L ++ (varsT l).map atoiN, fun k hk ht => by
    rcases fold_old ht with ht | ht
    · exact List.mem_append_left _ (hL k hk ht)
    · exact List.mem_append_right _ ht, by simp; omega⟩
  have hmax : maxLen = 9223372036854775807 := rfl
  have hmm := @run_makeMap Tryd.prog
  have HV := Lib.hid hV; have HVARS := Lib.hid hvars; have HALL := Lib.hid hall; have HBND := Lib.hid hbnd; have HNOTE := Lib.hid hnote; have HN := Lib.hid hN; have HST0 := Lib.hid hst0; have HBASE := Lib.hid hbase
  have hres : ∀ ks, freshL l (List.map newNm ks) = l.map (substV (tabF ((varsT l).zip (ks.map newNm)))) := fun _ => rfl
  simp only [hres]
  generalize hvn : varsT l = V at HVARS HNOTE HST0 hMK hK ⊢
  clear hV hvars hall hbnd hnote h hres hrep hsz hL hN hvn hst0 hbase hl hv
  go_enter Tryd.func7, Tryd.ntmps7
  go_wp2_with first
    | (go_at_call 17; refine HV.out.mono ?_; rintro e w1 ⟨rfl, hb1⟩; have HB1 := Lib.hid hb1; clear hb1 HV)
    | (go_at_call 18; refine (HBND.out _ HB1.out).mono ?_; rintro e w2 ⟨g, rfl, hbt, hbr, hk2⟩; have HBT := Lib.hid hbt; have HBR := Lib.hid hbr; have HK2 := Lib.hid hk2; clear hbt hbr hk2 HBND)
  obtain ⟨up, rk, ins, tv, ov, mb, kb, hbr⟩ := HBR.out
  have hw1 := HB1.out.size
  have hw2 := HK2.out.size
  have hbr2 := hbr.mono (F' := fun b => (F b ∨ w.heap.size ≤ b) ∧ b < w2.heap.size) (fun b hb hf => ⟨hf.imp id fun h => by omega, hb⟩) fun x hx => hx.1.elim (HBASE.out x) fun h => by omega
  have hgl := hbr2.blk.lt
  have hkl := hbr2.tak.lt
  have hne : ∀ b, N b → ∀ x, ((F x ∨ w.heap.size ≤ x) ∧ x < w2.heap.size) → b ≠ x := fun b hb x hx e => by
    subst e
    have := HN.out b hb
    rcases hx.1 with h | h
    · exact this.1 h
    · omega
  have hN2 : ∀ b, N b → w2.heap[b]? = w.heap[b]? := fun b hb => (HK2.out.block b (by have := (HN.out b hb).2; omega) (HN.out b hb).1).trans (HB1.out.block b (HN.out b hb).2)
  have hkF := hbr2.fk
  have hTg : T ≠ g := HBT.out.ne_ hbr2.blk (by decide)
  have hTk : T ≠ kb := map_ne_blk hbr2.tak HBT.out
  have hgF := hbr2.fg
  have HC := Lib.hid (HNOTE.out w2 _ _ _ _ _ _ _ _ _ hbr2 hN2 (by omega))
  have HNE := Lib.hid hne; have HN2 := Lib.hid hN2
  clear hbr hbr2 hne hN2 HNOTE HBR
  have hN3 : ∀ w3, Keep (fun b => b = kb) w2 w3 → ∀ b, N b → (w3.alloc (.map #[] 0)).heap[b]? = w.heap[b]? := fun w3 hk b hb => by
    have h1 := (HN.out b hb).2
    have h2 := hk.size
    exact (Below.heap_alloc _ _ _ (by omega)).trans ((hk.block b (by omega) (HNE.out b hb kb hkF)).trans (HN2.out b hb))
  have HN3 := Lib.hid hN3
  clear hN3
  go_wp2_with first
    | (go_at_call 19; refine HC.out.mono ?_; rintro e w3 ⟨rfl, hb3, hk3⟩; have HB3 := Lib.hid hb3; have HK3 := Lib.hid hk3; clear hb3 hk3 HC)
    | (go_at_call 10; refine (HVARS.out _ (HN3.out w3 HK3.out) (by have := HK3.out.size; simp; omega)).mono ?_; rintro e w5 ⟨⟨v, rfl, hlies⟩, hvs, hvl, hb5⟩; obtain ⟨A1, c1, hv1, hc1, hc2, -⟩ := hlies.rep.seq_; rw [List.length_map] at hv1 hc1; have hv1 := List.head_eq_of_cons_eq hv1; subst hv1; have HL := Lib.hid hlies; have HB5 := Lib.hid hb5; have HVS := Lib.hid hvs; clear hlies hb5 hvs HVARS)
  have hs3 : (w3.alloc (.map #[] 0)).heap.size = w3.heap.size + 1 := by simp
  have hw3 := HK3.out.size
  have hw5 := HB5.out.size
  have hbr5 : BRx B0 (fun b => (F b ∨ w.heap.size ≤ b) ∧ b < w2.heap.size) (K + V.length) { st with tk := V.foldl (noteF st.last) st.tk } up rk ins tv ov mb kb w5 g := HB3.out.below (((Below.refl _ _).alloc (Nat.le_refl _) _).trans (HB5.out.mono (by omega))) HB3.out.b0
  have HBR5 := Lib.hid hbr5
  clear hbr5
  go_loopg [9, 26] (V.length + 1) (fun gg _ s26 wr => ∃ (k : Nat) (ks : List Int) (last : Int) (tk : Int → Bool), k ≤ V.length ∧ gg = V.length + 1 - k ∧ s26 = .int .i64 (k : Int) ∧ ks.length = k ∧ NumsI st.last (V.foldl (noteF st.last) st.tk) (M + (V.length : Nat)) ks last tk ∧
    BRx B0 (fun b => (F b ∨ w.heap.size ≤ b) ∧ b < w2.heap.size) (K + V.length) { st with last := last, tk := tk } up rk ins tv ov mb kb wr g ∧ MapV wr w3.heap.size k (tabF (V.zip (ks.map newNm))) ∧ Keep (fun b => b = g ∨ b = kb ∨ b = w3.heap.size) w5 wr)
  case atStart => exact ⟨0, [], st.last, _, Nat.zero_le _, by omega, rfl, rfl, HST0.out, HBR5.out, by
    have : V.zip (List.map newNm []) = [] := by simp
    rw [this]
    exact Gm.MapR.keep (mapV_new w3) (HB5.out.block _ (by omega)), Keep.refl _ _⟩
  case round =>
    obtain ⟨k, ks, last, tk, hk, hg, rfl, hks, hnum, hR, hM, hKp⟩ := hrel
    have HG := Lib.hid hg; have HM := Lib.hid hM; have HKP := Lib.hid hKp; have HNUM := Lib.hid hnum; have HR := Lib.hid hR
    by_cases hlt2 : k < V.length
    · have hltz : (k : Int) < (V.length : Int) := by omega
      have hrep := (HL.out wr fun b hb hl => hKp.block b hl fun e => by omega).seq_
      obtain ⟨A2, c2, e2, _, _, hel⟩ := hrep
      have e2 := List.head_eq_of_cons_eq e2
      injection e2 with q1 q2 q3
      clear q2 q3
      subst q1
      obtain ⟨b, off, cs, hA, _, _, hr, hcell⟩ := hel k (by simpa using hlt2)
      subst hA
      rw [List.getElem_map] at hr
      obtain ⟨rfl, hsm⟩ := hr.str_
      have c0 := hcell 0 _ rfl
      simp only [Nat.mul_one, Nat.add_zero] at c0
      obtain ⟨nx, n1, n2, n3, n4, n5⟩ := HNUM.out.next
      have hlas : 0 ≤ last := hR.las.1
      have hlim := hR.lim
      have hnv := newVar_c hR nx n1 n2 n3 (by omega)
      have hput : ∀ W, BRx B0 (fun b => (F b ∨ w.heap.size ≤ b) ∧ b < w2.heap.size) (K + V.length) { st with last := nx, tk := RmT tk last nx } up rk ins tv ov mb kb W g → Keep (fun b => b = g ∨ b = kb) wr W → ∃ W2, (Instr.mapUpdate 48 (.map (some w3.heap.size)) (.string V[k]) (.agg #[.string (newNm nx), .slice none 0 0])).run Tryd.prog W = .ok () W2 ∧
          BRx B0 (fun b => (F b ∨ w.heap.size ≤ b) ∧ b < w2.heap.size) (K + V.length) { st with last := nx, tk := RmT tk last nx } up rk ins tv ov mb kb W2 g ∧ MapV W2 w3.heap.size (k + 1) (tabF (V.zip ((ks ++ [nx]).map newNm))) ∧ Keep (fun b => b = g ∨ b = kb ∨ b = w3.heap.size) w5 W2 := fun W hW hkW => by
        have hml := Gm.MapR.lt HM.out
        obtain ⟨W2, p1, p2, p3⟩ := mapV_put (Gm.MapR.keep HM.out (hkW.block _ hml fun e => by omega)) (by omega) V[k] (newNm nx) hsm (newNm_size (by omega) (by omega))
        have hz : V.zip ((ks ++ [nx]).map newNm) = V.zip (ks.map newNm) ++ [(V[k], newNm nx)] := by
          rw [List.map_append, List.map_cons, List.map_nil]
          have := zip_snoc (V := V) (W := ks.map newNm) (s := newNm nx) (by rw [List.length_map]; omega)
          rw [this]
          simp [hks]
        have hk3 : Keep (fun b => b = w3.heap.size) W W2 := Keep.grown p3 fun x hx => by injection hx with hx; exact hx.symm
        rw [hz, tabF_snoc]
        refine ⟨W2, p1, hW.keep (fun b hb hbl => hk3.block b hbl fun e => by have e : b = w3.heap.size := e; have := hb.2; omega) (hk3.below (fun x hx e => by have e : x = w3.heap.size := e; omega) hW.b0), p2, ?_⟩
        exact (HKP.out.trans hkW fun x _ h => h.elim .inl fun h => .inr (.inl h)).trans hk3 fun x _ h => .inr (.inr h)
      have HNV := Lib.hid hnv; have HPUT := Lib.hid hput; have HN5 := Lib.hid n5
      clear hM hKp hg hel hnv hput hr hcell hR hnum n1 n2 n3 n4 n5 HR HNUM
      generalize V[k] = nm at HPUT c0 hsm
      go_wp2_with (go_at_call 20; refine HNV.out.mono ?_; rintro e W ⟨rfl, hb, hk⟩; obtain ⟨W2, p1, p2, p3, p4⟩ := HPUT.out W hb hk; have P1 := Lib.hid p1; have P2 := Lib.hid p2; have P3 := Lib.hid p3; have P4 := Lib.hid p4; clear p1 p2 p3 p4 hb hk)
      rw [P1.out]
      simp only [Result.andThen]
      rw [Oper.upon_skip]
      go_wp2_with fail
      go_roundg (V.length + 1 - (k + 1))
      case measure => have := HG.out; omega
      case rel => exact ⟨k + 1, ks ++ [nx], nx, _, by omega, rfl, by go_num, by simp [hks], HN5.out, P2.out, P3.out, P4.out⟩
    · have hltz : ¬ (k : Int) < (V.length : Int) := by omega
      obtain rfl : k = V.length := by omega
      have hkz := hKp.size
      have hNr : ∀ b, N b → wr.heap[b]? = w.heap[b]? := fun b hb => by
        have h1 := (HN.out b hb).2
        exact (hKp.block b (by omega) fun e => by
          rcases e with e | e | e
          · exact HNE.out b hb g hgF e
          · exact HNE.out b hb kb hkF e
          · omega).trans ((HB5.out.block b (by omega)).trans (HN3.out w3 HK3.out b hb))
      have HC := Lib.hid (HALL.out wr w3.heap.size _ _ hNr (by omega) hM)
      have hTr : Blk wr T 45 #[.pointer (some ⟨g, 0, none⟩)] := (hKp.block T (by omega) fun e => by
          rcases e with e | e | e
          · exact hTg e
          · exact hTk e
          · omega).trans ((HB5.out.block T (by omega)).trans ((Below.heap_alloc _ _ _ (by omega)).trans ((HK3.out.block T (by omega) hTk).trans HBT.out)))
      have hKr : Keep F w wr := by
        have k1 : Keep F w w2 := (Keep.of_new (F := F) HB1.out).trans HK2.out fun _ _ h => h
        have k2 : Keep F w w3 := k1.trans HK3.out fun x hx e => by
          have e : x = kb := e
          subst e
          exact hkF.1.elim id fun h => by omega
        have k3 : Keep F w w5 := k2.trans (F' := fun _ => False) (Keep.of_new (((Below.refl _ _).alloc (Nat.le_refl _) _).trans (HB5.out.mono (by omega)))) fun _ _ h => h.elim
        exact k3.trans hKp fun x hx e => by
          rcases e with e | e | e
          · subst e; exact hgF.1.elim id fun h => by omega
          · subst e; exact hkF.1.elim id fun h => by omega
          · omega
      have HTR := Lib.hid hTr; have HKR := Lib.hid hKr
      clear hM hKp hg HM HKP hNr hTr hKr hR hnum
      go_wp2_with (go_at_call 21; refine HC.out.mono ?_; rintro e w' ⟨A', c', rfl, q1, q2⟩; have Q1 := Lib.hid q1; have Q2 := Lib.hid q2; clear q1 q2)
      go_ret2
      have hRe := HR.out.below Q2.out HR.out.b0
      refine ⟨ks, { st with last := last, tk := tk }, _, _, w2.heap.size, rfl, hks, HNUM.out, by omega, Q1.out.keep (fun _ _ _ => rfl) fun b hb => by omega, ⟨hRe.glob, hRe.base, ⟨.inl hFT, by omega⟩, hRe.lim, .inr ⟨g, HTR.out.below Q2.out (by omega), _, _, _, _, _, _, _, hRe⟩⟩, HKR.out.trans (F' := fun _ => False) (Keep.of_new Q2.out) fun _ _ h => h.elim⟩
end Go.Proofs.YtfhjfhbfgndheaaDoor
