/- Package unify: Canon. -/
import Derived.Test.YtfhjfhbfgndheaaDoorFd
namespace Go.Proofs.YtfhjfhbfgndheaaDoor
open Go.RowKit Go.Shelf Un
open Go
attribute [local go_sem] Oper.semAt_some

theorem parts_leF (t : Ty) : ∀ q ∈ t.parts, q.parts.length ≤ t.parts.length := by
  induction t using Ty.ind with
  | h n a ih =>
    intro q hq
    rw [Ty.parts_eq] at hq
    rcases List.mem_cons.1 hq with e | e
    · rw [e]; exact Nat.le_refl _
    · obtain ⟨x, hx, hqx⟩ := Ty.mem_partsL.1 e
      have h1 := ih x hx q hqx
      have h2 : ∀ l : List Ty, x ∈ l → x.parts.length ≤ (Ty.partsL l).length := fun l => by
        induction l with
        | nil => intro h; simp at h
        | cons y l ih2 =>
          intro h
          rw [Ty.partsL, List.length_append]
          rcases List.mem_cons.1 h with h | h
          · rw [h]; omega
          · have := ih2 h; omega
      have h3 := h2 a hx
      rw [Ty.parts_eq (.mk n a), List.length_cons]
      simp only [Ty.args]
      omega
theorem args_parts (t : Ty) : t.args.length ≤ t.parts.length := by
  have key : ∀ l : List Ty, l.length ≤ (Ty.partsL l).length := fun l => by
    induction l with
    | nil => exact Nat.zero_le _
    | cons t l ih =>
      rw [Ty.partsL, List.length_append, List.length_cons, Ty.parts_eq t, List.length_cons]
      omega
  rw [Ty.parts_eq t, List.length_cons]
  have := key t.args
  omega
theorem narrow {l : List Ty} (h : l.all mayT = true) : ∀ t ∈ l, ∀ q ∈ t.parts, q.args.length ≤ 1000000 := fun t ht q hq => by
  have h1 := may_parts (List.all_eq_true.1 h t ht)
  have h2 := parts_leF t q hq
  have h3 := args_parts q
  omega
theorem mapV_put {w : World} {b n : Nat} {f : ByteArray → Option ByteArray} (h : MapV w b n f) (hn : n < maxLen) (k a : ByteArray) (hk : k.size ≤ maxLen) (ha : a.size ≤ maxLen) :
    ∃ w', (Instr.mapUpdate 48 (.map (some b)) (.string k) (.agg #[.string a, .slice none 0 0])).run Tryd.prog w = .ok () w' ∧ MapV w' b (n + 1) (putF f k a) ∧ w.grownBy w' (some b) :=
  Gm.MapR.put h str_lawT Tryd.underlying48 hn Gm.kS_key Gm.kS_inj k a (key_s hk) (by show (if a.size ≤ maxLen then some (enV a, ([] : List MemPlace)) else none) = _; rw [if_pos ha])
theorem mapV_new (w : World) : MapV (w.alloc (.map #[] 0)) w.heap.size 0 (tabF []) := Gm.MapR.new w
theorem take_zip {V C : List ByteArray} {k : Nat} (h1 : k < V.length) (h2 : k < C.length) : tabF ((V.zip C).take (k + 1)) = putF (tabF ((V.zip C).take k)) V[k] C[k] := by
  rw [List.take_add_one, List.getElem?_eq_getElem (by rw [List.length_zip]; omega), List.getElem_zip]
  exact tabF_snoc _ _
theorem canonNm_size {n : Nat} (hn : n < 100000000) : (canonNm n).size ≤ maxLen := by
  have h1 := enc_small (n % 26) (by omega)
  have h2 : (⟨(Lib.itoa ((n / 26 : Nat) : Int)).toArray⟩ : ByteArray).size ≤ 21 := by
    have := Lib.itoa_length_le ((n / 26 : Nat) : Int) (by omega) (by omega)
    show (Lib.itoa ((n / 26 : Nat) : Int)).toArray.size ≤ 21
    simpa using this
  have h3 : (letN n).size ≤ 5 := by unfold letN; rw [ByteArray.size_append]; show 1 + _ ≤ 5; omega
  unfold canonNm
  have hm : maxLen = 9223372036854775807 := rfl
  split
  · omega
  · rw [ByteArray.size_append]; omega
def canC (n : Nat) : List ByteArray := (List.range n).map canonNm
theorem canC_len (n : Nat) : (canC n).length = n := by simp [canC]
theorem canC_at {n k : Nat} (h : k < n) : (canC n)[k]'(by rw [canC_len]; exact h) = canonNm k := by simp [canC]
set_option maxRecDepth 2000 in
set_option maxHeartbeats 4000000 in
theorem canon_c (l : List Ty) (A : Option Addr) (c : Nat) (w : World) (h : LRep w w.heap.size l A c) (hl : l.length ≤ 10000) (hv : l.all mayT = true)
    (htab : ∀ W, Below w.heap.size w W → Lib.TabIs Tryd.prog W "internal/strconv.uint64pow10" .u64 Lib.pow10Tab) :
    Calls Tryd.prog 9 #[.slice A l.length c] w fun e w' => ∃ A' c', e = .returned (.slice A' l.length c') ∧ LN (fun b => w.heap.size ≤ b) w' (canonL l (canC (varsT l).length)) A' c' ∧ Below w.heap.size w w' := by
  have hV := allValid_c l A c w h
  rw [hv] at hV
  have hvars : ∀ W, Below w.heap.size w W → Calls Tryd.prog 10 #[.slice A l.length c] W fun e w' => (∃ v, e = .returned v ∧ Gd.Lies (fun b => W.heap.size ≤ b) w' (.seq 1 ((varsT l).map Gd.D.str)) [v]) ∧ (∀ s ∈ varsT l, s.size ≤ maxLen) ∧ (varsT l).length ≤ 20480000 ∧ Below W.heap.size W w' := fun W hW => vars_c l A c W ((h.under hW).more hW.size) hl
  have hall : ∀ (W : World) (mb n : Nat) (f : ByteArray → Option ByteArray), Below w.heap.size w W → MapV W mb n f → Calls Tryd.prog 21 #[.slice A l.length c, .map (some mb)] W fun e w' => ∃ A' c', e = .returned (.slice A' l.length c') ∧ LN (fun b => W.heap.size ≤ b) w' (l.map (substV f)) A' c' ∧ Below W.heap.size W w' := fun W mb n f hW hm =>
    all_c W.heap.size (some mb) f l (by omega) (fun t ht => replaced_c W.heap.size (some mb) f t (narrow hv t ht)) A c W (looks_map hm (Gm.MapR.lt hm)) (Nat.le_refl _) ((h.under hW).more hW.size)
  have hlen := h.len
  have hmax : maxLen = 9223372036854775807 := rfl
  have hmm := @run_makeMap Tryd.prog
  have HV := Lib.hid hV; have HVARS := Lib.hid hvars; have HALL := Lib.hid hall; have HTAB := Lib.hid htab
  have hres : canonL l (canC (varsT l).length) = l.map (substV (tabF ((varsT l).zip (canC (varsT l).length)))) := rfl
  rw [hres]
  generalize hvn : varsT l = V at HVARS ⊢
  clear hV hvars hall htab h hres hvn
  go_enter Tryd.func9, Tryd.ntmps9
  go_wp2_with first
    | (go_at_call 17; refine HV.out.mono ?_; rintro e w1 ⟨rfl, hb1⟩; have HB1 := Lib.hid hb1; clear hb1 HV)
    | (go_at_call 10; refine (HVARS.out _ (HB1.out.alloc HB1.out.size _)).mono ?_; rintro e w3 ⟨⟨v, rfl, hlies⟩, hvs, hvl, hb3⟩; obtain ⟨A1, c1, hv1, hc1, hc2, -⟩ := hlies.rep.seq_; rw [List.length_map] at hv1 hc1; have hv1 := List.head_eq_of_cons_eq hv1; subst hv1; have HL := Lib.hid hlies; have HB3 := Lib.hid hb3; have HVS := Lib.hid hvs; clear hlies hb3 hvs HVARS)
  have hs1 : (w1.alloc (.map #[] 0)).heap.size = w1.heap.size + 1 := by simp
  have hw1 := HB1.out.size
  have hCl := canC_len V.length
  have hbw : ∀ wr, Keep (fun b => b = w1.heap.size) w3 wr → Below w.heap.size w wr := fun wr hk => ((HB1.out.alloc hw1 _).trans (HB3.out.mono (by omega))).trans (hk.below (fun x hx e => by omega) (by have := HB3.out.size; omega))
  have HBW := Lib.hid hbw
  clear hbw
  go_loopg [4, 5, 15] (V.length + 1) (fun gg _ _ s15 wr => ∃ k : Nat, k ≤ V.length ∧ gg = V.length + 1 - k ∧ s15 = .int .i64 (k : Int) ∧ MapV wr w1.heap.size k (tabF ((V.zip (canC V.length)).take k)) ∧ Keep (fun b => b = w1.heap.size) w3 wr)
  case atStart => exact ⟨0, Nat.zero_le _, by omega, rfl, Gm.MapR.keep (mapV_new w1) (HB3.out.block _ (by omega)), Keep.refl _ _⟩
  case round =>
    obtain ⟨k, hk, hg, rfl, hM, hKp⟩ := hrel
    have HG := Lib.hid hg; have HM := Lib.hid hM; have HKP := Lib.hid hKp
    by_cases hlt : k < V.length
    · have hltz : (k : Int) < (V.length : Int) := by omega
      have hrep := (HL.out wr fun b hb hl => hKp.block b hl fun e => by omega).seq_
      obtain ⟨A2, c2, e2, _, _, hel⟩ := hrep
      have e2 := List.head_eq_of_cons_eq e2
      injection e2 with q1 q2 q3
      clear q2 q3
      subst q1
      obtain ⟨b, off, cs, hA, _, _, hr, hcell⟩ := hel k (by simpa using hlt)
      subst hA
      rw [List.getElem_map] at hr
      obtain ⟨rfl, hsm⟩ := hr.str_
      have c0 := hcell 0 _ rfl
      simp only [Nat.mul_one, Nat.add_zero] at c0
      have hcn := canonName_c k (by omega) wr (HTAB.out wr (HBW.out wr hKp))
      have hput : ∀ W, Below wr.heap.size wr W → ∃ W2, (Instr.mapUpdate 48 (.map (some w1.heap.size)) (.string V[k]) (.agg #[.string (canonNm k), .slice none 0 0])).run Tryd.prog W = .ok () W2 ∧ MapV W2 w1.heap.size (k + 1) (tabF ((V.zip (canC V.length)).take (k + 1))) ∧ Keep (fun b => b = w1.heap.size) w3 W2 := fun W hW => by
        obtain ⟨W2, p1, p2, p3⟩ := mapV_put (Gm.MapR.keep HM.out (hW.block _ (Gm.MapR.lt HM.out))) (by omega) V[k] (canonNm k) hsm (canonNm_size (by omega))
        rw [take_zip hlt (by omega), canC_at hlt]
        exact ⟨W2, p1, p2, (HKP.out.trans (F' := fun _ => False) (Keep.of_new hW) fun _ _ h => h.elim).trans (Keep.grown p3 fun x hx => by injection hx with hx; exact hx.symm) fun _ _ h => h⟩
      have HCN := Lib.hid hcn; have HPUT := Lib.hid hput
      clear hM hKp hg hel hcn hput hr hcell
      generalize V[k] = nm at HPUT c0 hsm
      generalize canonNm k = cn at HCN HPUT
      go_wp2_with (go_at_call 24; refine HCN.out.mono ?_; rintro e W ⟨rfl, hb⟩; obtain ⟨W2, p1, p2, p3⟩ := HPUT.out W hb; have P1 := Lib.hid p1; have P2 := Lib.hid p2; have P3 := Lib.hid p3; clear p1 p2 p3 hb)
      rw [P1.out]
      simp only [Result.andThen]
      rw [Oper.upon_skip]
      go_wp2_with fail
      go_roundg (V.length + 1 - (k + 1))
      case measure => have := HG.out; omega
      case rel => exact ⟨k + 1, by omega, rfl, by go_num, P2.out, P3.out⟩
    · have hltz : ¬ (k : Int) < (V.length : Int) := by omega
      obtain rfl : k = V.length := by omega
      have ht : (V.zip (canC V.length)).take V.length = V.zip (canC V.length) := List.take_of_length_le (by rw [List.length_zip]; omega)
      rw [ht] at hM
      have HC := Lib.hid (HALL.out wr w1.heap.size _ _ (HBW.out wr hKp) hM)
      have HB := Lib.hid (HBW.out wr hKp)
      clear hM hKp hg HM HKP
      go_wp2_with (go_at_call 21; refine HC.out.mono ?_; rintro e w' ⟨A', c', rfl, q1, q2⟩; have Q1 := Lib.hid q1; have Q2 := Lib.hid q2; clear q1 q2)
      go_ret
      exact ⟨_, _, rfl, Q1.out.keep (fun _ _ _ => rfl) fun b hb => by have := HB.out.size; omega, HB.out.trans (Q2.out.mono HB.out.size)⟩
end Go.Proofs.YtfhjfhbfgndheaaDoor
