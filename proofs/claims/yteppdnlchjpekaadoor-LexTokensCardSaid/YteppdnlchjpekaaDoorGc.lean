/- The law's copy of tokens for the document's own answer; whether two lists of tokens are the same. -/
import Derived.Test.YteppdnlchjpekaaDoorEv
namespace Go.Proofs.YteppdnlchjpekaaDoor
open Go.RowKit Lx
open Go
attribute [local go_sem] Oper.semAt_some

def OwnR (B : Nat) (l : List T) (w : World) (v : Value) : Prop := w.ownsRow B 73 4 v l.length (tcells l)
theorem OwnR.alloc {B : Nat} {l : List T} {w : World} {v : Value} (h : OwnR B l w v) (o : Obj) : OwnR B l (w.alloc o) v := World.ownsRow.alloc h o
theorem trepR_own {w : World} {B : Nat} {l : List T} {v : Value} (h : OwnR B l w v) : ∃ A c, v = .slice A l.length c ∧ TRep w w.heap.size l A c := by
  rcases h.2 with ⟨rfl, h0⟩ | ⟨g, cap, cur, rfl, _, hg, hn, hm, _, ht⟩
  · obtain rfl : l = [] := List.eq_nil_of_length_eq_zero h0
    exact ⟨none, 0, rfl, Nat.le_refl _, by unfold maxLen; omega, fun _ hj => absurd hj (Nat.not_lt_zero _)⟩
  · refine ⟨_, cap, rfl, hn, hm, fun j hj => ⟨g, 0, rfl, ?_, ?_⟩⟩
    · exact (Array.getElem?_eq_some_iff.1 hg).1
    · have key : ∀ i u, i < l.length * 4 → (tcells l)[i]? = some u → w.cell? ⟨g, 0 + i, none⟩ = some u := fun i u hi hu => by
        rw [Nat.zero_add, cell_of_row w g i cur _ _ hg, ← Array.getElem?_toList]
        rw [← ht, List.getElem?_take_of_lt hi] at hu
        exact hu
      obtain ⟨c0, c1, c2, c3⟩ := tcells_at l j hj
      exact ⟨key _ _ (by omega) c0, key _ _ (by omega) c1, key _ _ (by omega) c2, key _ _ (by omega) c3⟩
theorem infoR : (Tryd.prog.info? 73).map (fun i => (i.zero, i.size, i.bytes)) = some (some (.agg #[.int .i64 0, .int .i64 0, .int .u8 0, .string ⟨#[]⟩]), 4, 40) := by kernel_rfl

theorem stepR_tok (w : World) {ops : Array Oper} {o : Oper} {a : Act} {K : Act → World → Prop} {Q : Exit → Act → World → Prop} {E : Prop} (hgd : o.guard = none) (s x : Operand)
    (ho : o.op = .call { callee := .builtin .append, args := #[s, x], argTypes := #[36, 36] })
    (B : Nat) (l : List T) (t : T) (v : Value) (hs : a.eval s = v) (h : OwnR B l w v) (g c : Nat) (hx : a.eval x = .slice (some ⟨g, 0, none⟩) 1 c) (hb : Blk w g 73 #[.int .i64 t.line, .int .i64 t.col, .int .u8 (t.kind : Int), .string t.text])
    (hl : l.length ≤ 100000000) (hB : B ≤ w.heap.size)
    (hK : ∀ v' w', OwnR B (l ++ [t]) w' v' → Below B w w' → K (a.put o.dst v') w') : if Region.wanted o (yielded ops a.tmps) = true then Oper.wp Tryd.prog o a w K Q else E := by
  obtain ⟨i0, hi, hz0, hz1, hz2⟩ := info_parts infoR
  refine step_append_own w hgd s x 36 ho B 73 i0 _ 4 40 Tryd.underlying36 hi hz0 hz1 hz2 rfl (by decide) v l.length (tcells l) hs h ⟨g, 0, none⟩ 1 c [.int .i64 t.line, .int .i64 t.col, .int .u8 (t.kind : Int), .string t.text] hx rfl (fun j u hj => ?_) (fun u hu => ?_) (by unfold maxLen; omega) (by omega) hB ?_
  · have hc := hb.cell j
    rw [add0, hc]
    match j, hj with
    | 0, hj => simpa using hj
    | 1, hj => simpa using hj
    | 2, hj => simpa using hj
    | 3, hj => simpa using hj
  · simp at hu
    rcases hu with rfl | rfl | rfl | rfl <;> rfl
  · intro v' w' h2 h3 _
    refine hK v' w' ?_ ((Below.refl B w).grown h3 hB fun k hk => (World.ownsRow.lt h k hk).1)
    unfold OwnR
    rw [tcells_snoc, List.length_append]
    exact h2

set_option maxRecDepth 100000 in
set_option maxHeartbeats 8000000 in
theorem of_c (l : List T) (A : Option Addr) (c : Nat) (w : World) (hR : TRep w w.heap.size l A c) (hb : bulk l ≤ 2000000) :
    Calls Tryd.prog 15 #[.slice A l.length c] w fun e w' => ∃ A' c', e = .returned (.slice A' l.length c') ∧ TRep w' w'.heap.size l A' c' ∧ Below w.heap.size w w' := by
  have hlen := hR.1; have hcap := hR.2.1
  have hlb := len_bulk l
  have hmax : maxLen = 9223372036854775807 := rfl
  have HR := Lib.hid hR
  clear hR
  go_enter Tryd.func15, Tryd.ntmps15
  go_wp2_with fail
  go_loopg [3, 4] (l.length + 1) (fun gg s3 s4 wr => ∃ k : Nat, k ≤ l.length ∧ gg = l.length + 1 - k ∧ s4 = .int .i64 (k : Int) ∧ OwnR w.heap.size (l.take k) wr s3 ∧ Below w.heap.size w wr)
  case atStart => exact ⟨0, Nat.zero_le _, by omega, rfl, ⟨rfl, .inl ⟨rfl, rfl⟩⟩, Below.refl _ _⟩
  case round =>
    obtain ⟨k, hk, hg, rfl, ho, hu⟩ := hrel
    have HG := Lib.hid hg; have HU := Lib.hid hu; have HO := Lib.hid ho
    clear hg hu ho
    by_cases hlt : k < l.length
    · have hltz : (k : Int) < (l.length : Int) := by omega
      obtain ⟨b', off, rfl, hb', c0, c1, c2, c3⟩ := (HR.out.under HU.out).2.2 k hlt
      have htk : l.take (k + 1) = l.take k ++ [l[k]] := List.take_succ_eq_append_getElem hlt
      have HTK := Lib.hid htk
      clear htk
      go_wp2_with fail
      go_region_law (refine stepR_tok _ rfl _ _ rfl w.heap.size (l.take k) l[k] _ rfl ((HO.out : OwnR _ _ wr.drew _).alloc _) wr.heap.size 1 rfl (Blk.new wr.drew 73 _) (by rw [List.length_take]; omega) (by have := HU.out.size; simp; omega) ?_; intro v3 w3 hy3 hb3; have HY3 := Lib.hid hy3; have HB3 := Lib.hid ((HU.out.drew.alloc (by have := HU.out.size; simp; omega) _).trans hb3); clear hy3 hb3)
      all_goals
        go_wp2_with fail
        go_roundg (l.length + 1 - (k + 1))
        case measure => have := HG.out; omega
        case rel =>
          refine ⟨k + 1, by omega, rfl, by go_num, ?_, HB3.out⟩
          rw [HTK.out]
          exact HY3.out
    · have hltz : ¬ (k : Int) < (l.length : Int) := by omega
      obtain rfl : k = l.length := by omega
      rw [List.take_length] at HO
      obtain ⟨A', c', rfl, hT⟩ := trepR_own HO.out
      have HT := Lib.hid hT
      clear hT
      go_wp2_with fail
      go_ret
      exact ⟨A', c', rfl, HT.out, HU.out⟩
set_option maxRecDepth 100000 in
set_option maxHeartbeats 4000000 in
/-- Same says yes to lists of the same kinds and texts, places aside. -/
theorem same_yes (a b : List T) (A B : Option Addr) (c d : Nat) (w : World) (hA : TRep w w.heap.size a A c) (hB : TRep w w.heap.size b B d) (hl : a.length = b.length)
    (he : ∀ j (h : j < a.length) (h' : j < b.length), b[j].kind = a[j].kind ∧ b[j].text = a[j].text) :
    Calls Tryd.prog 14 #[.slice A a.length c, .slice B b.length d, .bool false] w fun e w' => e = .returned (.bool true) ∧ Below w.heap.size w w' := by
  have hmax : maxLen = 9223372036854775807 := rfl
  have hac := hA.1; have hcm := hA.2.1
  have HA := Lib.hid hA; have HB := Lib.hid hB; have HE := Lib.hid he
  clear hA hB he
  have hbd := HB.out.1; have hdm := HB.out.2.1
  rw [← hl] at hbd ⊢
  go_enter Tryd.func14, Tryd.ntmps14
  go_wp2_with fail
  go_loopg [7] (a.length + 1) (fun gg s7 wr => ∃ k : Nat, k ≤ a.length ∧ gg = a.length + 1 - k ∧ s7 = .int .i64 (k : Int) ∧ Below w.heap.size w wr)
  case atStart => exact ⟨0, Nat.zero_le _, by omega, rfl, Below.refl _ _⟩
  case round =>
    obtain ⟨k, hk, hg, rfl, hu⟩ := hrel
    have HG := Lib.hid hg; have HU := Lib.hid hu
    clear hg hu
    by_cases hlt : k < a.length
    · have hltz : (k : Int) < (a.length : Int) := by omega
      have hlt' : k < b.length := by omega
      obtain ⟨b1, o1, rfl, hb1, c0, c1, c2, c3⟩ := (HA.out.under HU.out).2.2 k hlt
      obtain ⟨b2, o2, rfl, hb2, e0, e1, e2, e3⟩ := (HB.out.under HU.out).2.2 k hlt'
      have hkt := HE.out k hlt hlt'
      rw [hkt.1] at e2
      rw [hkt.2] at e3
      clear hkt
      generalize a[k] = t at *
      go_wp2_with fail
      go_region
      all_goals
        go_wp2_with fail
        go_roundg (a.length + 1 - (k + 1))
        case measure => have := HG.out; omega
        case rel => exact ⟨k + 1, by omega, rfl, by go_num, HU.out.drew⟩
    · have hltz : ¬ (k : Int) < (a.length : Int) := by omega
      go_wp2_with fail
      go_ret
      exact ⟨rfl, HU.out⟩
end Go.Proofs.YteppdnlchjpekaaDoor
