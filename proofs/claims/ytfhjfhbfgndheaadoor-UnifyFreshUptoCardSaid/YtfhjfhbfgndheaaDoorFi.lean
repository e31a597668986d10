/- The law UnifyFresh: its walk. -/
import Derived.Test.YtfhjfhbfgndheaaDoorFf
import Derived.Test.YtfhjfhbfgndheaaDoorFg
import Derived.Test.YtfhjfhbfgndheaaDoorFh
namespace Go.Proofs.YtfhjfhbfgndheaaDoor
open Go.RowKit Go.Shelf Un
open Go
attribute [local go_sem] Oper.semAt_some

theorem BRx.isK {B0 K K' : Nat} {F : Nat → Prop} {st : St} {w : World} {g : Nat} (h : BR B0 F K st w g) (hk : K ≤ K') (hl : K' ≤ 50000000) : BR B0 F K' st w g := by
  obtain ⟨up, rk, ins, tv, ov, mb, kb, h⟩ := h
  exact ⟨up, rk, ins, tv, ov, mb, kb, h.moreK hk hl⟩
theorem TN.moreK {B0 K K' : Nat} {F : Nat → Prop} {st : St} {w : World} {T : Nat} (h : TN B0 F K st w T) (hk : K ≤ K') (hl : K' ≤ 50000000) : TN B0 F K' st w T := by
  obtain ⟨h1, h2, h3, h4, h5⟩ := h
  exact ⟨h1, h2, h3, hl, h5.imp id fun ⟨g, a, b⟩ => ⟨g, a, BRx.isK b hk hl⟩⟩
theorem fresh_err (T : Nat) (l : List Ty) (A : Option Addr) (c : Nat) (w : World) (h : LRep w w.heap.size l A c) (hv : l.all mayT = false) :
    Calls Tryd.prog 7 #[.pointer (some ⟨T, 0, none⟩), .slice A l.length c] w fun e w' => e = .returned (.tuple #[.slice none 0 0, .int .i64 4]) ∧ Below w.heap.size w w' := by
  have hV := allValid_c l A c w h
  rw [hv] at hV
  have HV := Lib.hid hV
  clear hV h
  go_enter Tryd.func7, Tryd.ntmps7
  go_wp2_with (go_at_call 17; refine HV.out.mono ?_; rintro e w1 ⟨rfl, hb1⟩; have HB1 := Lib.hid hb1; clear hb1 HV)
  go_ret2
  exact ⟨rfl, HB1.out⟩
theorem varsT_le {l : List Ty} (h : l.all mayT = true) : (varsT l).length ≤ 2048 * l.length := by
  have h1 := nodup_sub (pool := occ (Ty.partsL l)) (varsT_nodup l) fun s hs => (mem_varsT h).1 hs
  have h2 : (occ (Ty.partsL l)).length ≤ (Ty.partsL l).length := by unfold occ; rw [List.length_map]; exact List.length_filter_le _ _
  have h3 : ∀ l : List Ty, l.all mayT = true → (Ty.partsL l).length ≤ 2048 * l.length := fun l => by
    induction l with
    | nil => exact fun _ => Nat.le_refl _
    | cons t l ih =>
      intro h
      rw [List.all_cons, Bool.and_eq_true] at h
      have := may_parts h.1
      have := ih h.2
      rw [Ty.partsL, List.length_append, List.length_cons]
      omega
  have := h3 l h
  omega
/-! ### The names of Fresh -/
theorem newNm_var {k : Int} (h : 0 ≤ k) : isVarT (.mk (newNm k) []) = true := by
  obtain ⟨u, rfl⟩ := Int.eq_ofNat_of_zero_le h
  obtain ⟨c, r, e, _⟩ := dec_head u
  have h1 : (newNm (u : Int)).data.toList = 39 :: c :: r := by
    rw [newNm_drop, ← e]
    unfold Lib.itoa
    rw [if_neg (by omega), Int.toNat_natCast]
  have h2 : 1 < (newNm (u : Int)).size := by
    have : (newNm (u : Int)).size = (newNm (u : Int)).data.toList.length := by rw [Array.length_toList]; rfl
    rw [this, h1]; simp
  unfold isVarT pfx
  simp only [Ty.name, Ty.args, h1, List.length_nil]
  simp [Lib.hasPrefix, h2]
structure Names (l : List Ty) (N : List ByteArray) : Prop where
  var : ∀ s ∈ N, isVarT (.mk s []) = true
  len : N.length = (varsT l).length
  nd : N.Nodup
  new_ : ∀ s ∈ N, s ∉ varsT l
theorem names_of {l : List Ty} {last M last' : Int} {tk tk' : Int → Bool} {ks : List Int} (h : NumsI last ((varsT l).foldl (noteF last) tk) M ks last' tk') (hl : ks.length = (varsT l).length) (h0 : 0 ≤ last) (h1 : last' < 9223372036854775808) : Names l (ks.map newNm) := by
  obtain ⟨p1, p2, p3, p4, _⟩ := h
  have hb : ∀ k ∈ ks, 0 ≤ k ∧ k < 9223372036854775808 := fun k hk => by have := p2 k hk; omega
  refine ⟨fun s hs => ?_, by rw [List.length_map]; exact hl, ?_, fun s hs hm => ?_⟩
  · obtain ⟨k, hk, rfl⟩ := List.mem_map.1 hs
    exact newNm_var (hb k hk).1
  · unfold List.Nodup
    rw [List.pairwise_map]
    refine List.Pairwise.imp_of_mem ?_ p1
    intro a b ha hb' hab e
    have ea := atoiN_newNm a (hb a ha).1 (hb a ha).2
    have eb := atoiN_newNm b (hb b hb').1 (hb b hb').2
    rw [e, eb] at ea
    omega
  · obtain ⟨k, hk, rfl⟩ := List.mem_map.1 hs
    have ek := atoiN_newNm k (hb k hk).1 (hb k hk).2
    have := p2 k hk
    have hf := fold_new (last := last) (tk := tk) hm (by rw [ek]; exact this.1) (by rw [ek])
    rw [ek, this.2.2] at hf
    cases hf
theorem names_apart {ks ks2 : List Int} {last last2 : Int} (h1 : ∀ k ∈ ks, 0 ≤ k ∧ k ≤ last) (h2 : ∀ k ∈ ks2, last < k ∧ k ≤ last2) (hb : last2 < 9223372036854775808) : ∀ s ∈ ks2.map newNm, s ∉ ks.map newNm := fun s hs hm => by
  obtain ⟨k, hk, rfl⟩ := List.mem_map.1 hs
  obtain ⟨j, hj, e⟩ := List.mem_map.1 hm
  have a := h1 j hj
  have b := h2 k hk
  have ek := atoiN_newNm k (by omega) (by omega)
  have ej := atoiN_newNm j (by omega) (by omega)
  rw [e, ek] at ej
  omega
end Go.Proofs.YtfhjfhbfgndheaaDoor
