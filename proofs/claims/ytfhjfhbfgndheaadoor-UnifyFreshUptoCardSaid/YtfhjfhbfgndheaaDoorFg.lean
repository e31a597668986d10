/- The document's own Parts, Same; the law's large, sames. -/
import Derived.Test.YtfhjfhbfgndheaaDoorFa
import Derived.Test.YtfhjfhbfgndheaaDoorYm
import Derived.Test.YtfhjfhbfgndheaaDoorSkw
import Derived.Test.YtfhjfhbfgndheaaDoorKp
import Derived.BigRegion
namespace Go.Proofs.YtfhjfhbfgndheaaDoor
open Go.RowKit Go.Shelf
open Go
attribute [local go_sem] Oper.semAt_some

def IsP (e : Ending) : Prop := ∃ n d : Int, e = .returned (.tuple #[.int .i64 n, .int .i64 d])
def IsB (e : Ending) : Prop := ∃ b : Bool, e = .returned (.bool b)
set_option maxHeartbeats 2000000 in
theorem parts_c (t : Ty) : ∀ (u : Value) (w : World), TyRep w w.heap.size t u → Calls Tryd.prog 16 #[u] w fun e w' => IsP e ∧ Below w.heap.size w w' := by
  induction t using Ty.ind with
  | h n a ih =>
    intro u w h
    obtain ⟨A, c, rfl, hn, hR⟩ := h
    simp only [Ty.name, Ty.args] at hn hR ⊢
    have hlen := hR.len
    have hmax : maxLen = 9223372036854775807 := rfl
    obtain ⟨W, hW⟩ : ∃ W, W = w.alloc (.cells #[.string n, .slice A a.length c] 36) := ⟨_, rfl⟩
    have hbW : Below w.heap.size w W := by rw [hW]; exact (Below.refl _ w).alloc (Nat.le_refl _) _
    have hsz : W.heap.size = w.heap.size + 1 := by rw [hW]; simp
    have w1 : W.cell? ⟨w.heap.size, 1, none⟩ = some (.slice A a.length c) := by rw [hW]; exact cell_alloc_n _ _ _ rfl
    have hcell : ∀ V, Below W.heap.size W V → V.cell? ⟨w.heap.size, 1, none⟩ = some (.slice A a.length c) := fun V h2 => (h2.cell (p := ⟨w.heap.size, 1, none⟩) (by show w.heap.size < _; omega)).trans w1
    have HIH := Lib.hid ih; have HR := Lib.hid hR; have HBW := Lib.hid hbW; have HCELL := Lib.hid hcell
    clear ih hR hbW hcell w1
    subst hW
    go_enter Tryd.func16, Tryd.ntmps16
    go_wp2_with fail
    go_loopg [4, 5, 6, 7, 8] (a.length + 1) (fun gg s4 s5 s6 _ _ wr => ∃ (k : Nat) (m d : Int), k ≤ a.length ∧ gg = a.length + 1 - k ∧ s6 = .int .i64 (k : Int) ∧ s4 = .int .i64 m ∧ s5 = .int .i64 d ∧ Below (w.alloc (.cells #[.string n, .slice A a.length c] 36)).heap.size (w.alloc (.cells #[.string n, .slice A a.length c] 36)) wr)
    case atStart => exact ⟨0, 1, 0, Nat.zero_le _, by omega, rfl, rfl, rfl, Below.refl _ _⟩
    case round =>
      obtain ⟨k, m, d, hk, hg, rfl, rfl, rfl, hb⟩ := hrel
      have e1 := HCELL.out _ hb
      have HG := Lib.hid hg; have HB := Lib.hid hb
      have hbz := hb.size
      by_cases hlt : k < a.length
      · have hltz : (k : Int) < (a.length : Int) := by omega
        by_cases hm : m < 3000
        · have hRr := HR.out.under (HBW.out.trans (hb.mono (by omega)))
          obtain ⟨b, off, rfl, hbb, n1, a1, A1, c1, ht, hn1, hv, c0, c01⟩ := hRr.at_ hlt
          have hcall := HIH.out a[k] (List.getElem_mem hlt) (.agg #[.string n1, .slice A1 a1.length c1]) wr (by rw [ht]; exact ⟨A1, c1, rfl, hn1, hv.more (by omega)⟩)
          have HC := Lib.hid hcall
          clear hb hg hRr ht hv hcall
          go_wp2_with (go_at_call 16; refine HC.out.mono ?_; rintro e w' ⟨⟨n2, d2, rfl⟩, hb2⟩; have HB2 := Lib.hid hb2; have e2 := HCELL.out _ (HB.out.trans (hb2.mono (by omega))); clear hb2)
          all_goals
            go_roundg (a.length + 1 - (k + 1))
            case measure => have := HG.out; omega
            case rel => exact ⟨k + 1, _, _, by omega, rfl, by go_num, rfl, rfl, HB.out.trans (HB2.out.mono (by omega))⟩
        · clear hb hg
          go_wp2_with fail
          go_ret2
          exact ⟨⟨_, _, rfl⟩, HBW.out.trans (HB.out.mono (by omega))⟩
      · have hltz : ¬ (k : Int) < (a.length : Int) := by omega
        clear hb hg
        go_wp2_with fail
        go_ret2
        exact ⟨⟨_, _, rfl⟩, HBW.out.trans (HB.out.mono (by omega))⟩
set_option maxHeartbeats 2000000 in
theorem large_c (l : List Ty) (A : Option Addr) (c : Nat) (most : Int) (w : World) (h : LRep w w.heap.size l A c) : Calls Tryd.prog 5 #[.slice A l.length c, .int .i64 most] w fun e w' => IsB e ∧ Below w.heap.size w w' := by
  have hlen := h.len
  have hmax : maxLen = 9223372036854775807 := rfl
  have HR := Lib.hid h
  clear h
  go_enter Tryd.func5, Tryd.ntmps5
  go_wp2_with fail
  go_loopg [5, 6, 7, 8] (l.length + 1) (fun gg s5 s6 _ _ wr => ∃ (k : Nat) (m : Int), k ≤ l.length ∧ gg = l.length + 1 - k ∧ s6 = .int .i64 (k : Int) ∧ s5 = .int .i64 m ∧ Below w.heap.size w wr)
  case atStart => exact ⟨0, _, Nat.zero_le _, by omega, rfl, rfl, Below.refl _ _⟩
  case round =>
    obtain ⟨k, m, hk, hg, rfl, rfl, hb⟩ := hrel
    have HG := Lib.hid hg; have HB := Lib.hid hb
    have hbz := hb.size
    by_cases hlt : k < l.length
    · have hltz : (k : Int) < (l.length : Int) := by omega
      by_cases hm : m ≤ most
      · have hRr := HR.out.under hb
        obtain ⟨b, off, rfl, hbb, n1, a1, A1, c1, ht, hn1, hv, c0, c01⟩ := hRr.at_ hlt
        have hcall := parts_c l[k] (.agg #[.string n1, .slice A1 a1.length c1]) wr (by rw [ht]; exact ⟨A1, c1, rfl, hn1, hv.more (by omega)⟩)
        have HC := Lib.hid hcall
        clear hb hg hRr ht hv hcall
        go_wp2_with (go_at_call 16; refine HC.out.mono ?_; rintro e w' ⟨⟨n2, d2, rfl⟩, hb2⟩; have HB2 := Lib.hid hb2; clear hb2)
        all_goals first
          | (go_ret; exact ⟨⟨_, rfl⟩, HB.out.trans (HB2.out.mono (by omega))⟩)
          | (go_roundg (l.length + 1 - (k + 1))
             case measure => have := HG.out; omega
             case rel => exact ⟨k + 1, _, by omega, rfl, by go_num, rfl, HB.out.trans (HB2.out.mono (by omega))⟩)
      · clear hb hg
        go_wp2_with fail
        go_ret
        exact ⟨⟨_, rfl⟩, HB.out⟩
    · have hltz : ¬ (k : Int) < (l.length : Int) := by omega
      clear hb hg
      go_wp2_with fail
      go_ret
      exact ⟨⟨_, rfl⟩, HB.out⟩
def SSame (w0 b off ll c b2 off2 c2 k al c3 c4 : Nat) (n : ByteArray) (A3 A4 : Option Addr) (W : World) : Prop :=
  W.cell? ⟨w0, 1, none⟩ = some (.slice (some ⟨b, off, none⟩) ll c) ∧ W.cell? ⟨w0 + 1, 1, none⟩ = some (.slice (some ⟨b2, off2, none⟩) ll c2) ∧ W.cell? ⟨b, off + k * 2, none⟩ = some (.string n) ∧ W.cell? ⟨b, off + k * 2 + 1, none⟩ = some (.slice A3 al c3) ∧ W.cell? ⟨b2, off2 + k * 2, none⟩ = some (.string n) ∧ W.cell? ⟨b2, off2 + k * 2 + 1, none⟩ = some (.slice A4 al c4)
set_option maxHeartbeats 2000000 in
theorem same_c (t : Ty) : ∀ (u v : Value) (w : World), TyRep w w.heap.size t u → TyRep w w.heap.size t v → Calls Tryd.prog 22 #[u, v] w fun e w' => e = .returned (.bool true) ∧ Below w.heap.size w w' := by
  induction t using Ty.ind with
  | h n a ih =>
    intro u v w h h'
    obtain ⟨A, c, rfl, hn, hR⟩ := h
    obtain ⟨A', c', rfl, _, hR'⟩ := h'
    simp only [Ty.name, Ty.args] at hn hR hR' ⊢
    have hlen := hR.len
    have hlen' := hR'.len
    have hmax : maxLen = 9223372036854775807 := rfl
    obtain ⟨W, hW⟩ : ∃ W, W = (w.alloc (.cells #[.string n, .slice A a.length c] 36)).alloc (.cells #[.string n, .slice A' a.length c'] 36) := ⟨_, rfl⟩
    have hbW : Below w.heap.size w W := by rw [hW]; exact ((Below.refl _ w).alloc (Nat.le_refl _) _).alloc (by simp) _
    have hsz : W.heap.size = w.heap.size + 2 := by rw [hW]; simp
    have w1 : W.cell? ⟨w.heap.size, 1, none⟩ = some (.slice A a.length c) := by rw [hW]; exact (cell_alloc_o _ _ _ (by simp only [World.size_alloc]; omega)).trans (cell_alloc_n _ _ _ rfl)
    have w2 : W.cell? ⟨w.heap.size + 1, 1, none⟩ = some (.slice A' a.length c') := by rw [hW]; exact cell_alloc_n _ _ _ (by simp only [World.size_alloc])
    have hcell : ∀ V, Below W.heap.size W V → V.cell? ⟨w.heap.size, 1, none⟩ = some (.slice A a.length c) ∧ V.cell? ⟨w.heap.size + 1, 1, none⟩ = some (.slice A' a.length c') := fun V h2 => ⟨(h2.cell (p := ⟨w.heap.size, 1, none⟩) (by show w.heap.size < _; omega)).trans w1, (h2.cell (p := ⟨w.heap.size + 1, 1, none⟩) (by show w.heap.size + 1 < _; omega)).trans w2⟩
    have HIH := Lib.hid ih; have HR := Lib.hid hR; have HR' := Lib.hid hR'; have HBW := Lib.hid hbW; have HCELL := Lib.hid hcell
    clear ih hR hR' hbW hcell w1 w2
    generalize hall : a.length = ll at *
    subst hW
    go_enter Tryd.func22, Tryd.ntmps22
    go_wp2_with fail
    go_loopg [5] (ll + 1) (fun gg s5 wr => ∃ k : Nat, k ≤ ll ∧ gg = ll + 1 - k ∧ s5 = .int .i64 (k : Int) ∧ Below ((w.alloc (.cells #[.string n, .slice A ll c] 36)).alloc (.cells #[.string n, .slice A' ll c'] 36)).heap.size ((w.alloc (.cells #[.string n, .slice A ll c] 36)).alloc (.cells #[.string n, .slice A' ll c'] 36)) wr)
    case atStart => exact ⟨0, Nat.zero_le _, by omega, rfl, Below.refl _ _⟩
    case round =>
      obtain ⟨k, hk, hg, rfl, hb⟩ := hrel
      obtain ⟨e1, e2⟩ := HCELL.out _ hb
      have HG := Lib.hid hg; have HB := Lib.hid hb
      have hbz := hb.size
      by_cases hlt : k < ll
      · have hltz : (k : Int) < (ll : Int) := by omega
        have hlt2 : k < a.length := by omega
        have hRr := HR.out.under (HBW.out.trans (hb.mono (by omega)))
        have hRr' := HR'.out.under (HBW.out.trans (hb.mono (by omega)))
        obtain ⟨b, off, rfl, hbb, n1, a1, A3, c3, ht, hn1, hv, c0, c01⟩ := hRr.at_ hlt2
        obtain ⟨b2, off2, rfl, hbb2, n2, a2, A4, c4, ht2, hn2, hv2, d0, d01⟩ := hRr'.at_ hlt2
        have hee : Ty.mk n1 a1 = Ty.mk n2 a2 := ht.symm.trans ht2
        injection hee with hee1 hee2
        subst hee1 hee2
        have hdr : Below wr.heap.size wr wr.drew := (Below.refl _ _).drew
        have hcall := HIH.out a[k] (List.getElem_mem hlt2) (.agg #[.string n1, .slice A3 a1.length c3]) (.agg #[.string n1, .slice A4 a1.length c4]) wr.drew (by rw [ht]; exact ⟨A3, c3, rfl, hn1, ((hv.under (hdr.mono (by omega))).more (by show _ ≤ wr.heap.size; omega))⟩) (by rw [ht]; exact ⟨A4, c4, rfl, hn1, ((hv2.under (hdr.mono (by omega))).more (by show _ ≤ wr.heap.size; omega))⟩)
        have HC := Lib.hid hcall
        clear hb hg hRr hRr' ht hv hcall ht2 hv2 hdr
        generalize a1.length = al at HC c01 d01
        go_upto_region 6 with fail
        have hS : SSame w.heap.size b off ll c b2 off2 c' k al c3 c4 n1 A3 A4 wr.drew := ⟨e1, e2, c0, c01, d0, d01⟩
        refine chain_region (SSame w.heap.size b off ll c b2 off2 c' k al c3 c4 n1 A3 A4) 10 (by kernel_rfl) ?_
        have HS := Lib.hid hS
        clear hS e1 e2 c0 c01 d0 d01
        refine T_takeD (i := 0) (v := .pointer (some ⟨w.heap.size, 1, none⟩)) rfl (by kernel_rfl) (fun _ _ _ h => h) rfl (fun W hS => by go_simp) HS.out ?_
        go_simp
        refine T_takeD (i := 1) (v := .slice (some ⟨b, off, none⟩) ll c) rfl (by kernel_rfl) (fun _ _ _ h => h) rfl (fun W hS => by unfold SSame at hS; obtain ⟨x0, x1, x2, x3, x4, x5⟩ := hS; go_simp) HS.out ?_
        go_simp
        refine T_takeD (i := 2) (v := .int .i64 (k : Int)) rfl (by kernel_rfl) (fun _ _ _ h => h) rfl (fun W hS => by go_simp) HS.out ?_
        go_simp
        refine T_takeD (i := 3) (v := .pointer (some ⟨b, off + k * 2, none⟩)) rfl (by kernel_rfl) (fun _ _ _ h => h) rfl (fun W hS => by go_simp) HS.out ?_
        go_simp
        refine T_takeD (i := 4) (v := .agg #[.string n1, .slice A3 al c3]) rfl (by kernel_rfl) (fun _ _ _ h => h) rfl (fun W hS => by unfold SSame at hS; obtain ⟨x0, x1, x2, x3, x4, x5⟩ := hS; go_simp) HS.out ?_
        go_simp
        refine T_takeD (i := 5) (v := .pointer (some ⟨w.heap.size + 1, 1, none⟩)) rfl (by kernel_rfl) (fun _ _ _ h => h) rfl (fun W hS => by go_simp) HS.out ?_
        go_simp
        refine T_takeD (i := 6) (v := .slice (some ⟨b2, off2, none⟩) ll c') rfl (by kernel_rfl) (fun _ _ _ h => h) rfl (fun W hS => by unfold SSame at hS; obtain ⟨x0, x1, x2, x3, x4, x5⟩ := hS; go_simp) HS.out ?_
        go_simp
        refine T_takeD (i := 7) (v := .int .i64 (k : Int)) rfl (by kernel_rfl) (fun _ _ _ h => h) rfl (fun W hS => by go_simp) HS.out ?_
        go_simp
        refine T_takeD (i := 8) (v := .pointer (some ⟨b2, off2 + k * 2, none⟩)) rfl (by kernel_rfl) (fun _ _ _ h => h) rfl (fun W hS => by go_simp) HS.out ?_
        go_simp
        refine T_takeD (i := 9) (v := .agg #[.string n1, .slice A4 al c4]) rfl (by kernel_rfl) (fun _ _ _ h => h) rfl (fun W hS => by unfold SSame at hS; obtain ⟨x0, x1, x2, x3, x4, x5⟩ := hS; go_simp) HS.out ?_
        go_simp
        refine T_one (i := 10) rfl (by kernel_rfl) rfl ?_
        refine op_callT #[.agg #[.string n1, .slice A3 al c3], .agg #[.string n1, .slice A4 al c4]] (by simp [go_sem]) (enters_of Tryd.func22 (by kernel_rfl) rfl _ _) HC.out ?_
        rintro e w' ⟨rfl, hb3⟩
        refine ⟨_, rfl, fun h => absurd h (by decide), ?_⟩
        have hb4 : Below wr.heap.size wr w' := (Below.refl _ _).drew.trans hb3
        have HB3 := Lib.hid hb4
        clear hb3 hb4 HC HS
        refine T_one (i := 11) rfl (by kernel_rfl) rfl ?_
        go_simp
        refine T_done (by kernel_rfl) ?_
        go_wp2_with fail
        go_roundg (ll + 1 - (k + 1))
        case measure => have := HG.out; omega
        case rel => exact ⟨k + 1, by omega, rfl, by go_num, HB.out.trans (HB3.out.mono (by omega))⟩
      · have hltz : ¬ (k : Int) < (ll : Int) := by omega
        clear hb hg
        go_wp2_with fail
        go_ret
        exact ⟨rfl, HBW.out.trans (HB.out.mono (by omega))⟩
def SSms (b off b2 off2 k al c3 c4 : Nat) (n : ByteArray) (A3 A4 : Option Addr) (W : World) : Prop :=
  W.cell? ⟨b, off + k * 2, none⟩ = some (.string n) ∧ W.cell? ⟨b, off + k * 2 + 1, none⟩ = some (.slice A3 al c3) ∧ W.cell? ⟨b2, off2 + k * 2, none⟩ = some (.string n) ∧ W.cell? ⟨b2, off2 + k * 2 + 1, none⟩ = some (.slice A4 al c4)
set_option maxHeartbeats 2000000 in
theorem sames_c (l : List Ty) (A A' : Option Addr) (c c' : Nat) (w : World) (h : LRep w w.heap.size l A c) (h' : LRep w w.heap.size l A' c') : Calls Tryd.prog 8 #[.slice A l.length c, .slice A' l.length c'] w fun e w' => e = .returned (.bool true) ∧ Below w.heap.size w w' := by
  have hlen := h.len
  have hlen' := h'.len
  have hmax : maxLen = 9223372036854775807 := rfl
  have HR := Lib.hid h; have HR' := Lib.hid h'
  clear h h'
  generalize hall : l.length = ll at *
  go_enter Tryd.func8, Tryd.ntmps8
  go_wp2_with fail
  go_loopg [5] (ll + 1) (fun gg s5 wr => ∃ k : Nat, k ≤ ll ∧ gg = ll + 1 - k ∧ s5 = .int .i64 (k : Int) ∧ Below w.heap.size w wr)
  case atStart => exact ⟨0, Nat.zero_le _, by omega, rfl, Below.refl _ _⟩
  case round =>
    obtain ⟨k, hk, hg, rfl, hb⟩ := hrel
    have HG := Lib.hid hg; have HB := Lib.hid hb
    have hbz := hb.size
    by_cases hlt : k < ll
    · have hltz : (k : Int) < (ll : Int) := by omega
      have hlt2 : k < l.length := by omega
      have hRr := HR.out.under hb
      have hRr' := HR'.out.under hb
      obtain ⟨b, off, rfl, hbb, n1, a1, A3, c3, ht, hn1, hv, c0, c01⟩ := hRr.at_ hlt2
      obtain ⟨b2, off2, rfl, hbb2, n2, a2, A4, c4, ht2, hn2, hv2, d0, d01⟩ := hRr'.at_ hlt2
      have hee : Ty.mk n1 a1 = Ty.mk n2 a2 := ht.symm.trans ht2
      injection hee with hee1 hee2
      subst hee1 hee2
      have hdr : Below wr.heap.size wr wr.drew := (Below.refl _ _).drew
      have hcall := same_c l[k] (.agg #[.string n1, .slice A3 a1.length c3]) (.agg #[.string n1, .slice A4 a1.length c4]) wr.drew (by rw [ht]; exact ⟨A3, c3, rfl, hn1, ((hv.under (hdr.mono (by omega))).more (by show _ ≤ wr.heap.size; omega))⟩) (by rw [ht]; exact ⟨A4, c4, rfl, hn1, ((hv2.under (hdr.mono (by omega))).more (by show _ ≤ wr.heap.size; omega))⟩)
      have HC := Lib.hid hcall
      clear hb hg hRr hRr' ht hv hcall ht2 hv2 hdr
      generalize a1.length = al at HC c01 d01
      go_upto_region 6 with fail
      have hS : SSms b off b2 off2 k al c3 c4 n1 A3 A4 wr.drew := ⟨c0, c01, d0, d01⟩
      refine chain_region (SSms b off b2 off2 k al c3 c4 n1 A3 A4) 8 (by kernel_rfl) ?_
      have HS := Lib.hid hS
      clear hS c0 c01 d0 d01
      refine T_takeD (i := 0) (v := .slice (some ⟨b, off, none⟩) ll c) rfl (by kernel_rfl) (fun _ _ _ h => h) rfl (fun W hS => by go_simp) HS.out ?_
      go_simp
      refine T_takeD (i := 1) (v := .int .i64 (k : Int)) rfl (by kernel_rfl) (fun _ _ _ h => h) rfl (fun W hS => by go_simp) HS.out ?_
      go_simp
      refine T_takeD (i := 2) (v := .pointer (some ⟨b, off + k * 2, none⟩)) rfl (by kernel_rfl) (fun _ _ _ h => h) rfl (fun W hS => by go_simp) HS.out ?_
      go_simp
      refine T_takeD (i := 3) (v := .agg #[.string n1, .slice A3 al c3]) rfl (by kernel_rfl) (fun _ _ _ h => h) rfl (fun W hS => by unfold SSms at hS; obtain ⟨x2, x3, x4, x5⟩ := hS; go_simp) HS.out ?_
      go_simp
      refine T_takeD (i := 4) (v := .slice (some ⟨b2, off2, none⟩) ll c') rfl (by kernel_rfl) (fun _ _ _ h => h) rfl (fun W hS => by go_simp) HS.out ?_
      go_simp
      refine T_takeD (i := 5) (v := .int .i64 (k : Int)) rfl (by kernel_rfl) (fun _ _ _ h => h) rfl (fun W hS => by go_simp) HS.out ?_
      go_simp
      refine T_takeD (i := 6) (v := .pointer (some ⟨b2, off2 + k * 2, none⟩)) rfl (by kernel_rfl) (fun _ _ _ h => h) rfl (fun W hS => by go_simp) HS.out ?_
      go_simp
      refine T_takeD (i := 7) (v := .agg #[.string n1, .slice A4 al c4]) rfl (by kernel_rfl) (fun _ _ _ h => h) rfl (fun W hS => by unfold SSms at hS; obtain ⟨x2, x3, x4, x5⟩ := hS; go_simp) HS.out ?_
      go_simp
      refine T_one (i := 8) rfl (by kernel_rfl) rfl ?_
      refine op_callT #[.agg #[.string n1, .slice A3 al c3], .agg #[.string n1, .slice A4 al c4]] (by simp [go_sem]) (enters_of Tryd.func22 (by kernel_rfl) rfl _ _) HC.out ?_
      rintro e w' ⟨rfl, hb3⟩
      refine ⟨_, rfl, fun h => absurd h (by decide), ?_⟩
      have hb4 : Below wr.heap.size wr w' := (Below.refl _ _).drew.trans hb3
      have HB3 := Lib.hid hb4
      clear hb3 hb4 HC HS
      refine T_one (i := 9) rfl (by kernel_rfl) rfl ?_
      go_simp
      refine T_done (by kernel_rfl) ?_
      go_wp2_with fail
      go_roundg (ll + 1 - (k + 1))
      case measure => have := HG.out; omega
      case rel => exact ⟨k + 1, by omega, rfl, by go_num, HB.out.trans (HB3.out.mono (by omega))⟩
    · have hltz : ¬ (k : Int) < (ll : Int) := by omega
      clear hb hg
      go_wp2_with fail
      go_ret
      exact ⟨rfl, HB.out⟩
end Go.Proofs.YtfhjfhbfgndheaaDoor
