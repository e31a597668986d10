/- The document's own types put in the place of parameters. -/
import Derived.Test.YtagmgkkicodbiaaGreatDoorJh
import Derived.Test.YtagmgkkicodbiaaGreatDoorDc
namespace Go.Proofs.YtagmgkkicodbiaaGreatDoor
open Go.RowKit Go.Shelf
open Go
attribute [local go_sem] Oper.semAt_some

theorem own_lt {w : World} {R' S' : Nat → Prop} {e : TypeId} {sz : Nat} {ds : List Gd.D} {v : Value} (ho : Gd.Own R' S' e sz ds w v) : ∀ g, v.ownBlock = some g → g < w.heap.size ∧ R' g := fun g hg => by
  obtain ⟨us, h1, h2, h3, h4, h5⟩ := ho
  exact ⟨(h3.lt g hg).2, h4 g hg⟩
theorem info_own : (Tryz.prog.info? 24).map (fun i => (i.zero, i.size, i.bytes)) = some (some (.agg #[.string ⟨#[]⟩, .slice none 0 0]), 2, 40) := info_ty
theorem TyRep.lies {w : World} {N : Nat → Prop} {t : Ty} {u : Value} (h : TyN N w t u) (hN : ∀ b, N b → b < w.heap.size) : Gd.Lies N w t.d u.cells.toList := fun w' hw => by
  have := h.keep (w' := w') (N' := N) (fun b hb hl => hw b hb hl) fun b h => h
  exact (this.rep fun b hb _ => hN b hb).rep
/-- A type that lies in blocks of S: what SameType wants of it. -/
theorem rep_of_lies {w : World} {S : Nat → Prop} {t : Ty} {x y : Value} (h : Gd.Lies S w t.d [x, y]) : ∀ w', (∀ b, S b → b < w.heap.size → w'.heap[b]? = w.heap[b]?) → TyRep w' w.heap.size t (.agg #[x, y]) := fun w' hw => by
  obtain ⟨u, h1, h2⟩ := ty_rep (h w' hw)
  have hu := h1
  obtain ⟨A, c, rfl, h3, h4⟩ := h1
  have e : #[x, y] = #[Value.string t.name, Value.slice A t.args.length c] := by
    apply Array.ext'
    rw [← h2]; rfl
  rw [e]; exact hu
/-- The state of a loop that makes a type's arguments: x's box, the result's, what is being made. -/
def AccI (w : World) (n : ByteArray) (A : Option Addr) (al c : Nat) (ds : List Gd.D) (v : Value) (wr : World) : Prop :=
  Blk wr w.heap.size 24 #[.string n, .slice A al c] ∧ Blk wr (w.heap.size + 1) 24 #[.string ⟨#[]⟩, .slice none 0 0] ∧ Blk wr (w.heap.size + 2) 24 #[.string n, v] ∧
  Gd.Own (fun b => w.heap.size + 3 ≤ b) (fun b => w.heap.size + 3 ≤ b) 24 2 ds wr v ∧ Below w.heap.size w wr ∧ w.heap.size + 3 ≤ wr.heap.size
theorem AccI.below {w wr w1 : World} {n : ByteArray} {A : Option Addr} {al c : Nat} {ds : List Gd.D} {v : Value} (h : AccI w n A al c ds v wr) (hb : Below wr.heap.size wr w1) : AccI w n A al c ds v w1 := by
  obtain ⟨h1, h2, h3, h4, h5, h6⟩ := h
  exact ⟨(hb.block _ (by omega)).trans h1, (hb.block _ (by omega)).trans h2, (hb.block _ (by omega)).trans h3, h4.below hb, h5.trans (hb.mono (by omega)), by have := hb.size; omega⟩
/-- One argument more: what append leaves, and the store behind it. -/
theorem AccI.step {w W2 w' : World} {n : ByteArray} {A : Option Addr} {al c : Nat} {ds : List Gd.D} {v v' : Value} {d : Gd.D} (h : AccI w n A al c ds v W2)
    (ho : Gd.Own (fun b => w.heap.size + 3 ≤ b ∨ W2.heap.size ≤ b) (fun b => w.heap.size + 3 ≤ b) 24 2 (ds ++ [d]) w' v') (hg : W2.grownBy w' v.ownBlock) :
    (∀ b, b < w.heap.size + 3 → w'.heap[b]? = W2.heap[b]?) ∧ w'.cell? ⟨w.heap.size + 2, 1, none⟩ = some v ∧ w'.frozen? ⟨w.heap.size + 2, 1, none⟩ = false ∧ AccI w n A al c (ds ++ [d]) v' (w'.setCell ⟨w.heap.size + 2, 1, none⟩ v') := by
  obtain ⟨h1, h2, h3, h4, h5, h6⟩ := h
  have hk : ∀ b, b < w.heap.size + 3 → w'.heap[b]? = W2.heap[b]? := fun b hb => hg.block b (by omega) fun e => by have := (own_lt h4 b e.symm).2; omega
  have h3' : Blk w' (w.heap.size + 2) 24 #[.string n, v] := (hk _ (by omega)).trans h3
  have hsz := hg.size
  have far : ∀ b, b ≠ w.heap.size + 2 → (w'.setCell ⟨w.heap.size + 2, 1, none⟩ v').heap[b]? = w'.heap[b]? := fun b hb => Below.heap_setCell _ _ _ _ hb
  have ho' := ho.mono (R' := fun b => w.heap.size + 3 ≤ b) (S' := fun b => w.heap.size + 3 ≤ b) (fun b _ h => by omega) fun b _ h => h
  refine ⟨hk, by simpa using h3'.cell 1, h3'.frozen 1, (far _ (by omega)).trans ((hk _ (by omega)).trans h1), (far _ (by omega)).trans ((hk _ (by omega)).trans h2), h3'.set_ 1 v', ?_, ?_, ?_⟩
  · exact ho'.keep (fun b hb => far b (by have := (own_lt ho' b hb).2; omega)) (fun b hb _ => far b (by omega)) (by simp)
  · have hb : Below w.heap.size w w' := ⟨hg.os.trans h5.os, hg.tape.trans h5.tape, hg.output.trans h5.output, Nat.le_trans h5.size hsz, fun b hb => (hk b (by omega)).trans (h5.block b hb)⟩
    exact hb.setCell (by simp) _
  · simp; omega
theorem AccI.out {w wr : World} {n : ByteArray} {A : Option Addr} {al c : Nat} {a : List Ty} {v : Value} (h : AccI w n A al c (a.map Ty.d) v wr) (hn : n.size ≤ maxLen) : Gd.Lies (fun b => w.heap.size + 3 ≤ b) wr (Ty.mk n a).d [.string n, v] := by
  obtain ⟨_, _, _, h4, _⟩ := h
  have hl := h4.lies
  obtain ⟨A', c', rfl, _⟩ := h4.slice
  intro w' hw
  have := hl w' fun b hb hl => hw b (by omega) hl
  rw [← Ty.dL_map] at this
  rw [Ty.d]
  rw [Ty.dL_map] at this
  have e : (Value.slice A' (a.map Ty.d).length c').cells.toList = [.slice A' (a.map Ty.d).length c'] := rfl
  rw [e] at this
  rw [Ty.dL_map]
  exact .cons (c := [.string n]) (.str hn) (.cons (c := [.slice A' (a.map Ty.d).length c']) this .nil)
/-- What the region that makes one argument reads. -/
def AccS (s : Nat) (A : Option Addr) (al c : Nat) (v : Value) (b off k : Nat) (nm : ByteArray) (A' : Option Addr) (al' c' : Nat) (V : World) : Prop :=
  V.cell? ⟨s, 1, none⟩ = some (.slice A al c) ∧ V.cell? ⟨s + 2, 1, none⟩ = some v ∧ V.cell? ⟨b, off + k * 2, none⟩ = some (.string nm) ∧ V.cell? ⟨b, off + k * 2 + 1, none⟩ = some (.slice A' al' c')
theorem AccS.keep {s : Nat} {A : Option Addr} {al c : Nat} {v : Value} {b off k : Nat} {nm : ByteArray} {A' : Option Addr} {al' c' : Nat} {V V' : World} (h : AccS s A al c v b off k nm A' al' c' V) (hb : b < s) (hk : ∀ b, b < s + 3 → V'.heap[b]? = V.heap[b]?) : AccS s A al c v b off k nm A' al' c' V' :=
  ⟨(cell_of_block (hk _ (by omega)) _).trans h.1, (cell_of_block (hk _ (by omega)) _).trans h.2.1, (cell_of_block (hk _ (by omega)) _).trans h.2.2.1, (cell_of_block (hk _ (by omega)) _).trans h.2.2.2⟩
/-- Behind the call: a row of one, and append. -/
theorem AccI.next {w wr w5 : World} {n : ByteArray} {A : Option Addr} {al c : Nat} {ds : List Gd.D} {v : Value} {d : Gd.D} {cs : List Value} (h : AccI w n A al c ds v wr) (hb : Below wr.heap.size wr w5) (hl : Gd.Lies (fun b => wr.heap.size ≤ b) w5 d cs) :
    (∀ b, b < w.heap.size + 3 → w5.heap[b]? = wr.heap[b]?) ∧ (∀ b, b < w.heap.size + 3 → (w5.alloc (.cells cs.toArray 24)).heap[b]? = wr.heap[b]?) ∧ AccI w n A al c ds v (w5.alloc (.cells cs.toArray 24)) ∧ Gd.Lies (fun b => w.heap.size + 3 ≤ b ∧ v.ownBlock ≠ some b) (w5.alloc (.cells cs.toArray 24)) d cs := by
  have ha : Below w5.heap.size w5 (w5.alloc (.cells cs.toArray 24)) := (Below.refl _ _).alloc (Nat.le_refl _) _
  have hsz := hb.size
  have h6 := h.2.2.2.2.2
  refine ⟨fun b h' => hb.block b (by omega), fun b h' => (ha.block b (by omega)).trans (hb.block b (by omega)), (h.below hb).below ha, (hl.below ha).mono fun b _ hs => ⟨by omega, fun e => ?_⟩⟩
  have := (own_lt h.2.2.2.1 b e).1
  omega
/-- A type in memory of its own. -/
def OwnAt (B : Nat) (t : Ty) : Prop := ∀ (W : World) (u : Value), B ≤ W.heap.size → TyRep W B t u →
  Calls Tryz.prog 19 #[u] W fun e w' => ∃ A' c', e = .returned (.agg #[.string t.name, .slice A' t.args.length c']) ∧ Gd.Lies (fun b => W.heap.size ≤ b) w' t.d [.string t.name, .slice A' t.args.length c'] ∧ Below W.heap.size W w'
theorem cell_addrL {w : World} {g : Nat} {t : TypeId} {cs : List Value} (h : Blk w g t cs.toArray) : ∀ j u, cs[j]? = some u → w.cell? ((⟨g, 0, none⟩ : Addr).add j) = some u := fun j u hj => by
  have : (⟨g, 0, none⟩ : Addr).add j = ⟨g, j, none⟩ := by unfold Addr.add; split <;> simp_all
  rw [this, h.cell]
  simpa using hj
/-- The world in which such a loop begins. -/
theorem acc_start (w : World) (n : ByteArray) (A : Option Addr) (al c : Nat) :
    AccI w n A al c [] (.slice none 0 0) (((w.alloc (.cells #[.string n, .slice A al c] 24)).alloc (.cells #[.string ⟨#[]⟩, .slice none 0 0] 24)).alloc (.cells #[.string n, .slice none 0 0] 24)) := by
  have b0 := Blk.new w 24 #[.string n, .slice A al c]
  have b1 := Blk.new (w.alloc (.cells #[.string n, .slice A al c] 24)) 24 #[.string ⟨#[]⟩, .slice none 0 0]
  have b2 := Blk.new ((w.alloc (.cells #[.string n, .slice A al c] 24)).alloc (.cells #[.string ⟨#[]⟩, .slice none 0 0] 24)) 24 #[.string n, .slice none 0 0]
  simp only [World.size_alloc] at b1 b2
  exact ⟨(b0.alloc _).alloc _, b1.alloc _, b2, Gd.Own.nil _ _ _ _ _, (((Below.refl _ w).alloc (Nat.le_refl _) _).alloc (by simp) _).alloc (by simp; omega) _, by simp⟩
set_option maxRecDepth 100000 in
set_option maxHeartbeats 4000000 in
theorem own_c (B : Nat) (t : Ty) : sizeT t ≤ 100000000 → OwnAt B t := by
  induction t using Ty.ind with
  | h n a ih =>
    intro hsz w u hB h
    rw [sizeT] at hsz
    obtain ⟨A, c, rfl, hn, hR⟩ := h
    simp only [Ty.name, Ty.args] at hn hR ⊢
    have hls := len_size a
    have hst := acc_start w n A a.length c
    have HST := Lib.hid hst; have HR := Lib.hid hR; have IH := Lib.hid ih
    clear hst hR ih
    go_enter Tryz.func19, Tryz.ntmps19
    go_wp2_with fail
    go_loopg [4] (a.length + 1) (fun gg s4 wr => ∃ (k : Nat) (v : Value), k ≤ a.length ∧ gg = a.length + 1 - k ∧ s4 = .int .i64 (k : Int) ∧ AccI w n A a.length c ((a.take k).map Ty.d) v wr)
    case atStart => exact ⟨0, _, Nat.zero_le _, by omega, rfl, HST.out⟩
    case round =>
      obtain ⟨k, v, hk, hg, rfl, hI⟩ := hrel
      have HG := Lib.hid hg
      have x1 := hI.1.cell 1
      have y1 := hI.2.2.1.cell 1
      simp at x1 y1
      by_cases hlt : k < a.length
      · have hltz : (k : Int) < (a.length : Int) := by omega
        obtain ⟨b, off, hA, hb, nm, a', A', c', ht, hnm, hv, c0, c1⟩ := (HR.out.under (hI.2.2.2.2.1.mono hB)).at_ hlt
        subst hA
        have hty : TyRep wr.drew B a[k] (.agg #[.string nm, .slice A' a'.length c']) := by rw [ht]; exact ⟨A', c', rfl, hnm, hv.under (Below.refl _ _).drew⟩
        have hcall := IH.out a[k] (List.getElem_mem hlt) (by have := size_mem (List.getElem_mem hlt); omega) wr.drew (.agg #[.string nm, .slice A' a'.length c']) (by have := hI.2.2.2.2.2; show B ≤ wr.heap.size; omega) hty
        have HC := Lib.hid hcall; have HI := Lib.hid hI
        clear hcall hty hv ht hI hg
        go_wp2_with fail
        refine chain_region (AccS w.heap.size (some ⟨b, off, none⟩) a.length c v b off k nm A' a'.length c') 10 (by kernel_rfl) ?_
        have HS0 := Lib.hid (show AccS w.heap.size (some ⟨b, off, none⟩) a.length c v b off k nm A' a'.length c' wr.drew from ⟨x1, y1, c0, c1⟩)
        clear x1 y1 c0 c1
        refine T_takeD (i := 0) (v := .pointer (some ⟨w.heap.size + 2, 1, none⟩)) rfl (by kernel_rfl) (fun _ _ _ h => h) rfl (fun V hS => by go_simp) HS0.out ?_
        go_simp
        refine T_takeD (i := 1) (v := v) rfl (by kernel_rfl) (fun _ _ _ h => h) rfl (fun V hS => by obtain ⟨_, h2, _⟩ := hS; go_simp) HS0.out ?_
        go_simp
        refine T_takeD (i := 2) (v := .pointer (some ⟨w.heap.size, 1, none⟩)) rfl (by kernel_rfl) (fun _ _ _ h => h) rfl (fun V hS => by go_simp) HS0.out ?_
        go_simp
        refine T_takeD (i := 3) (v := .slice (some ⟨b, off, none⟩) a.length c) rfl (by kernel_rfl) (fun _ _ _ h => h) rfl (fun V hS => by obtain ⟨h1, _⟩ := hS; go_simp) HS0.out ?_
        go_simp
        refine T_takeD (i := 4) (v := .int .i64 (k : Int)) rfl (by kernel_rfl) (fun _ _ _ h => h) rfl (fun V hS => by go_simp) HS0.out ?_
        go_simp
        refine T_takeD (i := 5) (v := .pointer (some ⟨b, off + k * 2, none⟩)) rfl (by kernel_rfl) (fun _ _ _ h => h) rfl (fun V hS => by go_simp) HS0.out ?_
        go_simp
        refine T_takeD (i := 6) (v := .agg #[.string nm, .slice A' a'.length c']) rfl (by kernel_rfl) (fun _ _ _ h => h) rfl (fun V hS => by obtain ⟨_, _, h3, h4⟩ := hS; go_simp) HS0.out ?_
        go_simp
        refine T_one (i := 7) rfl (by kernel_rfl) rfl ?_
        refine op_callT #[.agg #[.string nm, .slice A' a'.length c']] (by simp [go_sem]) (enters_of Tryz.func19 (by kernel_rfl) rfl _ _) HC.out ?_
        rintro e w5 ⟨A5, c5, rfl, q1, q2⟩
        obtain ⟨k5, k6, hI6, hl6⟩ := HI.out.next ((Below.refl _ _).drew.trans q2) q1
        have S5 := HS0.out.keep (by omega) k5
        have S6 := HS0.out.keep (by omega) k6
        have hlen : (a.take k).length = k := by simp; omega
        have HI6 := Lib.hid hI6; have HL6 := Lib.hid hl6; have HS6 := Lib.hid S6; have HLEN := Lib.hid hlen
        refine ⟨_, rfl, fun _ => S5, ?_⟩
        clear k5 k6 hI6 hl6 S5 S6 q1 q2 hlen
        go_simp
        refine T_one (i := 8) rfl (by kernel_rfl) rfl ?_
        go_simp
        refine ⟨HS6.out, ?_⟩
        refine T_one (i := 9) rfl (by kernel_rfl) rfl ?_
        refine Gd.append_D _ (.tmp 16) (.tmp 23) 22 rfl 24 (.agg #[.string ⟨#[]⟩, .slice none 0 0]) 2 40 Tryz.underlying22 info_own rfl (by omega) (by omega) _ _ _ a[k].d v (by simp [go_sem]) HI6.out.2.2.2.1 ⟨w5.heap.size, 0, none⟩ 1 (by simp [go_sem]) [.string a[k].name, .slice A5 a[k].args.length c5] rfl (cell_addrL (Blk.new _ _ _)) (by simp [Value.oneCell']) HL6.out (by simp; omega) ?_
        intro v7 w7 o7 g7
        have hdk : (a.take k).map Ty.d ++ [a[k].d] = (a.take (k + 1)).map Ty.d := by rw [List.take_succ_eq_append_getElem hlt, List.map_append, List.map_singleton]
        rw [hdk] at o7
        have hdl : ((a.take (k + 1)).map Ty.d).length = k + 1 := by simp; omega
        obtain ⟨A7, c7, rfl, _⟩ := o7.slice
        rw [hdl] at o7 ⊢
        rw [← hdk] at o7
        obtain ⟨k7, z1, z2, z3⟩ := HI6.out.step o7 g7
        have S7 := HS6.out.keep (by omega) k7
        rw [hdk] at z3
        have HZ := Lib.hid z3
        refine ⟨fun _ => S7, ?_⟩
        clear S7 k7 z3 o7 g7 hdk hdl
        go_simp
        refine T_one (i := 10) rfl (by kernel_rfl) rfl ?_
        go_simp
        refine T_one (i := 11) rfl (by kernel_rfl) rfl ?_
        go_simp
        refine T_done (by kernel_rfl) ?_
        clear z1 z2
        go_simp
        go_wp2_with fail
        go_roundg (a.length + 1 - (k + 1))
        case measure => have := HG.out; omega
        case rel => exact ⟨k + 1, _, by omega, rfl, by go_num, HZ.out⟩
      · have hltz : ¬ (k : Int) < (a.length : Int) := by omega
        obtain rfl : k = a.length := by omega
        obtain ⟨Av, cv, rfl, hav⟩ := hI.2.2.2.1.slice
        have hIe := hI
        rw [List.take_length] at hIe
        have hout := hIe.out hn
        have b0 := hI.2.1.cell 0
        have b1 := hI.2.1.cell 1
        have g0 := hI.2.1.frozen 0
        have g1 := hI.2.1.frozen 1
        have y0 := hI.2.2.1.cell 0
        simp at b0 b1 y0
        have HI := Lib.hid hI; have HO := Lib.hid hout; have HIE := Lib.hid hIe
        clear hI hout hg hIe
        go_wp2_with fail
        have ho := HO.out
        rw [List.length_map] at ho
        exact bodyPost_ret (retT1 (g := w.heap.size + 1) Tryz.results19 rfl HI.out.2.1.store2) rfl ⟨Av, cv, rfl, ((ho.set ⟨w.heap.size + 1, 0, none⟩ (by show ¬ w.heap.size + 3 ≤ w.heap.size + 1; omega) _).set ⟨w.heap.size + 1, 1, none⟩ (by show ¬ w.heap.size + 3 ≤ w.heap.size + 1; omega) _).mono (fun b _ h => by omega), (HI.out.2.2.2.2.1.setCell (by simp) _).setCell (by simp) _⟩
end Go.Proofs.YtagmgkkicodbiaaGreatDoor
