/- Package unify: replaced, allReplaced: other variables in the place of variables. -/
import Derived.Test.YtfhjfhbfgndheaaDoorFa
import Derived.Test.YtfhjfhbfgndheaaDoorNr
import Derived.BigRegion
namespace Go.Proofs.YtfhjfhbfgndheaaDoor
open Go.RowKit Go.Shelf
open Go
attribute [local go_sem] Oper.semAt_some

/-- What a map value tells of a name, whatever becomes of the blocks from B on. -/
def LooksV (B : Nat) (mo : Option Nat) (g : ByteArray → Option ByteArray) (w : World) : Prop := ∀ W, Below B w W → ∀ n : ByteArray, n.size ≤ maxLen → ∃ s : ByteArray,
  (Instr.lookup 48 (.map mo) (.string n) true).run Tryd.prog W = .ok (.tuple #[.agg #[.string s, .slice none 0 0], .bool (g n).isSome]) W ∧ s.size ≤ maxLen ∧ ∀ s', g n = some s' → s = s'
theorem LooksV.under {B : Nat} {mo : Option Nat} {g : ByteArray → Option ByteArray} {w w' : World} (h : LooksV B mo g w) (hb : Below B w w') : LooksV B mo g w' := fun W hW n hn => h W (hb.trans hW) n hn
theorem zero_ty (w : World) : (zeroValue 36).run Tryd.prog w = .ok (.agg #[.string ⟨#[]⟩, .slice none 0 0]) w := by kernel_rfl
theorem looks_nil (B : Nat) (w : World) : LooksV B none (fun _ => none) w := fun W _ n hn => ⟨⟨#[]⟩, by
  simp [Instr.lookup, run_underlying Tryd.underlying48, str_lawT.check W _ (key_s hn), zero_ty W, Result.andThen, Instr.findKey, Instr.findNow], by decide, fun s h => by cases h⟩
/-- Types without arguments, as a map's elements. -/
def elV (v : Value) : Option (DataW Unit × List MemPlace) := match v with
  | .agg ⟨[.string s, .slice none 0 0]⟩ => if s.size ≤ maxLen then some (.lit (.string s.data.toList), []) else none
  | _ => none
def enV (s : ByteArray) : DataW Unit := .lit (.string s.data.toList)
theorem elV_some {v : Value} {s : ByteArray} {ps : List MemPlace} (h : elV v = some (enV s, ps)) : v = .agg #[.string s, .slice none 0 0] ∧ s.size ≤ maxLen := by
  unfold elV at h
  split at h
  · rename_i s'
    split at h
    · rename_i hs
      injection h with h
      injection h with h1 _
      unfold enV at h1
      injection h1 with h1
      injection h1 with h1
      have : s' = s := ByteArray.ext (Array.ext' h1)
      subst this
      exact ⟨rfl, hs⟩
    · cases h
  · cases h
def MapV (w : World) (b n : Nat) (f : ByteArray → Option ByteArray) : Prop := Gm.MapR Tryd.prog 9 elV Gm.kS enV w b n f
theorem looks_map {w : World} {B b n : Nat} {f : ByteArray → Option ByteArray} (h : MapV w b n f) (hB : b < B) : LooksV B (some b) f w := fun W hW k hk => by
  have hm : MapV W b n f := Gm.MapR.keep h (hW.block b hB)
  obtain ⟨v, ps, e1, e2⟩ := Gm.MapR.look_ok hm str_lawT Tryd.underlying48 (zero_ty W) (zd := enV ⟨#[]⟩) (zp := []) (by show (if (ByteArray.mk #[]).size ≤ maxLen then some (DataW.lit (Lit.string (ByteArray.mk #[]).data.toList), ([] : List MemPlace)) else none) = _; rw [if_pos (by decide)]; rfl) k (key_s hk)
  cases hf : f k with
  | none =>
    rw [hf] at e1 e2
    obtain ⟨rfl, h2⟩ := elV_some (s := ⟨#[]⟩) e2
    exact ⟨_, e1, h2, fun s' h => by cases h⟩
  | some s =>
    rw [hf] at e1 e2
    obtain ⟨rfl, h2⟩ := elV_some (s := s) e2
    exact ⟨_, e1, h2, fun s' h => by cases h; rfl⟩
/-- replaced, of a type, makes this. -/
def ReplV (B : Nat) (mo : Option Nat) (g : ByteArray → Option ByteArray) (t : Ty) : Prop := ∀ (W : World) (u : Value), LooksV B mo g W → B ≤ W.heap.size → TyRep W B t u →
  Calls Tryd.prog 40 #[u, .map mo] W fun e w' => ∃ u', e = .returned u' ∧ TyN (fun b => W.heap.size ≤ b) w' (substV g t) u' ∧ Below W.heap.size W w'
def SOne (b1 b2 b off i ll c al c' : Nat) (n : ByteArray) (A' : Option Addr) (mo : Option Nat) (W : World) : Prop :=
  W.cell? ⟨b1, 0, none⟩ = some (.slice (some ⟨b, off, none⟩) ll c) ∧ W.cell? ⟨b2, 0, none⟩ = some (.map mo) ∧ W.cell? ⟨b, off + i * 2, none⟩ = some (.string n) ∧ W.cell? ⟨b, off + i * 2 + 1, none⟩ = some (.slice A' al c')
set_option maxHeartbeats 1000000 in
theorem one_c (B b1 b2 : Nat) (mo : Option Nat) (g : ByteArray → Option ByteArray) (l : List Ty) (A : Option Addr) (c i : Nat) (hi : i < l.length) (ih : ReplV B mo g l[i]) (w : World) (hm : LooksV B mo g w) (hB : B ≤ w.heap.size) (hR : LRep w B l A c)
    (h1 : w.cell? ⟨b1, 0, none⟩ = some (.slice A l.length c)) (h2 : w.cell? ⟨b2, 0, none⟩ = some (.map mo)) :
    Calls Tryd.prog 39 #[.int .i64 (i : Int), .pointer (some ⟨b1, 0, none⟩), .pointer (some ⟨b2, 0, none⟩)] w fun e w' => ∃ u', e = .returned u' ∧ TyN (fun b => w.heap.size ≤ b) w' (substV g l[i]) u' ∧ Below w.heap.size w w' := by
  have l1 := lt_of_cell h1
  have l2 := lt_of_cell h2
  have hlen := hR.len
  have hmax : maxLen = 9223372036854775807 := rfl
  obtain ⟨b, off, rfl, hb, n, a, A', c', ht, hn, hv, c0, c1⟩ := hR.at_ hi
  have n1 : b1 ≠ w.heap.size := by omega
  have n2 : b2 ≠ w.heap.size := by omega
  have n3 : b ≠ w.heap.size := by omega
  have hiz : (i : Int) < (l.length : Int) := by omega
  obtain ⟨W, hW⟩ : ∃ W, W = w.alloc (.cells #[.string ⟨#[]⟩, .slice none 0 0] 36) := ⟨_, rfl⟩
  have hbW : Below w.heap.size w W := by rw [hW]; exact (Below.refl _ w).alloc (Nat.le_refl _) _
  have hsz : W.heap.size = w.heap.size + 1 := by rw [hW]; simp
  have hbk : Blk W w.heap.size 36 #[.string ⟨#[]⟩, .slice none 0 0] := by rw [hW]; exact Blk.new _ _ _
  have hcall := ih W.drew (.agg #[.string n, .slice A' a.length c']) (hm.under ((hbW.mono hB).drew)) (by show B ≤ W.heap.size; omega) (by rw [ht]; exact ⟨A', c', rfl, hn, hv.under ((hbW.mono hB).drew)⟩)
  have hst : ∀ w' t' A' c', t'.name.size ≤ maxLen → LN (fun b => W.heap.size ≤ b) w' t'.args A' c' → Below W.heap.size W.drew w' →
      Blk w' w.heap.size 36 #[.string ⟨#[]⟩, .slice none 0 0] ∧ Blk ((w'.setCell ⟨w.heap.size, 0, none⟩ (.string t'.name)).setCell ⟨w.heap.size, 1, none⟩ (.slice A' t'.args.length c')) w.heap.size 36 #[.string t'.name, .slice A' t'.args.length c'] ∧
      TyN (fun b => w.heap.size ≤ b) ((w'.setCell ⟨w.heap.size, 0, none⟩ (.string t'.name)).setCell ⟨w.heap.size, 1, none⟩ (.slice A' t'.args.length c')) t' (.agg #[.string t'.name, .slice A' t'.args.length c']) ∧
      Below w.heap.size w ((w'.setCell ⟨w.heap.size, 0, none⟩ (.string t'.name)).setCell ⟨w.heap.size, 1, none⟩ (.slice A' t'.args.length c')) := fun w' t' A' c' q1 q2 q3 => by
    have hb2 : Blk w' w.heap.size 36 #[.string ⟨#[]⟩, .slice none 0 0] := (q3.block _ (by omega)).trans hbk
    have far : ∀ b, b ≠ w.heap.size → ((w'.setCell ⟨w.heap.size, 0, none⟩ (.string t'.name)).setCell ⟨w.heap.size, 1, none⟩ (.slice A' t'.args.length c')).heap[b]? = w'.heap[b]? := fun b hb => (Below.heap_setCell _ _ _ _ hb).trans (Below.heap_setCell _ _ _ _ hb)
    exact ⟨hb2, hb2.store2, ⟨A', c', rfl, q1, q2.keep (fun b hb _ => far b (by omega)) fun b hb => by omega⟩, ((hbW.drew.trans (q3.mono (by omega))).setCell (by simp) _).setCell (by simp) _⟩
  have HC := Lib.hid hcall; have HST := Lib.hid hst
  clear hR ih hcall hm hst hbk hbW hv ht
  generalize substV g l[i] = t2 at HC ⊢
  generalize a.length = al at HC c1
  generalize l.length = ll at h1 hlen hiz hi
  subst hW
  go_enter Tryd.func39, Tryd.ntmps39
  go_wp2_with fail
  go_upto_region 1 with fail
  have hS : SOne b1 b2 b off i ll c al c' n A' mo (w.alloc (.cells #[.string ⟨#[]⟩, .slice none 0 0] 36)).drew := by
    exact ⟨(cell_alloc_o _ _ _ n1).trans h1, (cell_alloc_o _ _ _ n2).trans h2, (cell_alloc_o _ _ _ n3).trans c0, (cell_alloc_o _ _ _ n3).trans c1⟩
  refine chain_region (SOne b1 b2 b off i ll c al c' n A' mo) 5 (by kernel_rfl) ?_
  have HS := Lib.hid hS
  clear hS h1 h2 c0 c1
  refine T_takeD (i := 0) (v := .slice (some ⟨b, off, none⟩) ll c) rfl (by kernel_rfl) (fun _ _ _ h => h) rfl (fun W hS => by unfold SOne at hS; obtain ⟨h0, h1, h2, h3⟩ := hS; go_simp) HS.out ?_
  go_simp
  refine T_takeD (i := 1) (v := .int .i64 (i : Int)) rfl (by kernel_rfl) (fun _ _ _ h => h) rfl (fun W hS => by go_simp) HS.out ?_
  go_simp
  refine T_takeD (i := 2) (v := .pointer (some ⟨b, off + i * 2, none⟩)) rfl (by kernel_rfl) (fun _ _ _ h => h) rfl (fun W hS => by go_simp) HS.out ?_
  go_simp
  refine T_takeD (i := 3) (v := .agg #[.string n, .slice A' al c']) rfl (by kernel_rfl) (fun _ _ _ h => h) rfl (fun W hS => by unfold SOne at hS; obtain ⟨h0, h1, h2, h3⟩ := hS; go_simp) HS.out ?_
  go_simp
  refine T_takeD (i := 4) (v := .map mo) rfl (by kernel_rfl) (fun _ _ _ h => h) rfl (fun W hS => by unfold SOne at hS; obtain ⟨h0, h1, h2, h3⟩ := hS; go_simp) HS.out ?_
  go_simp
  refine T_one (i := 5) rfl (by kernel_rfl) rfl ?_
  refine op_callT #[.agg #[.string n, .slice A' al c'], .map mo] (by simp [go_sem]) (enters_of Tryd.func40 (by kernel_rfl) rfl _ _) HC.out ?_
  rintro e w' ⟨u', rfl, ⟨A2, c2, rfl, q1, q2⟩, q3⟩
  refine ⟨_, rfl, fun h => absurd h (by decide), ?_⟩
  obtain ⟨r1, r2, r3, r4⟩ := HST.out _ _ _ _ q1 q2 q3
  have R2 := Lib.hid r2; have R3 := Lib.hid r3; have R4 := Lib.hid r4
  have b0 := r1.cell 0; have b1 := r1.cell 1; have g0 := r1.frozen 0; have g1 := r1.frozen 1
  simp at b0 b1
  clear q1 q2 q3 r1 r2 r3 r4 HC HST HS
  refine T_one (i := 6) rfl (by kernel_rfl) rfl ?_
  go_simp
  refine T_done (by kernel_rfl) ?_
  go_wp2_with fail
  exact bodyPost_ret (retT1 Tryd.results39 rfl R2.out) rfl ⟨_, rfl, R3.out, R4.out⟩
theorem foldN_map (F : Ty → Ty) (d : Ty) (l : List Ty) : ∀ k, k ≤ l.length → (foldN (σ := Unit) (fun _ i => (F (l.getD i d), ())) () k).1 = (l.take k).map F
  | 0, _ => by simp [foldN]
  | k + 1, h => by
    rw [foldN, foldN_map F d l k (by omega), List.take_add_one, List.getElem?_eq_getElem (show k < l.length by omega), List.map_append]
    have e : l.getD k d = l[k] := by simp [List.getD_eq_getElem?_getD, List.getElem?_eq_getElem (show k < l.length by omega)]
    rw [e]
    rfl
set_option maxHeartbeats 1000000 in
theorem all_c (B : Nat) (mo : Option Nat) (g : ByteArray → Option ByteArray) (l : List Ty) (hl : l.length ≤ 1000000) (ih : ∀ t ∈ l, ReplV B mo g t) (A : Option Addr) (c : Nat) (w : World) (hm : LooksV B mo g w) (hB : B ≤ w.heap.size) (hR : LRep w B l A c) :
    Calls Tryd.prog 21 #[.slice A l.length c, .map mo] w fun e w' => ∃ A' c', e = .returned (.slice A' l.length c') ∧ LN (fun b => w.heap.size ≤ b) w' (l.map (substV g)) A' c' ∧ Below w.heap.size w w' := by
  obtain ⟨V, hV⟩ : ∃ V, V = (w.alloc (.cells #[.slice A l.length c] 22)).alloc (.cells #[.map mo] 48) := ⟨_, rfl⟩
  have hbV : Below w.heap.size w V := by rw [hV]; exact ((Below.refl _ w).alloc (Nat.le_refl _) _).alloc (by simp) _
  have szV : V.heap.size = w.heap.size + 2 := by rw [hV]; simp
  have v0 : V.cell? ⟨w.heap.size, 0, none⟩ = some (.slice A l.length c) := by rw [hV]; exact (cell_alloc_o _ _ _ (by simp only [World.size_alloc]; omega)).trans (cell_alloc_n _ _ _ rfl)
  have v1 : V.cell? ⟨w.heap.size + 1, 0, none⟩ = some (.map mo) := by rw [hV]; exact cell_alloc_n _ _ _ (by simp only [World.size_alloc])
  have hlist := list_c (σ := Unit) (fun _ => False) V.heap.size (fun b h => h.elim) (fun _ i => (substV g (l.getD i (.mk ⟨#[]⟩ [])), ())) (fun _ W => Below V.heap.size V W) l.length hl 39 #[.pointer (some ⟨w.heap.size, 0, none⟩), .pointer (some ⟨w.heap.size + 1, 0, none⟩)] (enters_of Tryd.func39 (by kernel_rfl) rfl) ()
    (fun i hi W hW hBW => by
      have hd : l.getD i (.mk ⟨#[]⟩ []) = l[i] := by simp [List.getD_eq_getElem?_getD, List.getElem?_eq_getElem hi]
      rw [hd]
      have hbW := hbV.trans (hW.mono (by omega))
      refine (one_c B w.heap.size (w.heap.size + 1) mo g l A c i hi (ih _ (List.getElem_mem hi)) W (hm.under (hbW.mono hB)) (by omega) (hR.under (hbW.mono hB)) ((hW.cell (p := ⟨w.heap.size, 0, none⟩) (by show w.heap.size < V.heap.size; omega)).trans v0) ((hW.cell (p := ⟨w.heap.size + 1, 0, none⟩) (by show w.heap.size + 1 < V.heap.size; omega)).trans v1)).mono ?_
      rintro e w' ⟨u', q1, q2, q3⟩
      exact ⟨u', q1, q2, hW.trans (q3.mono hBW), Keep.of_below q3 fun x h1 h2 => by omega⟩) V (fun _ W W' h hk hs => h.trans (hk.below (fun x hx h => by omega) hs)) (Below.refl _ _) (Nat.le_refl _)
  rw [foldN_map _ _ _ _ (Nat.le_refl _), List.take_length] at hlist
  have HL := Lib.hid hlist; have HBV := Lib.hid hbV
  have hlen := hR.len
  have hmax : maxLen = 9223372036854775807 := rfl
  clear hlist hbV v0 v1 hR hm ih
  generalize l.map (substV g) = l2 at HL ⊢
  generalize l.length = ll at *
  subst hV
  go_enter Tryd.func21, Tryd.ntmps21
  go_wp2_with (go_at_call 38; refine HL.out.mono ?_; rintro e w' ⟨A', c', rfl, q1, q2, q3⟩; have Q1 := Lib.hid q1; have Q2 := Lib.hid q2; clear q1 q2 q3)
  go_ret
  exact ⟨_, _, rfl, Q1.out.keep (fun _ _ _ => rfl) fun b hb => by omega, HBV.out.trans (Q2.out.mono (by omega))⟩
set_option maxRecDepth 100000 in
set_option maxHeartbeats 4000000 in
theorem repl_c (B : Nat) (mo : Option Nat) (g : ByteArray → Option ByteArray) (hcopy : ∀ n s, g n = some s → ReplV B none (fun _ => none) (.mk s [])) (t : Ty) : (∀ q ∈ t.parts, q.args.length ≤ 1000000) → ReplV B mo g t := by
  induction t using Ty.ind with
  | h n a ih =>
    intro hpp w u hm hB h
    have hu := h
    obtain ⟨A, c, rfl, hn, hR⟩ := h
    have hal := hpp _ (Ty.self_parts _)
    simp only [Ty.name, Ty.args] at hn hR hu hal ⊢
    have hlen := hR.len
    obtain ⟨W, hW⟩ : ∃ W, W = (w.alloc (.cells #[.string n, .slice A a.length c] 36)).alloc (.cells #[.string ⟨#[]⟩, .slice none 0 0] 36) := ⟨_, rfl⟩
    have hbW : Below w.heap.size w W := by rw [hW]; exact ((Below.refl _ w).alloc (Nat.le_refl _) _).alloc (by simp) _
    have hsz : W.heap.size = w.heap.size + 2 := by rw [hW]; simp
    have hbk : Blk W (w.heap.size + 1) 36 #[.string ⟨#[]⟩, .slice none 0 0] := by
      have := Blk.new (w.alloc (.cells #[.string n, .slice A a.length c] 36)) 36 #[.string ⟨#[]⟩, .slice none 0 0]
      rw [World.size_alloc] at this
      rw [hW]; exact this
    obtain ⟨s, hlook, hsz2, hsome⟩ := hm W (hbW.mono hB) n hn
    obtain ⟨V, hV⟩ : ∃ V, V = (W.alloc (.cells #[.string s, .slice none 0 0] 36)) := ⟨_, rfl⟩
    have hbV : Below w.heap.size w V := by rw [hV]; exact hbW.alloc (by omega) _
    have szV : V.heap.size = w.heap.size + 3 := by rw [hV, World.size_alloc, hsz]
    have hbkV : Blk V (w.heap.size + 1) 36 #[.string ⟨#[]⟩, .slice none 0 0] := by rw [hV]; exact hbk.alloc _
    have hst : ∀ V2, Below V.heap.size V V2 → ∀ w' t' A' c', t'.name.size ≤ maxLen → LN (fun b => V2.heap.size ≤ b) w' t'.args A' c' → Below V2.heap.size V2 w' →
        Blk w' (w.heap.size + 1) 36 #[.string ⟨#[]⟩, .slice none 0 0] ∧ Blk ((w'.setCell ⟨w.heap.size + 1, 0, none⟩ (.string t'.name)).setCell ⟨w.heap.size + 1, 1, none⟩ (.slice A' t'.args.length c')) (w.heap.size + 1) 36 #[.string t'.name, .slice A' t'.args.length c'] ∧
        TyN (fun b => w.heap.size ≤ b) ((w'.setCell ⟨w.heap.size + 1, 0, none⟩ (.string t'.name)).setCell ⟨w.heap.size + 1, 1, none⟩ (.slice A' t'.args.length c')) t' (.agg #[.string t'.name, .slice A' t'.args.length c']) ∧
        Below w.heap.size w ((w'.setCell ⟨w.heap.size + 1, 0, none⟩ (.string t'.name)).setCell ⟨w.heap.size + 1, 1, none⟩ (.slice A' t'.args.length c')) := fun V2 hV2 w' t' A' c' q1 q2 q3 => by
      have hz2 := hV2.size
      have hb2 : Blk w' (w.heap.size + 1) 36 #[.string ⟨#[]⟩, .slice none 0 0] := (q3.block _ (by omega)).trans ((hV2.block _ (by omega)).trans hbkV)
      have far : ∀ b, b ≠ w.heap.size + 1 → ((w'.setCell ⟨w.heap.size + 1, 0, none⟩ (.string t'.name)).setCell ⟨w.heap.size + 1, 1, none⟩ (.slice A' t'.args.length c')).heap[b]? = w'.heap[b]? := fun b hb => (Below.heap_setCell _ _ _ _ hb).trans (Below.heap_setCell _ _ _ _ hb)
      exact ⟨hb2, hb2.store2, ⟨A', c', rfl, q1, q2.keep (fun b hb _ => far b (by omega)) fun b hb => by omega⟩, (((hbV.trans (hV2.mono (by omega))).trans (q3.mono (by omega))).setCell (by simp) _).setCell (by simp) _⟩
    have w0 : V.cell? ⟨w.heap.size, 0, none⟩ = some (.string n) := by rw [hV, hW]; exact (cell_alloc_o _ _ _ (by simp only [World.size_alloc]; omega)).trans ((cell_alloc_o _ _ _ (by simp only [World.size_alloc]; omega)).trans (cell_alloc_n _ _ _ rfl))
    have w1 : V.cell? ⟨w.heap.size, 1, none⟩ = some (.slice A a.length c) := by rw [hV, hW]; exact (cell_alloc_o _ _ _ (by simp only [World.size_alloc]; omega)).trans ((cell_alloc_o _ _ _ (by simp only [World.size_alloc]; omega)).trans (cell_alloc_n _ _ _ rfl))
    have w2 : V.cell? ⟨w.heap.size + 2, 0, none⟩ = some (.string s) := by rw [hV]; exact cell_alloc_n _ _ _ (by omega)
    have w3 : V.cell? ⟨w.heap.size + 2, 1, none⟩ = some (.slice none 0 0) := by rw [hV]; exact cell_alloc_n _ _ _ (by omega)
    have hcells : ∀ V2, Below V.heap.size V V2 → V2.cell? ⟨w.heap.size, 0, none⟩ = some (.string n) ∧ V2.cell? ⟨w.heap.size, 1, none⟩ = some (.slice A a.length c) ∧ V2.cell? ⟨w.heap.size + 2, 0, none⟩ = some (.string s) ∧ V2.cell? ⟨w.heap.size + 2, 1, none⟩ = some (.slice none 0 0) := fun V2 h2 =>
      ⟨(h2.cell (p := ⟨w.heap.size, 0, none⟩) (by show w.heap.size < _; omega)).trans w0, (h2.cell (p := ⟨w.heap.size, 1, none⟩) (by show w.heap.size < _; omega)).trans w1, (h2.cell (p := ⟨w.heap.size + 2, 0, none⟩) (by show w.heap.size + 2 < _; omega)).trans w2, (h2.cell (p := ⟨w.heap.size + 2, 1, none⟩) (by show w.heap.size + 2 < _; omega)).trans w3⟩
    have hvar := tIsVar_c (.mk n a) (.agg #[.string n, .slice A a.length c]) V ⟨A, c, rfl, hn, (hR.under (hbV.mono hB)).more (by omega)⟩
    have hall : ∀ V2, Below V.heap.size V V2 → Calls Tryd.prog 21 #[.slice A a.length c, .map mo] V2.drew fun e w' => ∃ A' c', e = .returned (.slice A' a.length c') ∧ LN (fun b => V2.heap.size ≤ b) w' (a.map (substV g)) A' c' ∧ Below V2.heap.size V2.drew w' := fun V2 h2 => by
      have hz2 := h2.size
      have hb2 := hbV.trans (h2.mono (by omega))
      exact all_c B mo g a hal (fun t ht => ih t ht fun q hq => hpp q (Ty.parts_trans _ t (Ty.arg_parts ht) hq)) A c V2.drew (hm.under (hb2.mono hB).drew) (by show B ≤ V2.heap.size; omega) (hR.under (hb2.mono hB).drew)
    have hall2 : ∀ V2, Below V.heap.size V V2 → ∀ w' A' c', LN (fun b => V2.heap.size ≤ b) w' (a.map (substV g)) A' c' → Below V2.heap.size V2.drew w' → w'.cell? ⟨w.heap.size, 0, none⟩ = some (.string n) ∧ _ := fun V2 h2 w' A' c' q2 q3 => ⟨(q3.cell (p := ⟨w.heap.size, 0, none⟩) (by have := h2.size; show w.heap.size < V2.heap.size; omega)).trans (hcells V2 h2).1, hst V2 h2 w' (.mk n (a.map (substV g))) A' c' hn q2 ⟨q3.os, q3.tape, q3.output, q3.size, q3.block⟩⟩
    simp only [Ty.name, Ty.args, List.length_map] at hall2
    have HL := Lib.hid hlook; have HST := Lib.hid hst; have HCELL := Lib.hid hcells; have HVAR := Lib.hid hvar; have HALL := Lib.hid hall; have HALL2 := Lib.hid hall2
    have szW : (Below V.heap.size V V) := Below.refl _ _
    cases hg : g n with
    | none =>
      rw [hg] at HL
      rw [substV_not (.inr hg)]
      obtain ⟨d0, d1, d2, d3⟩ := HCELL.out _ szW
      have HC := Lib.hid (HALL.out _ szW); have HC2 := Lib.hid (HALL2.out _ szW)
      clear hlook hbV hsome hbW hR hm ih hg hst hbk hbkV hcopy hpp hall hall2 hcells hvar w0 w1 w2 w3 hu hal HST HCELL HVAR HALL HALL2 szW hlen
      generalize a.map (substV g) = a2 at HC HC2 ⊢
      subst hV
      subst hW
      go_enter Tryd.func40, Tryd.ntmps40
      go_wp2_with fail
      rw [HL.out]
      simp only [Result.andThen]
      rw [Oper.upon_value]
      go_wp2_with fail
      go_region_with (go_at_call 21; refine HC.out.mono ?_; rintro e w' ⟨A', c', rfl, q2, q3⟩; obtain ⟨r0, r1, r2, r3, r4⟩ := HC2.out _ _ _ q2 q3; have R2 := Lib.hid r2; have R3 := Lib.hid r3; have R4 := Lib.hid r4; have b0 := r1.cell 0; have b1 := r1.cell 1; have g0 := r1.frozen 0; have g1 := r1.frozen 1; simp at b0 b1; clear q2 q3 r1 r2 r3 r4)
      all_goals
        go_wp2_with fail
        exact bodyPost_ret (retT1 Tryd.results40 rfl R2.out) rfl ⟨_, rfl, R3.out, R4.out⟩
    | some s' =>
      rw [hg] at HL
      obtain rfl := hsome _ hg
      cases hv : isVarT (.mk n a) with
      | true =>
        rw [substV_var hv hg]
        rw [hv] at HVAR
        have hcall : ∀ V2, Below V.heap.size V V2 → Calls Tryd.prog 40 #[.agg #[.string s, .slice none 0 0], .map none] V2 fun e w' => ∃ u', e = .returned u' ∧ TyN (fun b => V2.heap.size ≤ b) w' (.mk s []) u' ∧ Below V2.heap.size V2 w' := fun V2 h2 => by
          have := hcopy n s hg V2 (.agg #[.string s, .slice none 0 0]) (looks_nil _ _) (by have := h2.size; omega) ⟨none, 0, rfl, hsz2, LRep.nil (by decide)⟩
          rw [substV_not (f := fun _ => none) (.inr rfl)] at this
          exact this
        have HC := Lib.hid hcall
        clear hlook hbV hsome hbW hR hm ih hg hst hbk hbkV hcopy hpp hall hall2 hcells hvar w0 w1 w2 w3 hu hal HALL HALL2 szW hlen hcall hv
        subst hV
        subst hW
        go_enter Tryd.func40, Tryd.ntmps40
        go_wp2_with fail
        rw [HL.out]
        simp only [Result.andThen]
        rw [Oper.upon_value]
        go_wp2_with first
          | (go_at_call 14; refine HVAR.out.mono ?_; rintro e V2 ⟨rfl, hb⟩; obtain ⟨d0, d1, d2, d3⟩ := HCELL.out _ hb; have HC2 := Lib.hid (HC.out _ hb); have HST2 := Lib.hid (HST.out _ hb); clear hb)
          | (go_at_call 40; refine HC2.out.mono ?_; rintro e w' ⟨u', rfl, ⟨A', c', rfl, q1, q2⟩, q3⟩; obtain ⟨r1, r2, r3, r4⟩ := HST2.out _ _ _ _ q1 q2 q3; have R2 := Lib.hid r2; have R3 := Lib.hid r3; have R4 := Lib.hid r4; have b0 := r1.cell 0; have b1 := r1.cell 1; have g0 := r1.frozen 0; have g1 := r1.frozen 1; simp at b0 b1; clear q1 q2 q3 r1 r2 r3 r4 HC2)
        exact bodyPost_ret (retT1 Tryd.results40 rfl R2.out) rfl ⟨_, rfl, R3.out, R4.out⟩
      | false =>
        rw [substV_not (.inl hv)]
        rw [hv] at HVAR
        clear hlook hbV hsome hbW hR hm ih hg hst hbk hbkV hcopy hpp hall hall2 hcells hvar w0 w1 w2 w3 hu hal szW hlen hv HST
        generalize a.map (substV g) = a2 at HALL HALL2 ⊢
        subst hV
        subst hW
        go_enter Tryd.func40, Tryd.ntmps40
        go_wp2_with fail
        rw [HL.out]
        simp only [Result.andThen]
        rw [Oper.upon_value]
        go_wp2_with (go_at_call 14; refine HVAR.out.mono ?_; rintro e V2 ⟨rfl, hb⟩; obtain ⟨d0, d1, d2, d3⟩ := HCELL.out _ hb; have HC := Lib.hid (HALL.out _ hb); have HC2 := Lib.hid (HALL2.out _ hb); clear hb)
        go_region_with (go_at_call 21; refine HC.out.mono ?_; rintro e w' ⟨A', c', rfl, q2, q3⟩; obtain ⟨r0, r1, r2, r3, r4⟩ := HC2.out _ _ _ q2 q3; have R2 := Lib.hid r2; have R3 := Lib.hid r3; have R4 := Lib.hid r4; have b0 := r1.cell 0; have b1 := r1.cell 1; have g0 := r1.frozen 0; have g1 := r1.frozen 1; simp at b0 b1; clear q2 q3 r1 r2 r3 r4)
        all_goals
          go_wp2_with fail
          exact bodyPost_ret (retT1 Tryd.results40 rfl R2.out) rfl ⟨_, rfl, R3.out, R4.out⟩
/-- replaced, of a type that is not too wide. -/
theorem replaced_c (B : Nat) (mo : Option Nat) (g : ByteArray → Option ByteArray) (t : Ty) (h : ∀ q ∈ t.parts, q.args.length ≤ 1000000) : ReplV B mo g t :=
  repl_c B mo g (fun n s _ => repl_c B none _ (fun _ _ h => by cases h) _ fun q hq => by
    rw [Ty.parts, Ty.partsL, List.mem_singleton] at hq
    subst hq
    exact Nat.zero_le _) t h
end Go.Proofs.YtfhjfhbfgndheaaDoor
