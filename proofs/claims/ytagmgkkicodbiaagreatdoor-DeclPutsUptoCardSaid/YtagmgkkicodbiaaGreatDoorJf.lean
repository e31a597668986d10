/- Package decl: replaced, copyType. -/
import Derived.Test.YtagmgkkicodbiaaGreatDoorJe
import Derived.BigRegion
namespace Go.Proofs.YtagmgkkicodbiaaGreatDoor
open Go.RowKit Go.Shelf
open Go
attribute [local go_sem] Oper.semAt_some

theorem len_size (l : List Ty) : l.length ≤ sizeL l := by
  induction l with
  | nil => exact Nat.zero_le _
  | cons t l ih => rw [sizeL, List.length_cons]; have := sizeT_pos t; omega
theorem size_mem {l : List Ty} {t : Ty} (h : t ∈ l) : sizeT t ≤ sizeL l := by
  induction l with
  | nil => cases h
  | cons x l ih =>
    rw [sizeL]
    rcases List.mem_cons.1 h with rfl | h
    · omega
    · have := ih h; omega
/-- A function of a type, and a map, makes this type in new memory. -/
def CopyAt (B : Nat) (t : Ty) : Prop := ∀ (W : World) (u : Value), B ≤ W.heap.size → TyRep W B t u →
  Calls Tryz.prog 39 #[u] W fun e w' => ∃ u', e = .returned u' ∧ TyN (fun b => W.heap.size ≤ b) w' t u' ∧ Below W.heap.size W w' ∧ UnU w' u'
def ReplAt (B : Nat) (mo : Option Nat) (g : ByteArray → Option Ty) (t : Ty) : Prop := ∀ (W : World) (u : Value), Looks B mo g W → B ≤ W.heap.size → TyRep W B t u →
  Calls Tryz.prog 17 #[u, .map mo] W fun e w' => ∃ u', e = .returned u' ∧ TyN (fun b => W.heap.size ≤ b) w' (substT g t) u' ∧ Below W.heap.size W w' ∧ UnU w' u'
theorem repl1_c (B b1 : Nat) (mo : Option Nat) (g : ByteArray → Option Ty) (t : Ty) (ih : ReplAt B mo g t) (w : World) (u : Value) (hm : Looks B mo g w) (hB : B ≤ w.heap.size) (h : TyRep w B t u) (h1 : w.cell? ⟨b1, 0, none⟩ = some (.map mo)) :
    Calls Tryz.prog 41 #[u, .pointer (some ⟨b1, 0, none⟩)] w fun e w' => ∃ u', e = .returned u' ∧ TyN (fun b => w.heap.size ≤ b) w' (substT g t) u' ∧ Below w.heap.size w w' := by
  have l1 := lt_of_cell h1
  obtain ⟨A, c, rfl, hn, hR⟩ := h
  have n1 : b1 ≠ w.heap.size := by omega
  have n2 : b1 ≠ w.heap.size + 1 := by omega
  obtain ⟨W, hW⟩ : ∃ W, W = (w.alloc (.cells #[.string t.name, .slice A t.args.length c] 24)).alloc (.cells #[.string ⟨#[]⟩, .slice none 0 0] 24) := ⟨_, rfl⟩
  have hbW : Below w.heap.size w W := by rw [hW]; exact ((Below.refl _ w).alloc (Nat.le_refl _) _).alloc (by simp) _
  have hsz : W.heap.size = w.heap.size + 2 := by rw [hW]; simp
  have hbk : Blk W (w.heap.size + 1) 24 #[.string ⟨#[]⟩, .slice none 0 0] := by
    have := Blk.new (w.alloc (.cells #[.string t.name, .slice A t.args.length c] 24)) 24 #[.string ⟨#[]⟩, .slice none 0 0]
    rw [World.size_alloc] at this
    rw [hW]; exact this
  have hcall := ih W (.agg #[.string t.name, .slice A t.args.length c]) (hm.under (hbW.mono hB)) (by omega) ⟨A, c, rfl, hn, hR.under (hbW.mono hB)⟩
  have hst : ∀ w' t' A' c', t'.name.size ≤ maxLen → LN (fun b => W.heap.size ≤ b) w' t'.args A' c' → Below W.heap.size W w' →
      Blk w' (w.heap.size + 1) 24 #[.string ⟨#[]⟩, .slice none 0 0] ∧ Blk ((w'.setCell ⟨w.heap.size + 1, 0, none⟩ (.string t'.name)).setCell ⟨w.heap.size + 1, 1, none⟩ (.slice A' t'.args.length c')) (w.heap.size + 1) 24 #[.string t'.name, .slice A' t'.args.length c'] ∧
      TyN (fun b => w.heap.size ≤ b) ((w'.setCell ⟨w.heap.size + 1, 0, none⟩ (.string t'.name)).setCell ⟨w.heap.size + 1, 1, none⟩ (.slice A' t'.args.length c')) t' (.agg #[.string t'.name, .slice A' t'.args.length c']) ∧
      Below w.heap.size w ((w'.setCell ⟨w.heap.size + 1, 0, none⟩ (.string t'.name)).setCell ⟨w.heap.size + 1, 1, none⟩ (.slice A' t'.args.length c')) := fun w' t' A' c' q1 q2 q3 => by
    have hb2 : Blk w' (w.heap.size + 1) 24 #[.string ⟨#[]⟩, .slice none 0 0] := (q3.block _ (by omega)).trans hbk
    have far : ∀ b, b ≠ w.heap.size + 1 → ((w'.setCell ⟨w.heap.size + 1, 0, none⟩ (.string t'.name)).setCell ⟨w.heap.size + 1, 1, none⟩ (.slice A' t'.args.length c')).heap[b]? = w'.heap[b]? := fun b hb => (Below.heap_setCell _ _ _ _ hb).trans (Below.heap_setCell _ _ _ _ hb)
    exact ⟨hb2, hb2.store2, ⟨A', c', rfl, q1, q2.keep (fun b hb _ => far b (by omega)) fun b hb => by omega⟩, ((hbW.trans (q3.mono (by omega))).setCell (by simp) _).setCell (by simp) _⟩
  have HC := Lib.hid hcall; have HST := Lib.hid hst
  clear hR ih hcall hm hst hbk hbW
  generalize substT g t = t2 at HC ⊢
  subst hW
  generalize t.name = n at HC hn HST hsz ⊢
  generalize t.args.length = al at HC HST hsz ⊢
  go_enter Tryz.func41, Tryz.ntmps41
  go_wp2_with (go_at_call 17; refine HC.out.mono ?_; rintro e w' ⟨u', rfl, ⟨A', c', rfl, q1, q2⟩, q3, _⟩; obtain ⟨r1, r2, r3, r4⟩ := HST.out _ _ _ _ q1 q2 q3; have R2 := Lib.hid r2; have R3 := Lib.hid r3; have R4 := Lib.hid r4; have b0 := r1.cell 0; have b1 := r1.cell 1; have g0 := r1.frozen 0; have g1 := r1.frozen 1; simp at b0 b1; clear q1 q2 q3 r1 r2 r3 r4)
  exact bodyPost_ret (retT1 Tryz.results41 rfl R2.out) rfl ⟨_, rfl, R3.out, R4.out⟩
set_option maxRecDepth 100000 in
set_option maxHeartbeats 4000000 in
theorem repl_c (B : Nat) (mo : Option Nat) (g : ByteArray → Option Ty) (hcopy : ∀ n t, g n = some t → CopyAt B t) (t : Ty) : sizeT t ≤ 100000000 → ReplAt B mo g t := by
  induction t using Ty.ind with
  | h n a ih =>
    intro hsz0 w u hm hB h
    rw [sizeT] at hsz0
    obtain ⟨A, c, rfl, hn, hR⟩ := h
    simp only [Ty.name, Ty.args] at hn hR ⊢
    obtain ⟨W, hW⟩ : ∃ W, W = ((w.alloc (.cells #[.string n, .slice A a.length c] 24)).alloc (.cells #[.map mo] 62)).alloc (.cells #[.string ⟨#[]⟩, .slice none 0 0] 24) := ⟨_, rfl⟩
    have hbW : Below w.heap.size w W := by rw [hW]; exact (((Below.refl _ w).alloc (Nat.le_refl _) _).alloc (by simp) _).alloc (by simp; omega) _
    have hsz : W.heap.size = w.heap.size + 3 := by rw [hW]; simp
    have hbk : Blk W (w.heap.size + 2) 24 #[.string ⟨#[]⟩, .slice none 0 0] := by
      have := Blk.new ((w.alloc (.cells #[.string n, .slice A a.length c] 24)).alloc (.cells #[.map mo] 62)) 24 #[.string ⟨#[]⟩, .slice none 0 0]
      rw [World.size_alloc, World.size_alloc] at this
      rw [hW]; exact this
    obtain ⟨n', A', l', c', hlook, hsome⟩ := hm W (hbW.mono hB) n hn
    obtain ⟨V, hV⟩ : ∃ V, V = (W.alloc (.cells #[.string n', .slice A' l' c'] 24)) := ⟨_, rfl⟩
    have hbV : Below w.heap.size w V := by rw [hV]; exact hbW.alloc (by omega) _
    have szV : V.heap.size = w.heap.size + 4 := by rw [hV, World.size_alloc, hsz]
    have hbkV : Blk V (w.heap.size + 2) 24 #[.string ⟨#[]⟩, .slice none 0 0] := by rw [hV]; exact hbk.alloc _
    have hst : ∀ w' t' A' c', t'.name.size ≤ maxLen → LN (fun b => V.heap.size ≤ b) w' t'.args A' c' → Below V.heap.size V w' →
        Blk w' (w.heap.size + 2) 24 #[.string ⟨#[]⟩, .slice none 0 0] ∧ Blk ((w'.setCell ⟨w.heap.size + 2, 0, none⟩ (.string t'.name)).setCell ⟨w.heap.size + 2, 1, none⟩ (.slice A' t'.args.length c')) (w.heap.size + 2) 24 #[.string t'.name, .slice A' t'.args.length c'] ∧
        TyN (fun b => w.heap.size ≤ b) ((w'.setCell ⟨w.heap.size + 2, 0, none⟩ (.string t'.name)).setCell ⟨w.heap.size + 2, 1, none⟩ (.slice A' t'.args.length c')) t' (.agg #[.string t'.name, .slice A' t'.args.length c']) ∧
        Below w.heap.size w ((w'.setCell ⟨w.heap.size + 2, 0, none⟩ (.string t'.name)).setCell ⟨w.heap.size + 2, 1, none⟩ (.slice A' t'.args.length c')) := fun w' t' A' c' q1 q2 q3 => by
      have hb2 : Blk w' (w.heap.size + 2) 24 #[.string ⟨#[]⟩, .slice none 0 0] := (q3.block _ (by omega)).trans hbkV
      have far : ∀ b, b ≠ w.heap.size + 2 → ((w'.setCell ⟨w.heap.size + 2, 0, none⟩ (.string t'.name)).setCell ⟨w.heap.size + 2, 1, none⟩ (.slice A' t'.args.length c')).heap[b]? = w'.heap[b]? := fun b hb => (Below.heap_setCell _ _ _ _ hb).trans (Below.heap_setCell _ _ _ _ hb)
      exact ⟨hb2, hb2.store2, ⟨A', c', rfl, q1, q2.keep (fun b hb _ => far b (by omega)) fun b hb => by omega⟩, ((hbV.trans (q3.mono (by omega))).setCell (by simp) _).setCell (by simp) _⟩
    cases hg : g n with
    | some t =>
      rw [hg] at hlook
      have hsub : substT g (.mk n a) = t := by rw [substT, hg]
      rw [hsub]
      have hty := (hsome t hg).under (w' := V) (by rw [hV]; exact (Below.refl _ _).alloc (by omega) _)
      have hcall := hcopy n t hg V _ (by omega) hty
      have HL := Lib.hid hlook; have HC := Lib.hid hcall; have HST := Lib.hid hst
      clear hlook hbV hcall hty hsome hbW hR hm ih hsub hg hst hbk hbkV hcopy hsz0
      subst hV
      subst hW
      go_enter Tryz.func17, Tryz.ntmps17
      go_wp2_with fail
      rw [HL.out]
      simp only [Result.andThen]
      rw [Oper.upon_value]
      go_wp2_with (go_at_call 39; refine HC.out.mono ?_; rintro e w' ⟨u', rfl, ⟨A', c', rfl, q1, q2⟩, q3, q4⟩; have Q4 := Lib.hid ((q4 _ _ _ _ rfl)); clear q4; obtain ⟨r1, r2, r3, r4⟩ := HST.out _ _ _ _ q1 q2 q3; have R2 := Lib.hid r2; have R3 := Lib.hid r3; have R4 := Lib.hid r4; have b0 := r1.cell 0; have b1 := r1.cell 1; have g0 := r1.frozen 0; have g1 := r1.frozen 1; simp at b0 b1; clear q1 q2 q3 r1 r2 r3 r4)
      exact bodyPost_ret (retT1 Tryz.results17 rfl R2.out) rfl ⟨_, rfl, R3.out, R4.out, fun n A l c e => by cases e; exact (Q4.out.set _ _ _).set _ _ _⟩
    | none =>
      rw [hg] at hlook
      have hsub : substT g (.mk n a) = .mk n (substL g a) := by rw [substT, hg]
      rw [hsub, substL_map]
      have w1 : V.cell? ⟨w.heap.size + 1, 0, none⟩ = some (.map mo) := by rw [hV, hW]; exact (cell_alloc_o _ _ _ (by simp only [World.size_alloc]; omega)).trans ((cell_alloc_o _ _ _ (by simp only [World.size_alloc]; omega)).trans (cell_alloc_n _ _ _ (by simp only [World.size_alloc])))
      have w0 : V.cell? ⟨w.heap.size, 0, none⟩ = some (.string n) := by rw [hV, hW]; exact (cell_alloc_o _ _ _ (by simp only [World.size_alloc]; omega)).trans ((cell_alloc_o _ _ _ (by simp only [World.size_alloc]; omega)).trans ((cell_alloc_o _ _ _ (by simp only [World.size_alloc]; omega)).trans (cell_alloc_n _ _ _ rfl)))
      have hls := len_size a
      have hcall := each_c B (substT g) (fun X => Below w.heap.size w X ∧ X.cell? ⟨w.heap.size + 1, 0, none⟩ = some (.map mo)) a (by omega) A c 41 #[.pointer (some ⟨w.heap.size + 1, 0, none⟩)] (enters_of Tryz.func41 (by kernel_rfl) rfl)
        (fun t ht X u hX hBX hty => repl1_c B (w.heap.size + 1) mo g t (ih t ht (by have := size_mem ht; omega)) X u (hm.under (hX.1.mono hB)) hBX hty hX.2)
        V.drew (fun X X' hX hb => ⟨hX.1.trans (hb.mono (by show w.heap.size ≤ V.heap.size; omega)), (hb.cell (p := ⟨w.heap.size + 1, 0, none⟩) (by show w.heap.size + 1 < V.heap.size; omega)).trans hX.2⟩) ⟨hbV.drew, w1⟩ (by show B ≤ V.heap.size; omega) (hR.under (hbV.mono hB).drew)
      have hall : ∀ w' A' c', LN (fun b => V.heap.size ≤ b) w' (a.map (substT g)) A' c' → Below V.heap.size V.drew w' → w'.cell? ⟨w.heap.size, 0, none⟩ = some (.string n) ∧ _ := fun w' A' c' q2 q3 => ⟨(q3.cell (p := ⟨w.heap.size, 0, none⟩) (by show w.heap.size < V.heap.size; omega)).trans w0, hst w' (.mk n (a.map (substT g))) A' c' hn q2 ((Below.refl _ _).drew.trans q3)⟩
      simp only [Ty.name, Ty.args, List.length_map] at hall
      have HL := Lib.hid hlook; have HC := Lib.hid hcall; have HST := Lib.hid hall
      clear hlook hbV hcall hsome hbW hR hm ih hsub hg hst hbk hbkV hcopy hsz0 hall w1 w0 hls
      generalize a.map (substT g) = a2 at HC HST ⊢
      subst hV
      subst hW
      go_enter Tryz.func17, Tryz.ntmps17
      go_wp2_with fail
      rw [HL.out]
      simp only [Result.andThen]
      rw [Oper.upon_value]
      go_wp2_with fail
      go_region_with (go_at_call 40; refine HC.out.mono ?_; rintro e w' ⟨A', c', rfl, q2, q3, q4⟩; have Q4 := Lib.hid q4; clear q4; obtain ⟨r0, r1, r2, r3, r4⟩ := HST.out _ _ _ q2 q3; have R2 := Lib.hid r2; have R3 := Lib.hid r3; have R4 := Lib.hid r4; have b0 := r1.cell 0; have b1 := r1.cell 1; have g0 := r1.frozen 0; have g1 := r1.frozen 1; simp at b0 b1; clear q2 q3 r1 r2 r3 r4)
      all_goals
        go_wp2_with fail
        exact bodyPost_ret (retT1 Tryz.results17 rfl R2.out) rfl ⟨_, rfl, R3.out, R4.out, fun n A l c e => by cases e; exact (Q4.out.set _ _ _).set _ _ _⟩
/-- A copy of a type. -/
theorem copy_of (B : Nat) (t : Ty) (h : ReplAt B none (fun _ => none) t) : CopyAt B t := by
  intro w u hB ht
  obtain ⟨A, c, rfl, hn, hR⟩ := ht
  obtain ⟨W, hW⟩ : ∃ W, W = (w.alloc (.cells #[.string t.name, .slice A t.args.length c] 24)).alloc (.cells #[.string ⟨#[]⟩, .slice none 0 0] 24) := ⟨_, rfl⟩
  have hbW : Below w.heap.size w W := by rw [hW]; exact ((Below.refl _ w).alloc (Nat.le_refl _) _).alloc (by simp) _
  have hsz : W.heap.size = w.heap.size + 2 := by rw [hW]; simp
  have hbk : Blk W (w.heap.size + 1) 24 #[.string ⟨#[]⟩, .slice none 0 0] := by
    have := Blk.new (w.alloc (.cells #[.string t.name, .slice A t.args.length c] 24)) 24 #[.string ⟨#[]⟩, .slice none 0 0]
    rw [World.size_alloc] at this
    rw [hW]; exact this
  have hcall := h W (.agg #[.string t.name, .slice A t.args.length c]) (looks_nil _ _) (by omega) ⟨A, c, rfl, hn, hR.under (hbW.mono hB)⟩
  rw [substT_none] at hcall
  have hst : ∀ w' A' c', t.name.size ≤ maxLen → LN (fun b => W.heap.size ≤ b) w' t.args A' c' → Below W.heap.size W w' →
      Blk w' (w.heap.size + 1) 24 #[.string ⟨#[]⟩, .slice none 0 0] ∧ Blk ((w'.setCell ⟨w.heap.size + 1, 0, none⟩ (.string t.name)).setCell ⟨w.heap.size + 1, 1, none⟩ (.slice A' t.args.length c')) (w.heap.size + 1) 24 #[.string t.name, .slice A' t.args.length c'] ∧
      TyN (fun b => w.heap.size ≤ b) ((w'.setCell ⟨w.heap.size + 1, 0, none⟩ (.string t.name)).setCell ⟨w.heap.size + 1, 1, none⟩ (.slice A' t.args.length c')) t (.agg #[.string t.name, .slice A' t.args.length c']) ∧
      Below w.heap.size w ((w'.setCell ⟨w.heap.size + 1, 0, none⟩ (.string t.name)).setCell ⟨w.heap.size + 1, 1, none⟩ (.slice A' t.args.length c')) := fun w' A' c' q1 q2 q3 => by
    have hb2 : Blk w' (w.heap.size + 1) 24 #[.string ⟨#[]⟩, .slice none 0 0] := (q3.block _ (by omega)).trans hbk
    have far : ∀ b, b ≠ w.heap.size + 1 → ((w'.setCell ⟨w.heap.size + 1, 0, none⟩ (.string t.name)).setCell ⟨w.heap.size + 1, 1, none⟩ (.slice A' t.args.length c')).heap[b]? = w'.heap[b]? := fun b hb => (Below.heap_setCell _ _ _ _ hb).trans (Below.heap_setCell _ _ _ _ hb)
    exact ⟨hb2, hb2.store2, ⟨A', c', rfl, q1, q2.keep (fun b hb _ => far b (by omega)) fun b hb => by omega⟩, ((hbW.trans (q3.mono (by omega))).setCell (by simp) _).setCell (by simp) _⟩
  have HC := Lib.hid hcall; have HST := Lib.hid hst
  clear hR h hcall hst hbk hbW
  subst hW
  go_enter Tryz.func39, Tryz.ntmps39
  go_wp2_with (go_at_call 17; refine HC.out.mono ?_; rintro e w' ⟨u', rfl, ⟨A', c', rfl, q1, q2⟩, q3, q4⟩; have Q4 := Lib.hid ((q4 _ _ _ _ rfl)); clear q4; obtain ⟨r1, r2, r3, r4⟩ := HST.out _ _ _ q1 q2 q3; have R2 := Lib.hid r2; have R3 := Lib.hid r3; have R4 := Lib.hid r4; have b0 := r1.cell 0; have b1 := r1.cell 1; have g0 := r1.frozen 0; have g1 := r1.frozen 1; simp at b0 b1; clear q1 q2 q3 r1 r2 r3 r4)
  exact bodyPost_ret (retT1 Tryz.results39 rfl R2.out) rfl ⟨_, rfl, R3.out, R4.out, fun n A l c e => by cases e; exact (Q4.out.set _ _ _).set _ _ _⟩
theorem copy_c (B : Nat) (t : Ty) (h : sizeT t ≤ 100000000) : CopyAt B t := copy_of B t (repl_c B none _ (fun _ _ h => by cases h) t h)
end Go.Proofs.YtagmgkkicodbiaaGreatDoor
