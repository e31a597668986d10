/- Package decl: fitsReplaced. -/
import Derived.Test.YtagmgkkicodbiaaGreatDoorJc
namespace Go.Proofs.YtagmgkkicodbiaaGreatDoor
open Go.RowKit Go.Shelf
open Go
attribute [local go_sem] Oper.semAt_some

/-- What a map value tells of a name, whatever becomes of the blocks from B on. -/
def Looks (B : Nat) (mo : Option Nat) (g : ByteArray → Option Ty) (w : World) : Prop := ∀ W, Below B w W → ∀ n : ByteArray, n.size ≤ maxLen → ∃ (n' : ByteArray) (A' : Option Addr) (l' c' : Nat),
  (Instr.lookup 62 (.map mo) (.string n) true).run Tryz.prog W = .ok (.tuple #[.agg #[.string n', .slice A' l' c'], .bool (g n).isSome]) W ∧ ∀ t, g n = some t → TyRep W B t (.agg #[.string n', .slice A' l' c'])
theorem Looks.under {B : Nat} {mo : Option Nat} {g : ByteArray → Option Ty} {w w' : World} (h : Looks B mo g w) (hb : Below B w w') : Looks B mo g w' := fun W hW n hn => h W (hb.trans hW) n hn
theorem key_s {s : ByteArray} (hs : s.size ≤ maxLen) : keyOf Tryz.prog 9 (.string s) = some (Gm.kS s) := WideMaps.keyOf_string_mk Tryz.underlying9 hs
theorem str_lawT : Maps.Keyed Tryz.prog 9 := Maps.string_keyed Tryz.underlying9
theorem zero_ty (w : World) : (zeroValue 24).run Tryz.prog w = .ok (.agg #[.string ⟨#[]⟩, .slice none 0 0]) w := by kernel_rfl
theorem looks_nil (B : Nat) (w : World) : Looks B none (fun _ => none) w := fun W _ n hn => ⟨⟨#[]⟩, none, 0, 0, by
  simp [Instr.lookup, run_underlying Tryz.underlying62, str_lawT.check W _ (key_s hn), zero_ty W, Result.andThen, Instr.findKey, Instr.findNow], fun t h => by cases h⟩
/-- fitsReplaced, where there is room. -/
def FitsR (B pb : Nat) (mo : Option Nat) (g : ByteArray → Option Ty) (t : Ty) (lv : Int) : Prop := ∀ (u : Value) (p : Int) (w : World), (sizeT (substT g t) : Int) ≤ p → p ≤ 1000000000 → TyRep w B t u → Looks B mo g w → Blk w pb 3 #[.int .i64 p] → B ≤ w.heap.size →
  Calls Tryz.prog 16 #[u, (.map mo), .pointer (some ⟨pb, 0, none⟩), .int .i64 lv] w fun e w' => e = .returned (.bool true) ∧ Blk w' pb 3 #[.int .i64 (p - sizeT (substT g t))] ∧ Keep (fun b => b = pb) w w'
theorem fitsR1_c (B pb b1 b2 b3 : Nat) (mo : Option Nat) (g : ByteArray → Option Ty) (t : Ty) (lv : Int) (hlv : -1000000000 ≤ lv ∧ lv ≤ 1000000000) (ih : FitsR B pb mo g t (lv - 1)) (u : Value) (p : Int) (w : World) (hp0 : (sizeT (substT g t) : Int) ≤ p) (hp : p ≤ 1000000000) (h : TyRep w B t u) (hm : Looks B mo g w) (hc : Blk w pb 3 #[.int .i64 p]) (hB : B ≤ w.heap.size)
    (h1 : w.cell? ⟨b1, 0, none⟩ = some (.map mo)) (h2 : w.cell? ⟨b2, 0, none⟩ = some (.pointer (some ⟨pb, 0, none⟩))) (h3 : w.cell? ⟨b3, 0, none⟩ = some (.int .i64 lv)) :
    Calls Tryz.prog 38 #[u, .pointer (some ⟨b1, 0, none⟩), .pointer (some ⟨b2, 0, none⟩), .pointer (some ⟨b3, 0, none⟩)] w fun e w' => e = .returned (.bool false) ∧ Blk w' pb 3 #[.int .i64 (p - sizeT (substT g t))] ∧ Keep (fun b => b = pb) w w' := by
  have hw : IntKind.i64.wrap (lv - 1) = lv - 1 := IntWalk.i64_in _ (by omega)
  have l1 := lt_of_cell h1; have l2 := lt_of_cell h2; have l3 := lt_of_cell h3
  obtain ⟨A, c, rfl, hn, hR⟩ := h
  have n1 : b1 ≠ w.heap.size := by omega
  have n2 : b2 ≠ w.heap.size := by omega
  have n3 : b3 ≠ w.heap.size := by omega
  have hcall := ih _ p (w.alloc (.cells #[.string t.name, .slice A t.args.length c] 24)) hp0 hp ⟨A, c, rfl, hn, hR.under ((Below.refl _ w).alloc hB _)⟩ (hm.under ((Below.refl _ w).alloc hB _)) (hc.alloc _) (by simp; omega)
  have HC := Lib.hid hcall
  clear hR ih hcall hc hp0 hm
  generalize (sizeT (substT g t) : Int) = q at HC ⊢
  generalize t.name = n at HC hn ⊢
  generalize t.args.length = al at HC ⊢
  go_enter Tryz.func38, Tryz.ntmps38
  go_wp2_with (go_at_call 16; refine HC.out.mono ?_; rintro e w' ⟨rfl, hb, hk⟩; have HB := Lib.hid hb; have HK := Lib.hid hk; clear hb hk)
  go_ret
  exact ⟨rfl, HB.out, (Keep.of_new ((Below.refl _ _).alloc (Nat.le_refl _) _)).trans HK.out fun x _ h => h⟩
set_option maxRecDepth 100000 in
set_option maxHeartbeats 2000000 in
theorem fitsR_c (B pb : Nat) (hpb : B ≤ pb) (mo : Option Nat) (g : ByteArray → Option Ty) (t : Ty) : ∀ (lv : Int), (deepT (substT g t) : Int) ≤ lv → lv ≤ 1000000000 → FitsR B pb mo g t lv := by
  induction t using Ty.ind with
  | h n a ih =>
    intro lv hlv hlv2 u p w hp0 hp h hm hc hBw
    have hl := hc.lt
    have hu := h
    obtain ⟨A, c, rfl, hn, hR⟩ := h
    simp only [Ty.name, Ty.args] at hn hR hu ⊢
    have n1 : pb ≠ w.heap.size := by omega
    have n2 : pb ≠ w.heap.size + 1 := by omega
    have n3 : pb ≠ w.heap.size + 2 := by omega
    have n4 : pb ≠ w.heap.size + 3 := by omega
    have n5 : pb ≠ w.heap.size + 4 := by omega
    obtain ⟨W, hW⟩ : ∃ W, W = ((((w.alloc (.cells #[.string n, .slice A a.length c] 24)).alloc (.cells #[(.map mo)] 62)).alloc (.cells #[.pointer (some ⟨pb, 0, none⟩)] 68)).alloc (.cells #[.int .i64 lv] 3)) := ⟨_, rfl⟩
    have hbW : Below w.heap.size w W := by rw [hW]; exact ((((Below.refl _ w).alloc (Nat.le_refl _) _).alloc (by simp) _).alloc (by simp; omega) _).alloc (by simp; omega) _
    have hsz : W.heap.size = w.heap.size + 4 := by rw [hW]; simp
    have hcW : Blk W pb 3 #[.int .i64 p] := by rw [hW]; exact (((hc.alloc _).alloc _).alloc _).alloc _
    obtain ⟨n', A', l', c', hlook, hsome⟩ := hm W (hbW.mono hBw) n hn
    cases hg : g n with
    | some t =>
      rw [hg] at hlook
      have hsub : substT g (.mk n a) = t := by rw [substT, hg]
      rw [hsub] at hp0 hlv ⊢
      have hbV : Below w.heap.size w (W.alloc (.cells #[.string n', .slice A' l' c'] 24)) := hbW.alloc (by omega) _
      have hty := (hsome t hg).under (w' := W.alloc (.cells #[.string n', .slice A' l' c'] 24)) ((Below.refl _ _).alloc (by omega) _)
      have hcall := fits_c B pb hpb t lv hlv hlv2 _ p _ hp0 hp hty (hcW.alloc _) (by simp; omega)
      have HL := Lib.hid hlook; have HB := Lib.hid hbV; have HC := Lib.hid hcall
      clear hlook hbV hcall hty hsome hbW hcW hR hc hu hm ih hlv hlv2 hp0 hsub hg
      subst hW
      generalize (sizeT t : Int) = q at HC ⊢
      unfold partsV at HC
      go_enter Tryz.func16, Tryz.ntmps16
      go_wp2_with fail
      rw [HL.out]
      simp only [Result.andThen]
      rw [Oper.upon_value]
      go_wp2_with (go_at_call 35; refine HC.out.mono ?_; rintro e w' ⟨rfl, hb, hk⟩; have HB2 := Lib.hid hb; have HK := Lib.hid hk; clear hb hk)
      go_ret
      exact ⟨rfl, HB2.out, (Keep.of_new HB.out).trans HK.out fun _ _ h => h⟩
    | none =>
      rw [hg] at hlook
      have hsub : substT g (.mk n a) = .mk n (substL g a) := by rw [substT, hg]
      rw [hsub] at hp0 hlv ⊢
      rw [sizeT] at hp0 ⊢
      rw [deepT] at hlv
      have hw : IntKind.i64.wrap (p - 1) = p - 1 := IntWalk.i64_in _ (by omega)
      have h0 : 0 ≤ p - 1 := by omega
      have hlv0 : 0 < lv := by omega
      obtain ⟨V, hV⟩ : ∃ V, V = (W.alloc (.cells #[.string n', .slice A' l' c'] 24)) := ⟨_, rfl⟩
      have hbV : Below w.heap.size w V := by rw [hV]; exact hbW.alloc (by omega) _
      have hcV : Blk V pb 3 #[.int .i64 p] := by rw [hV]; exact hcW.alloc _
      have szV : V.heap.size = w.heap.size + 5 := by rw [hV, World.size_alloc, hsz]
      have d1 := hcV.cell 0
      have d2 := hcV.frozen 0
      simp at d1
      have hcS := hcV.set_ 0 (.int .i64 (p - 1))
      have hkS := (Keep.of_new (F := fun b => b = pb) hbV).set ⟨pb, 0, none⟩ rfl (.int .i64 (p - 1))
      have hkS2 : Keep (fun b => b = pb) V (V.setCell ⟨pb, 0, none⟩ (.int .i64 (p - 1))) := (Keep.refl (fun b => b = pb) V).set ⟨pb, 0, none⟩ rfl _
      have w1 : V.cell? ⟨w.heap.size + 1, 0, none⟩ = some (.map mo) := by rw [hV, hW]; exact (cell_alloc_o _ _ _ (by simp only [World.size_alloc]; omega)).trans ((cell_alloc_o _ _ _ (by simp only [World.size_alloc]; omega)).trans ((cell_alloc_o _ _ _ (by simp only [World.size_alloc]; omega)).trans (cell_alloc_n _ _ _ (by simp only [World.size_alloc]))))
      have w2 : V.cell? ⟨w.heap.size + 2, 0, none⟩ = some (.pointer (some ⟨pb, 0, none⟩)) := by rw [hV, hW]; exact (cell_alloc_o _ _ _ (by simp only [World.size_alloc]; omega)).trans ((cell_alloc_o _ _ _ (by simp only [World.size_alloc]; omega)).trans (cell_alloc_n _ _ _ (by simp only [World.size_alloc])))
      have w3 : V.cell? ⟨w.heap.size + 3, 0, none⟩ = some (.int .i64 lv) := by rw [hV, hW]; exact (cell_alloc_o _ _ _ (by simp only [World.size_alloc]; omega)).trans (cell_alloc_n _ _ _ (by simp only [World.size_alloc]))
      have w0 : V.cell? ⟨w.heap.size, 1, none⟩ = some (.slice A a.length c) := by rw [hV, hW]; exact (cell_alloc_o _ _ _ (by simp only [World.size_alloc]; omega)).trans ((cell_alloc_o _ _ _ (by simp only [World.size_alloc]; omega)).trans ((cell_alloc_o _ _ _ (by simp only [World.size_alloc]; omega)).trans ((cell_alloc_o _ _ _ (by simp only [World.size_alloc]; omega)).trans (cell_alloc_n _ _ _ rfl))))
      have hlen : (substL g a).length = a.length := by rw [substL_map]; simp
      have hcon := contains_none (fun k W' => Blk W' pb 3 #[.int .i64 (p - 1 - sizeL ((substL g a).take k))] ∧ Keep (fun b => b = pb) V W') B a A c 38 #[.pointer (some ⟨w.heap.size + 1, 0, none⟩), .pointer (some ⟨w.heap.size + 2, 0, none⟩), .pointer (some ⟨w.heap.size + 3, 0, none⟩)]
        (fun s W' h => (hR.under (hbV.mono hBw)).under (h.2.below (fun x hx e => by omega) (by omega))) (enters_of Tryz.func38 (by kernel_rfl) rfl) (fun k hk W' u h hv => by
          have e1 : W'.cell? ⟨w.heap.size + 1, 0, none⟩ = some (.map mo) := (cell_of_block (h.2.block (w.heap.size + 1) (by omega) (by omega)) 0).trans w1
          have e2 : W'.cell? ⟨w.heap.size + 2, 0, none⟩ = some (.pointer (some ⟨pb, 0, none⟩)) := (cell_of_block (h.2.block (w.heap.size + 2) (by omega) (by omega)) 0).trans w2
          have e3 : W'.cell? ⟨w.heap.size + 3, 0, none⟩ = some (.int .i64 lv) := (cell_of_block (h.2.block (w.heap.size + 3) (by omega) (by omega)) 0).trans w3
          have hmem : a[k] ∈ a := List.getElem_mem hk
          have hat : (substL g a)[k]'(by omega) = substT g a[k] := by simp [substL_map]
          have hd := deepL_mem (List.getElem_mem (show k < (substL g a).length by omega))
          have hs := sizeL_take (substL g a) k (by omega)
          have hs2 := sizeL_take_le (substL g a) (k + 1)
          rw [hat] at hd hs
          refine (fitsR1_c B pb (w.heap.size + 1) (w.heap.size + 2) (w.heap.size + 3) mo g a[k] lv (by omega) (ih _ hmem (lv - 1) (by omega) (by omega)) u (p - 1 - sizeL ((substL g a).take k)) W' (by omega) (by omega) hv ((hm.under (hbV.mono hBw)).under (h.2.below (fun x hx e => by omega) (by omega))) h.1 (by have := h.2.size; omega) e1 e2 e3).mono ?_
          rintro e w' ⟨rfl, q1, q2⟩
          refine ⟨rfl, ?_, h.2.trans q2 fun x _ h => h⟩
          rw [hs]
          rw [show p - 1 - ((sizeL ((substL g a).take k) + sizeT (substT g a[k]) : Nat) : Int) = p - 1 - (sizeL ((substL g a).take k) : Nat) - (sizeT (substT g a[k]) : Nat) by omega]
          exact q1) (V.setCell ⟨pb, 0, none⟩ (.int .i64 (p - 1))) ⟨by simpa [sizeL] using hcS, hkS2⟩
      rw [← hlen, sizeL_takeAll, hlen] at hcon
      rw [show p - ((1 + sizeL (substL g a) : Nat) : Int) = p - 1 - (sizeL (substL g a) : Nat) by omega]
      have HL := Lib.hid hlook; have HCON := Lib.hid hcon; have HKV := Lib.hid (Keep.of_new (F := fun b => b = pb) hbV); have HCS := Lib.hid hcS
      clear hcon hR hcW hc hu ih hcS hkS hkS2 hbW w1 w2 w3 hbV hcV hp0 hlook hsome hg hsub hlen hlv hm
      generalize (sizeL (substL g a) : Int) = sa at HCON ⊢
      subst hV
      subst hW
      go_enter Tryz.func16, Tryz.ntmps16
      go_wp2_with fail
      rw [HL.out]
      simp only [Result.andThen]
      rw [Oper.upon_value]
      go_wp2_with (go_at_call 37; refine HCON.out.mono ?_; rintro e w' ⟨rfl, hb, hk⟩; have HB := Lib.hid hb; have HK := Lib.hid hk; clear hb hk)
      go_ret
      exact ⟨rfl, HB.out, HKV.out.trans HK.out fun _ _ h => h⟩
end Go.Proofs.YtagmgkkicodbiaaGreatDoor
