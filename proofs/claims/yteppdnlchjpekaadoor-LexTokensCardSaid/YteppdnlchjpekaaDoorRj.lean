/- The document's own tokens of a text: the walk. -/
import Derived.Test.YteppdnlchjpekaaDoorRi
import Derived.Test.YteppdnlchjpekaaDoorYm
namespace Go.Proofs.YteppdnlchjpekaaDoor
open Go.RowKit Lx
open Go
attribute [local go_sem] Oper.semAt_some

theorem op_tokR (w : World) {o : Oper} {a : Act} {K : Act → World → Prop} {Q : Exit → Act → World → Prop} (hgd : o.guard = none) (s x : Operand)
    (ho : o.op = .call { callee := .builtin .append, args := #[s, x], argTypes := #[36, 36] })
    (B : Nat) (l : List T) (t : T) (v : Value) (hs : a.eval s = v) (h : OwnR B l w v) (g c : Nat) (hx : a.eval x = .slice (some ⟨g, 0, none⟩) 1 c) (hb : Blk w g 73 #[.int .i64 t.line, .int .i64 t.col, .int .u8 (t.kind : Int), .string t.text])
    (hl : l.length ≤ 100000000) (hB : B ≤ w.heap.size)
    (hK : ∀ v' w', OwnR B (l ++ [t]) w' v' → Below B w w' → w.grownBy w' v.ownBlock → K (a.put o.dst v') w') : Oper.wp Tryd.prog o a w K Q := by
  obtain ⟨i0, hi, hz0, hz1, hz2⟩ := info_parts infoR
  have h1 := step_append_own (E := False) (ops := #[]) (Q := Q) (K := K) w hgd s x 36 ho B 73 i0 _ 4 40 Tryd.underlying36 hi hz0 hz1 hz2 rfl (by decide) v l.length (tcells l) hs h ⟨g, 0, none⟩ 1 c [.int .i64 t.line, .int .i64 t.col, .int .u8 (t.kind : Int), .string t.text] hx rfl (fun j u hj => by
    have hc := hb.cell j
    rw [add0, hc]
    match j, hj with
    | 0, hj => simpa using hj
    | 1, hj => simpa using hj
    | 2, hj => simpa using hj
    | 3, hj => simpa using hj) (fun u hu => by
    simp at hu
    rcases hu with rfl | rfl | rfl | rfl <;> rfl) (by unfold maxLen; omega) (by omega) hB (fun v' w' h2 h3 _ => by
    refine hK v' w' ?_ ((Below.refl B w).grown h3 hB fun k hk => (World.ownsRow.lt h k hk).1) h3
    unfold OwnR
    rw [tcells_snoc, List.length_append]
    exact h2)
  rwa [if_pos (by unfold Region.wanted; rw [hgd])] at h1
/-- A Found in memory. -/
def Found3 (p : Nat) (a b c : Value) (W : World) : Prop := W.cell? ⟨p, 0, none⟩ = some a ∧ W.cell? ⟨p, 1, none⟩ = some b ∧ W.cell? ⟨p, 2, none⟩ = some c
theorem Blk.found {W : World} {p : Nat} {t : TypeId} {a b c : Value} (h : Blk W p t #[a, b, c]) : Found3 p a b c W := ⟨(h.cell 0).trans rfl, (h.cell 1).trans rfl, (h.cell 2).trans rfl⟩
/-- What the document's Tokens gives. -/
def GivesR (w : World) (x : List T × (Nat × Nat) × Nat) (e : Ending) (w' : World) : Prop :=
  ∃ A c, e = .returned (.tuple #[.slice A x.1.length c, .agg #[.int .i64 (x.2.1.1 : Int), .int .i64 (x.2.1.2 : Int)], .int .i64 (x.2.2 : Int)]) ∧ TRep w' w'.heap.size x.1 A c ∧ Below w.heap.size w w'
theorem gives_mk {w w' : World} {x : List T × (Nat × Nat) × Nat} {A : Option Addr} {c : Nat} {l : List T} {p : Nat × Nat} {er : Nat} (hx : x = (l, p, er)) (hv : TRep w' w'.heap.size l A c) (hb : Below w.heap.size w w') {e : Value} (he : e = .tuple #[.slice A l.length c, .agg #[.int .i64 (p.1 : Int), .int .i64 (p.2 : Int)], .int .i64 (er : Int)]) : GivesR w x (.returned e) w' := by
  subst hx he
  exact ⟨A, c, rfl, hv, hb⟩
theorem OwnR.under {B : Nat} {l : List T} {w w' : World} {v : Value} (h : OwnR B l w v) (hb : Below w.heap.size w w') : OwnR B l w' v :=
  World.ownsRow.kept h (row := none) ⟨hb.os, hb.tape, hb.output, hb.size, fun j hj _ => hb.block j hj⟩ (by by_cases h : v.ownBlock = none; exact .inl h; exact .inr h)
theorem trepR_apart {w : World} {B : Nat} {l : List T} {v : Value} (h : OwnR B l w v) : ∃ A c, v = .slice A l.length c ∧ TRep w w.heap.size l A c ∧ ∀ a, A = some a → B ≤ a.block := by
  obtain ⟨A, c, e, htr⟩ := trepR_own h
  rcases h.2 with ⟨rfl, h0⟩ | ⟨g, cap, cur, rfl, hB, _⟩
  · injection e with e1 e2 e3
    subst e1 e3
    exact ⟨none, 0, by rw [← e2], htr, fun a ha => by cases ha⟩
  · injection e with e1 _ e3
    subst e1 e3
    exact ⟨_, cap, rfl, htr, fun a ha => by injection ha with ha; subst ha; exact hB⟩
theorem trepR_set {w : World} {l : List T} {A : Option Addr} {c b i : Nat} {x : Value} (h : TRep w w.heap.size l A c) (hne : ∀ a, A = some a → b < a.block) : TRep (w.setCell ⟨b, i, none⟩ x) (w.setCell ⟨b, i, none⟩ x).heap.size l A c := by
  obtain ⟨h1, h2, h3⟩ := h
  refine ⟨h1, h2, fun j hj => ?_⟩
  obtain ⟨g, off, e, hg, c0, c1, c2, c3⟩ := h3 j hj
  have hb := hne _ e
  have key : ∀ o, (w.setCell ⟨b, i, none⟩ x).cell? ⟨g, o, none⟩ = w.cell? ⟨g, o, none⟩ := fun o => World.cell?_setCell_other w _ _ _ (by intro e; injection e with e; dsimp only at hb; omega)
  exact ⟨g, off, e, by simpa using hg, (key _).trans c0, (key _).trans c1, (key _).trans c2, (key _).trans c3⟩
set_option maxRecDepth 100000 in
set_option maxHeartbeats 16000000 in
theorem rtokens_c (s : ByteArray) (hs : s.size ≤ 65536) (w : World) :
    Calls Tryd.prog 13 #[.string s] w fun e w' => GivesR w (toks s.data.toList) e w' := by
  have hmax : maxLen = 9223372036854775807 := rfl
  have hszl := size_list s
  obtain ⟨X, hX⟩ : ∃ X, X = toks s.data.toList := ⟨_, rfl⟩
  have hgo := goes_start s.data.toList (by omega)
  rw [← hX] at hgo ⊢
  have hbig : ¬ (65536 : Int) < (s.size : Int) := by omega
  have hbk := Blk.new w 24 #[.int .i64 0, .int .i64 0]
  have hb0 : Below w.heap.size w (w.alloc (.cells #[.int .i64 0, .int .i64 0] 24)) := (Below.refl _ _).alloc (Nat.le_refl _) _
  have HBK0 := Lib.hid hbk; have HB0 := Lib.hid hb0; have HGO0 := Lib.hid hgo; have HSZ := Lib.hid hszl
  clear hbk hb0 hgo hX hszl
  go_enter Tryd.func13, Tryd.ntmps13
  go_wp2_with fail
  generalize w.alloc (.cells #[.int .i64 0, .int .i64 0] 24) = W0 at HBK0 HB0 ⊢
  go_loopg [5, 6] (s.size + 1) (fun gg s5 s6 wr => ∃ (i : Nat) (acc : List T), i ≤ s.size ∧ gg = s.size + 1 - i ∧ s6 = .int .i64 (i : Int) ∧ acc.length ≤ i ∧ OwnR W0.heap.size acc wr s5 ∧ Goes s.data.toList X i acc ∧ Below W0.heap.size W0 wr)
  case atStart => exact ⟨0, [], Nat.zero_le _, by omega, rfl, Nat.zero_le _, ⟨rfl, .inl ⟨rfl, rfl⟩⟩, HGO0.out, Below.refl _ _⟩
  case round =>
    clear HGO0
    obtain ⟨i, acc, hi, hg, rfl, hal, hy, hgo, hu⟩ := hrel
    have HG := Lib.hid hg; have HU := Lib.hid hu; have HY := Lib.hid hy; have HGO := Lib.hid hgo
    have HBK := Lib.hid (HBK0.out.below hu HBK0.out.lt)
    have HB := Lib.hid (HB0.out.trans (hu.mono HB0.out.size))
    have d0 := HBK.out.cell 0; have d1 := HBK.out.cell 1; have z0 := HBK.out.frozen 0; have z1 := HBK.out.frozen 1
    simp at d0 d1
    clear hg hu hy hgo
    by_cases his : i < s.size
    · have hiz : (i : Int) < (s.size : Int) := by omega
      have hil : i < s.data.toList.length := by rw [← HSZ.out]; exact his
      have hdr := drop_at s i his
      have hci : s.data.toList[i]? = some s[i] := List.getElem?_eq_getElem hil
      obtain ⟨c, hcc⟩ : ∃ c, c = s[i] := ⟨_, rfl⟩
      have hcz : (s[i].toNat : Int) = (c.toNat : Int) := by rw [hcc]
      rw [← hcc] at hdr hci
      have HDR := Lib.hid hdr; have HCI := Lib.hid hci
      clear hdr hci hcc
      by_cases hbl : blanks.contains c = true
      · have hm := List.contains_iff_mem.1 hbl
        simp [blanks] at hm
        have hgo1 := Lib.hid (goes_blank HGO.out hil HDR.out hbl)
        clear hbl
        rcases hm with rfl | rfl | rfl | rfl
        all_goals
          have hz := hcz
          clear hcz
          simp at hz
          go_wp2_with fail
          go_roundg (s.size + 1 - (i + 1))
          case measure => have := HG.out; omega
          case rel => exact ⟨i + 1, acc, by omega, rfl, by go_num, by omega, HY.out, hgo1.out, HU.out⟩
      · have hbf : blanks.contains c = false := by simpa using hbl
        have hn32 : c ≠ 32 := by rintro rfl; exact absurd hbf (by decide)
        have hn9 : c ≠ 9 := by rintro rfl; exact absurd hbf (by decide)
        have hn10 : c ≠ 10 := by rintro rfl; exact absurd hbf (by decide)
        have hn13 : c ≠ 13 := by rintro rfl; exact absurd hbf (by decide)
        obtain ⟨a1, a1'⟩ := byte_ne (z := 32) rfl hn32
        obtain ⟨a2, a2'⟩ := byte_ne (z := 9) rfl hn9
        obtain ⟨a3, a3'⟩ := byte_ne (z := 10) rfl hn10
        obtain ⟨a4, a4'⟩ := byte_ne (z := 13) rfl hn13
        rw [← hcz] at a1 a1' a2 a2' a3 a3' a4 a4'
        clear hbl hn32 hn9 hn10 hn13
        by_cases h35 : c = 35
        · have hz : (s[i].toNat : Int) = 35 := by rw [hcz, h35]; rfl
          have HC35 := Lib.hid (show s.data.toList[i]? = some 35 by rw [HCI.out, h35])
          clear a1 a1' a2 a2' a3 a3' a4 a4' hcz h35 hbf HCI HDR
          go_wp2_with fail
          go_loopg [6] (s.size + 1 - i) (fun gg s6 wz => ∃ m : Nat, i ≤ m ∧ m ≤ s.size ∧ gg = s.size + 1 - m ∧ s6 = .int .i64 (m : Int) ∧ (10 : UInt8) ∉ (s.data.toList.drop i).take (m - i) ∧ wr = wz)
          case atStart => exact ⟨i, Nat.le_refl _, hi, rfl, rfl, by simp, rfl⟩
          case round =>
            obtain ⟨m, him, hm, hg2, rfl, hn, rfl⟩ := hrel
            have HG2 := Lib.hid hg2; have HN := Lib.hid hn
            clear hg2 hn
            by_cases hms : m < s.size
            · have hmz : (m : Int) < (s.size : Int) := by omega
              have hdm := drop_at s m hms
              have hgm := at_byte_drop s i m him hms
              obtain ⟨d, hdd⟩ : ∃ d, d = s[m] := ⟨_, rfl⟩
              have hdz : (s[m].toNat : Int) = (d.toNat : Int) := by rw [hdd]
              rw [← hdd] at hdm hgm
              by_cases h10 : d = 10
              · have hz2 : (s[m].toNat : Int) = 10 := by rw [hdz, h10]; rfl
                have him' : i < m := by
                  rcases Nat.eq_or_lt_of_le him with h | h
                  · subst h
                    have := HC35.out
                    rw [Nat.sub_self, List.getElem?_drop, Nat.add_zero, this] at hgm
                    injection hgm with hgm
                    rw [← hgm] at h10; exact absurd h10 (by decide)
                  · exact h
                have hgo1 := goes_rem HGO.out him' (by rw [← HSZ.out]; omega) HC35.out HN.out (Or.inr ⟨_, by rw [hdm, h10]⟩)
                have HGO1 := Lib.hid hgo1
                clear hgo1 hdm hgm hdd hdz h10
                go_wp2_with fail
                go_roundg (s.size + 1 - m)
                case measure => have := HG.out; omega
                case rel => exact ⟨m, acc, hm, rfl, rfl, by omega, HY.out, HGO1.out, HU.out⟩
              · obtain ⟨b1, b1'⟩ := byte_ne (z := 10) rfl h10
                rw [← hdz] at b1 b1'
                have HGM := Lib.hid hgm; have H10 := Lib.hid h10
                clear hdm hgm hdd hdz h10
                go_wp2_with fail
                go_roundg (s.size + 1 - (m + 1))
                case measure => have := HG2.out; omega
                case rel =>
                  refine ⟨m + 1, by omega, by omega, rfl, by go_num, ?_, rfl⟩
                  have hlt : m - i < (s.data.toList.drop i).length := (List.getElem?_eq_some_iff.1 HGM.out).1
                  rw [show m + 1 - i = (m - i) + 1 by omega, List.take_succ_eq_append_getElem hlt]
                  intro hh
                  rcases List.mem_append.1 hh with h | h
                  · exact HN.out h
                  · have h2 := List.mem_singleton.1 h
                    have h3 := HGM.out
                    rw [List.getElem?_eq_getElem hlt] at h3
                    injection h3 with h3
                    exact H10.out (by rw [← h3, ← h2])
            · obtain rfl : m = s.size := by omega
              have hmz : ¬ (s.size : Int) < (s.size : Int) := by omega
              have hgo1 := goes_rem HGO.out his (by rw [← HSZ.out]; exact Nat.le_refl _) HC35.out HN.out (Or.inl (List.drop_eq_nil_iff.2 (by rw [← HSZ.out]; exact Nat.le_refl _)))
              have HGO1 := Lib.hid hgo1
              clear hgo1
              go_wp2_with fail
              go_roundg (s.size + 1 - s.size)
              case measure => have := HG.out; omega
              case rel => exact ⟨s.size, acc, Nat.le_refl _, rfl, rfl, by omega, HY.out, HGO1.out, HU.out⟩
        · obtain ⟨a5, a5'⟩ := byte_ne (z := 35) rfl h35
          rw [← hcz] at a5 a5'
          obtain ⟨G1, G2⟩ := goes_tok HGO.out hil HDR.out hbf h35
          have hsz := first_size (s.data.toList.drop i)
          rw [List.length_drop, ← HSZ.out] at hsz
          have HAT := Lib.hid (rat_c s (by omega) i his wr)
          generalize hx : fFirst (s.data.toList.drop i) = x at *
          have HG1 := Lib.hid G1; have HG2 := Lib.hid G2
          have hn0 := hsz.2.1
          have hnl := hsz.1
          clear G1 G2 hsz hbf h35 hcz HCI HDR HGO hx
          by_cases he : x.2 = 0
          · have hatv : atV i x = .tuple #[.agg #[.int .u8 (x.1.1 : Int), .int .i64 ((i + x.1.2.2 : Nat) : Int), .string ⟨x.1.2.1.toArray⟩], .int .i64 0] := by unfold atV; rw [if_pos he]
            rw [hatv] at HAT
            have hn := hn0 he
            have hgt := HG2.out he
            obtain ⟨en, hen⟩ : ∃ en, en = i + x.1.2.2 := ⟨_, rfl⟩
            rw [← hen] at HAT hgt
            have hen1 : i < en := by omega
            have hen2 : en ≤ s.size := by omega
            have HGT := Lib.hid hgt
            clear hatv HG1 HG2 hn0 hgt hen
            go_wp2_with fail
            refine HAT.out.mono ?_
            rintro e0 w1 ⟨rfl, hb1⟩
            have hy1 := HY.out.under hb1
            have hw2 : Below wr.heap.size wr (w1.alloc (.cells #[.int .u8 (x.1.1 : Int), .int .i64 (en : Int), .string ⟨x.1.2.1.toArray⟩] 69)) := hb1.alloc hb1.size _
            have hy2 := hy1.alloc (.cells #[.int .u8 (x.1.1 : Int), .int .i64 (en : Int), .string ⟨x.1.2.1.toArray⟩] 69)
            have hx7 := Blk.new w1 69 #[.int .u8 (x.1.1 : Int), .int .i64 (en : Int), .string ⟨x.1.2.1.toArray⟩]
            have HY2 := Lib.hid hy2; have HX7 := Lib.hid hx7; have HW2 := Lib.hid hw2
            clear hb1 hy1 hw2 hy2 hx7
            go_upto_region 14 with fail
            generalize w1.alloc (.cells #[.int .u8 (x.1.1 : Int), .int .i64 (en : Int), .string ⟨x.1.2.1.toArray⟩] 69) = W2 at HY2 HX7 HW2 ⊢
            generalize hp7 : w1.heap.size = p7 at HX7 ⊢
            clear hp7
            have hss : ∀ W, Below W2.heap.size W2 W → Found3 p7 (.int .u8 (x.1.1 : Int)) (.int .i64 (en : Int)) (.string ⟨x.1.2.1.toArray⟩) W := fun W hW => (HX7.out.below hW HX7.out.lt).found
            have HSB := Lib.hid hss
            have HSS := Lib.hid (hss _ (Below.refl _ _).drew)
            clear hss
            refine chain_region (Found3 p7 (.int .u8 (x.1.1 : Int)) (.int .i64 (en : Int)) (.string ⟨x.1.2.1.toArray⟩)) 12 (by kernel_rfl) ?_
            refine T_take (i := 0) (v := u5) rfl (by kernel_rfl) (fun _ _ _ h => h) rfl (fun W hS => by obtain ⟨h1, h2, h3⟩ := hS; go_simp) HSS.out ?_
            refine T_take (i := 1) (v := .string s) rfl (by kernel_rfl) (fun _ _ _ h => h) rfl (fun W hS => by obtain ⟨h1, h2, h3⟩ := hS; go_simp) HSS.out ?_
            refine T_take (i := 2) (v := .int .i64 (i : Int)) rfl (by kernel_rfl) (fun _ _ _ h => h) rfl (fun W hS => by obtain ⟨h1, h2, h3⟩ := hS; go_simp) HSS.out ?_
            refine T_take (i := 4) (v := .pointer (some ⟨p7, 0, none⟩)) rfl (by kernel_rfl) (fun _ _ _ h => h) rfl (fun W hS => by obtain ⟨h1, h2, h3⟩ := hS; go_simp) HSS.out ?_
            refine T_take (i := 5) (v := .int .u8 (x.1.1 : Int)) rfl (by kernel_rfl) (fun _ _ _ h => h) rfl (fun W hS => by obtain ⟨h1, h2, h3⟩ := hS; go_simp) HSS.out ?_
            refine T_take (i := 6) (v := .pointer (some ⟨p7, 2, none⟩)) rfl (by kernel_rfl) (fun _ _ _ h => h) rfl (fun W hS => by obtain ⟨h1, h2, h3⟩ := hS; go_simp) HSS.out ?_
            refine T_take (i := 7) (v := .string ⟨x.1.2.1.toArray⟩) rfl (by kernel_rfl) (fun _ _ _ h => h) rfl (fun W hS => by obtain ⟨h1, h2, h3⟩ := hS; go_simp) HSS.out ?_
            refine T_one (i := 3) rfl (by kernel_rfl) rfl ?_
            refine op_callT #[.string s, .int .i64 (i : Int)] (by simp [go_sem]) (enters_of Tryd.func29 (by kernel_rfl) rfl _ _) (rplace_c s (by omega) i hi W2.drew) ?_
            rintro e0 w3 ⟨rfl, hb3⟩
            have HB3 := Lib.hid ((Below.refl W2.heap.size W2).drew.trans hb3)
            have HSS := Lib.hid (HSB.out _ HB3.out)
            have HY3 := Lib.hid (HY2.out.under HB3.out)
            clear hb3
            refine ⟨_, rfl, fun _ => HSS.out, ?_⟩
            refine T_take (i := 8) (v := .agg #[.int .i64 ((adv (1, 1) (s.data.toList.take i)).1 : Int), .int .i64 ((adv (1, 1) (s.data.toList.take i)).2 : Int), .int .u8 (x.1.1 : Int), .string ⟨x.1.2.1.toArray⟩]) rfl (by kernel_rfl) (fun _ _ _ h => h) rfl (fun W hS => by obtain ⟨h1, h2, h3⟩ := hS; go_simp) HSS.out ?_
            refine T_one (i := 9) rfl (by kernel_rfl) rfl ?_
            go_simp
            have hx3 := HX7.out.below HB3.out HX7.out.lt
            have HX3 := Lib.hid (hx3.alloc (.cells #[.int .i64 ((adv (1, 1) (s.data.toList.take i)).1 : Int), .int .i64 ((adv (1, 1) (s.data.toList.take i)).2 : Int), .int .u8 (x.1.1 : Int), .string ⟨x.1.2.1.toArray⟩] 73))
            have HU3 := Lib.hid ((HU.out.trans (HW2.out.mono HU.out.size)).trans (HB3.out.mono (by have := HU.out.size; have := HW2.out.size; omega)))
            clear hx3
            first | refine ⟨fun _ => HX3.out.found, ?_⟩ | refine ⟨HX3.out.found, ?_⟩
            refine T_one (i := 10) rfl (by kernel_rfl) rfl ?_
            refine op_tokR _ rfl _ _ rfl W0.heap.size acc ⟨((adv (1, 1) (s.data.toList.take i)).1 : Int), ((adv (1, 1) (s.data.toList.take i)).2 : Int), x.1.1, ⟨x.1.2.1.toArray⟩⟩ _ rfl (HY3.out.alloc _) w3.heap.size 1 rfl (Blk.new w3 73 _) (by omega) (by have := HU3.out.size; simp; omega) ?_
            intro v4 w4 hy4 hb4 hg4
            have hx4 := HX3.out.grown hg4 (fun h => own_blk_ne (HY3.out.alloc _) HX3.out (by decide) h.symm)
            have HY4 := Lib.hid hy4; have HX4 := Lib.hid hx4
            have HU4 := Lib.hid ((HU3.out.alloc HU3.out.size _).trans hb4)
            clear hy4 hb4 hg4 hx4
            refine ⟨fun _ => HX4.out.found, ?_⟩
            refine T_one (i := 11) rfl (by kernel_rfl) rfl ?_
            go_simp
            first | refine ⟨fun _ => HX4.out.found, ?_⟩ | refine ⟨HX4.out.found, ?_⟩
            refine T_done (by kernel_rfl) ?_
            have e1 := HX4.out.cell 1
            simp at e1
            go_wp2_with fail
            go_roundg (s.size + 1 - en)
            case measure => have := HG.out; omega
            case rel => exact ⟨en, _, hen2, rfl, rfl, by rw [List.length_append, List.length_singleton]; omega, HY4.out, HGT.out, HU4.out⟩
          · have hatv : atV i x = .tuple #[.agg #[.int .u8 0, .int .i64 0, .string ⟨#[]⟩], .int .i64 (x.2 : Int)] := by unfold atV; rw [if_neg he]
            rw [hatv] at HAT
            have HX := Lib.hid (HG1.out he)
            have hez : ¬ (x.2 : Int) = 0 := by omega
            have hez' : ((x.2 : Int) == 0) = false := by rw [beq_eq_false_iff_ne]; exact hez
            clear hatv HG1 HG2 hn0 he
            go_wp2_with fail
            refine HAT.out.mono ?_
            rintro e0 w1 ⟨rfl, hb1⟩
            have hb2 : Below wr.heap.size wr (w1.alloc (.cells #[.int .u8 0, .int .i64 0, .string ⟨#[]⟩] 69)) := hb1.alloc hb1.size _
            have HB2 := Lib.hid hb2
            clear hb1 hb2
            go_wp2_with fail
            refine (rplace_c s (by omega) i hi _).mono ?_
            rintro e0 w3 ⟨rfl, hb3⟩
            have HB3 := Lib.hid (HB2.out.trans (hb3.mono HB2.out.size))
            have HBK3 := Lib.hid (HBK.out.below HB3.out HBK.out.lt)
            clear hb3 d0 d1 z0 z1
            have d0 := HBK3.out.cell 0; have d1 := HBK3.out.cell 1; have z0 := HBK3.out.frozen 0; have z1 := HBK3.out.frozen 1
            simp at d0 d1
            go_wp2_with fail
            refine bodyPost_ret (retT Tryd.results13 rfl rfl rfl HBK3.out.store2) rfl (gives_mk HX.out (A := none) (c := 0) ⟨Nat.le_refl _, by unfold maxLen; omega, fun j hj => absurd hj (Nat.not_lt_zero _)⟩ (((HB.out.trans (HB3.out.mono HB.out.size)).setCell (Nat.le_refl _) _).setCell (Nat.le_refl _) _) rfl)
    · obtain rfl : i = s.size := by omega
      have hiz : ¬ (s.size : Int) < (s.size : Int) := by omega
      have hgo := HGO.out
      rw [HSZ.out] at hgo
      have HX := Lib.hid (goes_end hgo)
      obtain ⟨A, c0, hv, htr, hap⟩ := trepR_apart HY.out
      have HTR := Lib.hid htr; have HAP := Lib.hid (fun a h => Nat.lt_of_lt_of_le HBK0.out.lt (hap a h)); have HV := Lib.hid hv
      clear hgo htr hap hv
      rw [HV.out]
      go_wp2_with fail
      refine bodyPost_ret (retT Tryd.results13 rfl rfl rfl HBK.out.store2) rfl (gives_mk HX.out (trepR_set (trepR_set HTR.out HAP.out) HAP.out) ((HB.out.setCell (Nat.le_refl _) _).setCell (Nat.le_refl _) _) rfl)
end Go.Proofs.YteppdnlchjpekaaDoor
