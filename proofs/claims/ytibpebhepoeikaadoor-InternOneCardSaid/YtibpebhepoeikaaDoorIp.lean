/- InternOne: the walk. -/
import Derived.Test.YtibpebhepoeikaaDoorIo
namespace Go.Proofs.YtibpebhepoeikaaDoor
open Go.RowKit Go.Shelf Vp Tx
open Go
attribute [local go_sem] Oper.semAt_some

theorem wpList_I (w : World) {ops : Array Oper} {rest : List Oper} {o : Oper} {a : Act} {Q : Exit → Act → World → Prop} (hgd : o.guard = none) (s x : Operand)
    (ho : o.op = .call { callee := .builtin .append, args := #[s, x], argTypes := #[31, 31] })
    (R : Nat → Prop) (ns : List Int) (n : Int) (hn : -9223372036854775808 ≤ n ∧ n ≤ 9223372036854775807) (v : Value) (hs : a.eval s = v) (h : IOwn R ns w v) (g c : Nat) (hx : a.eval x = .slice (some ⟨g, 0, none⟩) 1 c) (hc : w.cell? ⟨g, 0, none⟩ = some (.int .i64 n))
    (hl : ns.length ≤ 100000000)
    (hK : ∀ v' w', IOwn (fun b => R b ∨ w.heap.size ≤ b) (ns ++ [n]) w' v' → w.grownBy w' v.ownBlock → wpList Tryd.prog ops Q rest (a.put o.dst v') w') : wpList Tryd.prog ops Q (o :: rest) a w :=
  wpList_plain hgd fun _ hK' => append_I w s x ho R ns n hn v hs h g c hx hc hl fun v' w' h1 h2 => hK' _ _ (hK v' w' h1 h2)
theorem wpList_G (w : World) {ops : Array Oper} {rest : List Oper} {o : Oper} {a : Act} {Q : Exit → Act → World → Prop} (hgd : o.guard = none) (s x : Operand)
    (ho : o.op = .call { callee := .builtin .append, args := #[s, x], argTypes := #[28, 28] })
    (R S : Nat → Prop) (ts : List V) (t : V) (v : Value) (hs : a.eval s = v) (h : OwnG R S ts w v) (ad : Addr) (c : Nat) (hx : a.eval x = .slice (some ad) 1 c) (k : Nat) (n : Int) (z : ByteArray) (A : Option Addr) (l c' : Nat)
    (hc : ∀ j u, [Value.int .u8 (k : Int), .int .i64 n, .string z, .slice A l c'][j]? = some u → w.cell? (ad.add j) = some u)
    (hu : Lies (fun b => S b ∧ v.ownBlock ≠ some b) w t (.agg #[.int .u8 (k : Int), .int .i64 n, .string z, .slice A l c']))
    (hl : ts.length ≤ 100000000)
    (hK : ∀ v' w', OwnG (fun b => R b ∨ w.heap.size ≤ b) S (ts ++ [t]) w' v' → w.grownBy w' v.ownBlock → wpList Tryd.prog ops Q rest (a.put o.dst v') w') : wpList Tryd.prog ops Q (o :: rest) a w :=
  wpList_plain hgd fun _ hK' => append_G w s x ho R S ts t v hs h ad c hx k n z A l c' hc hu hl fun v' w' h1 h2 => hK' _ _ (hK v' w' h1 h2)
theorem len_bulkL : ∀ l : List V, l.length ≤ bulkL l
  | [] => by simp
  | t :: l => by
    have := len_bulkL l
    cases t
    rw [bulkL, bulk, List.length_cons]
    omega
theorem OwnG.may_ne {w : World} {F S : Nat → Prop} {ts : List V} {wr : World} {v : Value} (h : OwnG (fun b => w.heap.size ≤ b ∧ ¬ F b) S ts wr v) {b : Nat} (hb : b < w.heap.size) : v.ownBlock ≠ some b := fun e => by
  obtain ⟨_, _, _, _, h4, _⟩ := h
  have := (h4 b e).1
  omega
def S28 (b0 : Nat) (k : Nat) (n : Int) (s : ByteArray) (A : Option Addr) (ln c : Nat) (gm om : Nat) (k' : Nat) (n' : Int) (s' : ByteArray) (A' : Option Addr) (ln' c' : Nat) (ga oa : Nat) (x : Int) (W : World) : Prop :=
  (W.cell? ⟨b0, 0, none⟩ = some (.int .u8 (k : Int)) ∧ W.cell? ⟨b0, 1, none⟩ = some (.int .i64 n) ∧ W.cell? ⟨b0, 2, none⟩ = some (.string s) ∧ W.cell? ⟨b0, 3, none⟩ = some (.slice A ln c)) ∧
  (W.cell? ⟨gm, om, none⟩ = some (.int .u8 (k' : Int)) ∧ W.cell? ⟨gm, om + 1, none⟩ = some (.int .i64 n') ∧ W.cell? ⟨gm, om + 2, none⟩ = some (.string s') ∧ W.cell? ⟨gm, om + 3, none⟩ = some (.slice A' ln' c')) ∧ W.cell? ⟨ga, oa, none⟩ = some (.int .i64 x)
theorem S28.below {b0 : Nat} {k : Nat} {n : Int} {s : ByteArray} {A : Option Addr} {ln c : Nat} {gm om : Nat} {k' : Nat} {n' : Int} {s' : ByteArray} {A' : Option Addr} {ln' c' : Nat} {ga oa : Nat} {x : Int} {W W' : World} {B : Nat} (h : S28 b0 k n s A ln c gm om k' n' s' A' ln' c' ga oa x W) (hb : Below B W W') (h0 : b0 < B) (h1 : gm < B) (h2 : ga < B) : S28 b0 k n s A ln c gm om k' n' s' A' ln' c' ga oa x W' := by
  obtain ⟨⟨p0, p1, p2, p3⟩, ⟨q0, q1, q2, q3⟩, r⟩ := h
  exact ⟨⟨(hb.cell (p := ⟨b0, 0, none⟩) h0).trans p0, (hb.cell (p := ⟨b0, 1, none⟩) h0).trans p1, (hb.cell (p := ⟨b0, 2, none⟩) h0).trans p2, (hb.cell (p := ⟨b0, 3, none⟩) h0).trans p3⟩, ⟨(hb.cell (p := ⟨gm, om, none⟩) h1).trans q0, (hb.cell (p := ⟨gm, om + 1, none⟩) h1).trans q1, (hb.cell (p := ⟨gm, om + 2, none⟩) h1).trans q2, (hb.cell (p := ⟨gm, om + 3, none⟩) h1).trans q3⟩, (hb.cell (p := ⟨ga, oa, none⟩) h2).trans r⟩
def S33 (gm o1 : Nat) (k : Nat) (n : Int) (s : ByteArray) (A : Option Addr) (ln c : Nat) (o2 : Nat) (k' : Nat) (n' : Int) (s' : ByteArray) (A' : Option Addr) (ln' c' : Nat) (ga a1 : Nat) (x : Int) (a2 : Nat) (y : Int) (W : World) : Prop :=
  (W.cell? ⟨gm, o1, none⟩ = some (.int .u8 (k : Int)) ∧ W.cell? ⟨gm, o1 + 1, none⟩ = some (.int .i64 n) ∧ W.cell? ⟨gm, o1 + 2, none⟩ = some (.string s) ∧ W.cell? ⟨gm, o1 + 3, none⟩ = some (.slice A ln c)) ∧
  (W.cell? ⟨gm, o2, none⟩ = some (.int .u8 (k' : Int)) ∧ W.cell? ⟨gm, o2 + 1, none⟩ = some (.int .i64 n') ∧ W.cell? ⟨gm, o2 + 2, none⟩ = some (.string s') ∧ W.cell? ⟨gm, o2 + 3, none⟩ = some (.slice A' ln' c')) ∧ W.cell? ⟨ga, a1, none⟩ = some (.int .i64 x) ∧ W.cell? ⟨ga, a2, none⟩ = some (.int .i64 y)
theorem S33.below {gm o1 : Nat} {k : Nat} {n : Int} {s : ByteArray} {A : Option Addr} {ln c : Nat} {o2 : Nat} {k' : Nat} {n' : Int} {s' : ByteArray} {A' : Option Addr} {ln' c' : Nat} {ga a1 : Nat} {x : Int} {a2 : Nat} {y : Int} {W W' : World} {B : Nat} (h : S33 gm o1 k n s A ln c o2 k' n' s' A' ln' c' ga a1 x a2 y W) (hb : Below B W W') (h1 : gm < B) (h2 : ga < B) : S33 gm o1 k n s A ln c o2 k' n' s' A' ln' c' ga a1 x a2 y W' := by
  obtain ⟨⟨p0, p1, p2, p3⟩, ⟨q0, q1, q2, q3⟩, r, r'⟩ := h
  exact ⟨⟨(hb.cell (p := ⟨gm, o1, none⟩) h1).trans p0, (hb.cell (p := ⟨gm, o1 + 1, none⟩) h1).trans p1, (hb.cell (p := ⟨gm, o1 + 2, none⟩) h1).trans p2, (hb.cell (p := ⟨gm, o1 + 3, none⟩) h1).trans p3⟩, ⟨(hb.cell (p := ⟨gm, o2, none⟩) h1).trans q0, (hb.cell (p := ⟨gm, o2 + 1, none⟩) h1).trans q1, (hb.cell (p := ⟨gm, o2 + 2, none⟩) h1).trans q2, (hb.cell (p := ⟨gm, o2 + 3, none⟩) h1).trans q3⟩, (hb.cell (p := ⟨ga, a1, none⟩) h2).trans r, (hb.cell (p := ⟨ga, a2, none⟩) h2).trans r'⟩
def Loop2 (w : World) (g : Nat) (l : List V) (i : Nat) (av mv : Value) (wr : World) : Prop :=
  ∃ (F : Nat → Prop) (ts ms : List V) (ns : List Int), Sofar w g F ts ms ns av mv wr ∧ Inv ts ms ns ∧ ts.length ≤ i ∧ ms.length ≤ i ∧ ∀ t ∈ ms, t ∈ l
set_option maxRecDepth 100000 in
set_option maxHeartbeats 16000000 in
theorem one_c (l : List V) (A : Option Addr) (c : Nat) (w : World) (hR : RRep w w.heap.size l A c) (htab : TabF w.heap.size w) :
    Calls Tryd.prog 5 #[.slice A l.length c] w fun e w' => e = .returned (.bool true) ∧ Below w.heap.size w w' := by
  have hl := hR.1; have hm := hR.2.1
  have hmax : maxLen = 9223372036854775807 := rfl
  have haw : ∀ W', Below w.heap.size w W' → Calls Tryd.prog 7 #[] W' fun e w' => e = .returned (.bool true) ∧ Below W'.heap.size W' w' := fun W' hb => awake_c W' ((htab.below hb).more hb.size)
  have HR := Lib.hid hR; have HTAB := Lib.hid htab; have HAW := Lib.hid haw
  clear hR htab haw
  go_enter Tryd.func5, Tryd.ntmps5
  go_wp2_with fail
  go_loopg [3, 4] (l.length + 1) (fun gg s5 s6 wr => ∃ (kk : Nat) (nn : Int), kk ≤ l.length ∧ gg = l.length + 1 - kk ∧ s5 = .int .i64 nn ∧ s6 = .int .i64 (kk : Int) ∧ Below w.heap.size w wr ∧ Summed3 l kk nn)
  case atStart => exact ⟨0, 0, Nat.zero_le _, by omega, rfl, rfl, Below.refl _ w, by omega, by omega, .inr (by rw [List.take_zero, bulkL]; omega)⟩
  case round =>
    obtain ⟨kk, nn, hkk, hg, rfl, rfl, hB, hS⟩ := hrel
    have HB := Lib.hid hB; have HG := Lib.hid hg; have HS := Lib.hid hS
    clear hB hg hS
    by_cases hnm : nn < 600
    · by_cases hlt : kk < l.length
      · have hltz : (kk : Int) < (l.length : Int) := by omega
        obtain ⟨b, off, rfl, hb, k', n', s', l', A', c', ht, hv, c0, c1, c2, c3⟩ := (HR.out.under HB.out).at_ hlt
        have hcall := weight3_c _ _ 600 wr (by decide) (by decide) (hv.more HB.out.size)
        have HC := Lib.hid hcall
        clear hcall hv ht
        go_wp2_with (go_at_call 17; refine HC.out.mono ?_; rintro e w' ⟨⟨r, rfl, hr⟩, hb'⟩; have HB' := Lib.hid hb'; clear hb'; have hS1 := HS.out.step hlt hnm hr; have hrw : IntKind.i64.wrap (nn + r) = nn + r := IntWalk.i64_in _ (by have := hS1.1; have := hS1.2.1; omega); have HS1 := Lib.hid hS1; clear hS1 hr)
        go_roundg (l.length + 1 - (kk + 1))
        case measure => have := HG.out; omega
        case rel => exact ⟨kk + 1, _, by omega, rfl, rfl, by go_num, HB.out.trans (HB'.out.mono HB.out.size), HS1.out⟩
      · have hltz : ¬ (kk : Int) < (l.length : Int) := by omega
        obtain rfl : kk = l.length := by omega
        have hlight : bulkL l < 600 := by
          have h3 := HS.out.2.2
          rw [List.take_length] at h3
          omega
        have HLI := Lib.hid hlight
        have hn6 : ¬ (600 : Int) ≤ nn := by omega
        clear hlight
        go_wp2_with fail
        refine (HAW.out _ HB.out).mono ?_
        rintro e w1 ⟨rfl, hb1⟩
        have HB1 := Lib.hid (HB.out.trans (hb1.mono HB.out.size)); clear hb1
        go_wp2_with fail
        refine (new_c w1).mono ?_
        rintro e w2 ⟨rfl, ht2, hb2⟩
        have hso : Sofar w w1.heap.size (fun b => b = w1.heap.size) [] [] [] (.slice none 0 0) (.slice none 0 0) w2 := ⟨ht2, fun b hb => ⟨by have := HB1.out.size; omega, by have := ht2.lt; omega⟩, IOwn.nil _ _, OwnG.nil _ _ _, HB1.out.trans (hb2.mono HB1.out.size)⟩
        have HSO := Lib.hid hso
        clear ht2 hb2 hso
        go_wp2_with fail
        go_loopg [6, 7, 8] (l.length + 1) (fun gg s6 s7 s8 wr => ∃ (i : Nat) (av mv : Value), i ≤ l.length ∧ gg = l.length + 1 - i ∧ av = s6 ∧ mv = s7 ∧ s8 = .int .i64 (i : Int) ∧ Loop2 w w1.heap.size l i av mv wr)
        case atStart => exact ⟨0, _, _, Nat.zero_le _, by omega, rfl, rfl, rfl, _, [], [], [], HSO.out, Inv.nil, Nat.le_refl _, Nat.le_refl _, fun t h => by cases h⟩
        case round =>
          clear HSO
          obtain ⟨i, av, mv, hi, hg, rfl, rfl, rfl, hl2⟩ := hrel
          obtain ⟨F, ts, ms, ns, hso, hin, htl, hml, hmem⟩ := hl2
          have HG2 := Lib.hid hg; have HSO := Lib.hid hso; have HIN := Lib.hid hin; have HMEM := Lib.hid hmem; have HTL := Lib.hid htl; have HML := Lib.hid hml
          have hll : l.length < 600 := Nat.lt_of_le_of_lt (len_bulkL l) HLI.out
          clear hg hso hin hmem htl hml
          by_cases hlt2 : i < l.length
          · have hltz2 : (i : Int) < (l.length : Int) := by omega
            obtain ⟨b, off, rfl, hb, k, n, s, l', A', c', ht, hv, c0, c1, c2, c3⟩ := HR.out.at_ hlt2
            have hcells : ∀ W', Below w.heap.size w W' → (W'.cell? ⟨b, off + i * 4, none⟩ = some (.int .u8 (k : Int)) ∧ W'.cell? ⟨b, off + i * 4 + 1, none⟩ = some (.int .i64 n) ∧ W'.cell? ⟨b, off + i * 4 + 2, none⟩ = some (.string s) ∧ W'.cell? ⟨b, off + i * 4 + 3, none⟩ = some (.slice A' l'.length c')) := fun W' hb' =>
              ⟨(hb'.cell (p := ⟨b, off + i * 4, none⟩) hb).trans c0, (hb'.cell (p := ⟨b, off + i * 4 + 1, none⟩) hb).trans c1, (hb'.cell (p := ⟨b, off + i * 4 + 2, none⟩) hb).trans c2, (hb'.cell (p := ⟨b, off + i * 4 + 3, none⟩) hb).trans c3⟩
            have HCE := Lib.hid hcells; have HV := Lib.hid hv
            have htx : chkV l[i] = 0 → (txtV l[i]).length ≤ 900000000 := fun hc => Nat.le_trans (txt_light HLI.out (List.getElem_mem hlt2) (valid_fine hc) (Tx.VRep.rng hv)) (by decide)
            have HTX := Lib.hid htx
            clear hcells hv ht c0 c1 c2 c3 hb htx
            go_wp2_with fail
            refine (len_c F ts w1.heap.size wr HSO.out.tab).mono ?_
            rintro e wr2 ⟨rfl, rfl⟩
            obtain ⟨c0, c1, c2, c3⟩ := HCE.out wr HSO.out.bel
            go_wp2_with fail
            refine (putv_c F ts w1.heap.size l[i] _ wr HSO.out.tab ((lies_old HV.out HSO.out.bel).mono fun x _ hx hF => by have hx : x < w.heap.size := hx; have := (HSO.out.fr x hF).1; omega) (by have := HTL.out; omega) HTX.out slim_valid ((HTAB.out.below HSO.out.bel).more HSO.out.bel.size)).mono ?_
            rintro e w3 ⟨h12, hk⟩
            clear c0 c1 c2 c3
            rcases h12 with ⟨h0, rfl, ht⟩ | ⟨h0, rfl, ht⟩
            · have hso3 := HSO.out.put hk ht
              have HSO3 := Lib.hid hso3; have H0 := Lib.hid h0
              have hck := check_c l[i] _ w3 ((HV.out.under hso3.bel).more hso3.bel.size)
              rw [h0] at hck
              have HCK := Lib.hid hck
              clear hk ht hso3 h0 hck
              obtain ⟨c0, c1, c2, c3⟩ := HCE.out w3 HSO3.out.bel
              go_wp2_with fail
              refine HCK.out.mono ?_
              rintro e w4 ⟨rfl, hb4⟩
              have hso4 := HSO3.out.below hb4
              have HSO4 := Lib.hid hso4
              clear hb4 hso4 c0 c1 c2 c3
              cases hp : pos ts (txtV l[i]) with
              | some m =>
                have hm : m < ts.length := by
                  obtain ⟨h, _⟩ := List.findIdx?_eq_some_iff_getElem.1 hp
                  exact h
                have e1 : putN ts l[i] = m := by unfold putN; rw [hp]; rfl
                have e2 : putL ts l[i] = ts := by unfold putL; rw [hp]; rfl
                have HINV := Lib.hid (HIN.out.put (fun x hx => (HSO.out.tab.ok x hx).1) H0.out)
                rw [e2, e1] at HINV
                rw [e2] at HSO4
                rw [e1]
                obtain ⟨q, hq⟩ : ∃ q, q = ts.length := ⟨_, rfl⟩
                rw [← hq] at hm ⊢
                have HQ := Lib.hid hq
                have m1 : ¬ (m : Int) < 0 := by omega
                have m2 : ¬ (q : Int) < (m : Int) := by omega
                have m3 : ¬ (m : Int) = (q : Int) := by omega
                have m4 : (m : Int) < (q : Int) := by omega
                clear e1 e2 hq hp
                go_wp2_with fail
                refine (len_c _ ts w1.heap.size w4 HSO4.out.tab).mono ?_
                rintro e w5 ⟨rfl, rfl⟩
                rw [← HQ.out]
                have hg5 : (w4.alloc (.cells #[.int .i64 (m : Int)] 3)).cell? ⟨w4.heap.size, 0, none⟩ = some (.int .i64 (m : Int)) := by
                  rw [(Blk.new w4 3 #[.int .i64 (m : Int)]).cell]; rfl
                have hso5 := HSO4.out.below ((Below.refl w4.heap.size w4).alloc (Nat.le_refl _) (.cells #[.int .i64 (m : Int)] 3))
                have HSO5 := Lib.hid hso5; have HG5 := Lib.hid hg5
                have hml3 : ns.length ≤ 100000000 := by have := HIN.out.len; have := HML.out; omega
                have hmr : -9223372036854775808 ≤ (m : Int) ∧ (m : Int) ≤ 9223372036854775807 := by have h1 := HTL.out; have h2 := HQ.out; omega
                have HML3 := Lib.hid hml3; have HMR := Lib.hid hmr
                clear hg5 hso5 hml3 hmr
                go_wp2_with (first
                  | (at_builtin; refine wpList_I _ rfl (.tmp 101) (.tmp 103) rfl _ ns (m : Int) HMR.out av rfl HSO5.out.all w4.heap.size 1 rfl HG5.out HML3.out ?_; intro v6 w6 hi6 hgr6; have hso6 := HSO5.out.int hi6 hgr6; have HSO6 := Lib.hid hso6; obtain ⟨c0, c1, c2, c3⟩ := HCE.out w6 hso6.bel; clear hi6 hgr6 hso6)
                  | (at_builtin; have hso7 := HSO6.out.below ((Below.refl w6.heap.size w6).alloc (Nat.le_refl _) (.cells #[.int .u8 (k : Int), .int .i64 n, .string s, .slice A' l'.length c'] 42)); refine wpList_G _ rfl (.tmp 105) (.tmp 110) rfl _ _ ms l[i] mv rfl hso7.may ⟨w6.heap.size, 0, none⟩ 1 rfl k n s A' l'.length c' (cell_addr (Blk.new w6 42 #[.int .u8 (k : Int), .int .i64 n, .string s, .slice A' l'.length c'])) ((lies_old HV.out hso7.bel).mono fun x _ hx => ⟨hx, hso7.may.may_ne hx⟩) (by have := HML.out; omega) ?_; intro v8 w8 hi8 hgr8; have HSO8 := Lib.hid (hso7.val hi8 hgr8); clear hi8 hgr8 hso7 c0 c1 c2 c3))
                go_roundg (l.length + 1 - (i + 1))
                case measure => have := HG2.out; omega
                case rel =>
                  refine ⟨i + 1, _, _, by omega, rfl, rfl, rfl, by go_num, _, _, _, _, HSO8.out, HINV.out, by have := HTL.out; omega, by have := HML.out; rw [List.length_append, List.length_singleton]; omega, fun x hx => ?_⟩
                  rcases List.mem_append.1 hx with hx | hx
                  · exact HMEM.out x hx
                  · rw [List.mem_singleton.1 hx]; exact List.getElem_mem hlt2
              | none =>
                have e1 : putN ts l[i] = ts.length := by unfold putN; rw [hp]; rfl
                have e2 : putL ts l[i] = ts ++ [l[i]] := by unfold putL; rw [hp]; rfl
                have HINV := Lib.hid (HIN.out.put (fun x hx => (HSO.out.tab.ok x hx).1) H0.out)
                rw [e2, e1] at HINV
                rw [e2] at HSO4
                rw [e1]
                obtain ⟨m, hq⟩ : ∃ q, q = ts.length := ⟨_, rfl⟩
                have he3 : ((ts ++ [l[i]]).length : Int) = (m : Int) + 1 := by simp; omega
                have HE3 := Lib.hid he3
                rw [← hq] at HINV ⊢
                have HQ := Lib.hid hq
                have m1 : ¬ (m : Int) < 0 := by omega
                have m2 : ¬ (m : Int) < (m : Int) := by omega
                have hmi : m ≤ i := by have := HTL.out; omega
                clear e1 e2 hq hp he3
                go_wp2_with fail
                refine (len_c _ (ts ++ [l[i]]) w1.heap.size w4 HSO4.out.tab).mono ?_
                rintro e w5 ⟨rfl, rfl⟩
                rw [HE3.out]
                have hg5 : (w4.alloc (.cells #[.int .i64 (m : Int)] 3)).cell? ⟨w4.heap.size, 0, none⟩ = some (.int .i64 (m : Int)) := by
                  rw [(Blk.new w4 3 #[.int .i64 (m : Int)]).cell]; rfl
                have hso5 := HSO4.out.below ((Below.refl w4.heap.size w4).alloc (Nat.le_refl _) (.cells #[.int .i64 (m : Int)] 3))
                have HSO5 := Lib.hid hso5; have HG5 := Lib.hid hg5
                have hml3 : ns.length ≤ 100000000 := by have := HIN.out.len; have := HML.out; omega
                have hmr : -9223372036854775808 ≤ (m : Int) ∧ (m : Int) ≤ 9223372036854775807 := by have h1 := HTL.out; have h2 := HQ.out; omega
                have HML3 := Lib.hid hml3; have HMR := Lib.hid hmr
                clear hg5 hso5 hml3 hmr
                go_wp2_with (first
                  | (at_builtin; refine wpList_I _ rfl (.tmp 101) (.tmp 103) rfl _ ns (m : Int) HMR.out av rfl HSO5.out.all w4.heap.size 1 rfl HG5.out HML3.out ?_; intro v6 w6 hi6 hgr6; have hso6 := HSO5.out.int hi6 hgr6; have HSO6 := Lib.hid hso6; obtain ⟨c0, c1, c2, c3⟩ := HCE.out w6 hso6.bel; clear hi6 hgr6 hso6)
                  | (at_builtin; have hso7 := HSO6.out.below ((Below.refl w6.heap.size w6).alloc (Nat.le_refl _) (.cells #[.int .u8 (k : Int), .int .i64 n, .string s, .slice A' l'.length c'] 42)); refine wpList_G _ rfl (.tmp 105) (.tmp 110) rfl _ _ ms l[i] mv rfl hso7.may ⟨w6.heap.size, 0, none⟩ 1 rfl k n s A' l'.length c' (cell_addr (Blk.new w6 42 #[.int .u8 (k : Int), .int .i64 n, .string s, .slice A' l'.length c'])) ((lies_old HV.out hso7.bel).mono fun x _ hx => ⟨hx, hso7.may.may_ne hx⟩) (by have := HML.out; omega) ?_; intro v8 w8 hi8 hgr8; have HSO8 := Lib.hid (hso7.val hi8 hgr8); clear hi8 hgr8 hso7 c0 c1 c2 c3))
                go_roundg (l.length + 1 - (i + 1))
                case measure => have := HG2.out; omega
                case rel =>
                  refine ⟨i + 1, _, _, by omega, rfl, rfl, rfl, by go_num, _, _, _, _, HSO8.out, HINV.out, by have := HTL.out; rw [List.length_append, List.length_singleton]; omega, by have := HML.out; rw [List.length_append, List.length_singleton]; omega, fun x hx => ?_⟩
                  rcases List.mem_append.1 hx with hx | hx
                  · exact HMEM.out x hx
                  · rw [List.mem_singleton.1 hx]; exact List.getElem_mem hlt2
            · have hso3 := HSO.out.put hk (ht.mono fun _ _ h => .inl h)
              have HSO3 := Lib.hid hso3
              have hck := check_c l[i] _ w3 ((HV.out.under hso3.bel).more hso3.bel.size)
              obtain ⟨z, hz⟩ : ∃ z, z = chkV l[i] := ⟨_, rfl⟩
              rw [← hz] at hck h0 ⊢
              have HCK := Lib.hid hck
              have hzn : ¬ z = 0 := h0
              clear hk ht hso3 h0 hck hz
              obtain ⟨c0, c1, c2, c3⟩ := HCE.out w3 HSO3.out.bel
              go_wp2_with fail
              refine HCK.out.mono ?_
              rintro e w4 ⟨rfl, hb4⟩
              have HSO4 := Lib.hid (HSO3.out.below hb4)
              clear hb4 c0 c1 c2 c3
              go_wp2_with fail
              go_roundg (l.length + 1 - (i + 1))
              case measure => have := HG2.out; omega
              case rel => exact ⟨i + 1, _, _, by omega, rfl, rfl, rfl, by go_num, _, _, _, _, HSO4.out, HIN.out, by have := HTL.out; omega, by have := HML.out; omega, HMEM.out⟩
          · have hltz2 : ¬ (i : Int) < (l.length : Int) := by omega
            obtain ⟨w5, rfl⟩ : ∃ w5 : World, w5 = wr := ⟨_, rfl⟩
            obtain ⟨A6, c6, rfl, hi6⟩ := HSO.out.all.rep
            obtain ⟨A7, c7, rfl, hl7⟩ := HSO.out.may.slice
            have hr7 : RRep w5 w5.heap.size ms A7 c7 := hl7.rep
            have HI6 := Lib.hid hi6; have HR7 := Lib.hid hr7
            have hlen6 : ns.length < 600 := by have := HIN.out.len; have := HML.out; omega
            have hms6 : ms.length = ns.length := HIN.out.len.symm
            have HMS6 := Lib.hid hms6
            have hcap6 := hi6.1; have hcap7 := hr7.1; have hc6m := hi6.2.1; have hc7m := hr7.2.1
            rw [hms6] at hcap7
            rw [hms6]
            clear hi6 hl7 hr7 hms6
            go_wp2_with fail
            go_loopg [12] (ns.length + 1) (fun gg s12 wq => ∃ j : Nat, j ≤ ns.length ∧ gg = ns.length + 1 - j ∧ s12 = .int .i64 (j : Int) ∧ Below w5.heap.size w5 wq)
            case atStart => exact ⟨0, Nat.zero_le _, by omega, rfl, Below.refl _ _⟩
            case round =>
              obtain ⟨j, hj, hg3, rfl, hbq⟩ := hrel
              have HG3 := Lib.hid hg3; have HBQ := Lib.hid hbq
              clear hg3 hbq
              by_cases hlt3 : j < ns.length
              · have hltz3 : (j : Int) < (ns.length : Int) := by omega
                have hltm : j < ms.length := by have := HMS6.out; omega
                obtain ⟨ga, oa, rfl, hga, cj⟩ := HI6.out.2.2.2 j hlt3
                obtain ⟨gm, om, rfl, hgm, k2, n2, s2, l2, A2, c2, ht2, hv2, d0, d1, d2, d3⟩ := HR7.out.at_ hltm
                obtain ⟨x, hx⟩ : ∃ x, x = ns[j] := ⟨_, rfl⟩
                rw [← hx] at cj
                have hxr := HI6.out.2.2.1 _ (List.getElem_mem hlt3)
                rw [← hx] at hxr
                have hat := HIN.out.atN hltm hlt3
                rw [← hx] at hat
                obtain ⟨m, hxm, hfv⟩ := HIN.out.find HSO.out.tab.apart hltm hlt3
                rw [← hx] at hxm
                have htab5 := HSO.out.tab.below HBQ.out
                have cjr := (HBQ.out.cell (p := ⟨ga, oa + j, none⟩) hga).trans cj
                have HCJ := Lib.hid cj; have HHX := Lib.hid hx; have HXR := Lib.hid hxr; have HAT := Lib.hid hat; have HXM := Lib.hid hxm; have HFV := Lib.hid hfv; have HT5 := Lib.hid htab5; have HV2 := Lib.hid hv2; have HGA := Lib.hid hga; have HGM := Lib.hid hgm; have HD := Lib.hid (And.intro d0 (And.intro d1 (And.intro d2 d3)))
                clear cj hx hxr hat hxm hfv htab5 hv2 ht2 d0 d1 d2 d3 hga hgm
                go_wp2_with fail
                refine (at_c F ts w1.heap.size x wr HT5.out HXR.out (by have := HTL.out; omega)).mono ?_
                rintro e w6 ⟨h14, hb6⟩
                rcases h14 with ⟨t, u, hat, _, rfl, hvu⟩ | ⟨hat, _⟩
                rotate_left
                · rw [HAT.out] at hat; cases hat
                rw [HAT.out] at hat
                injection hat with hat
                subst hat
                obtain ⟨k, n, s, l', A', c', q1, rfl, q2, q3, q4, q5⟩ := hvu.open_
                clear q1 q2 q3 q4 q5
                obtain ⟨W7, hW7⟩ : ∃ W, W = w6.alloc (.cells #[.int .u8 (k : Int), .int .i64 n, .string s, .slice A' l'.length c'] 42) := ⟨_, rfl⟩
                have hb7 : Below w6.heap.size w6 W7 := hW7 ▸ (Below.refl _ _).alloc (Nat.le_refl _) _
                have hbq7 := HBQ.out.trans ((hb6.trans (hb7.mono hb6.size)).mono HBQ.out.size)
                have hbx7 : Blk W7 w6.heap.size 42 #[.int .u8 (k : Int), .int .i64 n, .string s, .slice A' l'.length c'] := hW7 ▸ Blk.new _ _ _
                have hvu7 := (hvu.under hb7).more hb7.size
                have HB7 := Lib.hid hbq7; have HBX7 := Lib.hid hbx7; have HVU7 := Lib.hid hvu7; have HW7 := Lib.hid hW7
                obtain ⟨d0, d1, d2, d3⟩ := HD.out
                have d0 := (hbq7.cell (p := ⟨gm, om + j * 4, none⟩) HGM.out).trans d0; have d1 := (hbq7.cell (p := ⟨gm, om + j * 4 + 1, none⟩) HGM.out).trans d1; have d2 := (hbq7.cell (p := ⟨gm, om + j * 4 + 2, none⟩) HGM.out).trans d2; have d3 := (hbq7.cell (p := ⟨gm, om + j * 4 + 3, none⟩) HGM.out).trans d3
                rw [hW7] at d0 d1 d2 d3
                clear hb6 hvu hb7 hbq7 hbx7 hvu7 hW7 cjr
                go_wp2_with fail
                rw [← HW7.out]
                refine (find_c F ts w1.heap.size ms[j] _ W7 (HSO.out.tab.below HB7.out) ((HV2.out.under HB7.out).more HB7.out.size) (fun hc => Nat.le_trans (txt_light HLI.out (HMEM.out _ (List.getElem_mem hltm)) (valid_fine hc) (Tx.VRep.rng HV2.out)) (by decide)) ((HTAB.out.below (HSO.out.bel.trans (HB7.out.mono HSO.out.bel.size))).more (Nat.le_trans HSO.out.bel.size HB7.out.size))).mono ?_
                rintro e w8 ⟨rfl, hb8⟩
                rw [HFV.out]
                have HB8 := Lib.hid hb8
                clear hb8 d0 d1 d2 d3
                simp only [Option.getD_some, Option.isSome_some]
                obtain rfl := HXM.out
                have hbx8 := HBX7.out.below HB8.out HBX7.out.lt
                have hS8 : S28 w6.heap.size k n s A' l'.length c' gm (om + j * 4) k2 n2 s2 A2 l2.length c2 ga (oa + j) (m : Int) w8 := by
                  have hb58 := HB7.out.trans (HB8.out.mono HB7.out.size)
                  obtain ⟨d0, d1, d2, d3⟩ := HD.out
                  refine ⟨⟨?_, ?_, ?_, ?_⟩, ⟨(hb58.cell (p := ⟨gm, om + j * 4, none⟩) HGM.out).trans d0, (hb58.cell (p := ⟨gm, om + j * 4 + 1, none⟩) HGM.out).trans d1, (hb58.cell (p := ⟨gm, om + j * 4 + 2, none⟩) HGM.out).trans d2, (hb58.cell (p := ⟨gm, om + j * 4 + 3, none⟩) HGM.out).trans d3⟩, (hb58.cell (p := ⟨ga, oa + j, none⟩) HGA.out).trans HCJ.out⟩ <;> (rw [hbx8.cell]; rfl)
                have hs5 : w5.heap.size ≤ w8.heap.size := Nat.le_trans HB7.out.size HB8.out.size
                have hl1 : w6.heap.size < w8.heap.size := hbx8.lt
                have hl2 : gm < w8.heap.size := Nat.lt_of_lt_of_le HGM.out hs5
                have hl3 : ga < w8.heap.size := Nat.lt_of_lt_of_le HGA.out hs5
                have HS0 := Lib.hid hS8; have HL10 := Lib.hid hl1; have HL20 := Lib.hid hl2; have HL30 := Lib.hid hl3
                clear hbx8 hS8 hs5 hl1 hl2 hl3
                go_upto_region 28 with fail
                obtain ⟨WD, hWD⟩ : ∃ W', W' = w8.drew := ⟨_, rfl⟩
                have HBD : Hid (Below W7.heap.size W7 WD) := Lib.hid (by rw [hWD]; exact HB8.out.drew)
                have HS8 : Hid (S28 w6.heap.size k n s A' l'.length c' gm (om + j * 4) k2 n2 s2 A2 l2.length c2 ga (oa + j) (m : Int) WD) := Lib.hid (by rw [hWD]; exact HS0.out)
                have HL1 : Hid (w6.heap.size < WD.heap.size) := Lib.hid (by rw [hWD]; exact HL10.out)
                have HL2 : Hid (gm < WD.heap.size) := Lib.hid (by rw [hWD]; exact HL20.out)
                have HL3 : Hid (ga < WD.heap.size) := Lib.hid (by rw [hWD]; exact HL30.out)
                refine chain_region (S28 w6.heap.size k n s A' l'.length c' gm (om + j * 4) k2 n2 s2 A2 l2.length c2 ga (oa + j) (m : Int)) 23 (by kernel_rfl) ?_
                rw [← hWD]
                clear hWD HS0 HL10 HL20 HL30
                refine T_takeD (i := 0) (v := .int .i64 0) rfl (by kernel_rfl) (fun _ _ _ h => h) rfl (fun W hS => by go_simp) HS8.out ?_
                go_simp
                refine T_takeD (i := 1) (v := .bool false) rfl (by kernel_rfl) (fun _ _ _ h => h) rfl (fun W hS => by go_simp) HS8.out ?_
                go_simp
                refine T_takeD (i := 2) (v := .bool false) rfl (by kernel_rfl) (fun _ _ _ h => h) rfl (fun W hS => by go_simp) HS8.out ?_
                go_simp
                refine T_takeD (i := 3) (v := .agg #[.int .u8 (k : Int), .int .i64 n, .string s, .slice A' l'.length c']) rfl (by kernel_rfl) (fun _ _ _ h => h) rfl (fun W hS => by unfold S28 at hS; obtain ⟨⟨p0, p1, p2, p3⟩, ⟨q0, q1, q2, q3⟩, r⟩ := hS; go_simp) HS8.out ?_
                go_simp
                refine T_takeD (i := 4) (v := .slice (some ⟨gm, om, none⟩) ns.length c7) rfl (by kernel_rfl) (fun _ _ _ h => h) rfl (fun W hS => by go_simp) HS8.out ?_
                go_simp
                refine T_takeD (i := 5) (v := .int .i64 (j : Int)) rfl (by kernel_rfl) (fun _ _ _ h => h) rfl (fun W hS => by go_simp) HS8.out ?_
                go_simp
                refine T_takeD (i := 6) (v := .pointer (some ⟨gm, om + j * 4, none⟩)) rfl (by kernel_rfl) (fun _ _ _ h => h) rfl (fun W hS => by go_simp) HS8.out ?_
                go_simp
                refine T_takeD (i := 7) (v := .agg #[.int .u8 (k2 : Int), .int .i64 n2, .string s2, .slice A2 l2.length c2]) rfl (by kernel_rfl) (fun _ _ _ h => h) rfl (fun W hS => by unfold S28 at hS; obtain ⟨⟨p0, p1, p2, p3⟩, ⟨q0, q1, q2, q3⟩, r⟩ := hS; go_simp) HS8.out ?_
                go_simp
                refine T_one (i := 8) rfl (by kernel_rfl) rfl ?_
                refine op_guard ?_
                refine op_callT #[.agg #[.int .u8 (k : Int), .int .i64 n, .string s, .slice A' l'.length c'], .agg #[.int .u8 (k2 : Int), .int .i64 n2, .string s2, .slice A2 l2.length c2]] (by simp [go_sem]) (enters_of Tryd.func19 (by kernel_rfl) rfl _ _) (((same_c ms[j]) ms[j] _ _ WD ((HVU7.out.under HBD.out).more HBD.out.size) (((HV2.out.under HB7.out).under (HBD.out.mono HB7.out.size)).more (Nat.le_trans HB7.out.size HBD.out.size))).mono fun e w' h => And.intro (h.1.yes rfl) h.2) ?_
                rintro e w9 ⟨rfl, hb9⟩
                have hS9 := HS8.out.below hb9 HL1.out HL2.out HL3.out
                have HS9 := Lib.hid hS9; have HB9 := Lib.hid hb9
                clear hS9 hb9
                refine ⟨_, rfl, fun _ => HS9.out, ?_⟩
                go_simp
                refine T_takeD (i := 9) (v := .bool false) rfl (by kernel_rfl) (fun _ _ _ h => h) rfl (fun W hS => by go_simp) HS9.out ?_
                go_simp
                refine T_takeD (i := 10) (v := .bool false) rfl (by kernel_rfl) (fun _ _ _ h => h) rfl (fun W hS => by go_simp) HS9.out ?_
                go_simp
                refine T_takeD (i := 11) (v := .bool false) rfl (by kernel_rfl) (fun _ _ _ h => h) rfl (fun W hS => by go_simp) HS9.out ?_
                go_simp
                refine T_takeD (i := 12) (v := .bool true) rfl (by kernel_rfl) (fun _ _ _ h => h) rfl (fun W hS => by go_simp) HS9.out ?_
                go_simp
                refine T_takeD (i := 13) (v := .bool false) rfl (by kernel_rfl) (fun _ _ _ h => h) rfl (fun W hS => by go_simp) HS9.out ?_
                go_simp
                refine T_takeD (i := 14) (v := .bool false) rfl (by kernel_rfl) (fun _ _ _ h => h) rfl (fun W hS => by go_simp) HS9.out ?_
                go_simp
                refine T_takeD (i := 15) (v := .bool false) rfl (by kernel_rfl) (fun _ _ _ h => h) rfl (fun W hS => by go_simp) HS9.out ?_
                go_simp
                refine T_takeD (i := 16) (v := .int .i64 (m : Int)) rfl (by kernel_rfl) (fun _ _ _ h => h) rfl (fun W hS => by go_simp) HS9.out ?_
                go_simp
                refine T_takeD (i := 17) (v := .slice (some ⟨ga, oa, none⟩) ns.length c6) rfl (by kernel_rfl) (fun _ _ _ h => h) rfl (fun W hS => by go_simp) HS9.out ?_
                go_simp
                refine T_takeD (i := 18) (v := .int .i64 (j : Int)) rfl (by kernel_rfl) (fun _ _ _ h => h) rfl (fun W hS => by go_simp) HS9.out ?_
                go_simp
                refine T_takeD (i := 19) (v := .pointer (some ⟨ga, oa + j, none⟩)) rfl (by kernel_rfl) (fun _ _ _ h => h) rfl (fun W hS => by go_simp) HS9.out ?_
                go_simp
                refine T_takeD (i := 20) (v := .int .i64 (m : Int)) rfl (by kernel_rfl) (fun _ _ _ h => h) rfl (fun W hS => by unfold S28 at hS; obtain ⟨⟨p0, p1, p2, p3⟩, ⟨q0, q1, q2, q3⟩, r⟩ := hS; go_simp) HS9.out ?_
                go_simp
                refine T_takeD (i := 21) (v := .bool false) rfl (by kernel_rfl) (fun _ _ _ h => h) rfl (fun W hS => by go_simp) HS9.out ?_
                go_simp
                refine T_one (i := 22) rfl (by kernel_rfl) rfl ?_
                go_simp
                refine ⟨HS9.out, by kernel_rfl, ?_⟩
                have hb9 : Below w5.heap.size w5 w9 := HB7.out.trans ((HBD.out.trans (HB9.out.mono HBD.out.size)).mono HB7.out.size)
                have HW9 := Lib.hid hb9
                clear hb9
                go_wp2_with fail
                go_loopg [17] (j + 1) (fun gg s17 wq => ∃ q : Nat, q ≤ j ∧ gg = j + 1 - q ∧ s17 = .int .i64 (q : Int) ∧ Below w9.heap.size w9 wq)
                case atStart => exact ⟨0, Nat.zero_le _, by omega, rfl, Below.refl _ _⟩
                case round =>
                  obtain ⟨q, hq, hg4, rfl, hbw⟩ := hrel
                  have HG4 := Lib.hid hg4; have HBW0 := Lib.hid hbw
                  clear hg4 hbw
                  by_cases hlt4 : q < j
                  · have hltz4 : (q : Int) < (j : Int) := by omega
                    have hqn : q < ns.length := by omega
                    have hqm : q < ms.length := by omega
                    obtain ⟨ga', oa', ea, hga', cq⟩ := HI6.out.2.2.2 q hqn
                    injection ea with ea
                    injection ea with ea1 ea2
                    subst ea1 ea2
                    obtain ⟨gm', om', em, hgm', k3, n3, s3, l3, A3, c3, ht3, hv3, d0, d1, d2, d3⟩ := HR7.out.at_ hqm
                    injection em with em
                    injection em with em1 em2
                    subst em1 em2
                    have hb5w : Below w5.heap.size w5 wr := HW9.out.trans (HBW0.out.mono HW9.out.size)
                    have hone := HIN.out.one HSO.out.tab.apart hltm hlt3 hqm hqn
                    rw [← HHX.out] at hone
                    obtain ⟨y, hy⟩ : ∃ y, y = ns[q] := ⟨_, rfl⟩
                    rw [← hy] at cq hone
                    have hyr := HI6.out.2.2.1 _ (List.getElem_mem hqn)
                    rw [← hy] at hyr
                    obtain ⟨WD2, hWD2⟩ : ∃ W', W' = wr.drew := ⟨_, rfl⟩
                    have hbD : Below w5.heap.size w5 WD2 := by rw [hWD2]; exact hb5w.drew
                    have hSD : S33 gm (om + j * 4) k2 n2 s2 A2 l2.length c2 (om + q * 4) k3 n3 s3 A3 l3.length c3 ga (oa + j) (m : Int) (oa + q) y WD2 := by
                      obtain ⟨f0, f1, f2, f3⟩ := HD.out
                      exact ⟨⟨(hbD.cell (p := ⟨gm, om + j * 4, none⟩) HGM.out).trans f0, (hbD.cell (p := ⟨gm, om + j * 4 + 1, none⟩) HGM.out).trans f1, (hbD.cell (p := ⟨gm, om + j * 4 + 2, none⟩) HGM.out).trans f2, (hbD.cell (p := ⟨gm, om + j * 4 + 3, none⟩) HGM.out).trans f3⟩, ⟨(hbD.cell (p := ⟨gm, om + q * 4, none⟩) HGM.out).trans d0, (hbD.cell (p := ⟨gm, om + q * 4 + 1, none⟩) HGM.out).trans d1, (hbD.cell (p := ⟨gm, om + q * 4 + 2, none⟩) HGM.out).trans d2, (hbD.cell (p := ⟨gm, om + q * 4 + 3, none⟩) HGM.out).trans d3⟩, (hbD.cell (p := ⟨ga, oa + j, none⟩) HGA.out).trans HCJ.out, (hbD.cell (p := ⟨ga, oa + q, none⟩) HGA.out).trans cq⟩
                    have hcs := (same_c ms[j]) ms[q] _ _ WD2 ((HV2.out.under hbD).more hbD.size) ((hv3.under hbD).more hbD.size)
                    have HSD := Lib.hid hSD
                    have HBW : Hid (Below w9.heap.size w9 WD2) := Lib.hid (by rw [hWD2]; exact HBW0.out.drew)
                    have HLM : Hid (gm < WD2.heap.size) := Lib.hid (Nat.lt_of_lt_of_le HGM.out hbD.size)
                    have HLA : Hid (ga < WD2.heap.size) := Lib.hid (Nat.lt_of_lt_of_le HGA.out hbD.size)
                    have HWD2 := Lib.hid hWD2
                    clear hga' cq hgm' ht3 hv3 d0 d1 d2 d3 hb5w hbD hSD hWD2 hy
                    by_cases hxy : (m : Int) = y
                    · have hms := hone.1 hxy
                      have HSAME := Lib.hid (hcs.mono fun e w' h => And.intro (h.1.yes hms) h.2)
                      subst hxy
                      clear hone hms hcs
                      go_upto_region 33 with fail
                      refine chain_region (S33 gm (om + j * 4) k2 n2 s2 A2 l2.length c2 (om + q * 4) k3 n3 s3 A3 l3.length c3 ga (oa + j) (m : Int) (oa + q) (m : Int)) 19 (by kernel_rfl) ?_
                      rw [← HWD2.out]
                      refine T_takeD (i := 0) (v := .slice (some ⟨ga, oa, none⟩) ns.length c6) rfl (by kernel_rfl) (fun _ _ _ h => h) rfl (fun W hS => by go_simp) HSD.out ?_
                      go_simp
                      refine T_takeD (i := 1) (v := .int .i64 (j : Int)) rfl (by kernel_rfl) (fun _ _ _ h => h) rfl (fun W hS => by go_simp) HSD.out ?_
                      go_simp
                      refine T_takeD (i := 2) (v := .pointer (some ⟨ga, oa + j, none⟩)) rfl (by kernel_rfl) (fun _ _ _ h => h) rfl (fun W hS => by go_simp) HSD.out ?_
                      go_simp
                      refine T_takeD (i := 3) (v := .int .i64 (m : Int)) rfl (by kernel_rfl) (fun _ _ _ h => h) rfl (fun W hS => by unfold S33 at hS; obtain ⟨⟨p0, p1, p2, p3⟩, ⟨q0, q1, q2, q3⟩, r, r'⟩ := hS; go_simp) HSD.out ?_
                      go_simp
                      refine T_takeD (i := 4) (v := .slice (some ⟨ga, oa, none⟩) ns.length c6) rfl (by kernel_rfl) (fun _ _ _ h => h) rfl (fun W hS => by go_simp) HSD.out ?_
                      go_simp
                      refine T_takeD (i := 5) (v := .int .i64 (q : Int)) rfl (by kernel_rfl) (fun _ _ _ h => h) rfl (fun W hS => by go_simp) HSD.out ?_
                      go_simp
                      refine T_takeD (i := 6) (v := .pointer (some ⟨ga, oa + q, none⟩)) rfl (by kernel_rfl) (fun _ _ _ h => h) rfl (fun W hS => by go_simp) HSD.out ?_
                      go_simp
                      refine T_takeD (i := 7) (v := .int .i64 (m : Int)) rfl (by kernel_rfl) (fun _ _ _ h => h) rfl (fun W hS => by unfold S33 at hS; obtain ⟨⟨p0, p1, p2, p3⟩, ⟨q0, q1, q2, q3⟩, r, r'⟩ := hS; go_simp) HSD.out ?_
                      go_simp
                      refine T_takeD (i := 8) (v := .bool true) rfl (by kernel_rfl) (fun _ _ _ h => h) rfl (fun W hS => by go_simp) HSD.out ?_
                      go_simp
                      refine T_takeD (i := 9) (v := .slice (some ⟨gm, om, none⟩) ns.length c7) rfl (by kernel_rfl) (fun _ _ _ h => h) rfl (fun W hS => by go_simp) HSD.out ?_
                      go_simp
                      refine T_takeD (i := 10) (v := .int .i64 (j : Int)) rfl (by kernel_rfl) (fun _ _ _ h => h) rfl (fun W hS => by go_simp) HSD.out ?_
                      go_simp
                      refine T_takeD (i := 11) (v := .pointer (some ⟨gm, om + j * 4, none⟩)) rfl (by kernel_rfl) (fun _ _ _ h => h) rfl (fun W hS => by go_simp) HSD.out ?_
                      go_simp
                      refine T_takeD (i := 12) (v := .agg #[.int .u8 (k2 : Int), .int .i64 n2, .string s2, .slice A2 l2.length c2]) rfl (by kernel_rfl) (fun _ _ _ h => h) rfl (fun W hS => by unfold S33 at hS; obtain ⟨⟨p0, p1, p2, p3⟩, ⟨q0, q1, q2, q3⟩, r, r'⟩ := hS; go_simp) HSD.out ?_
                      go_simp
                      refine T_takeD (i := 13) (v := .slice (some ⟨gm, om, none⟩) ns.length c7) rfl (by kernel_rfl) (fun _ _ _ h => h) rfl (fun W hS => by go_simp) HSD.out ?_
                      go_simp
                      refine T_takeD (i := 14) (v := .int .i64 (q : Int)) rfl (by kernel_rfl) (fun _ _ _ h => h) rfl (fun W hS => by go_simp) HSD.out ?_
                      go_simp
                      refine T_takeD (i := 15) (v := .pointer (some ⟨gm, om + q * 4, none⟩)) rfl (by kernel_rfl) (fun _ _ _ h => h) rfl (fun W hS => by go_simp) HSD.out ?_
                      go_simp
                      refine T_takeD (i := 16) (v := .agg #[.int .u8 (k3 : Int), .int .i64 n3, .string s3, .slice A3 l3.length c3]) rfl (by kernel_rfl) (fun _ _ _ h => h) rfl (fun W hS => by unfold S33 at hS; obtain ⟨⟨p0, p1, p2, p3⟩, ⟨q0, q1, q2, q3⟩, r, r'⟩ := hS; go_simp) HSD.out ?_
                      go_simp
                      refine T_one (i := 17) rfl (by kernel_rfl) rfl ?_
                      refine op_callT #[.agg #[.int .u8 (k2 : Int), .int .i64 n2, .string s2, .slice A2 l2.length c2], .agg #[.int .u8 (k3 : Int), .int .i64 n3, .string s3, .slice A3 l3.length c3]] (by simp [go_sem]) (enters_of Tryd.func19 (by kernel_rfl) rfl _ _) HSAME.out ?_
                      rintro e w11 ⟨rfl, hb11⟩
                      have hS11 := HSD.out.below hb11 HLM.out HLA.out
                      have HS11 := Lib.hid hS11; have HB11 := Lib.hid hb11
                      clear hS11 hb11
                      refine ⟨_, rfl, fun _ => HS11.out, ?_⟩
                      go_simp
                      refine T_one (i := 18) rfl (by kernel_rfl) rfl ?_
                      go_simp
                      refine ⟨HS11.out, by kernel_rfl, ?_⟩
                      have hbq11 : Below w9.heap.size w9 w11 := HBW.out.trans (HB11.out.mono HBW.out.size)
                      have HBQ11 := Lib.hid hbq11
                      clear hbq11
                      go_wp2_with fail
                      go_roundg (j + 1 - (q + 1))
                      case measure => have := HG4.out; omega
                      case rel => exact ⟨q + 1, by omega, rfl, by go_num, HBQ11.out⟩
                    · have hms : ms[j] ≠ ms[q] := fun e => hxy (hone.2 e)
                      have HSAME := Lib.hid (hcs.mono fun e w' h => And.intro (h.1.no hms) h.2)
                      clear hone hms hcs
                      go_upto_region 33 with fail
                      refine chain_region (S33 gm (om + j * 4) k2 n2 s2 A2 l2.length c2 (om + q * 4) k3 n3 s3 A3 l3.length c3 ga (oa + j) (m : Int) (oa + q) y) 19 (by kernel_rfl) ?_
                      rw [← HWD2.out]
                      refine T_takeD (i := 0) (v := .slice (some ⟨ga, oa, none⟩) ns.length c6) rfl (by kernel_rfl) (fun _ _ _ h => h) rfl (fun W hS => by go_simp) HSD.out ?_
                      go_simp
                      refine T_takeD (i := 1) (v := .int .i64 (j : Int)) rfl (by kernel_rfl) (fun _ _ _ h => h) rfl (fun W hS => by go_simp) HSD.out ?_
                      go_simp
                      refine T_takeD (i := 2) (v := .pointer (some ⟨ga, oa + j, none⟩)) rfl (by kernel_rfl) (fun _ _ _ h => h) rfl (fun W hS => by go_simp) HSD.out ?_
                      go_simp
                      refine T_takeD (i := 3) (v := .int .i64 (m : Int)) rfl (by kernel_rfl) (fun _ _ _ h => h) rfl (fun W hS => by unfold S33 at hS; obtain ⟨⟨p0, p1, p2, p3⟩, ⟨q0, q1, q2, q3⟩, r, r'⟩ := hS; go_simp) HSD.out ?_
                      go_simp
                      refine T_takeD (i := 4) (v := .slice (some ⟨ga, oa, none⟩) ns.length c6) rfl (by kernel_rfl) (fun _ _ _ h => h) rfl (fun W hS => by go_simp) HSD.out ?_
                      go_simp
                      refine T_takeD (i := 5) (v := .int .i64 (q : Int)) rfl (by kernel_rfl) (fun _ _ _ h => h) rfl (fun W hS => by go_simp) HSD.out ?_
                      go_simp
                      refine T_takeD (i := 6) (v := .pointer (some ⟨ga, oa + q, none⟩)) rfl (by kernel_rfl) (fun _ _ _ h => h) rfl (fun W hS => by go_simp) HSD.out ?_
                      go_simp
                      refine T_takeD (i := 7) (v := .int .i64 y) rfl (by kernel_rfl) (fun _ _ _ h => h) rfl (fun W hS => by unfold S33 at hS; obtain ⟨⟨p0, p1, p2, p3⟩, ⟨q0, q1, q2, q3⟩, r, r'⟩ := hS; go_simp) HSD.out ?_
                      go_simp
                      refine T_takeD (i := 8) (v := .bool false) rfl (by kernel_rfl) (fun _ _ _ h => h) rfl (fun W hS => by go_simp) HSD.out ?_
                      go_simp
                      refine T_takeD (i := 9) (v := .slice (some ⟨gm, om, none⟩) ns.length c7) rfl (by kernel_rfl) (fun _ _ _ h => h) rfl (fun W hS => by go_simp) HSD.out ?_
                      go_simp
                      refine T_takeD (i := 10) (v := .int .i64 (j : Int)) rfl (by kernel_rfl) (fun _ _ _ h => h) rfl (fun W hS => by go_simp) HSD.out ?_
                      go_simp
                      refine T_takeD (i := 11) (v := .pointer (some ⟨gm, om + j * 4, none⟩)) rfl (by kernel_rfl) (fun _ _ _ h => h) rfl (fun W hS => by go_simp) HSD.out ?_
                      go_simp
                      refine T_takeD (i := 12) (v := .agg #[.int .u8 (k2 : Int), .int .i64 n2, .string s2, .slice A2 l2.length c2]) rfl (by kernel_rfl) (fun _ _ _ h => h) rfl (fun W hS => by unfold S33 at hS; obtain ⟨⟨p0, p1, p2, p3⟩, ⟨q0, q1, q2, q3⟩, r, r'⟩ := hS; go_simp) HSD.out ?_
                      go_simp
                      refine T_takeD (i := 13) (v := .slice (some ⟨gm, om, none⟩) ns.length c7) rfl (by kernel_rfl) (fun _ _ _ h => h) rfl (fun W hS => by go_simp) HSD.out ?_
                      go_simp
                      refine T_takeD (i := 14) (v := .int .i64 (q : Int)) rfl (by kernel_rfl) (fun _ _ _ h => h) rfl (fun W hS => by go_simp) HSD.out ?_
                      go_simp
                      refine T_takeD (i := 15) (v := .pointer (some ⟨gm, om + q * 4, none⟩)) rfl (by kernel_rfl) (fun _ _ _ h => h) rfl (fun W hS => by go_simp) HSD.out ?_
                      go_simp
                      refine T_takeD (i := 16) (v := .agg #[.int .u8 (k3 : Int), .int .i64 n3, .string s3, .slice A3 l3.length c3]) rfl (by kernel_rfl) (fun _ _ _ h => h) rfl (fun W hS => by unfold S33 at hS; obtain ⟨⟨p0, p1, p2, p3⟩, ⟨q0, q1, q2, q3⟩, r, r'⟩ := hS; go_simp) HSD.out ?_
                      go_simp
                      refine T_one (i := 17) rfl (by kernel_rfl) rfl ?_
                      refine op_callT #[.agg #[.int .u8 (k2 : Int), .int .i64 n2, .string s2, .slice A2 l2.length c2], .agg #[.int .u8 (k3 : Int), .int .i64 n3, .string s3, .slice A3 l3.length c3]] (by simp [go_sem]) (enters_of Tryd.func19 (by kernel_rfl) rfl _ _) HSAME.out ?_
                      rintro e w11 ⟨rfl, hb11⟩
                      have hS11 := HSD.out.below hb11 HLM.out HLA.out
                      have HS11 := Lib.hid hS11; have HB11 := Lib.hid hb11
                      clear hS11 hb11
                      refine ⟨_, rfl, fun _ => HS11.out, ?_⟩
                      go_simp
                      refine T_one (i := 18) rfl (by kernel_rfl) rfl ?_
                      go_simp
                      refine ⟨HS11.out, by kernel_rfl, ?_⟩
                      have hbq11 : Below w9.heap.size w9 w11 := HBW.out.trans (HB11.out.mono HBW.out.size)
                      have HBQ11 := Lib.hid hbq11
                      clear hbq11
                      go_wp2_with fail
                      go_roundg (j + 1 - (q + 1))
                      case measure => have := HG4.out; omega
                      case rel => exact ⟨q + 1, by omega, rfl, by go_num, HBQ11.out⟩
                  · have hltz4 : ¬ (q : Int) < (j : Int) := by omega
                    obtain rfl : q = j := by omega
                    have hbz := HW9.out.trans (HBW0.out.mono HW9.out.size)
                    have HBZ := Lib.hid hbz
                    clear hbz
                    go_wp2_with fail
                    go_roundg (ns.length + 1 - (q + 1))
                    case measure => have := HG3.out; omega
                    case rel => exact ⟨q + 1, by omega, rfl, by go_num, HBZ.out⟩
              · have hltz3 : ¬ (j : Int) < (ns.length : Int) := by omega
                obtain rfl : j = ns.length := by omega
                have HROW := Lib.hid (row_c F ts w1.heap.size ns A6 c6 wr (HSO.out.tab.below HBQ.out) (by
                  obtain ⟨x1, x2, x3, x4⟩ := HI6.out.keep HBQ.out
                  refine ⟨x1, x2, x3, fun a ha => ?_⟩
                  obtain ⟨b, off, e1, e2, e3⟩ := x4 a ha
                  exact ⟨b, off, e1, Nat.lt_of_lt_of_le e2 HBQ.out.size, e3⟩) (by omega) (by have := HTL.out; omega))
                go_wp2_with fail
                refine HROW.out.mono ?_
                rintro e w6 ⟨h10, hb6⟩
                rcases h10 with ⟨l9, A9, e1, e2, e3, rfl, gg9, hgg, hcr⟩ | ⟨e1, _⟩
                rotate_left
                · rw [HIN.out.row] at e1; cases e1
                rw [HIN.out.row] at e1
                injection e1 with e1
                subst e1
                have hrl := (hcr.rlies (by omega)).rep
                have hsr := samerow_c ms ms A9 A7 _ c7 w6 hrl ((HR7.out.under (HBQ.out.trans (hb6.mono HBQ.out.size))).more (Nat.le_trans HBQ.out.size hb6.size))
                rw [e2] at hsr ⊢
                have HSR := Lib.hid (hsr.mono fun e w' h => And.intro (h.1.yes rfl) h.2)
                have HB6 := Lib.hid (HSO.out.bel.trans ((HBQ.out.trans (hb6.mono HBQ.out.size)).mono HSO.out.bel.size))
                clear e3 hgg hcr hrl hsr hb6 e2
                go_wp2_with fail
                refine HSR.out.mono ?_
                rintro e w7 ⟨rfl, hb7⟩
                have HB7 := Lib.hid (HB6.out.trans (hb7.mono HB6.out.size)); clear hb7
                go_wp2_with fail
                go_ret
                exact ⟨rfl, HB7.out⟩
    · clear hkk
      have hn6 : (600 : Int) ≤ nn := by omega
      by_cases hlt : kk < l.length
      · have hltz : (kk : Int) < (l.length : Int) := by omega
        go_wp2_with fail
        refine (HAW.out _ HB.out).mono ?_
        rintro e w1 ⟨rfl, hb1⟩
        have HB1 := Lib.hid (HB.out.trans (hb1.mono HB.out.size)); clear hb1
        go_wp2_with fail
        go_ret
        exact ⟨rfl, HB1.out⟩
      · have hltz : ¬ (kk : Int) < (l.length : Int) := by omega
        go_wp2_with fail
        refine (HAW.out _ HB.out).mono ?_
        rintro e w1 ⟨rfl, hb1⟩
        have HB1 := Lib.hid (HB.out.trans (hb1.mono HB.out.size)); clear hb1
        go_wp2_with fail
        go_ret
        exact ⟨rfl, HB1.out⟩
end Go.Proofs.YtibpebhepoeikaaDoor
