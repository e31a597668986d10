/- Package code: a reader: a text that is there. -/
import Derived.Test.YtlhkjmckigblpaaGreatDoorCi
import Derived.Laws.IdiomStrings
import Derived.Laws.BytesArg
namespace Go.Proofs.YtlhkjmckigblpaaGreatDoor
open Go.RowKit Cp
open Go
attribute [local go_sem] Oper.semAt_some

theorem conv_c {w : World} {v : Value} {l : List UInt8} (h : Sees w v l) : (convert 23 9 v).run Tryz.prog w = .ok (.string ⟨l.toArray⟩) w := by
  rcases h with ⟨n, c, rfl, rfl⟩ | ⟨a, c, rfl, h1, _⟩
  · exact run_convert_bytes_nil w 23 5 Tryz.underlying23 Tryz.underlying5 n c 9 Tryz.underlying9
  · exact run_convert_bytes_back w 23 9 5 a c l Tryz.underlying23 Tryz.underlying5 Tryz.underlying9 h1
theorem Bys.grown {B p : Nat} {l : List UInt8} {w w' : World} {v : Value} {cs : Array Value} (h : Bys B l w v) (hg : w.grownBy w' (some p)) (hX : Blk w p 74 cs) : Bys B l w' v :=
  World.ownsRow.kept h (row := some p) hg (.inr (own_blk_ne h hX (by decide)))
theorem Rdr.blk {p B : Nat} {rest : List UInt8} {f : Bool} {w : World} (h : Rdr p B rest f w) : ∃ cs, Blk w p 74 cs := by
  obtain ⟨A, c, h1, _⟩ := h
  exact ⟨_, h1⟩

set_option maxRecDepth 100000 in
set_option maxHeartbeats 4000000 in
theorem str_ok (p B : Nat) (t tail : List UInt8) (most : Int) (f : Bool) (w : World) (ht : (t.length : Int) ≤ most) (hs : t.length ≤ 140000000000000) (h : Rdr p B (strB t ++ tail) f w) :
    Calls Tryz.prog 51 #[.pointer (some ⟨p, 0, none⟩), .int .i64 most] w fun e w' => Reads p B w (.string ⟨t.toArray⟩) tail f e w' := by
  have hBw : B ≤ w.heap.size := by obtain ⟨A, c, _, _, _, _, h5⟩ := h; exact h5
  have H := Lib.hid h
  clear h
  go_enter Tryz.func51, Tryz.ntmps51
  go_wp2_with fail
  go_loopg [5] (t.length + 1) (fun gg s5 wr => ∃ (j : Nat) (A : Option Addr) (c : Nat), j ≤ t.length ∧ gg = t.length + 1 - j ∧ s5 = .slice A j c ∧ Bys w.heap.size (t.take j) wr (.slice A j c) ∧ Rdr p B (strB (t.drop j) ++ tail) f wr ∧ w.grownBy wr (some p))
  case atStart => exact ⟨0, none, 0, Nat.zero_le _, by omega, rfl, ⟨rfl, .inl ⟨rfl, rfl⟩⟩, H.out, grown_refl w p⟩
  case round =>
    clear H
    obtain ⟨j, A, c, hj, hg, rfl, hy, hr, hgr⟩ := hrel
    have HG := Lib.hid hg; have HY := Lib.hid hy; have HR := Lib.hid hr; have HGR := Lib.hid hgr
    clear hg hy hr hgr
    have hjm : (j : Int) ≤ most := by omega
    by_cases hlt : j < t.length
    · have hd : t.drop j = t[j] :: t.drop (j + 1) := List.drop_eq_getElem_cons hlt
      have htk : t.take (j + 1) = t.take j ++ [t[j]] := List.take_succ_eq_append_getElem hlt
      have htl : (t.take j).length = j := by simp; omega
      rw [hd] at HR
      generalize t[j] = y at HR htk
      have HTK := Lib.hid htk; have HTL := Lib.hid htl
      clear hd htk htl
      by_cases hy0 : y = 0
      · subst hy0
        have e1 : strB (0 :: t.drop (j + 1)) ++ tail = 0 :: 255 :: (strB (t.drop (j + 1)) ++ tail) := by simp [strB, esc]
        rw [e1] at HR
        have HN := Lib.hid (next_cons p B 0 (.inl rfl) _ _ f wr HR.out)
        clear e1
        go_wp2_with fail
        refine HN.out.mono ?_
        rintro e w2 ⟨rfl, hr2, hg2⟩
        have HG2 := Lib.hid hg2
        have HN2 := Lib.hid (next_cons p B 0 (.inl rfl) _ _ f w2 hr2)
        clear hr2 hg2
        go_wp2_with fail
        refine HN2.out.mono ?_
        rintro e w3 ⟨rfl, hr3, hg3⟩
        have HG3 := Lib.hid (grown_trans HG2.out hg3)
        have hy3 : Bys w.heap.size (t.take j) w3 (.slice A j c) := by
          obtain ⟨cs, hb⟩ := HR.out.blk
          exact HY.out.grown HG3.out hb
        have HR3 := Lib.hid hr3
        have HOW := Lib.hid (show w3.ownsRow w.heap.size 5 1 (.slice A j c) j (Lib.byteCells (t.take j)) by have := hy3; unfold Bys at this; rwa [HTL.out] at this)
        have hsz : w.heap.size ≤ w3.heap.size := Nat.le_trans HGR.out.size HG3.out.size
        clear hr3 hg3 hy3
        go_wp2_with (at_builtin; refine wpList_appB _ rfl (.tmp 25) (.tmp 27) 23 rfl w.heap.size 5 (.int .u8 0) Tryz.underlying23 infoB rfl _ j _ rfl (HOW.out.alloc _) w3.heap.size 1 (.int .u8 0) rfl (by simp [World.cell?_alloc_new]) (by simp [Value.oneCell']) (by omega) (by simp; omega) ?_; intro g' cap' w4 hA; have HA := Lib.hid hA; clear hA)
        go_roundg (t.length + 1 - (j + 1))
        case measure => have := HG.out; omega
        case rel =>
          refine ⟨j + 1, _, _, by omega, rfl, rfl, ?_, (HR3.out.alloc _).apped HA.out hBw, grown_of_below (grown_alloc (grown_trans HGR.out HG3.out) _) HA.out.2.2⟩
          have := HA.out.1
          rw [HTK.out]
          unfold Bys
          rw [byteCells_app, List.length_append, HTL.out]
          simpa [Lib.byteCells] using this
      · have e1 : strB (y :: t.drop (j + 1)) ++ tail = y :: (strB (t.drop (j + 1)) ++ tail) := by simp [strB, esc, hy0]
        rw [e1] at HR
        have HN := Lib.hid (next_cons p B 0 (.inl rfl) _ _ f wr HR.out)
        have hyn : ((y.toNat : Int) == 0) = false := by
          rw [beq_eq_false_iff_ne]; intro e; exact hy0 (UInt8.toNat_inj.1 (by simp; omega))
        rw [show (y ^^^ 0 : UInt8) = y by simp] at HN
        clear e1 hy0
        go_wp2_with fail
        refine HN.out.mono ?_
        rintro e w3 ⟨rfl, hr3, hg3⟩
        have HG3 := Lib.hid hg3
        have hy3 : Bys w.heap.size (t.take j) w3 (.slice A j c) := by
          obtain ⟨cs, hb⟩ := HR.out.blk
          exact HY.out.grown HG3.out hb
        have HR3 := Lib.hid hr3
        have HOW := Lib.hid (show w3.ownsRow w.heap.size 5 1 (.slice A j c) j (Lib.byteCells (t.take j)) by have := hy3; unfold Bys at this; rwa [HTL.out] at this)
        have hsz : w.heap.size ≤ w3.heap.size := Nat.le_trans HGR.out.size HG3.out.size
        clear hr3 hg3 hy3
        go_wp2_with (at_builtin; refine wpList_appB _ rfl (.tmp 25) (.tmp 27) 23 rfl w.heap.size 5 (.int .u8 0) Tryz.underlying23 infoB rfl _ j _ rfl (HOW.out.alloc _) w3.heap.size 1 (.int .u8 (y.toNat : Int)) rfl (by simp [World.cell?_alloc_new]) (by simp [Value.oneCell']) (by omega) (by simp; omega) ?_; intro g' cap' w4 hA; have HA := Lib.hid hA; clear hA)
        go_roundg (t.length + 1 - (j + 1))
        case measure => have := HG.out; omega
        case rel =>
          refine ⟨j + 1, _, _, by omega, rfl, rfl, ?_, (HR3.out.alloc _).apped HA.out hBw, grown_of_below (grown_alloc (grown_trans HGR.out HG3.out) _) HA.out.2.2⟩
          have := HA.out.1
          rw [HTK.out]
          unfold Bys
          rw [byteCells_app, List.length_append, HTL.out]
          simpa [Lib.byteCells] using this
    · obtain rfl : j = t.length := by omega
      have e1 : strB (t.drop t.length) ++ tail = 0 :: 0 :: tail := by simp [strB, esc]
      rw [e1] at HR
      rw [List.take_length] at HY
      have HN := Lib.hid (next_cons p B 0 (.inl rfl) _ _ f wr HR.out)
      clear e1
      go_wp2_with fail
      refine HN.out.mono ?_
      rintro e w2 ⟨rfl, hr2, hg2⟩
      have HG2 := Lib.hid hg2
      have HN2 := Lib.hid (next_cons p B 0 (.inl rfl) _ _ f w2 hr2)
      clear hr2 hg2
      go_wp2_with fail
      refine HN2.out.mono ?_
      rintro e w3 ⟨rfl, hr3, hg3⟩
      have HG3 := Lib.hid (grown_trans HG2.out hg3); have HR3 := Lib.hid hr3
      have hy3 : Bys w.heap.size t w3 (.slice A t.length c) := by
        obtain ⟨cs, hb⟩ := HR.out.blk
        exact HY.out.grown HG3.out hb
      have hcv := conv_c hy3.sees
      clear hr3 hg3 hy3
      go_wp2_with fail
      go_ret
      exact ⟨rfl, HR3.out, grown_trans HGR.out HG3.out⟩
end Go.Proofs.YtlhkjmckigblpaaGreatDoor
