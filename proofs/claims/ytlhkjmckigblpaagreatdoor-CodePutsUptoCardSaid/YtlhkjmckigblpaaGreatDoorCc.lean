/- Package code: numbers, counts, texts, truth values are written. -/
import Derived.Test.YtlhkjmckigblpaaGreatDoorCb
import Derived.Lib.AppendStr
namespace Go.Proofs.YtlhkjmckigblpaaGreatDoor
open Go.RowKit Cp
open Go
attribute [local go_sem] Oper.semAt_some

theorem Bys.open_ {B g n c : Nat} {L : List UInt8} {w : World} (h : Bys B L w (.slice (some ⟨g, 0, none⟩) n c)) : n = L.length ∧ B ≤ g ∧ ∃ cur, w.heap[g]? = some (.cells cur 5 (0, 0)) ∧ n ≤ c ∧ c ≤ maxLen ∧ cur.size = c ∧ cur.toList.take n = Lib.byteCells L := by
  obtain ⟨h1, h2⟩ := h
  rcases h2 with ⟨h2, _⟩ | ⟨g', cap, cur, h2, h3, h4, h5, h6, h7, h8⟩
  · cases h2
  · injection h2 with e1 e2 e3
    injection e1 with e1; injection e1 with e1
    subst e1; subst e2; subst e3
    exact ⟨rfl, h3, cur, h4, h5, h6, by simpa using h7, by simpa using h8⟩
theorem Bys.cell {B g n c : Nat} {L : List UInt8} {w : World} (h : Bys B L w (.slice (some ⟨g, 0, none⟩) n c)) {i : Nat} {x : UInt8} (hx : L[i]? = some x) : w.cell? ⟨g, i, none⟩ = some (.int .u8 (x.toNat : Int)) := by
  have hi : i < L.length := (List.getElem?_eq_some_iff.1 hx).1
  obtain ⟨rfl, _, cur, h4, h5, _, h7, h8⟩ := h.open_
  rw [cell_of_row w g i cur _ _ h4]
  have h9 : (cur.toList.take L.length)[i]? = (Lib.byteCells L)[i]? := by rw [h8]
  rw [List.getElem?_take_of_lt hi] at h9
  rw [← Array.getElem?_toList, h9]
  simp [Lib.byteCells, hx]
theorem Bys.frozen {B g n c : Nat} {L : List UInt8} {w : World} (h : Bys B L w (.slice (some ⟨g, 0, none⟩) n c)) (i : Nat) : w.frozen? ⟨g, i, none⟩ = false := by
  obtain ⟨rfl, _, cur, h4, _⟩ := h.open_
  exact Blk.frozen h4 i
theorem Bys.set {B g n c : Nat} {L : List UInt8} {w : World} (h : Bys B L w (.slice (some ⟨g, 0, none⟩) n c)) {i : Nat} (x : UInt8) : Bys B (L.set i x) (w.setCell ⟨g, i, none⟩ (.int .u8 (x.toNat : Int))) (.slice (some ⟨g, 0, none⟩) n c) := by
  obtain ⟨rfl, hB, cur, h4, h5, h6, h7, h8⟩ := h.open_
  have hs : (w.setCell ⟨g, i, none⟩ (.int .u8 (x.toNat : Int))).heap[g]? = some (.cells (cur.setIfInBounds i (.int .u8 (x.toNat : Int))) 5 (0, 0)) := Blk.set_ h4 i _
  refine ⟨by simp [Lib.byteCells], .inr ⟨g, c, _, by simp, hB, hs, by simpa using h5, h6, by simpa using h7, ?_⟩⟩
  simp only [List.length_set, Nat.mul_one, Array.toList_setIfInBounds]
  rw [List.take_set, h8]
  simp [Lib.byteCells, List.map_set]
theorem Bys.under {B : Nat} {L : List UInt8} {w w' : World} {v : Value} (h : Bys B L w v) (hb : Below w.heap.size w w') : Bys B L w' v :=
  World.ownsRow.kept h (row := none) ⟨hb.os, hb.tape, hb.output, hb.size, fun j hj _ => hb.block j hj⟩ (by cases hv : v.ownBlock <;> simp)

theorem xor_fin : ∀ n : Fin 256, bits BinOp.xor IntKind.u8 (n.val : Int) 255 = ((UInt8.ofNat n.val ^^^ 255).toNat : Int) := by decide +kernel
theorem xor_of (x : UInt8) : bits BinOp.xor IntKind.u8 (x.toNat : Int) 255 = ((x ^^^ 255).toNat : Int) := by
  have := xor_fin ⟨x.toNat, x.toNat_lt⟩
  simpa using this
set_option maxRecDepth 100000 in
set_option maxHeartbeats 4000000 in
theorem complement_c (B g c off : Nat) (L : List UInt8) (w : World) (h : Bys B L w (.slice (some ⟨g, 0, none⟩) L.length c)) (ho : off ≤ L.length) (hl : L.length ≤ 140000000000100) :
    Calls Tryz.prog 81 #[.slice (some ⟨g, off, none⟩) ((L.length - off : Nat)) (c - off)] w fun e w' => e = .returned (.tuple #[]) ∧ Bys B (L.take off ++ comp (L.drop off)) w' (.slice (some ⟨g, 0, none⟩) L.length c) ∧ Below B w w' := by
  have hgB := h.open_.2.1
  have H := Lib.hid h
  clear h
  obtain ⟨n, hn⟩ : ∃ n, L.length - off = n := ⟨_, rfl⟩
  rw [hn]
  have HN := Lib.hid hn
  have hn2 : n + off = L.length := by omega
  have HN2 := Lib.hid hn2
  clear hn
  have hn3 : n ≤ 140000000000100 := by omega
  clear hn2
  go_enter Tryz.func81, Tryz.ntmps81
  go_wp2_with fail
  go_loopg [5] (n + 1) (fun gg s5 wr => ∃ (k : Nat) (M : List UInt8), k ≤ n ∧ gg = n + 1 - k ∧ s5 = .int .i64 (k : Int) ∧ M.length = L.length ∧ (∀ i, M[i]? = if off ≤ i ∧ i < off + k then (L[i]?).map (fun x => x ^^^ 255) else L[i]?) ∧ Bys B M wr (.slice (some ⟨g, 0, none⟩) L.length c) ∧ Below B w wr)
  case atStart => exact ⟨0, L, Nat.zero_le _, by omega, rfl, rfl, fun i => by rw [if_neg (by omega)], H.out, Below.refl _ _⟩
  case round =>
    clear H
    obtain ⟨k, M, hk, hg, rfl, hml, hmi, hby, hb⟩ := hrel
    have HG := Lib.hid hg; have HMI := Lib.hid hmi; have HY := Lib.hid hby; have HB := Lib.hid hb; have HML := Lib.hid hml
    clear hg hmi hby hb hml
    by_cases hlt : k < n
    · have hltz : (k : Int) < (n : Int) := by omega
      have hoff : off + k < M.length := by rw [HML.out]; have := HN2.out; omega
      obtain ⟨x, hx⟩ : ∃ x, M[off + k]? = some x := ⟨_, List.getElem?_eq_getElem hoff⟩
      have hc := HY.out.cell hx
      have hf := HY.out.frozen (off + k)
      have HOF := Lib.hid hoff; have HX := Lib.hid hx
      clear hx hoff
      go_wp2_with fail
      rw [xor_of]
      have HS := Lib.hid (HY.out.set (i := off + k) (x ^^^ 255))
      go_roundg (n + 1 - (k + 1))
      case measure => have := HG.out; omega
      case rel =>
        refine ⟨k + 1, M.set (off + k) (x ^^^ 255), by omega, rfl, by go_num, by rw [List.length_set]; exact HML.out, fun i => ?_, HS.out, HB.out.setCell (p := ⟨g, off + k, none⟩) hgB _⟩
        rw [List.getElem?_set]
        have hMi := HMI.out i
        by_cases h1 : off + k = i
        · subst h1
          rw [if_pos rfl, if_pos HOF.out, if_pos (by omega)]
          have h2 := HX.out
          rw [HMI.out (off + k), if_neg (by omega)] at h2
          rw [h2]; rfl
        · rw [if_neg h1, hMi]
          by_cases h2 : off ≤ i ∧ i < off + k
          · rw [if_pos h2, if_pos (by omega)]
          · rw [if_neg h2, if_neg (by omega)]
    · have hltz : ¬ (k : Int) < (n : Int) := by omega
      obtain rfl : k = n := by omega
      have hfin : M = L.take off ++ comp (L.drop off) := by
        have h1 := HN2.out
        refine List.ext_getElem? fun i => ?_
        rw [HMI.out i]
        by_cases h2 : i < off
        · rw [if_neg (by omega), List.getElem?_append_left (by simp; omega), List.getElem?_take_of_lt h2]
        · have h3 : (L.take off).length = off := by simp; omega
          rw [List.getElem?_append_right (by omega), h3, comp, List.getElem?_map, List.getElem?_drop, show off + (i - off) = i by omega]
          by_cases h4 : i < off + k
          · rw [if_pos (by omega)]
          · rw [if_neg (by omega), List.getElem?_eq_none (by omega)]; rfl
      rw [hfin] at HY
      clear hfin
      go_wp2_with fail
      refine bodyPost_end (results_none rfl _ _ _) rfl ?_
      exact ⟨rfl, HY.out, HB.out⟩

theorem own_ne (base n : Nat) : own base n ≠ [] := by rw [own]; simp
/-- What was appended to is a slice at an address. -/
theorem Bys.some_ {B : Nat} {L : List UInt8} {w : World} {v : Value} (h : Bys B L w v) (hne : L ≠ []) : ∃ g c, v = .slice (some ⟨g, 0, none⟩) L.length c := by
  rcases h.2 with ⟨_, h2⟩ | ⟨g, c, cur, h2, _⟩
  · exact absurd (List.eq_nil_of_length_eq_zero h2) hne
  · exact ⟨g, c, h2⟩

set_option maxRecDepth 100000 in
set_option maxHeartbeats 4000000 in
theorem appendNum_c (B : Nat) (l : List UInt8) (v : Value) (n : Int) (h0 : -9223372036854775808 ≤ n) (h1 : n ≤ 9223372036854775807) (w : World) (h : Bys B l w v) (hl : l.length ≤ 140000000000000) (hB : B ≤ w.heap.size) :
    Calls Tryz.prog 46 #[v, .int .i64 n] w fun e w' => Gives B w (l ++ numB n) e w' := by
  by_cases hn : 0 ≤ n
  · obtain ⟨m, rfl⟩ : ∃ m : Nat, n = (m : Int) := ⟨n.toNat, by omega⟩
    have ha := appendOwn_c B l v 128 m (by decide) (by omega) w h hl hB
    have hnb : numB (m : Int) = own 128 m := by unfold numB; rw [if_pos hn, Int.toNat_natCast]
    rw [hnb]
    have HA := Lib.hid ha
    clear ha h hnb
    go_enter Tryz.func46, Tryz.ntmps46
    go_wp2_with fail
    refine HA.out.mono ?_
    rintro e w1 ⟨v', rfl, hy, hb⟩
    have HY := Lib.hid hy; have HB := Lib.hid hb
    clear hy hb
    go_wp2_with fail
    go_ret
    exact Gives.mk_ HY.out HB.out
  · obtain ⟨m, hm⟩ : ∃ m : Nat, -1 - n = (m : Int) := ⟨(-1 - n).toNat, by omega⟩
    have ha := appendOwn_c B l v 128 m (by decide) (by omega) w h hl hB
    have hnb : numB n = comp (own 128 m) := by unfold numB; rw [if_neg hn, hm, Int.toNat_natCast]
    rw [hnb]
    have hol : (own 128 m).length ≤ 9 := by rw [own_len]; have := osz_le (n := m) (by omega); omega
    have hone := own_ne 128 m
    obtain ⟨A, c, rfl, hc1, hc2, _⟩ := own_slice h
    generalize own 128 m = ow at ha hol hone ⊢
    have HA := Lib.hid ha; have HNE := Lib.hid hone
    have hnz : ¬ 0 ≤ n := hn
    clear ha h hnb hone
    go_enter Tryz.func46, Tryz.ntmps46
    go_wp2_with fail
    refine HA.out.mono ?_
    rintro e w1 ⟨v', rfl, hy, hb⟩
    obtain ⟨g, c', rfl⟩ := hy.some_ (by intro e; exact HNE.out (List.append_eq_nil_iff.1 e).2)
    have hcp := complement_c B g c' l.length (l ++ ow) w1 hy (by simp) (by simp; omega)
    have hcap := hy.open_.2.2
    obtain ⟨_, _, hcap, hcm, _⟩ := hcap
    have hfin : (l ++ ow).take l.length ++ comp ((l ++ ow).drop l.length) = l ++ comp ow := by simp
    rw [hfin] at hcp
    obtain ⟨N, hN⟩ : ∃ N, (l ++ ow).length = N := ⟨_, rfl⟩
    have hN2 : N = l.length + ow.length := by rw [← hN, List.length_append]
    rw [hN] at hcp hcap ⊢
    have hpos : 0 < ow.length := List.length_pos_iff.2 HNE.out
    have hle : l.length < N := by omega
    have hcn : ¬ c' = l.length := by omega
    have hcn2 : l.length < c' := by omega
    clear hpos
    have hlen2 : (l ++ comp ow).length = N := by rw [hN2]; simp [comp]
    have HB := Lib.hid hb; have HCP := Lib.hid hcp; have HL2 := Lib.hid hlen2
    clear hy hb hcp hfin hN hN2 hlen2
    go_wp2_with fail
    with_reducible refine HCP.out.mono ?_
    rintro e w2 ⟨rfl, hy2, hb2⟩
    have HY := Lib.hid hy2; have HB2 := Lib.hid (HB.out.trans hb2)
    clear hy2 hb2
    go_wp2_with fail
    go_ret
    exact Gives.mk_ HY.out HB2.out
end Go.Proofs.YtlhkjmckigblpaaGreatDoor
