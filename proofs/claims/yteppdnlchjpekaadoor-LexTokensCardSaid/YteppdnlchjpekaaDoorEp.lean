/- Package lex: the first finder that finds. -/
import Derived.Test.YteppdnlchjpekaaDoorEn
namespace Go.Proofs.YteppdnlchjpekaaDoor
open Go.RowKit Lx
open Go
attribute [local go_sem] Oper.semAt_some

namespace Lx
def fd (k : Nat) (l : List UInt8) : Fnd :=
  match k with
  | 0 => fWord l
  | 1 => fName l
  | 2 => fField l
  | 3 => fVar l
  | 4 => fAny l
  | 5 => fNum l
  | 6 => fQuote l
  | _ => fSign l
/-- The token at the beginning, as a finder finds it, and its error. -/
def fFirst (l : List UInt8) : Fnd × Nat :=
  match (List.range 8).find? (fun k => decide (0 < (fd k l).2.2)) with
  | some k => (fd k l, exc (fd k l).1 (fd k l).2.1)
  | none => (no, 4)
theorem first_at {l : List UInt8} {k : Nat} (hk : k < 8) (hn : ∀ j, j < k → (fd j l).2.2 = 0) (h : 0 < (fd k l).2.2) : fFirst l = (fd k l, exc (fd k l).1 (fd k l).2.1) := by
  have e : (List.range 8).find? (fun k => decide (0 < (fd k l).2.2)) = some k := by
    rw [List.find?_range_eq_some]
    exact ⟨by simpa using h, by simpa using hk, fun j hj => by simp [hn j hj]⟩
  unfold fFirst
  rw [e]
theorem first_no {l : List UInt8} (hn : ∀ j, j < 8 → (fd j l).2.2 = 0) : fFirst l = (no, 4) := by
  have e : (List.range 8).find? (fun k => decide (0 < (fd k l).2.2)) = none := by
    rw [List.find?_eq_none]
    intro j hj
    simp [hn j (List.mem_range.1 hj)]
  unfold fFirst
  rw [e]
theorem q_len : ∀ (f : Nat) (l out : List UInt8) (k : Nat), (fdOf (qGo f l out k)).2.1.length ≤ out.length + l.length
  | 0, _, _, _ => by simp [qGo, fdOf, no]
  | _ + 1, [], _, _ => by simp [qGo, fdOf, no]
  | f + 1, c :: r, out, k => by
    rw [qGo]
    split
    · simp [fdOf]
    · split
      · simp [fdOf, no]
      · rename_i h
        have ih := q_len f ((c :: r).drop (markAt (c :: r)).2) (out ++ [(markAt (c :: r)).1]) (k + (markAt (c :: r)).2)
        rw [List.length_append, List.length_singleton, List.length_drop] at ih
        have := mark_le (c :: r)
        omega
theorem fd_len (k : Nat) (l : List UInt8) : (fd k l).2.1.length ≤ l.length + 2 := by
  have h1 := lead_len l
  have h2 := plain_len l
  have h3 := field_len l
  have h4 := field_len (l.drop (plainN l).length)
  rw [List.length_drop] at h4
  unfold fd
  split
  · unfold fWord; split
    · dsimp only; omega
    · simp [no]
  · unfold fName nameOf; split
    · simp [no]
    · split
      · dsimp only; omega
      · simp only [List.length_append, List.length_cons]; omega
  · unfold fField fieldOf; split
    · simp [no]
    · dsimp only; omega
  · unfold fVar
    cases h : lead l with
    | nil => simp [no]
    | cons c r =>
      rw [h] at h1
      dsimp only
      split
      · dsimp only; omega
      · simp [no]
  · unfold fAny; split
    · simp
    · simp [no]
  · unfold fNum; split
    · have : (Lib.trimSuffix (lead l) [98]).length ≤ (lead l).length := by
        unfold Lib.trimSuffix
        split
        · rw [List.length_take]; omega
        · exact Nat.le_refl _
      dsimp only; omega
    · simp [no]
  · unfold fQuote
    cases l with
    | nil => simp [no]
    | cons c r =>
      dsimp only
      split
      · have := q_len (r.length + 1) r [] 1
        simp only [List.length_nil, List.length_cons] at this ⊢
        omega
      · simp [no]
  · unfold fSign
    cases h : signs.find? (fun g => Lib.hasPrefix l g) with
    | none => simp [no]
    | some g =>
      have hm := List.mem_of_find?_eq_some h
      have : ∀ g ∈ signs, g.length ≤ 2 := by decide
      have := this g hm
      dsimp only; omega
end Lx
def rv (x : Fnd × Nat) : Value := .tuple #[.agg #[.int .i64 0, .int .i64 0, .int .u8 (x.1.1 : Int), .string ⟨x.1.2.1.toArray⟩], .int .i64 (x.1.2.2 : Int), .int .i64 (x.2 : Int)]
theorem retF3 {fn : Func} {p q r : Tmp} (h : fn.results = #[.cell p 44, .tmp q, .tmp r]) {tmps : Array Value} {W : World} {g : Nat} {x y z u v v' : Value} (hp : tmps.getD p undef = .pointer (some ⟨g, 0, none⟩)) (hq : tmps.getD q undef = v) (hr : tmps.getD r undef = v')
    (hb : Blk W g 44 #[x, y, z, u]) : (results fn tmps).run Tryd.prog W = .ok (.tuple #[.agg #[x, y, z, u], v, v']) W := by
  have c0 := hb.cell 0
  have c1 := hb.cell 1
  have c2 := hb.cell 2
  have c3 := hb.cell 3
  simp at c0 c1 c2 c3
  rw [Array.getD_eq_getD_getElem?] at hp hq hr
  simp [results, h, hp, hq, hr, go_sem, c0, c1, c2, c3]
/-- A token's cells. -/
def tcs (f : Fnd) : Array Value := #[.int .i64 0, .int .i64 0, .int .u8 (f.1 : Int), .string ⟨f.2.1.toArray⟩]

set_option maxRecDepth 100000 in
set_option maxHeartbeats 2000000 in
theorem first_c (s : ByteArray) (hs : s.size ≤ 900000) (g p1 p2 p3 b : Nat) (w : World) (hF : FS w g p1 p2 p3 b) (hM : MaxAt w) :
    Calls Tryd.prog 19 #[.string s, .slice (some ⟨g, 0, none⟩) 8 8] w fun e w' => e = .returned (rv (fFirst s.data.toList)) ∧ Below w.heap.size w w' := by
  have hmax : maxLen = 9223372036854775807 := rfl
  have hb0 : Below w.heap.size w (w.alloc (.cells #[.int .i64 0, .int .i64 0, .int .u8 0, .string ⟨#[]⟩] 44)) := (Below.refl _ _).alloc (Nat.le_refl _) _
  have htk : Blk (w.alloc (.cells #[.int .i64 0, .int .i64 0, .int .u8 0, .string ⟨#[]⟩] 44)) w.heap.size 44 #[.int .i64 0, .int .i64 0, .int .u8 0, .string ⟨#[]⟩] := Blk.new _ _ _
  have HB0 := Lib.hid hb0; have HTK := Lib.hid htk; have HFS := Lib.hid hF; have HM := Lib.hid hM
  obtain ⟨R, hR⟩ : ∃ R, R = fFirst s.data.toList := ⟨_, rfl⟩
  rw [← hR]
  have HR := Lib.hid hR
  clear hb0 htk hF hM hR
  go_enter Tryd.func19, Tryd.ntmps19
  go_wp2_with fail
  go_loopg [13] 9 (fun gg s13 wr => ∃ k : Nat, k ≤ 8 ∧ gg = 9 - k ∧ s13 = .int .i64 (k : Int) ∧ (∀ j, j < k → (fd j s.data.toList).2.2 = 0) ∧ Blk wr w.heap.size 44 #[.int .i64 0, .int .i64 0, .int .u8 0, .string ⟨#[]⟩] ∧ Below w.heap.size w wr)
  case atStart => exact ⟨0, Nat.zero_le _, rfl, rfl, fun _ h => absurd h (Nat.not_lt_zero _), HTK.out, HB0.out⟩
  case round =>
    clear HTK HB0
    obtain ⟨k, hk, hg, rfl, ha, hx, hb⟩ := hrel
    have HG := Lib.hid hg; have HA := Lib.hid ha; have HX := Lib.hid hx; have HB := Lib.hid hb
    clear hg ha hx hb
    by_cases hlt : k < 8
    · have hltz : (k : Int) < 8 := by omega
      obtain ⟨V, hV⟩ : ∃ V, (fns p1 p2 p3)[k]? = some V := ⟨_, Array.getElem?_eq_getElem hlt⟩
      have hfs := HFS.out.under HB.out
      have c0 := hfs.1.cell k
      rw [hV] at c0
      have HV := Lib.hid hV; have HFW := Lib.hid hfs
      clear hV hfs
      go_upto_region 4 with fail
      go_cut [9, 10] (fun s9 s10 wx => ∃ g9, s9 = .pointer (some ⟨g9, 0, none⟩) ∧ wr.heap.size ≤ g9 ∧ Blk wx g9 44 (tcs (fd k s.data.toList)) ∧ s10 = .int .i64 ((fd k s.data.toList).2.2 : Int) ∧ Below wr.heap.size wr wx)
      case first =>
        have hks : k = 0 ∨ k = 1 ∨ k = 2 ∨ k = 3 ∨ k = 4 ∨ k = 5 ∨ k = 6 ∨ k = 7 := by omega
        rcases hks with rfl | rfl | rfl | rfl | rfl | rfl | rfl | rfl
        · obtain rfl : V = .func (.func 35) #[] #[.pointer (some ⟨p1, 0, none⟩)] := (Option.some.inj HV.out).symm
          have hc := fword_c s (by omega) p1 b wr HFW.out.2.1.2
          rw [show fWord s.data.toList = fd 0 s.data.toList from rfl] at hc
          unfold fv at hc
          obtain ⟨F, hF⟩ : ∃ F, F = fd 0 s.data.toList := ⟨_, rfl⟩
          rw [← hF] at hc
          have HC := Lib.hid hc; have HFE := Lib.hid hF
          clear hc hF
          go_wp2_with fail
          refine HC.out.mono ?_
          rintro e w2 ⟨rfl, hb2⟩
          have HB2 := Lib.hid hb2
          clear hb2
          go_wp2_with fail
          go_meet
          exact ⟨w2.heap.size, rfl, HB2.out.size, by rw [← HFE.out]; exact Blk.new _ _ _, by rw [← HFE.out], HB2.out.alloc HB2.out.size _⟩
        · obtain rfl : V = .func (.func 36) #[] #[.pointer (some ⟨p2, 0, none⟩), .pointer (some ⟨p3, 0, none⟩)] := (Option.some.inj HV.out).symm
          have hc := fname_c s (by omega) p3 p2 p1 b wr HFW.out.2.2 HFW.out.2.1
          rw [show fName s.data.toList = fd 1 s.data.toList from rfl] at hc
          unfold fv at hc
          obtain ⟨F, hF⟩ : ∃ F, F = fd 1 s.data.toList := ⟨_, rfl⟩
          rw [← hF] at hc
          have HC := Lib.hid hc; have HFE := Lib.hid hF
          clear hc hF
          go_wp2_with fail
          refine HC.out.mono ?_
          rintro e w2 ⟨rfl, hb2⟩
          have HB2 := Lib.hid hb2
          clear hb2
          go_wp2_with fail
          go_meet
          exact ⟨w2.heap.size, rfl, HB2.out.size, by rw [← HFE.out]; exact Blk.new _ _ _, by rw [← HFE.out], HB2.out.alloc HB2.out.size _⟩
        · obtain rfl : V = .func (.func 37) #[] #[.pointer (some ⟨p3, 0, none⟩)] := (Option.some.inj HV.out).symm
          have hc := ffield_c s (by omega) p3 p2 p1 b wr HFW.out.2.2 HFW.out.2.1
          rw [show fField s.data.toList = fd 2 s.data.toList from rfl] at hc
          unfold fv at hc
          obtain ⟨F, hF⟩ : ∃ F, F = fd 2 s.data.toList := ⟨_, rfl⟩
          rw [← hF] at hc
          have HC := Lib.hid hc; have HFE := Lib.hid hF
          clear hc hF
          go_wp2_with fail
          refine HC.out.mono ?_
          rintro e w2 ⟨rfl, hb2⟩
          have HB2 := Lib.hid hb2
          clear hb2
          go_wp2_with fail
          go_meet
          exact ⟨w2.heap.size, rfl, HB2.out.size, by rw [← HFE.out]; exact Blk.new _ _ _, by rw [← HFE.out], HB2.out.alloc HB2.out.size _⟩
        · obtain rfl : V = .func (.func 38) #[] #[] := (Option.some.inj HV.out).symm
          have hc := fvar_c s (by omega) wr
          rw [show fVar s.data.toList = fd 3 s.data.toList from rfl] at hc
          unfold fv at hc
          obtain ⟨F, hF⟩ : ∃ F, F = fd 3 s.data.toList := ⟨_, rfl⟩
          rw [← hF] at hc
          have HC := Lib.hid hc; have HFE := Lib.hid hF
          clear hc hF
          go_wp2_with fail
          refine HC.out.mono ?_
          rintro e w2 ⟨rfl, hb2⟩
          have HB2 := Lib.hid hb2
          clear hb2
          go_wp2_with fail
          go_meet
          exact ⟨w2.heap.size, rfl, HB2.out.size, by rw [← HFE.out]; exact Blk.new _ _ _, by rw [← HFE.out], HB2.out.alloc HB2.out.size _⟩
        · obtain rfl : V = .func (.func 39) #[] #[] := (Option.some.inj HV.out).symm
          have hc := fany_c s (by omega) wr
          rw [show fAny s.data.toList = fd 4 s.data.toList from rfl] at hc
          unfold fv at hc
          obtain ⟨F, hF⟩ : ∃ F, F = fd 4 s.data.toList := ⟨_, rfl⟩
          rw [← hF] at hc
          have HC := Lib.hid hc; have HFE := Lib.hid hF
          clear hc hF
          go_wp2_with fail
          refine HC.out.mono ?_
          rintro e w2 ⟨rfl, hb2⟩
          have HB2 := Lib.hid hb2
          clear hb2
          go_wp2_with fail
          go_meet
          exact ⟨w2.heap.size, rfl, HB2.out.size, by rw [← HFE.out]; exact Blk.new _ _ _, by rw [← HFE.out], HB2.out.alloc HB2.out.size _⟩
        · obtain rfl : V = .func (.func 40) #[] #[] := (Option.some.inj HV.out).symm
          have hc := fnum_c s (by omega) wr
          rw [show fNum s.data.toList = fd 5 s.data.toList from rfl] at hc
          unfold fv at hc
          obtain ⟨F, hF⟩ : ∃ F, F = fd 5 s.data.toList := ⟨_, rfl⟩
          rw [← hF] at hc
          have HC := Lib.hid hc; have HFE := Lib.hid hF
          clear hc hF
          go_wp2_with fail
          refine HC.out.mono ?_
          rintro e w2 ⟨rfl, hb2⟩
          have HB2 := Lib.hid hb2
          clear hb2
          go_wp2_with fail
          go_meet
          exact ⟨w2.heap.size, rfl, HB2.out.size, by rw [← HFE.out]; exact Blk.new _ _ _, by rw [← HFE.out], HB2.out.alloc HB2.out.size _⟩
        · obtain rfl : V = .func (.func 41) #[] #[] := (Option.some.inj HV.out).symm
          have hc := fquote_c s (by omega) wr
          rw [show fQuote s.data.toList = fd 6 s.data.toList from rfl] at hc
          unfold fv at hc
          obtain ⟨F, hF⟩ : ∃ F, F = fd 6 s.data.toList := ⟨_, rfl⟩
          rw [← hF] at hc
          have HC := Lib.hid hc; have HFE := Lib.hid hF
          clear hc hF
          go_wp2_with fail
          refine HC.out.mono ?_
          rintro e w2 ⟨rfl, hb2⟩
          have HB2 := Lib.hid hb2
          clear hb2
          go_wp2_with fail
          go_meet
          exact ⟨w2.heap.size, rfl, HB2.out.size, by rw [← HFE.out]; exact Blk.new _ _ _, by rw [← HFE.out], HB2.out.alloc HB2.out.size _⟩
        · obtain rfl : V = .func (.func 42) #[] #[] := (Option.some.inj HV.out).symm
          have hc := fsign_c s wr
          rw [show fSign s.data.toList = fd 7 s.data.toList from rfl] at hc
          unfold fv at hc
          obtain ⟨F, hF⟩ : ∃ F, F = fd 7 s.data.toList := ⟨_, rfl⟩
          rw [← hF] at hc
          have HC := Lib.hid hc; have HFE := Lib.hid hF
          clear hc hF
          go_wp2_with fail
          refine HC.out.mono ?_
          rintro e w2 ⟨rfl, hb2⟩
          have HB2 := Lib.hid hb2
          clear hb2
          go_wp2_with fail
          go_meet
          exact ⟨w2.heap.size, rfl, HB2.out.size, by rw [← HFE.out]; exact Blk.new _ _ _, by rw [← HFE.out], HB2.out.alloc HB2.out.size _⟩
      case rest =>
        clear c0 HV
        obtain ⟨g9, rfl, hg9, hb9, rfl, hbc⟩ := hcut
        have hfl := fd_len k s.data.toList
        rw [← size_list] at hfl
        have hf0 := fun h => first_at (l := s.data.toList) hlt HA.out h
        have hwlt : w.heap.size < wr.heap.size := HX.out.lt
        have hx := HX.out.below hbc HX.out.lt
        have HXC := Lib.hid hx
        have HBC := Lib.hid (HB.out.trans (hbc.mono HB.out.size))
        have y0 := hx.cell 0; have y1 := hx.cell 1; have y2 := hx.cell 2; have y3 := hx.cell 3; have z0 := hx.frozen 0; have z1 := hx.frozen 1; have z2 := hx.frozen 2; have z3 := hx.frozen 3
        unfold tcs at hb9
        have d0 := hb9.cell 0; have d1 := hb9.cell 1; have d2 := hb9.cell 2; have d3 := hb9.cell 3
        simp at y0 y1 y2 y3 d0 d1 d2 d3
        have hmx := HM.out.under HBC.out
        obtain ⟨F, hFF⟩ : ∃ F, fd k s.data.toList = F := ⟨_, rfl⟩
        have HFF := Lib.hid hFF
        rw [hFF] at hb9 d2 d3 hf0 hfl ⊢
        obtain ⟨S, hS⟩ : ∃ S : ByteArray, S = ⟨F.2.1.toArray⟩ := ⟨_, rfl⟩
        have hS2 : S.data.toList = F.2.1 := by rw [hS]
        rw [← hS] at d3 hb9
        have HBX := Lib.hid hb9
        have hne : w.heap.size ≠ g9 := by omega
        by_cases hpos : 0 < F.2.2
        · have hpz : (0 : Int) < (F.2.2 : Int) := by omega
          have hR := HR.out
          rw [hf0 hpos] at hR
          have hex := fun W hm => excess_c F.1 0 0 S (by rw [size_list, hS2]; omega) W hm
          rw [hS2] at hex
          have HE := Lib.hid hex; have HR2 := Lib.hid hR; have HMX := Lib.hid hmx; have HS2 := Lib.hid hS2; have HS3 := Lib.hid hS
          clear hex hR hmx hS hS2 hb9 hf0 hfl hFF hpos hbc hx HFW HR
          go_wp2_with fail
          go_region_with (go_at_call 45; refine (HE.out wc.drew HMX.out).mono ?_; rintro e w5 ⟨rfl, hb5⟩; have HB5 := Lib.hid hb5; have hx5 := (HXC.out.drew).below hb5 HXC.out.lt; have HX5 := Lib.hid hx5; have hg5 := (HBX.out.drew).below hb5 HBX.out.lt; clear hb5 d0 d1 d2 d3 y0 y1 y2 y3 z0 z1 z2 z3; have y0 := hx5.cell 0; have y1 := hx5.cell 1; have y2 := hx5.cell 2; have y3 := hx5.cell 3; have z0 := hx5.frozen 0; have z1 := hx5.frozen 1; have z2 := hx5.frozen 2; have z3 := hx5.frozen 3; have d0 := hg5.cell 0; have d1 := hg5.cell 1; have d2 := hg5.cell 2; have d3 := hg5.cell 3; clear hx5 hg5; simp at y0 y1 y2 y3 d0 d1 d2 d3)
          all_goals
            go_wp2_with fail
            refine bodyPost_ret (retF3 Tryd.results19 rfl rfl rfl HX5.out.store4) rfl ⟨by rw [HR2.out]; unfold rv; rw [← HS3.out]; rfl, ((((((HBC.out.drew).trans (HB5.out.mono (by have := HBC.out.size; simp; omega))).setCell (by simp) _).setCell (by simp) _).setCell (by simp) _).setCell (by simp) _)⟩
        · have hz0 : F.2.2 = 0 := by omega
          have hpz : ¬ (0 : Int) < (F.2.2 : Int) := by omega
          have HZ0 := Lib.hid hz0
          clear hmx hS hS2 hb9 hf0 hfl hFF hpos hbc hx HFW HR hz0
          go_wp2_with fail
          go_roundg (9 - (k + 1))
          case measure => have := HG.out; omega
          case rel =>
            refine ⟨k + 1, by omega, rfl, by go_num, fun j hj => ?_, HXC.out, HBC.out⟩
            by_cases hjk : j = k
            · subst hjk; rw [HFF.out]; exact HZ0.out
            · exact HA.out j (by omega)
    · have hltz : ¬ (k : Int) < 8 := by omega
      obtain rfl : k = 8 := by omega
      have hR := HR.out
      rw [first_no (fun j hj => HA.out j hj)] at hR
      have HR2 := Lib.hid hR
      have hx := HX.out
      have y0 := hx.cell 0; have y1 := hx.cell 1; have y2 := hx.cell 2; have y3 := hx.cell 3; have z0 := hx.frozen 0; have z1 := hx.frozen 1; have z2 := hx.frozen 2; have z3 := hx.frozen 3
      simp at y0 y1 y2 y3
      clear hR hx
      go_wp2_with fail
      refine bodyPost_ret (retF3 Tryd.results19 rfl rfl rfl HX.out.store4) rfl ⟨by rw [HR2.out]; rfl, ((((HB.out.setCell (by simp) _).setCell (by simp) _).setCell (by simp) _).setCell (by simp) _)⟩
end Go.Proofs.YteppdnlchjpekaaDoor
