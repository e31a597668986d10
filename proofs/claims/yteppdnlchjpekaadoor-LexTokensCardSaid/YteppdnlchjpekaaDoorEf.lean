/- Package lex: finders of words, names, fields, variables, _ . -/
import Derived.Test.YteppdnlchjpekaaDoorEe
namespace Go.Proofs.YteppdnlchjpekaaDoor
open Go.RowKit Lx
open Go
attribute [local go_sem] Oper.semAt_some

namespace Lx
/-- What a finder finds: a kind, a text, how many bytes; 0 bytes: nothing. -/
abbrev Fnd := Nat × List UInt8 × Nat
def no : Fnd := (0, [], 0)
def fWord (l : List UInt8) : Fnd := if isW (lead l) then (1, lead l, (lead l).length) else no
def nameOf (a f : List UInt8) : Fnd := if a = [] then no else if f = [] then (2, a, a.length) else (2, a ++ 46 :: f, a.length + (1 + f.length))
def fName (l : List UInt8) : Fnd := nameOf (plainN l) (fieldN (l.drop (plainN l).length))
def fieldOf (f : List UInt8) : Fnd := if f = [] then no else (9, f, 1 + f.length)
def fField (l : List UInt8) : Fnd := fieldOf (fieldN l)
def fVar (l : List UInt8) : Fnd :=
  match lead l with
  | [] => no
  | c :: r => if 65 ≤ c.toNat ∧ c.toNat ≤ 90 then (3, c :: r, (c :: r).length) else no
def fAny (l : List UInt8) : Fnd := if lead l = [95] then (4, [95], 1) else no
theorem field_len (l : List UInt8) : (fieldN l).length ≤ l.length := by
  unfold fieldN
  cases l with
  | nil => simp
  | cons c r =>
    have := plain_len r
    dsimp only
    split
    · rw [List.length_cons]; omega
    · simp
end Lx
def fv (f : Fnd) : Value := .tuple #[.agg #[.int .i64 0, .int .i64 0, .int .u8 (f.1 : Int), .string ⟨f.2.1.toArray⟩], .int .i64 (f.2.2 : Int)]
theorem fv_i {k : Nat} {l : List UInt8} {S : ByteArray} {n : Nat} {z : Int} (h : S.data.toList = l) (hz : z = (n : Int)) : Value.tuple #[.agg #[.int .i64 0, .int .i64 0, .int .u8 (k : Int), .string S], .int .i64 z] = fv (k, l, n) := by
  unfold fv
  rw [ba_eq h, hz]
theorem Blk.store4 {w : World} {g : Nat} {t : TypeId} {x y z u x' y' z' u' : Value} (h : Blk w g t #[x, y, z, u]) : Blk ((((w.setCell ⟨g, 0, none⟩ x').setCell ⟨g, 1, none⟩ y').setCell ⟨g, 2, none⟩ z').setCell ⟨g, 3, none⟩ u') g t #[x', y', z', u'] :=
  (((h.set_ 0 x').set_ 1 y').set_ 2 z').set_ 3 u'
theorem retF {fn : Func} {p q : Tmp} (h : fn.results = #[.cell p 44, .tmp q]) {tmps : Array Value} {W : World} {g : Nat} {x y z u v : Value} (hp : tmps.getD p undef = .pointer (some ⟨g, 0, none⟩)) (hq : tmps.getD q undef = v)
    (hb : Blk W g 44 #[x, y, z, u]) : (results fn tmps).run Tryd.prog W = .ok (.tuple #[.agg #[x, y, z, u], v]) W := by
  have c0 := hb.cell 0
  have c1 := hb.cell 1
  have c2 := hb.cell 2
  have c3 := hb.cell 3
  simp at c0 c1 c2 c3
  rw [Array.getD_eq_getD_getElem?] at hp hq
  simp [results, h, hp, hq, go_sem, c0, c1, c2, c3]

set_option maxRecDepth 100000 in
set_option maxHeartbeats 400000 in
theorem fword_c (s : ByteArray) (hs : s.size ≤ maxLen) (p b : Nat) (w : World) (hE : Env w p b) :
    Calls Tryd.prog 35 #[.string s, .pointer (some ⟨p, 0, none⟩)] w fun e w' => e = .returned (fv (fWord s.data.toList)) ∧ Below w.heap.size w w' := by
  obtain ⟨S, hS, hSs, hl⟩ := leading_s s hs
  have hE2 := hE.under ((Below.refl _ _).alloc (Nat.le_refl _) (.cells #[.int .i64 0, .int .i64 0, .int .u8 0, .string ⟨#[]⟩] 44))
  have e0 := hE2.1.cell 0
  simp at e0
  have hlk := look_word hE2.2 S (by omega)
  rw [hS] at hlk
  have hsl := size_list S
  rw [hS] at hsl
  obtain ⟨F0, hF0⟩ : ∃ F0, F0 = fWord s.data.toList := ⟨_, rfl⟩
  rw [← hF0]
  unfold fWord isW at hF0
  obtain ⟨q, hq⟩ : ∃ q, wordL.contains (lead s.data.toList) = q := ⟨_, rfl⟩
  rw [hq] at hlk hF0
  have HL := Lib.hid hl; have HS := Lib.hid hS; have HSL := Lib.hid hsl; have HF0 := Lib.hid hF0
  clear hl hS hq hE hE2 hsl hF0
  cases q
  · go_enter Tryd.func35, Tryd.ntmps35
    go_wp2_with fail
    refine (HL.out _).mono ?_
    rintro e w1 ⟨rfl, rfl⟩
    go_wp2_with fail
    refine bodyPost_ret (retF Tryd.results35 rfl rfl (Blk.new _ _ _)) rfl ⟨by rw [HF0.out, if_neg (by decide)]; rfl, (by repeat (first | exact Below.refl _ _ | refine Below.setCell ?_ (by simp) _ | refine Below.alloc ?_ (by simp) _))⟩
  · go_enter Tryd.func35, Tryd.ntmps35
    go_wp2_with fail
    refine (HL.out _).mono ?_
    rintro e w1 ⟨rfl, rfl⟩
    go_wp2_with fail
    refine bodyPost_ret (retF Tryd.results35 rfl rfl (Blk.new _ _ _)) rfl ⟨by rw [HF0.out, if_pos (by first | rfl | trivial)]; exact congrArg Ending.returned (fv_i (k := 1) HS.out (by rw [HSL.out])), (by repeat (first | exact Below.refl _ _ | refine Below.setCell ?_ (by simp) _ | refine Below.alloc ?_ (by simp) _))⟩

set_option maxRecDepth 100000 in
set_option maxHeartbeats 400000 in
theorem ffield_c (s : ByteArray) (hs : s.size ≤ 1000000) (p3 p2 p b : Nat) (w : World) (hE3 : Blk w p3 35 #[.func (.func 33) #[] #[.pointer (some ⟨p2, 0, none⟩)]]) (hE : Env2 w p2 p b) :
    Calls Tryd.prog 37 #[.string s, .pointer (some ⟨p3, 0, none⟩)] w fun e w' => e = .returned (fv (fField s.data.toList)) ∧ Below w.heap.size w w' := by
  have hmax : maxLen = 9223372036854775807 := rfl
  have hb0 : Below w.heap.size w (w.alloc (.cells #[.int .i64 0, .int .i64 0, .int .u8 0, .string ⟨#[]⟩] 44)) := (Below.refl _ _).alloc (Nat.le_refl _) _
  have e0 := (hE3.below hb0 hE3.lt).cell 0
  simp at e0
  have hf := field_c s (by omega) p2 p b _ (hE.under hb0)
  have htk := Blk.new w 44 #[.int .i64 0, .int .i64 0, .int .u8 0, .string ⟨#[]⟩]
  have hfl : (fieldN s.data.toList).length ≤ 1000000 := by
    have := field_len s.data.toList
    rw [← size_list] at this; omega
  obtain ⟨F0, hF0⟩ : ∃ F0, F0 = fField s.data.toList := ⟨_, rfl⟩
  rw [← hF0]
  unfold fField fieldOf at hF0
  obtain ⟨S, hS⟩ : ∃ S : ByteArray, S = ⟨(fieldN s.data.toList).toArray⟩ := ⟨_, rfl⟩
  have hS2 : S.data.toList = fieldN s.data.toList := by rw [hS]
  rw [← hS] at hf
  generalize fieldN s.data.toList = F at hS2 hfl hF0
  have hem := emp_iff S
  have hsl := size_list S
  rw [hS2] at hem hsl
  have hSm : S.size ≤ 1000000 := by omega
  have HF := Lib.hid hf; have HS := Lib.hid hS2; have HSL := Lib.hid hsl; have HB := Lib.hid hb0; have HT := Lib.hid htk; have HF0 := Lib.hid hF0
  clear hS hS2 hf hE3 hE hb0 hsl htk hF0 hfl
  cases F with
  | nil =>
    replace hem : S.toList.isEmpty = true := hem
    go_enter Tryd.func37, Tryd.ntmps37
    go_wp2_with fail
    refine HF.out.mono ?_
    rintro e w1 ⟨rfl, hb1⟩
    have hx := HT.out.below hb1 HT.out.lt
    have HX := Lib.hid hx
    have HB1 := Lib.hid (HB.out.trans (hb1.mono HB.out.size))
    have y0 := hx.cell 0; have y1 := hx.cell 1; have y2 := hx.cell 2; have y3 := hx.cell 3; have z0 := hx.frozen 0; have z1 := hx.frozen 1; have z2 := hx.frozen 2; have z3 := hx.frozen 3
    simp at y0 y1 y2 y3
    clear hb1 hx HB
    go_wp2_with fail
    refine bodyPost_ret (retF Tryd.results37 rfl rfl HX.out.store4) rfl ⟨by rw [HF0.out, if_pos (by first | rfl | trivial)]; rfl, ((((HB1.out.setCell (by simp) _).setCell (by simp) _).setCell (by simp) _).setCell (by simp) _)⟩
  | cons c r =>
    replace hem : S.toList.isEmpty = false := hem
    go_enter Tryd.func37, Tryd.ntmps37
    go_wp2_with fail
    refine HF.out.mono ?_
    rintro e w1 ⟨rfl, hb1⟩
    have hx := HT.out.below hb1 HT.out.lt
    have HX := Lib.hid hx
    have HB1 := Lib.hid (HB.out.trans (hb1.mono HB.out.size))
    have y0 := hx.cell 0; have y1 := hx.cell 1; have y2 := hx.cell 2; have y3 := hx.cell 3; have z0 := hx.frozen 0; have z1 := hx.frozen 1; have z2 := hx.frozen 2; have z3 := hx.frozen 3
    simp at y0 y1 y2 y3
    clear hb1 hx HB
    go_wp2_with fail
    refine bodyPost_ret (retF Tryd.results37 rfl rfl HX.out.store4) rfl ⟨by rw [HF0.out, if_neg (by simp)]; exact congrArg Ending.returned (fv_i (k := 9) HS.out (by rw [← HSL.out, Int.natCast_add]; rfl)), ((((HB1.out.setCell (by simp) _).setCell (by simp) _).setCell (by simp) _).setCell (by simp) _)⟩

set_option maxRecDepth 100000 in
set_option maxHeartbeats 400000 in
theorem fany_c (s : ByteArray) (hs : s.size ≤ maxLen) (w : World) : Calls Tryd.prog 39 #[.string s] w fun e w' => e = .returned (fv (fAny s.data.toList)) ∧ Below w.heap.size w w' := by
  obtain ⟨S, hS, hSs, hl⟩ := leading_s s hs
  obtain ⟨F0, hF0⟩ : ∃ F0, F0 = fAny s.data.toList := ⟨_, rfl⟩
  rw [← hF0]
  unfold fAny at hF0
  have hsl := size_list S
  rw [hS] at hsl
  by_cases h : lead s.data.toList = [95]
  · rw [h] at hS hsl
    obtain rfl : S = ⟨#[95]⟩ := ba_eq hS
    have HL := Lib.hid hl; have HF0 := Lib.hid hF0; have HH := Lib.hid h
    clear hl hS hsl hF0 h hSs
    go_enter Tryd.func39, Tryd.ntmps39
    go_wp2_with fail
    refine (HL.out _).mono ?_
    rintro e w1 ⟨rfl, rfl⟩
    go_wp2_with fail
    refine bodyPost_ret (retF Tryd.results39 rfl rfl (Blk.new _ _ _)) rfl ⟨by rw [HF0.out, if_pos HH.out]; exact congrArg Ending.returned (fv_i (k := 4) (l := [95]) rfl (rfl)), (by repeat (first | exact Below.refl _ _ | refine Below.setCell ?_ (by simp) _ | refine Below.alloc ?_ (by simp) _))⟩
  · have hne : (S.toList == (⟨#[95]⟩ : ByteArray).toList) = false := by
      rw [Lib.toList_data, Lib.toList_data, hS, beq_eq_false_iff_ne]; exact h
    have hne2 : (S.toList == [95]) = false := by
      rw [Lib.toList_data, hS, beq_eq_false_iff_ne]; exact h
    have HL := Lib.hid hl; have HF0 := Lib.hid hF0; have HH := Lib.hid h
    clear hl hS hsl hF0 h hSs
    go_enter Tryd.func39, Tryd.ntmps39
    go_wp2_with fail
    refine (HL.out _).mono ?_
    rintro e w1 ⟨rfl, rfl⟩
    go_wp2_with fail
    refine bodyPost_ret (retF Tryd.results39 rfl rfl (Blk.new _ _ _)) rfl ⟨by rw [HF0.out, if_neg HH.out]; rfl, (by repeat (first | exact Below.refl _ _ | refine Below.setCell ?_ (by simp) _ | refine Below.alloc ?_ (by simp) _))⟩

set_option maxRecDepth 100000 in
set_option maxHeartbeats 400000 in
theorem fvar_c (s : ByteArray) (hs : s.size ≤ maxLen) (w : World) : Calls Tryd.prog 38 #[.string s] w fun e w' => e = .returned (fv (fVar s.data.toList)) ∧ Below w.heap.size w w' := by
  obtain ⟨S, hS, hSs, hl⟩ := leading_s s hs
  obtain ⟨F0, hF0⟩ : ∃ F0, F0 = fVar s.data.toList := ⟨_, rfl⟩
  rw [← hF0]
  unfold fVar at hF0
  have hsl := size_list S
  have hem := emp_iff S
  rw [hS] at hem hsl
  cases hld : lead s.data.toList with
  | nil =>
    rw [hld] at hem hF0
    replace hem : S.toList.isEmpty = true := hem
    have HL := Lib.hid hl; have HF0 := Lib.hid hF0
    clear hl hS hsl hF0 hSs hld
    go_enter Tryd.func38, Tryd.ntmps38
    go_wp2_with fail
    refine (HL.out _).mono ?_
    rintro e w1 ⟨rfl, rfl⟩
    go_wp2_with fail
    refine bodyPost_ret (retF Tryd.results38 rfl rfl (Blk.new _ _ _)) rfl ⟨by rw [HF0.out]; rfl, (by repeat (first | exact Below.refl _ _ | refine Below.setCell ?_ (by simp) _ | refine Below.alloc ?_ (by simp) _))⟩
  | cons c r =>
    rw [hld] at hem hsl hF0
    dsimp only at hF0
    replace hem : S.toList.isEmpty = false := hem
    have hpos : 0 < S.size := by rw [hsl, List.length_cons]; omega
    have hcn : (S[0].toNat : Int) = (c.toNat : Int) := by
      have h1 : S.data.toList[0]? = some c := by rw [hS, hld]; rfl
      obtain ⟨_, h2⟩ := List.getElem?_eq_some_iff.1 h1
      have h3 : S[0] = c := h2
      rw [h3]
    rw [hld] at hS
    have HL := Lib.hid hl; have HS := Lib.hid hS; have HSL := Lib.hid hsl; have HF0 := Lib.hid hF0
    clear hl hS hsl hF0 hSs hld
    by_cases h1 : (c.toNat : Int) < 65
    · go_enter Tryd.func38, Tryd.ntmps38
      go_wp2_with fail
      refine (HL.out _).mono ?_
      rintro e w1 ⟨rfl, rfl⟩
      go_wp2_with fail
      refine bodyPost_ret (retF Tryd.results38 rfl rfl (Blk.new _ _ _)) rfl ⟨by rw [HF0.out, if_neg (by omega)]; rfl, (by repeat (first | exact Below.refl _ _ | refine Below.setCell ?_ (by simp) _ | refine Below.alloc ?_ (by simp) _))⟩
    · by_cases h2 : (90 : Int) < (c.toNat : Int)
      · go_enter Tryd.func38, Tryd.ntmps38
        go_wp2_with fail
        refine (HL.out _).mono ?_
        rintro e w1 ⟨rfl, rfl⟩
        go_wp2_with fail
        refine bodyPost_ret (retF Tryd.results38 rfl rfl (Blk.new _ _ _)) rfl ⟨by rw [HF0.out, if_neg (by omega)]; rfl, (by repeat (first | exact Below.refl _ _ | refine Below.setCell ?_ (by simp) _ | refine Below.alloc ?_ (by simp) _))⟩
      · go_enter Tryd.func38, Tryd.ntmps38
        go_wp2_with fail
        refine (HL.out _).mono ?_
        rintro e w1 ⟨rfl, rfl⟩
        go_wp2_with fail
        refine bodyPost_ret (retF Tryd.results38 rfl rfl (Blk.new _ _ _)) rfl ⟨by rw [HF0.out, if_pos (by omega)]; exact congrArg Ending.returned (fv_i (k := 3) HS.out (by rw [HSL.out])), (by repeat (first | exact Below.refl _ _ | refine Below.setCell ?_ (by simp) _ | refine Below.alloc ?_ (by simp) _))⟩
end Go.Proofs.YteppdnlchjpekaaDoor
