/- Package lex: marks that are read. -/
import Derived.Test.YteppdnlchjpekaaDoorEf
namespace Go.Proofs.YteppdnlchjpekaaDoor
open Go.RowKit Lx
open Go
attribute [local go_sem] Oper.semAt_some

namespace Lx
def hexL : List UInt8 := [48, 49, 50, 51, 52, 53, 54, 55, 56, 57, 97, 98, 99, 100, 101, 102]
/-- The mark at the beginning: what it denotes, its length. -/
def markAt (l : List UInt8) : UInt8 × Nat :=
  match l with
  | [] => (0, 0)
  | c :: r =>
    if 32 ≤ c.toNat ∧ c.toNat ≠ 34 ∧ c.toNat ≠ 92 ∧ c.toNat ≠ 127 then (c, 1)
    else if c ≠ 92 then (0, 0)
    else match r with
      | [] => (0, 0)
      | d :: r2 =>
        if d = 34 then (34, 2) else if d = 92 then (92, 2) else if d = 110 then (10, 2) else if d = 116 then (9, 2)
        else if d ≠ 120 then (0, 0)
        else match r2 with
          | a :: b :: _ => if Lib.indexByte hexL a < 0 ∨ Lib.indexByte hexL b < 0 then (0, 0) else (UInt8.ofNat ((Lib.indexByte hexL a).toNat * 16 + (Lib.indexByte hexL b).toNat), 4)
          | _ => (0, 0)
end Lx
set_option maxRecDepth 100000 in
theorem bits_or (m n : Nat) (hm : m < 16) (hn : n < 16) : bits .or .i64 ((m : Int) * 16) (n : Int) % 256 = ((UInt8.ofNat (m * 16 + n)).toNat : Int) := by
  have : ∀ m n : Fin 16, bits .or .i64 ((m.val : Int) * 16) (n.val : Int) % 256 = ((UInt8.ofNat (m.val * 16 + n.val)).toNat : Int) := by decide +kernel
  exact this ⟨m, hm⟩ ⟨n, hn⟩
theorem below_drewN (w : World) (n : Nat) : Below w.heap.size w (w.drewN n) := by
  induction n with
  | zero => exact Below.refl _ _
  | succ n ih => exact ih.drew
def mv (m : UInt8 × Nat) : Value := .tuple #[.int .u8 (m.1.toNat : Int), .int .i64 (m.2 : Int)]
theorem at_byte (s : ByteArray) {k : Nat} {l : List UInt8} {c : UInt8} (hs : s.data.toList = l) (h : l[k]? = some c) (hk : k < s.size) : (s[k].toNat : Int) = (c.toNat : Int) := by
  subst hs
  obtain ⟨_, h2⟩ := List.getElem?_eq_some_iff.1 h
  have h3 : s[k] = c := h2
  rw [h3]
theorem ix_bd (l : List UInt8) (c : UInt8) : -1 ≤ Lib.indexByte l c ∧ Lib.indexByte l c < (l.length : Int) := by
  induction l with
  | nil => simp [Lib.indexByte]
  | cons x l ih =>
    unfold Lib.indexByte
    split <;> (try split) <;> simp <;> omega

set_option maxRecDepth 100000 in
set_option maxHeartbeats 800000 in
theorem markat_c (s : ByteArray) (hpos : 0 < s.size) (hs : s.size ≤ maxLen) (w : World) : Calls Tryd.prog 65 #[.string s] w fun e w' => e = .returned (mv (markAt s.data.toList)) ∧ Below w.heap.size w w' := by
  have hmax : maxLen = 9223372036854775807 := rfl
  obtain ⟨F0, hF0⟩ : ∃ F0, F0 = markAt s.data.toList := ⟨_, rfl⟩
  rw [← hF0]
  unfold markAt at hF0
  have hsl := size_list s
  cases hd : s.data.toList with
  | nil => rw [hd, List.length_nil] at hsl; omega
  | cons c r =>
    have c0 := at_byte s (k := 0) hd rfl hpos
    rw [hd] at hF0 hsl
    rw [List.length_cons] at hsl
    dsimp only at hF0
    have hsf := self_c c w
    by_cases hq : selfB c = true
    · rw [hq] at hsf
      unfold selfB at hq
      rw [if_pos (of_decide_eq_true hq)] at hF0
      have HS := Lib.hid hsf; have HF0 := Lib.hid hF0
      clear hq hsf hF0 hsl hd
      go_enter Tryd.func65, Tryd.ntmps65
      go_wp2_with fail
      refine HS.out.mono ?_
      rintro e w1 ⟨rfl, rfl⟩
      go_wp2_with fail
      go_ret2
      exact ⟨by rw [HF0.out]; rfl, Below.refl _ _⟩
    · replace hq : selfB c = false := by simpa using hq
      rw [hq] at hsf
      unfold selfB at hq
      rw [if_neg (of_decide_eq_false hq)] at hF0
      have HS := Lib.hid hsf
      clear hq hsf
      by_cases h92 : c = 92
      · subst h92
        rw [if_neg (by simp)] at hF0
        replace c0 : (s[0].toNat : Int) = 92 := c0
        cases r with
        | nil =>
          have hl2 : (s.size : Int) < 2 := by rw [hsl]; simp
          have HF0 := Lib.hid hF0
          clear hF0 hsl hd
          go_enter Tryd.func65, Tryd.ntmps65
          go_wp2_with fail
          refine HS.out.mono ?_
          rintro e w1 ⟨rfl, rfl⟩
          go_wp2_with fail
          go_ret2
          exact ⟨by rw [HF0.out]; rfl, Below.refl _ _⟩
        | cons d r2 =>
          have h1s : 1 < s.size := by rw [hsl, List.length_cons]; omega
          have c1 := at_byte s (k := 1) hd rfl h1s
          have hl2 : ¬ (s.size : Int) < 2 := by omega
          dsimp only at hF0
          have hi := Tryd.strings_IndexByte ⟨#[34, 92, 110, 116]⟩ (d.toNat : Int) w
          have e0 : ((d.toNat : Int).toNat).toUInt8 = d := by simp
          rw [e0] at hi
          by_cases d34 : d = 34
          · subst d34
            have e1 : Lib.indexByte (⟨#[34, 92, 110, 116]⟩ : ByteArray).data.toList 34 = 0 := by decide
            rw [e1] at hi
            have HF0 := Lib.hid hF0; have HI := Lib.hid hi
            clear hF0 hsl hd hi e0 e1
            go_enter Tryd.func65, Tryd.ntmps65
            go_wp2_with fail
            refine HS.out.mono ?_
            rintro e w1 ⟨rfl, rfl⟩
            go_wp2_with fail
            refine HI.out.mono ?_
            rintro e w1 ⟨rfl, rfl⟩
            go_wp2_with fail
            go_ret2
            exact ⟨by rw [HF0.out]; rfl, Below.refl _ _⟩
          by_cases d92 : d = 92
          · subst d92
            have e1 : Lib.indexByte (⟨#[34, 92, 110, 116]⟩ : ByteArray).data.toList 92 = 1 := by decide
            rw [e1] at hi
            have HF0 := Lib.hid hF0; have HI := Lib.hid hi
            clear hF0 hsl hd hi e0 e1
            go_enter Tryd.func65, Tryd.ntmps65
            go_wp2_with fail
            refine HS.out.mono ?_
            rintro e w1 ⟨rfl, rfl⟩
            go_wp2_with fail
            refine HI.out.mono ?_
            rintro e w1 ⟨rfl, rfl⟩
            go_wp2_with fail
            go_ret2
            exact ⟨by rw [HF0.out]; rfl, Below.refl _ _⟩
          by_cases d110 : d = 110
          · subst d110
            have e1 : Lib.indexByte (⟨#[34, 92, 110, 116]⟩ : ByteArray).data.toList 110 = 2 := by decide
            rw [e1] at hi
            have HF0 := Lib.hid hF0; have HI := Lib.hid hi
            clear hF0 hsl hd hi e0 e1
            go_enter Tryd.func65, Tryd.ntmps65
            go_wp2_with fail
            refine HS.out.mono ?_
            rintro e w1 ⟨rfl, rfl⟩
            go_wp2_with fail
            refine HI.out.mono ?_
            rintro e w1 ⟨rfl, rfl⟩
            go_wp2_with fail
            go_ret2
            exact ⟨by rw [HF0.out]; rfl, Below.refl _ _⟩
          by_cases d116 : d = 116
          · subst d116
            have e1 : Lib.indexByte (⟨#[34, 92, 110, 116]⟩ : ByteArray).data.toList 116 = 3 := by decide
            rw [e1] at hi
            have HF0 := Lib.hid hF0; have HI := Lib.hid hi
            clear hF0 hsl hd hi e0 e1
            go_enter Tryd.func65, Tryd.ntmps65
            go_wp2_with fail
            refine HS.out.mono ?_
            rintro e w1 ⟨rfl, rfl⟩
            go_wp2_with fail
            refine HI.out.mono ?_
            rintro e w1 ⟨rfl, rfl⟩
            go_wp2_with fail
            go_ret2
            exact ⟨by rw [HF0.out]; rfl, Below.refl _ _⟩
          rw [if_neg d34, if_neg d92, if_neg d110, if_neg d116] at hF0
          have e1 : Lib.indexByte (⟨#[34, 92, 110, 116]⟩ : ByteArray).data.toList d = -1 := by
            show Lib.indexByte [34, 92, 110, 116] d = -1
            simp [Lib.indexByte, Ne.symm d34, Ne.symm d92, Ne.symm d110, Ne.symm d116]
          rw [e1] at hi
          have HI := Lib.hid hi
          clear hi e0 e1 d34 d92 d110 d116
          by_cases d120 : d = 120
          · subst d120
            replace c1 : (s[1].toNat : Int) = 120 := c1
            rw [if_neg (by simp)] at hF0
            have hcase : (s.size < 4 ∧ F0 = (0, 0)) ∨ ∃ a b r3, r2 = a :: b :: r3 ∧ 4 ≤ s.size := by
              match r2, hsl, hF0 with
              | [], hsl, hF0 => exact .inl ⟨by simp at hsl; omega, hF0⟩
              | [a], hsl, hF0 => exact .inl ⟨by simp at hsl; omega, hF0⟩
              | a :: b :: r3, hsl, _ => exact .inr ⟨a, b, r3, rfl, by simp at hsl; omega⟩
            rcases hcase with ⟨h4, hF1⟩ | ⟨a, b, r3, rfl, h4⟩
            · have hl4 : (s.size : Int) < 4 := by omega
              have HF0 := Lib.hid hF1
              clear hF0 hF1 hsl hd h4
              go_enter Tryd.func65, Tryd.ntmps65
              go_wp2_with fail
              refine HS.out.mono ?_
              rintro e w1 ⟨rfl, rfl⟩
              go_wp2_with fail
              refine HI.out.mono ?_
              rintro e w1 ⟨rfl, rfl⟩
              go_wp2_with fail
              go_ret2
              exact ⟨by rw [HF0.out]; rfl, Below.refl _ _⟩
            · have hl4 : ¬ (s.size : Int) < 4 := by omega
              have h2s : 2 < s.size := by omega
              have h3s : 3 < s.size := by omega
              have c2 := at_byte s (k := 2) hd rfl h2s
              have c3 := at_byte s (k := 3) hd rfl h3s
              dsimp only at hF0
              have ea : ((a.toNat : Int).toNat).toUInt8 = a := by simp
              have eb : ((b.toNat : Int).toNat).toUInt8 = b := by simp
              have hia := fun W => Tryd.strings_IndexByte ⟨#[48, 49, 50, 51, 52, 53, 54, 55, 56, 57, 97, 98, 99, 100, 101, 102]⟩ (a.toNat : Int) W
              have hib := fun W => Tryd.strings_IndexByte ⟨#[48, 49, 50, 51, 52, 53, 54, 55, 56, 57, 97, 98, 99, 100, 101, 102]⟩ (b.toNat : Int) W
              rw [ea, show (⟨#[48, 49, 50, 51, 52, 53, 54, 55, 56, 57, 97, 98, 99, 100, 101, 102]⟩ : ByteArray).data.toList = hexL from rfl] at hia
              rw [eb, show (⟨#[48, 49, 50, 51, 52, 53, 54, 55, 56, 57, 97, 98, 99, 100, 101, 102]⟩ : ByteArray).data.toList = hexL from rfl] at hib
              have ba := ix_bd hexL a
              have bb := ix_bd hexL b
              rw [show (hexL.length : Int) = 16 from rfl] at ba bb
              have hne : ∀ W : World, Calls Tryd.prog 52 #[.string ⟨#[48, 49, 50, 51, 52, 53, 54, 55, 56, 57, 97, 98, 99, 100, 101, 102]⟩, .int .u8 (b.toNat : Int)] W fun e w' => e = .returned (.int .i64 (Lib.indexByte hexL b)) ∧ w' = w' := fun W => (hib W).mono fun e w' h => ⟨h.1, rfl⟩
              clear hne
              generalize Lib.indexByte hexL a = x at hia ba hF0
              generalize Lib.indexByte hexL b = y at hib bb hF0
              have HIA := Lib.hid hia; have HIB := Lib.hid hib
              clear hia hib ea eb hsl hd h4
              by_cases hneg : x < 0 ∨ y < 0
              · rw [if_pos hneg] at hF0
                have HF0 := Lib.hid hF0
                clear hF0
                by_cases hx : x < 0
                · clear hneg
                  go_enter Tryd.func65, Tryd.ntmps65
                  go_wp2_with fail
                  refine HS.out.mono ?_
                  rintro e w1 ⟨rfl, rfl⟩
                  go_wp2_with fail
                  refine HI.out.mono ?_
                  rintro e w1 ⟨rfl, rfl⟩
                  go_wp2_with fail
                  go_quiet (first | (go_at_call 52; exact Calls.quiet_of_same (HIA.out _)) | (go_at_call 52; exact Calls.quiet_of_same (HIB.out _)))
                  all_goals
                    go_wp2_with fail
                    go_ret2
                    exact ⟨by rw [HF0.out]; rfl, below_drewN _ _⟩
                · have hy : y < 0 := by omega
                  clear hneg
                  go_enter Tryd.func65, Tryd.ntmps65
                  go_wp2_with fail
                  refine HS.out.mono ?_
                  rintro e w1 ⟨rfl, rfl⟩
                  go_wp2_with fail
                  refine HI.out.mono ?_
                  rintro e w1 ⟨rfl, rfl⟩
                  go_wp2_with fail
                  go_quiet (first | (go_at_call 52; exact Calls.quiet_of_same (HIA.out _)) | (go_at_call 52; exact Calls.quiet_of_same (HIB.out _)))
                  all_goals
                    go_wp2_with fail
                    go_ret2
                    exact ⟨by rw [HF0.out]; rfl, below_drewN _ _⟩
              · rw [if_neg hneg] at hF0
                obtain ⟨m, rfl⟩ : ∃ m : Nat, x = (m : Int) := ⟨x.toNat, by omega⟩
                obtain ⟨n, rfl⟩ : ∃ n : Nat, y = (n : Int) := ⟨y.toNat, by omega⟩
                have hm16 : m < 16 := by omega
                have hn16 : n < 16 := by omega
                rw [Int.toNat_natCast, Int.toNat_natCast] at hF0
                have HF0 := Lib.hid hF0
                clear hF0 hneg ba bb
                go_enter Tryd.func65, Tryd.ntmps65
                go_wp2_with fail
                refine HS.out.mono ?_
                rintro e w1 ⟨rfl, rfl⟩
                go_wp2_with fail
                refine HI.out.mono ?_
                rintro e w1 ⟨rfl, rfl⟩
                go_wp2_with fail
                go_quiet (first | (go_at_call 52; exact Calls.quiet_of_same (HIA.out _)) | (go_at_call 52; exact Calls.quiet_of_same (HIB.out _)))
                all_goals
                  go_wp2_with fail
                  go_ret2
                  exact ⟨by rw [HF0.out]; unfold mv; rw [← bits_or m n hm16 hn16]; rfl, below_drewN _ _⟩
          · rw [if_pos d120] at hF0
            have n120 : ¬ (d.toNat : Int) = 120 := fun e => d120 (UInt8.toNat_inj.1 (by show d.toNat = 120; omega))
            have HF0 := Lib.hid hF0
            clear hF0 hsl hd d120
            go_enter Tryd.func65, Tryd.ntmps65
            go_wp2_with fail
            refine HS.out.mono ?_
            rintro e w1 ⟨rfl, rfl⟩
            go_wp2_with fail
            refine HI.out.mono ?_
            rintro e w1 ⟨rfl, rfl⟩
            go_wp2_with fail
            go_ret2
            exact ⟨by rw [HF0.out]; rfl, Below.refl _ _⟩
      · rw [if_pos h92] at hF0
        have n92 : ¬ (c.toNat : Int) = 92 := fun e => h92 (UInt8.toNat_inj.1 (by show c.toNat = 92; omega))
        have HF0 := Lib.hid hF0
        clear hF0 hsl hd h92
        go_enter Tryd.func65, Tryd.ntmps65
        go_wp2_with fail
        refine HS.out.mono ?_
        rintro e w1 ⟨rfl, rfl⟩
        go_wp2_with fail
        go_ret2
        exact ⟨by rw [HF0.out]; rfl, Below.refl _ _⟩
end Go.Proofs.YteppdnlchjpekaaDoor
