/- Types: what the walks of package decl share. -/
import Derived.Test.YtagmgkkicodbiaaGreatDoorTb
import Derived.Test.YtagmgkkicodbiaaGreatDoorKp
import Derived.Test.YtagmgkkicodbiaaGreatDoorVs
import Derived.Test.YtagmgkkicodbiaaGreatDoorSkw
import Derived.Test.YtagmgkkicodbiaaGreatDoorMp
import Derived.Deep.AppendLies
import Derived.Deep.Draws
import Derived.Deep.QuietTactic
import Derived.BigQuiet
import Derived.RegionTactic
import Derived.OwnWalk
import Derived.Maps.AppendAt
import Derived.Deep.RegionLaw
import Derived.Shelf.Abstract
import Derived.Shelf.RegionOpen
namespace Go.Proofs.YtagmgkkicodbiaaGreatDoor
open Go.RowKit Go.Shelf
open Go
attribute [local go_sem] Oper.semAt_some

theorem vsize_lenT (s : ByteArray) : s.size = s.data.toList.length := by rw [Array.length_toList]; rfl
theorem lt_of_cell {w : World} {b i : Nat} {x : Value} (h : w.cell? ⟨b, i, none⟩ = some x) : b < w.heap.size := by
  exact block_lt_of_cell h
theorem cell_alloc_n (w : World) (cs : Array Value) (t : TypeId) {b i : Nat} {x : Value} (hb : b = w.heap.size) (h : cs[i]? = some x := by rfl) : (w.alloc (.cells cs t)).cell? ⟨b, i, none⟩ = some x := by
  rw [hb, (Blk.new w t cs).cell, h]
theorem cell_alloc_o (w : World) (o : Obj) (p : Addr) (hb : p.block ≠ w.heap.size) : (w.alloc o).cell? p = w.cell? p := World.cell?_alloc_old _ _ _ hb
theorem cell_of_block {w w' : World} {b : Nat} (h : w'.heap[b]? = w.heap[b]?) (i : Nat) : w'.cell? ⟨b, i, none⟩ = w.cell? ⟨b, i, none⟩ := by
  simp only [World.cell?, h]
/-- A name that begins with '. -/
def pfx (n : ByteArray) : Bool := Lib.hasPrefix n.data.toList [39]
theorem pfx_c (n : ByteArray) (w : World) : Calls Tryz.prog 34 #[.string n, .string { data := #[39] }] w fun e w' => e = .returned (.bool (pfx n)) ∧ w' = w := Tryz.strings_HasPrefix n { data := #[39] } w
/-! ### None of a list -/
set_option maxHeartbeats 1000000 in
theorem index_none (I : Nat → World → Prop) (B : Nat) (l : List Ty) (A : Option Addr) (c : Nat) (g : Nat) (lb : Array Value) (hI : ∀ k W, I k W → LRep W B l A c) (eg : ∀ args w, (callFunc g args).run Tryz.prog w = .ok (.enter g args) w)
    (hp : ∀ k (hk : k < l.length) W u, I k W → TyRep W B l[k] u → Calls Tryz.prog g (#[u] ++ lb) W fun e w' => e = .returned (.bool false) ∧ I (k + 1) w') (w : World) (h0 : I 0 w) :
    Calls Tryz.prog 65 #[.slice A l.length c, .func (.func g) #[] lb] w fun e w' => e = .returned (.int .i64 (-1)) ∧ I l.length w' := by
  have hl := (hI _ _ h0).len.1; have hm := (hI _ _ h0).len.2
  have HP := Lib.hid hp; have HI := Lib.hid hI; have H0 := Lib.hid h0; clear hp hI h0
  have hmax : maxLen = 9223372036854775807 := rfl
  go_enter Tryz.func65, Tryz.ntmps65
  go_wp2_with fail
  go_loopg [5, 8] (l.length + 1) (fun gg _ s8 wr => ∃ (kk : Nat), kk ≤ l.length ∧ gg = l.length + 1 - kk ∧ s8 = .int .i64 (kk : Int) ∧ I kk wr)
  case atStart => exact ⟨0, Nat.zero_le _, by omega, rfl, H0.out⟩
  case round =>
    obtain ⟨kk, hkk, hg, rfl, hB⟩ := hrel
    have HG := Lib.hid hg
    by_cases hlt : kk < l.length
    · have hltz : (kk : Int) < (l.length : Int) := by omega
      obtain ⟨b, off, rfl, hb, n, a, A', c', ht, hn, hv, c0, c1⟩ := (HI.out _ _ hB).at_ hlt
      have hcall := HP.out kk hlt wr (.agg #[.string n, .slice A' a.length c']) hB (by rw [ht]; exact ⟨A', c', rfl, hn, hv⟩)
      have HC := Lib.hid hcall
      clear hcall ht hv hg hB
      go_wp2_with (go_at_fn g; refine HC.out.mono ?_; rintro e w' ⟨rfl, hb'⟩; have HB' := Lib.hid hb'; clear hb')
      go_roundg (l.length + 1 - (kk + 1))
      case measure => have := HG.out; omega
      case rel => exact ⟨kk + 1, by omega, rfl, by go_num, HB'.out⟩
    · have hltz : ¬ (kk : Int) < (l.length : Int) := by omega
      obtain rfl : kk = l.length := by omega
      have HB := Lib.hid hB
      clear hB hg
      go_wp2_with fail
      go_ret
      exact ⟨rfl, HB.out⟩
theorem contains_none (I : Nat → World → Prop) (B : Nat) (l : List Ty) (A : Option Addr) (c : Nat) (g : Nat) (lb : Array Value) (hI : ∀ k W, I k W → LRep W B l A c) (eg : ∀ args w, (callFunc g args).run Tryz.prog w = .ok (.enter g args) w)
    (hp : ∀ k (hk : k < l.length) W u, I k W → TyRep W B l[k] u → Calls Tryz.prog g (#[u] ++ lb) W fun e w' => e = .returned (.bool false) ∧ I (k + 1) w') (w : World) (h0 : I 0 w) :
    Calls Tryz.prog 37 #[.slice A l.length c, .func (.func g) #[] lb] w fun e w' => e = .returned (.bool false) ∧ I l.length w' := by
  have HC := Lib.hid (index_none I B l A c g lb hI eg hp w h0)
  clear hI hp h0
  go_enter Tryz.func37, Tryz.ntmps37
  go_wp2_with (go_at_call 65; refine HC.out.mono ?_; rintro e w' ⟨rfl, hb'⟩; have HB := Lib.hid hb'; clear hb')
  go_ret
  exact ⟨rfl, HB.out⟩
theorem retT1 {fn : Func} {p : Tmp} (h : fn.results = #[.cell p 24]) {tmps : Array Value} {W : World} {g : Nat} {x y : Value} (hp : tmps.getD p undef = .pointer (some ⟨g, 0, none⟩))
    (hb : Blk W g 24 #[x, y]) : (results fn tmps).run Tryz.prog W = .ok (.agg #[x, y]) W := by
  have c0 := hb.cell 0
  have c1 := hb.cell 1
  simp at c0 c1
  rw [Array.getD_eq_getD_getElem?] at hp
  simp [results, h, hp, go_sem, c0, c1]
theorem info_ty : (Tryz.prog.info? 24).map (fun i => (i.zero, i.size, i.bytes)) = some (some (.agg #[.string ⟨#[]⟩, .slice none 0 0]), 2, 40) := by kernel_rfl
/-- A row that is being filled: so many of its types are there. -/
structure Fill (w0 : World) (rb n : Nat) (l : List Ty) (w : World) : Prop where
  blk : ∃ cur, Blk w rb 24 cur ∧ cur.size = n * 2 ∧ ∀ j (hj : j < l.length), ∃ A' c', cur[j * 2]? = some (.string l[j].name) ∧ cur[j * 2 + 1]? = some (.slice A' l[j].args.length c') ∧ l[j].name.size ≤ maxLen ∧ LN (fun b => w0.heap.size ≤ b ∧ b ≠ rb) w l[j].args A' c'
theorem Fill.keep {w0 w w' : World} {rb n : Nat} {l : List Ty} (h : Fill w0 rb n l w) (hr : w0.heap.size ≤ rb) (hb : ∀ b, w0.heap.size ≤ b → b < w.heap.size → w'.heap[b]? = w.heap[b]?) : Fill w0 rb n l w' := by
  obtain ⟨cur, h1, h2, h3⟩ := h.blk
  refine ⟨cur, (hb rb hr h1.lt).trans h1, h2, fun j hj => ?_⟩
  obtain ⟨A', c', q1, q2, q3, q4⟩ := h3 j hj
  exact ⟨A', c', q1, q2, q3, q4.keep (fun b hn hl => hb b hn.1 hl) fun b h => h⟩
theorem Fill.ln {w0 w : World} {rb n : Nat} {l : List Ty} (h : Fill w0 rb n l w) (hr : w0.heap.size ≤ rb) (hl : l.length = n) (hm : n ≤ maxLen) : LN (fun b => w0.heap.size ≤ b) w l (some ⟨rb, 0, none⟩) n := by
  obtain ⟨cur, h1, h2, h3⟩ := h.blk
  have hy : ∀ j, ∃ (p : Option Addr × Nat), ∀ hj : j < l.length, cur[j * 2]? = some (.string l[j].name) ∧ cur[j * 2 + 1]? = some (.slice p.1 l[j].args.length p.2) ∧ l[j].name.size ≤ maxLen ∧ LN (fun b => w0.heap.size ≤ b ∧ b ≠ rb) w l[j].args p.1 p.2 := fun j => by
    by_cases hj : j < l.length
    · obtain ⟨A', c', q⟩ := h3 j hj
      exact ⟨(A', c'), fun _ => q⟩
    · exact ⟨(none, 0), fun h => absurd h hj⟩
  obtain ⟨p, hp⟩ := Classical.axiomOfChoice hy
  refine .mk (fun _ => rb) (fun _ => 0) (fun j => (p j).1) (fun j => (p j).2) (by omega) hm (fun j hj => ?_) fun j hj => (hp j hj).2.2.2.keep (fun _ _ _ => rfl) fun b h => h.1
  obtain ⟨q1, q2, q3, q4⟩ := hp j hj
  exact ⟨rfl, hr, q3, by rw [Nat.zero_add, h1.cell, q1], by rw [Nat.zero_add, h1.cell, q2]⟩
theorem Fill.add {w0 w : World} {rb n : Nat} {l : List Ty} {t : Ty} {A : Option Addr} {c : Nat} (h : Fill w0 rb n l w) (hl : l.length < n) (hn : t.name.size ≤ maxLen) (ht : LN (fun b => w0.heap.size ≤ b ∧ b ≠ rb) w t.args A c) :
    Fill w0 rb n (l ++ [t]) ((w.setCell ⟨rb, l.length * 2, none⟩ (.string t.name)).setCell ⟨rb, l.length * 2 + 1, none⟩ (.slice A t.args.length c)) := by
  obtain ⟨cur, h1, h2, h3⟩ := h.blk
  have far : ∀ b, b ≠ rb → ((w.setCell ⟨rb, l.length * 2, none⟩ (.string t.name)).setCell ⟨rb, l.length * 2 + 1, none⟩ (.slice A t.args.length c)).heap[b]? = w.heap[b]? := fun b hb => (Below.heap_setCell _ _ _ _ hb).trans (Below.heap_setCell _ _ _ _ hb)
  refine ⟨(cur.setIfInBounds (l.length * 2) (.string t.name)).setIfInBounds (l.length * 2 + 1) (.slice A t.args.length c), (h1.set_ _ _).set_ _ _, by simp [h2], fun j hj => ?_⟩
  rw [List.length_append, List.length_singleton] at hj
  rcases Nat.lt_or_ge j l.length with hlt | hge
  · obtain ⟨A', c', q1, q2, q3, q4⟩ := h3 j hlt
    rw [List.getElem_append_left hlt]
    refine ⟨A', c', ?_, ?_, q3, q4.keep (fun b hb _ => far b hb.2) fun b h => h⟩
    · rw [Array.getElem?_setIfInBounds_ne (by omega), Array.getElem?_setIfInBounds_ne (by omega)]; exact q1
    · rw [Array.getElem?_setIfInBounds_ne (by omega), Array.getElem?_setIfInBounds_ne (by omega)]; exact q2
  · obtain rfl : j = l.length := by omega
    have e : (l ++ [t])[l.length]'(by simp) = t := by simp
    rw [e]
    refine ⟨A, c, ?_, ?_, hn, ht.keep (fun b hb _ => far b hb.2) fun b h => h⟩
    · rw [Array.getElem?_setIfInBounds_ne (by omega), Array.getElem?_setIfInBounds_self_of_lt (by omega)]
    · rw [Array.getElem?_setIfInBounds_self_of_lt (by simp; omega)]

/-! ### Sizes, and types put in the place of names -/
mutual
def sizeT : Ty → Nat | .mk _ a => 1 + sizeL a
def sizeL : List Ty → Nat | [] => 0 | t :: l => sizeT t + sizeL l
end
mutual
def deepT : Ty → Nat | .mk _ a => 1 + deepL a
def deepL : List Ty → Nat | [] => 0 | t :: l => max (deepT t) (deepL l)
end
mutual
def substT (g : ByteArray → Option Ty) : Ty → Ty | .mk n a => match g n with | some t => t | none => .mk n (substL g a)
def substL (g : ByteArray → Option Ty) : List Ty → List Ty | [] => [] | t :: l => substT g t :: substL g l
end
theorem substL_map (g : ByteArray → Option Ty) : ∀ l, substL g l = l.map (substT g)
  | [] => rfl
  | t :: l => by rw [substL, substL_map g l]; rfl
theorem substL_none (l : List Ty) (h : ∀ t ∈ l, substT (fun _ => none) t = t) : substL (fun _ => none) l = l := by
  induction l with
  | nil => rfl
  | cons t l ih => rw [substL, h t (by simp), ih fun t ht => h t (by simp [ht])]
theorem substT_none (t : Ty) : substT (fun _ => none) t = t := by
  induction t using Ty.ind with
  | h n a ih => rw [substT]; simp only []; rw [substL_none a ih]
theorem deepL_mem {l : List Ty} {t : Ty} (h : t ∈ l) : deepT t ≤ deepL l := by
  induction l with
  | nil => cases h
  | cons x l ih =>
    rw [deepL]
    rcases List.mem_cons.1 h with rfl | h
    · omega
    · have := ih h; omega
theorem deep_size (t : Ty) : deepT t ≤ sizeT t := by
  induction t using Ty.ind with
  | h n a ih =>
    rw [deepT, sizeT]
    have : deepL a ≤ sizeL a := by
      induction a with
      | nil => exact Nat.le_refl _
      | cons x l ih2 =>
        rw [deepL, sizeL]
        have h1 := ih x (by simp)
        have h2 := ih2 fun t ht => ih t (by simp [ht])
        omega
    omega
theorem sizeT_pos (t : Ty) : 1 ≤ sizeT t := by cases t; rw [sizeT]; omega
theorem sizeL_sum : ∀ l : List Ty, sizeL l = (l.map sizeT).sum
  | [] => rfl
  | t :: l => by rw [sizeL, sizeL_sum l]; rfl
theorem sizeL_take (l : List Ty) (k : Nat) (hk : k < l.length) : sizeL (l.take (k + 1)) = sizeL (l.take k) + sizeT l[k] := by
  rw [sizeL_sum, sizeL_sum, List.take_succ_eq_append_getElem hk, List.map_append, List.sum_append_nat]
  simp
theorem sizeL_takeAll (l : List Ty) : sizeL (l.take l.length) = sizeL l := by rw [List.take_length]
theorem sizeL_take_le (l : List Ty) : ∀ k, sizeL (l.take k) ≤ sizeL l := by
  induction l with
  | nil => intro k; simp
  | cons t l ih =>
    intro k
    cases k with
    | zero => simp [sizeL]
    | succ k => rw [List.take_succ_cons, sizeL, sizeL]; have := ih k; omega
end Go.Proofs.YtagmgkkicodbiaaGreatDoor
