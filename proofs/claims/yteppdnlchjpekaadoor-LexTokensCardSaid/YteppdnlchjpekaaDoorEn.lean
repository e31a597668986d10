/- Package lex: the list of finders. -/
import Derived.Test.YteppdnlchjpekaaDoorEl
import Derived.Test.YteppdnlchjpekaaDoorEh
import Derived.Laws.EntriesVeiled
namespace Go.Proofs.YteppdnlchjpekaaDoor
open Go.RowKit Lx
open Go
attribute [local go_sem] Oper.semAt_some

theorem blk_at {w : World} {g : Nat} {t : TypeId} {cs : Array Value} (h : w.heap.size = g) : Blk (w.alloc (.cells cs t)) g t cs := by subst h; exact Blk.new w t cs
theorem WM.alloc {w : World} {b : Nat} {ks : List (List UInt8)} (h : WM w b ks) (o : Obj) : WM (w.alloc o) b ks := World.ownsMap.alloc h o
def fns (p1 p2 p3 : Nat) : Array Value := #[.func (.func 35) #[] #[.pointer (some ⟨p1, 0, none⟩)], .func (.func 36) #[] #[.pointer (some ⟨p2, 0, none⟩), .pointer (some ⟨p3, 0, none⟩)], .func (.func 37) #[] #[.pointer (some ⟨p3, 0, none⟩)],
  .func (.func 38) #[] #[], .func (.func 39) #[] #[], .func (.func 40) #[] #[], .func (.func 41) #[] #[], .func (.func 42) #[] #[]]
/-- The finders lie in block g, over the words. -/
def FS (W : World) (g p1 p2 p3 b : Nat) : Prop := Blk W g 82 (fns p1 p2 p3) ∧ Env2 W p2 p1 b ∧ Blk W p3 35 #[.func (.func 33) #[] #[.pointer (some ⟨p2, 0, none⟩)]]
theorem FS.under {W W' : World} {g p1 p2 p3 b : Nat} (h : FS W g p1 p2 p3 b) (hb : Below W.heap.size W W') : FS W' g p1 p2 p3 b := ⟨h.1.below hb h.1.lt, h.2.1.under hb, h.2.2.below hb h.2.2.lt⟩
set_option maxRecDepth 100000 in
set_option maxHeartbeats 1000000 in
theorem finders_c (w : World) : Calls Tryd.prog 17 #[] w fun e w' => ∃ g p1 p2 p3 b, e = .returned (.slice (some ⟨g, 0, none⟩) 8 8) ∧ FS w' g p1 p2 p3 b ∧ Below w.heap.size w w' := by
  have HW := Lib.hid (words_c w)
  go_enter Tryd.func17, Tryd.ntmps17
  go_wp2_with fail
  refine HW.out.mono ?_
  rintro e w1 ⟨b, rfl, hm, hb1⟩
  have HM := Lib.hid hm; have HB1 := Lib.hid hb1
  clear hm hb1
  go_wp2_with fail
  go_ret
  refine ⟨w1.heap.size + 1 + 1 + 1, w1.heap.size, w1.heap.size + 1, w1.heap.size + 1 + 1, b, rfl, ⟨?_, ⟨?_, ?_, ?_⟩, ?_⟩, ?_⟩
  · exact blk_at (by simp)
  · exact ((blk_at (by simp)).alloc _).alloc _
  · exact (((blk_at rfl).alloc _).alloc _).alloc _
  · exact (((HM.out.alloc _).alloc _).alloc _).alloc _
  · exact (blk_at (by simp)).alloc _
  · exact (((HB1.out.alloc HB1.out.size _).alloc (by have := HB1.out.size; simp; omega) _).alloc (by have := HB1.out.size; simp; omega) _).alloc (by have := HB1.out.size; simp; omega) _
end Go.Proofs.YteppdnlchjpekaaDoor
