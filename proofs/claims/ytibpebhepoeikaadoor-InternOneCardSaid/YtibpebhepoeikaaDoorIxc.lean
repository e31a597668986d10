/- Package value: Show, of any value. -/
import Derived.Test.YtibpebhepoeikaaDoorIxb
import Derived.Test.YtibpebhepoeikaaDoorVo
import Derived.Laws.EntriesVeiled
namespace Go.Proofs.YtibpebhepoeikaaDoor
open Go.RowKit Vp
open Go
namespace Tx
attribute [local go_sem] Oper.semAt_some

theorem TabF.more {B B' : Nat} {W : World} (h : TabF B W) (hB : B ≤ B') : TabF B' W := fun W' hb => h W' (hb.mono hB)
theorem valid_fine {t : V} (h : chkV t = 0) : fine t = true := by
  unfold fine
  rw [(valid_parts h).2.1]; rfl

set_option maxRecDepth 100000 in
set_option maxHeartbeats 2000000 in
theorem text_c (t : V) (hok : fine t = true) (hlen : (txtV t).length ≤ 900000000) (u : Value) (w : World) (h : VRep w w.heap.size t u) (htab : TabF w.heap.size w) :
    Calls Tryd.prog 36 #[u] w fun e w' => e = .returned (.string ⟨(txtV t).toArray⟩) ∧ Below w.heap.size w w' := by
  obtain ⟨k, n, s, l, A, c, rfl, rfl, hk, hn, hs, hR⟩ := h.open_
  have hwr := write_c (w.heap.size + 1) (w.heap.size + 1) (w.heap.size + 1 + 1) (w.heap.size + 1 + 1 + 1) _ hok
  have HWR := Lib.hid hwr; have H := Lib.hid h; have HTF := Lib.hid htab
  clear hwr hok h hR htab
  generalize hT : V.mk k n s l = T at *
  have HT := Lib.hid hT
  clear hT
  go_enter Tryd.func36, Tryd.ntmps36
  go_wp2_with fail
  have hb := Lib.fresh_isBuilder 75 5 (w.alloc (.cells #[.int .u8 (k : Int), .int .i64 n, .string s, .slice A l.length c] 42))
  have hs1 : (w.alloc (.cells #[.int .u8 (k : Int), .int .i64 n, .string s, .slice A l.length c] 42)).heap.size = w.heap.size + 1 := by simp
  rw [hs1] at hb
  obtain ⟨W2, hW2⟩ : ∃ W, W = (w.alloc (.cells #[.int .u8 (k : Int), .int .i64 n, .string s, .slice A l.length c] 42)).alloc (.cells #[.pointer none, .slice none 0 0] 75) := ⟨_, rfl⟩
  rw [← hW2] at hb ⊢
  have hsz : W2.heap.size = w.heap.size + 1 + 1 := by rw [hW2]; simp
  have hB2 : Below w.heap.size w W2 := by rw [hW2]; exact ((Below.refl _ _).alloc (Nat.le_refl _) _).alloc (by simp) _
  have p4 := (Blk.new W2 76 #[.func (.func 48) #[] #[.pointer (some ⟨w.heap.size + 1, 0, none⟩), .pointer (some ⟨w.heap.size + 1 + 1 + 1, 0, none⟩)]]).alloc (.cells #[.func (.func 45) #[] #[.pointer (some ⟨w.heap.size + 1, 0, none⟩), .pointer (some ⟨w.heap.size + 1 + 1, 0, none⟩)]] 59)
  have p5 := Blk.new (W2.alloc (.cells #[.func (.func 48) #[] #[.pointer (some ⟨w.heap.size + 1, 0, none⟩), .pointer (some ⟨w.heap.size + 1 + 1 + 1, 0, none⟩)]] 76)) 59 #[.func (.func 45) #[] #[.pointer (some ⟨w.heap.size + 1, 0, none⟩), .pointer (some ⟨w.heap.size + 1 + 1, 0, none⟩)]]
  rw [World.size_alloc] at p5
  rw [hsz] at p4 p5
  have hB4 := (hB2.alloc hB2.size (.cells #[.func (.func 48) #[] #[.pointer (some ⟨w.heap.size + 1, 0, none⟩), .pointer (some ⟨w.heap.size + 1 + 1 + 1, 0, none⟩)]] 76)).alloc (by simp; omega) (.cells #[.func (.func 45) #[] #[.pointer (some ⟨w.heap.size + 1, 0, none⟩), .pointer (some ⟨w.heap.size + 1 + 1, 0, none⟩)]] 59)
  have hst : St (w.heap.size + 1) (w.heap.size + 1) (w.heap.size + 1 + 1) (w.heap.size + 1 + 1 + 1) [] _ := ⟨builder_alloc (builder_alloc hb _) _, p4, p5, by simp; omega⟩
  have hcall := HWR.out _ [] _ ((H.out.under hB4).more (by omega)) ((HTF.out.below hB4).more (by omega)) hst (by simpa using hlen)
  refine hcall.mono ?_
  rintro e w1 ⟨rfl, hs5, hb5, hk5⟩
  have HS5 := Lib.hid hs5
  have HB5 := Lib.hid (hB4.trans (hb5.mono (by omega)))
  clear hs5 hb5 hk5 hcall hst hB4 p4 p5 hB2 hb hs1
  go_wp2_with fail
  refine (Tryd.Builder_String_any (w.heap.size + 1) (w.heap.size + 1) (txtV T) w1 (by simpa using HS5.out.1) HS5.out.2.2.2).mono ?_
  rintro e w2 ⟨rfl, hb6⟩
  have HB6 := Lib.hid (HB5.out.trans (hb6.mono (by omega)))
  clear hb6
  go_wp2_with fail
  go_ret
  exact ⟨rfl, HB6.out⟩

set_option maxRecDepth 100000 in
set_option maxHeartbeats 2000000 in
theorem show_c (t : V) (hch : chkV t = 0) (hlen : (txtV t).length ≤ 900000000) (u : Value) (w : World) (h : VRep w w.heap.size t u) (htab : TabF w.heap.size w) :
    Calls Tryd.prog 30 #[u] w fun e w' => e = .returned (.string ⟨(txtV t).toArray⟩) ∧ Below w.heap.size w w' := by
  obtain ⟨k, n, s, l, A, c, ht, rfl, hk, hn, hs, hR⟩ := h.open_
  have hW : Below w.heap.size w (w.alloc (.cells #[.int .u8 (k : Int), .int .i64 n, .string s, .slice A l.length c] 42)) := (Below.refl _ _).alloc (Nat.le_refl _) _
  have hck := check_c t _ _ ((h.under hW).more hW.size)
  rw [hch] at hck
  have hbx := Blk.new w 42 #[.int .u8 (k : Int), .int .i64 n, .string s, .slice A l.length c]
  have HTX := Lib.hid (fun W (hb : Below w.heap.size w W) => text_c t (valid_fine hch) hlen _ W ((h.under hb).more hb.size) ((htab.below hb).more hb.size))
  have HC := Lib.hid hck; have HW := Lib.hid hW; have HBX := Lib.hid hbx
  clear hck hW hbx h hR hch hlen ht htab
  go_enter Tryd.func30, Tryd.ntmps30
  go_wp2_with fail
  refine HC.out.mono ?_
  rintro e w1 ⟨rfl, hb1⟩
  have hx := HBX.out.below hb1 HBX.out.lt
  have d0 := hx.cell 0; have d1 := hx.cell 1; have d2 := hx.cell 2; have d3 := hx.cell 3
  simp at d0 d1 d2 d3
  have HB1 := Lib.hid (HW.out.trans (hb1.mono HW.out.size))
  clear hx hb1
  go_wp2_with fail
  refine (HTX.out w1 HB1.out).mono ?_
  rintro e w2 ⟨rfl, hb2⟩
  have HB2 := Lib.hid (HB1.out.trans (hb2.mono HB1.out.size))
  clear hb2
  go_wp2_with fail
  go_ret
  exact ⟨rfl, HB2.out⟩

set_option maxRecDepth 100000 in
set_option maxHeartbeats 2000000 in
theorem show_bad (t : V) (z : Int) (hch : chkV t = z) (hz : z ≠ 0) (u : Value) (w : World) (h : VRep w w.heap.size t u) :
    Calls Tryd.prog 30 #[u] w fun e w' => e = .returned (.string ⟨#[]⟩) ∧ Below w.heap.size w w' := by
  obtain ⟨k, n, s, l, A, c, ht, rfl, hk, hn, hs, hR⟩ := h.open_
  have hW : Below w.heap.size w (w.alloc (.cells #[.int .u8 (k : Int), .int .i64 n, .string s, .slice A l.length c] 42)) := (Below.refl _ _).alloc (Nat.le_refl _) _
  have hck := check_c t _ _ ((h.under hW).more hW.size)
  rw [hch] at hck
  have HC := Lib.hid hck; have HW := Lib.hid hW
  clear hck hW h hR hch ht
  have hzz : ¬ z = 0 := hz
  go_enter Tryd.func30, Tryd.ntmps30
  go_wp2_with fail
  refine HC.out.mono ?_
  rintro e w1 ⟨rfl, hb1⟩
  have HB1 := Lib.hid (HW.out.trans (hb1.mono HW.out.size))
  clear hb1
  go_wp2_with fail
  go_ret
  exact ⟨rfl, HB1.out⟩
end Tx
end Go.Proofs.YtibpebhepoeikaaDoor
