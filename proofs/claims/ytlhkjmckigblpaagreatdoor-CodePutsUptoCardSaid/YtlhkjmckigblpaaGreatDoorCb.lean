/- Package code: own bytes are written. -/
import Derived.Test.YtlhkjmckigblpaaGreatDoorKb
import Derived.Test.YtlhkjmckigblpaaGreatDoorCa
import Derived.Test.YtlhkjmckigblpaaGreatDoorVs
import Derived.Lib.Builder
namespace Go.Proofs.YtlhkjmckigblpaaGreatDoor
open Go.RowKit Cp
open Go
attribute [local go_sem] Oper.semAt_some

theorem infoB : (Tryz.prog.info? 5).map (fun i => (i.zero, i.size, i.bytes)) = some (some (.int .u8 0), 1, 1) := by kernel_rfl
/-- A slice of bytes of the call's own. -/
def Bys (B : Nat) (l : List UInt8) (w : World) (v : Value) : Prop := w.ownsRow B 5 1 v l.length (Lib.byteCells l)
/-- A slice that reads as bytes. -/
def Sees (w : World) (v : Value) (l : List UInt8) : Prop := (∃ n c, v = .slice none n c ∧ l = []) ∨ ∃ a c, v = .slice (some a) l.length c ∧ (∀ i (h : i < l.length), w.cell? (a.add i) = some (.int .u8 ((l[i]).toNat : Int))) ∧ a.block < w.heap.size
/-- What a writing call answers. -/
def Gives (B : Nat) (w : World) (l : List UInt8) (e : Ending) (w' : World) : Prop := ∃ v', e = .returned v' ∧ Bys B l w' v' ∧ Below B w w'

theorem Gives.mk_ {B : Nat} {w w' : World} {l : List UInt8} {v : Value} (h : Bys B l w' v) (hb : Below B w w') : Gives B w l (.returned v) w' := ⟨v, rfl, h, hb⟩
theorem byteCells_app (a c : List UInt8) : Lib.byteCells (a ++ c) = Lib.byteCells a ++ Lib.byteCells c := by simp [Lib.byteCells]
theorem byteCells_one (c : UInt8) : Lib.byteCells [c] = [.int .u8 (c.toNat : Int)] := by simp [Lib.byteCells]
theorem byteCells_len (a : List UInt8) : (Lib.byteCells a).length = a.length := by simp [Lib.byteCells]

theorem byte_of (n j : Nat) : (n : Int) / 2 ^ (8 * j) % 256 = ((UInt8.ofNat (n / 256 ^ j)).toNat : Int) := by
  have h1 : (256 : Nat) ^ j = 2 ^ (8 * j) := by rw [Nat.pow_mul]
  rw [UInt8.toNat_ofNat', h1]
  show _ = (((n / 2 ^ (8 * j)) % 256 : Nat) : Int)
  rw [Int.natCast_emod, Int.natCast_ediv, Int.natCast_pow]
  rfl
set_option maxRecDepth 100000 in
set_option maxHeartbeats 4000000 in
theorem appendOwn_c (B : Nat) (l : List UInt8) (v : Value) (base n : Nat) (hbase : base ≤ 128) (hn : n < 18446744073709551616) (w : World) (h : Bys B l w v) (hl : l.length ≤ 140000000000000) (hB : B ≤ w.heap.size) :
    Calls Tryz.prog 80 #[v, .int .u8 (base : Int), .int .u64 (n : Int)] w fun e w' => Gives B w (l ++ own base n) e w' := by
  have hbl := Tryz.bits_Len64 (n : Int) w (by omega) (by omega)
  rw [Int.toNat_natCast] at hbl
  have hsz := osz_le hn
  have hze : osz n = (Lib.bitLen n + 7) / 8 := rfl
  have how : own base n = UInt8.ofNat (base + osz n) :: be (osz n) n := rfl
  generalize own base n = ow at how ⊢
  generalize osz n = z at hsz hze how
  generalize Lib.bitLen n = m at hbl hze
  have hm : m ≤ 64 := by omega
  have hq : ((m : Int) + 7) / 8 = (z : Int) := by omega
  have H := Lib.hid h; have HO := Lib.hid how
  have HBL := Lib.hid hbl
  clear h hbl how hze
  go_enter Tryz.func80, Tryz.ntmps80
  go_wp2_with fail
  refine HBL.out.mono ?_
  rintro e w1 ⟨rfl, rfl⟩
  go_wp2_with (at_builtin; refine wpList_appB _ rfl (.tmp 13) (.tmp 18) 23 rfl B 5 (.int .u8 0) Tryz.underlying23 infoB rfl _ l.length _ rfl (H.out.alloc _) w1.heap.size 1 (.int .u8 ((base : Int) + (z : Int))) rfl (by simp [World.cell?_alloc_new]) (by simp [Value.oneCell']) (by omega) (by simp; omega) ?_; intro g' cap' w3 hA; have HA := Lib.hid hA; clear hA)
  have hby : Bys B (l ++ [UInt8.ofNat (base + z)]) w3 (.slice (some ⟨g', 0, none⟩) (l.length + 1) cap') := by
    have hto : (UInt8.ofNat (base + z)).toNat = base + z := by rw [UInt8.toNat_ofNat']; omega
    unfold Bys
    rw [byteCells_app, byteCells_one, hto, List.length_append, Int.natCast_add]
    exact HA.out.1
  have HBY := Lib.hid hby; have HB3 := Lib.hid (((Below.refl B w1).alloc hB _).trans HA.out.2.2)
  clear hby HA
  go_loopg [0, 8] (z + 1) (fun gg s0 s8 wr => ∃ (k : Nat) (dn : List UInt8), k ≤ z ∧ gg = k + 1 ∧ dn ++ be k n = be z n ∧ dn.length + k = z ∧ s8 = .int .i64 ((k : Int) - 1) ∧ Bys B (l ++ [UInt8.ofNat (base + z)] ++ dn) wr s0 ∧ Below B w1 wr)
  case atStart => exact ⟨z, [], Nat.le_refl _, rfl, rfl, by simp, rfl, by rw [List.append_nil]; exact HBY.out, HB3.out⟩
  case round =>
    clear HBY HB3 HBL H
    obtain ⟨k, dn, hk, hg, hdn, hdl, rfl, hby, hb⟩ := hrel
    have HG := Lib.hid hg; have HDN := Lib.hid hdn; have HY := Lib.hid hby; have HB := Lib.hid hb
    clear hg hdn hby hb
    by_cases hk0 : k = 0
    · subst hk0
      have hfin : l ++ [UInt8.ofNat (base + z)] ++ dn = l ++ ow := by
        have h1 := HDN.out
        rw [be, List.append_nil] at h1
        rw [HO.out, h1]; simp
      rw [hfin] at HY
      clear hfin hdl
      go_wp2_with fail
      go_ret
      exact Gives.mk_ HY.out HB.out
    · obtain ⟨j, rfl⟩ : ∃ j, k = j + 1 := ⟨k - 1, by omega⟩
      have hbe : be (j + 1) n = UInt8.ofNat (n / 256 ^ j) :: be j n := rfl
      have hbv := byte_of n j
      have HBE := Lib.hid hbe; have HBV := Lib.hid hbv
      clear hbe hbv
      go_wp2_with (at_builtin; refine wpList_appB _ rfl (.tmp 26) (.tmp 32) 23 rfl B 5 (.int .u8 0) Tryz.underlying23 infoB rfl _ (l ++ [UInt8.ofNat (base + z)] ++ dn).length _ rfl (HY.out.alloc _) wr.heap.size 1 (.int .u8 ((n : Int) / 2 ^ (8 * j) % 256)) rfl (by simp [World.cell?_alloc_new]) (by simp [Value.oneCell']) (by simp; omega) (by have := HB.out.size; simp; omega) ?_; intro g' cap' w3 hA; have HA := Lib.hid hA; clear hA)
      go_roundg (j + 1)
      case measure => have := HG.out; omega
      case rel =>
        refine ⟨j, dn ++ [UInt8.ofNat (n / 256 ^ j)], by omega, rfl, ?_, ?_, by go_num, ?_, ?_⟩
        · rw [List.append_assoc, List.singleton_append, ← HBE.out]; exact HDN.out
        · simp; omega
        · have := HA.out.1
          rw [HBV.out, ← byteCells_one, ← byteCells_app] at this
          unfold Bys
          simpa [List.append_assoc, Nat.add_assoc] using this
        · exact (HB.out.alloc (by have := HB.out.size; omega) _).trans HA.out.2.2
end Go.Proofs.YtlhkjmckigblpaaGreatDoor
