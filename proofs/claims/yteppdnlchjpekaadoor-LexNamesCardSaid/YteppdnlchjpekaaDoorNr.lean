/- The rows of the law of names, in memory. -/
import Derived.Test.YteppdnlchjpekaaDoorNp
import Derived.Test.YteppdnlchjpekaaDoorGn
namespace Go.Proofs.YteppdnlchjpekaaDoor
open Go.RowKit Lx
open Go
def Rows1 (W : World) (g : Nat) : Prop := g < W.heap.size ∧ ∀ j, j < 18 → ∃ (S : ByteArray) (l c e : Nat), W.cell? ⟨g, j * 4, none⟩ = some (.string S) ∧ W.cell? ⟨g, j * 4 + 1, none⟩ = some (.int .i64 (l : Int)) ∧ W.cell? ⟨g, j * 4 + 2, none⟩ = some (.int .i64 (c : Int)) ∧ W.cell? ⟨g, j * 4 + 3, none⟩ = some (.int .i64 (e : Int)) ∧ Fails S l c e
def Rows2 (W : World) (g : Nat) : Prop := g < W.heap.size ∧ ∀ j, j < 18 → ∃ (S V : ByteArray), W.cell? ⟨g, j * 2, none⟩ = some (.string S) ∧ W.cell? ⟨g, j * 2 + 1, none⟩ = some (.string V) ∧ Shows S V
theorem rows1_new (W : World) (B1 B2 B3 B4 B5 : ByteArray) (h1 : Fails B1 1 1 63) (h2 : Fails (⟨#[97, 46]⟩ ++ B1) 1 1 63) (h3 : Fails B2 1 1 63) (h4 : Fails (⟨#[88, 46]⟩ ++ B1) 1 2 63) (h5 : Fails B3 1 1 80) (h6 : Fails (⟨#[34]⟩ ++ B4 ++ ⟨#[34]⟩) 1 1 40) (h7 : Fails B5 1 1 40) :
    Rows1 (W.alloc (.cells #[.string ⟨#[97, 10, 32, 36]⟩, .int .i64 2, .int .i64 2, .int .i64 4, .string ⟨#[34, 97]⟩, .int .i64 1, .int .i64 1, .int .i64 4, .string ⟨#[34, 97, 10, 34]⟩, .int .i64 1, .int .i64 1, .int .i64 4, .string ⟨#[120, 32, 48, 49, 50]⟩, .int .i64 1, .int .i64 3, .int .i64 4, .string ⟨#[49, 97]⟩, .int .i64 1, .int .i64 1, .int .i64 4, .string ⟨#[49, 50, 98, 98]⟩, .int .i64 1, .int .i64 1, .int .i64 4, .string ⟨#[49, 95]⟩, .int .i64 1, .int .i64 1, .int .i64 4, .string ⟨#[95, 120]⟩, .int .i64 1, .int .i64 1, .int .i64 4, .string ⟨#[34, 92, 113, 34]⟩, .int .i64 1, .int .i64 1, .int .i64 4, .string ⟨#[34, 92, 120, 52, 71, 34]⟩, .int .i64 1, .int .i64 1, .int .i64 4, .string ⟨#[97, 33]⟩, .int .i64 1, .int .i64 2, .int .i64 4, .string B1, .int .i64 1, .int .i64 1, .int .i64 63, .string (⟨#[97, 46]⟩ ++ B1), .int .i64 1, .int .i64 1, .int .i64 63, .string B2, .int .i64 1, .int .i64 1, .int .i64 63, .string (⟨#[88, 46]⟩ ++ B1), .int .i64 1, .int .i64 2, .int .i64 63, .string B3, .int .i64 1, .int .i64 1, .int .i64 80, .string (⟨#[34]⟩ ++ B4 ++ ⟨#[34]⟩), .int .i64 1, .int .i64 1, .int .i64 40, .string B5, .int .i64 1, .int .i64 1, .int .i64 40] 26)) W.heap.size := by
  have hb := Blk.new W 26 #[.string ⟨#[97, 10, 32, 36]⟩, .int .i64 2, .int .i64 2, .int .i64 4, .string ⟨#[34, 97]⟩, .int .i64 1, .int .i64 1, .int .i64 4, .string ⟨#[34, 97, 10, 34]⟩, .int .i64 1, .int .i64 1, .int .i64 4, .string ⟨#[120, 32, 48, 49, 50]⟩, .int .i64 1, .int .i64 3, .int .i64 4, .string ⟨#[49, 97]⟩, .int .i64 1, .int .i64 1, .int .i64 4, .string ⟨#[49, 50, 98, 98]⟩, .int .i64 1, .int .i64 1, .int .i64 4, .string ⟨#[49, 95]⟩, .int .i64 1, .int .i64 1, .int .i64 4, .string ⟨#[95, 120]⟩, .int .i64 1, .int .i64 1, .int .i64 4, .string ⟨#[34, 92, 113, 34]⟩, .int .i64 1, .int .i64 1, .int .i64 4, .string ⟨#[34, 92, 120, 52, 71, 34]⟩, .int .i64 1, .int .i64 1, .int .i64 4, .string ⟨#[97, 33]⟩, .int .i64 1, .int .i64 2, .int .i64 4, .string B1, .int .i64 1, .int .i64 1, .int .i64 63, .string (⟨#[97, 46]⟩ ++ B1), .int .i64 1, .int .i64 1, .int .i64 63, .string B2, .int .i64 1, .int .i64 1, .int .i64 63, .string (⟨#[88, 46]⟩ ++ B1), .int .i64 1, .int .i64 2, .int .i64 63, .string B3, .int .i64 1, .int .i64 1, .int .i64 80, .string (⟨#[34]⟩ ++ B4 ++ ⟨#[34]⟩), .int .i64 1, .int .i64 1, .int .i64 40, .string B5, .int .i64 1, .int .i64 1, .int .i64 40]
  refine ⟨hb.lt, fun j hj => ?_⟩
  match j, hj with
  | 0, _ => exact ⟨_, 2, 2, 4, (hb.cell 0).trans rfl, (hb.cell 1).trans rfl, (hb.cell 2).trans rfl, (hb.cell 3).trans rfl, fail0⟩
  | 1, _ => exact ⟨_, 1, 1, 4, (hb.cell 4).trans rfl, (hb.cell 5).trans rfl, (hb.cell 6).trans rfl, (hb.cell 7).trans rfl, fail1⟩
  | 2, _ => exact ⟨_, 1, 1, 4, (hb.cell 8).trans rfl, (hb.cell 9).trans rfl, (hb.cell 10).trans rfl, (hb.cell 11).trans rfl, fail2⟩
  | 3, _ => exact ⟨_, 1, 3, 4, (hb.cell 12).trans rfl, (hb.cell 13).trans rfl, (hb.cell 14).trans rfl, (hb.cell 15).trans rfl, fail3⟩
  | 4, _ => exact ⟨_, 1, 1, 4, (hb.cell 16).trans rfl, (hb.cell 17).trans rfl, (hb.cell 18).trans rfl, (hb.cell 19).trans rfl, fail4⟩
  | 5, _ => exact ⟨_, 1, 1, 4, (hb.cell 20).trans rfl, (hb.cell 21).trans rfl, (hb.cell 22).trans rfl, (hb.cell 23).trans rfl, fail5⟩
  | 6, _ => exact ⟨_, 1, 1, 4, (hb.cell 24).trans rfl, (hb.cell 25).trans rfl, (hb.cell 26).trans rfl, (hb.cell 27).trans rfl, fail6⟩
  | 7, _ => exact ⟨_, 1, 1, 4, (hb.cell 28).trans rfl, (hb.cell 29).trans rfl, (hb.cell 30).trans rfl, (hb.cell 31).trans rfl, fail7⟩
  | 8, _ => exact ⟨_, 1, 1, 4, (hb.cell 32).trans rfl, (hb.cell 33).trans rfl, (hb.cell 34).trans rfl, (hb.cell 35).trans rfl, fail8⟩
  | 9, _ => exact ⟨_, 1, 1, 4, (hb.cell 36).trans rfl, (hb.cell 37).trans rfl, (hb.cell 38).trans rfl, (hb.cell 39).trans rfl, fail9⟩
  | 10, _ => exact ⟨_, 1, 2, 4, (hb.cell 40).trans rfl, (hb.cell 41).trans rfl, (hb.cell 42).trans rfl, (hb.cell 43).trans rfl, fail10⟩
  | 11, _ => exact ⟨_, 1, 1, 63, (hb.cell 44).trans rfl, (hb.cell 45).trans rfl, (hb.cell 46).trans rfl, (hb.cell 47).trans rfl, h1⟩
  | 12, _ => exact ⟨_, 1, 1, 63, (hb.cell 48).trans rfl, (hb.cell 49).trans rfl, (hb.cell 50).trans rfl, (hb.cell 51).trans rfl, h2⟩
  | 13, _ => exact ⟨_, 1, 1, 63, (hb.cell 52).trans rfl, (hb.cell 53).trans rfl, (hb.cell 54).trans rfl, (hb.cell 55).trans rfl, h3⟩
  | 14, _ => exact ⟨_, 1, 2, 63, (hb.cell 56).trans rfl, (hb.cell 57).trans rfl, (hb.cell 58).trans rfl, (hb.cell 59).trans rfl, h4⟩
  | 15, _ => exact ⟨_, 1, 1, 80, (hb.cell 60).trans rfl, (hb.cell 61).trans rfl, (hb.cell 62).trans rfl, (hb.cell 63).trans rfl, h5⟩
  | 16, _ => exact ⟨_, 1, 1, 40, (hb.cell 64).trans rfl, (hb.cell 65).trans rfl, (hb.cell 66).trans rfl, (hb.cell 67).trans rfl, h6⟩
  | 17, _ => exact ⟨_, 1, 1, 40, (hb.cell 68).trans rfl, (hb.cell 69).trans rfl, (hb.cell 70).trans rfl, (hb.cell 71).trans rfl, h7⟩
  | j + 18, hj => omega
theorem rows2_new (W : World) (C1 C2 C3 C4 : ByteArray) (h1 : Shows (C1 ++ ⟨#[46]⟩ ++ C2) (C1 ++ ⟨#[46]⟩ ++ C2)) (h2 : Shows (C3 ++ ⟨#[98]⟩) (C3 ++ ⟨#[98]⟩)) (h3 : Shows C4 ⟨#[]⟩) :
    Rows2 (W.alloc (.cells #[.string ⟨#[97, 46, 46, 98]⟩, .string ⟨#[97, 32, 46, 32, 46, 98]⟩, .string ⟨#[97, 46, 110, 111, 116]⟩, .string ⟨#[97, 32, 46, 32, 110, 111, 116]⟩, .string ⟨#[110, 111, 116, 46, 97]⟩, .string ⟨#[110, 111, 116, 32, 46, 97]⟩, .string ⟨#[97, 46, 98, 46, 99, 46, 100]⟩, .string ⟨#[97, 46, 98, 32, 46, 99, 32, 46, 100]⟩, .string ⟨#[88, 46, 97, 46, 98]⟩, .string ⟨#[88, 32, 46, 97, 32, 46, 98]⟩, .string ⟨#[39, 97, 32, 99, 111, 117, 110, 116]⟩, .string ⟨#[39, 32, 97, 32, 99, 111, 117, 110, 116]⟩, .string ⟨#[97, 46, 32, 98]⟩, .string ⟨#[97, 32, 46, 32, 98]⟩, .string ⟨#[97, 46, 66]⟩, .string ⟨#[97, 32, 46, 32, 66]⟩, .string ⟨#[58, 58, 45, 61, 58]⟩, .string ⟨#[58, 32, 58, 45, 32, 61, 32, 58]⟩, .string ⟨#[60, 61, 61, 62, 61, 61, 61]⟩, .string ⟨#[60, 61, 32, 61, 32, 62, 61, 32, 61, 61]⟩, .string ⟨#[43, 43, 43]⟩, .string ⟨#[43, 43, 32, 43]⟩, .string ⟨#[35, 97, 10, 98, 35, 99]⟩, .string ⟨#[98]⟩, .string ⟨#[]⟩, .string ⟨#[]⟩, .string (C1 ++ ⟨#[46]⟩ ++ C2), .string (C1 ++ ⟨#[46]⟩ ++ C2), .string (C3 ++ ⟨#[98]⟩), .string (C3 ++ ⟨#[98]⟩), .string ⟨#[34, 92, 120, 52, 49, 92, 110, 92, 116, 92, 92, 92, 34, 255, 34]⟩, .string ⟨#[34, 65, 92, 110, 92, 116, 92, 92, 92, 34, 255, 34]⟩, .string ⟨#[116, 114, 117, 101, 120, 32, 116, 114, 117, 101]⟩, .string ⟨#[116, 114, 117, 101, 120, 32, 116, 114, 117, 101]⟩, .string C4, .string ⟨#[]⟩] 32)) W.heap.size := by
  have hb := Blk.new W 32 #[.string ⟨#[97, 46, 46, 98]⟩, .string ⟨#[97, 32, 46, 32, 46, 98]⟩, .string ⟨#[97, 46, 110, 111, 116]⟩, .string ⟨#[97, 32, 46, 32, 110, 111, 116]⟩, .string ⟨#[110, 111, 116, 46, 97]⟩, .string ⟨#[110, 111, 116, 32, 46, 97]⟩, .string ⟨#[97, 46, 98, 46, 99, 46, 100]⟩, .string ⟨#[97, 46, 98, 32, 46, 99, 32, 46, 100]⟩, .string ⟨#[88, 46, 97, 46, 98]⟩, .string ⟨#[88, 32, 46, 97, 32, 46, 98]⟩, .string ⟨#[39, 97, 32, 99, 111, 117, 110, 116]⟩, .string ⟨#[39, 32, 97, 32, 99, 111, 117, 110, 116]⟩, .string ⟨#[97, 46, 32, 98]⟩, .string ⟨#[97, 32, 46, 32, 98]⟩, .string ⟨#[97, 46, 66]⟩, .string ⟨#[97, 32, 46, 32, 66]⟩, .string ⟨#[58, 58, 45, 61, 58]⟩, .string ⟨#[58, 32, 58, 45, 32, 61, 32, 58]⟩, .string ⟨#[60, 61, 61, 62, 61, 61, 61]⟩, .string ⟨#[60, 61, 32, 61, 32, 62, 61, 32, 61, 61]⟩, .string ⟨#[43, 43, 43]⟩, .string ⟨#[43, 43, 32, 43]⟩, .string ⟨#[35, 97, 10, 98, 35, 99]⟩, .string ⟨#[98]⟩, .string ⟨#[]⟩, .string ⟨#[]⟩, .string (C1 ++ ⟨#[46]⟩ ++ C2), .string (C1 ++ ⟨#[46]⟩ ++ C2), .string (C3 ++ ⟨#[98]⟩), .string (C3 ++ ⟨#[98]⟩), .string ⟨#[34, 92, 120, 52, 49, 92, 110, 92, 116, 92, 92, 92, 34, 255, 34]⟩, .string ⟨#[34, 65, 92, 110, 92, 116, 92, 92, 92, 34, 255, 34]⟩, .string ⟨#[116, 114, 117, 101, 120, 32, 116, 114, 117, 101]⟩, .string ⟨#[116, 114, 117, 101, 120, 32, 116, 114, 117, 101]⟩, .string C4, .string ⟨#[]⟩]
  refine ⟨hb.lt, fun j hj => ?_⟩
  match j, hj with
  | 0, _ => exact ⟨_, _, (hb.cell 0).trans rfl, (hb.cell 1).trans rfl, shows0⟩
  | 1, _ => exact ⟨_, _, (hb.cell 2).trans rfl, (hb.cell 3).trans rfl, shows1⟩
  | 2, _ => exact ⟨_, _, (hb.cell 4).trans rfl, (hb.cell 5).trans rfl, shows2⟩
  | 3, _ => exact ⟨_, _, (hb.cell 6).trans rfl, (hb.cell 7).trans rfl, shows3⟩
  | 4, _ => exact ⟨_, _, (hb.cell 8).trans rfl, (hb.cell 9).trans rfl, shows4⟩
  | 5, _ => exact ⟨_, _, (hb.cell 10).trans rfl, (hb.cell 11).trans rfl, shows5⟩
  | 6, _ => exact ⟨_, _, (hb.cell 12).trans rfl, (hb.cell 13).trans rfl, shows6⟩
  | 7, _ => exact ⟨_, _, (hb.cell 14).trans rfl, (hb.cell 15).trans rfl, shows7⟩
  | 8, _ => exact ⟨_, _, (hb.cell 16).trans rfl, (hb.cell 17).trans rfl, shows8⟩
  | 9, _ => exact ⟨_, _, (hb.cell 18).trans rfl, (hb.cell 19).trans rfl, shows9⟩
  | 10, _ => exact ⟨_, _, (hb.cell 20).trans rfl, (hb.cell 21).trans rfl, shows10⟩
  | 11, _ => exact ⟨_, _, (hb.cell 22).trans rfl, (hb.cell 23).trans rfl, shows11⟩
  | 12, _ => exact ⟨_, _, (hb.cell 24).trans rfl, (hb.cell 25).trans rfl, shows12⟩
  | 13, _ => exact ⟨_, _, (hb.cell 26).trans rfl, (hb.cell 27).trans rfl, h1⟩
  | 14, _ => exact ⟨_, _, (hb.cell 28).trans rfl, (hb.cell 29).trans rfl, h2⟩
  | 15, _ => exact ⟨_, _, (hb.cell 30).trans rfl, (hb.cell 31).trans rfl, shows15⟩
  | 16, _ => exact ⟨_, _, (hb.cell 32).trans rfl, (hb.cell 33).trans rfl, shows16⟩
  | 17, _ => exact ⟨_, _, (hb.cell 34).trans rfl, (hb.cell 35).trans rfl, h3⟩
  | j + 18, hj => omega
end Go.Proofs.YteppdnlchjpekaaDoor
