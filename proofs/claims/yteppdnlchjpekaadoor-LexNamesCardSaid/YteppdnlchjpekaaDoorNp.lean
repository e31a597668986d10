/- The texts that fail, and those that are shown, of the law of names: plain. -/
import Derived.Test.YteppdnlchjpekaaDoorGk
import Derived.Test.YteppdnlchjpekaaDoorGf
import Derived.Test.YteppdnlchjpekaaDoorGj
namespace Go.Proofs.YteppdnlchjpekaaDoor
open Go.RowKit Lx
open Go
namespace Lx
/-- A text fails at a place, with an error. -/
def Fails (S : ByteArray) (l c e : Nat) : Prop := toks S.data.toList = ([], (l, c), e) ∧ S.size ≤ 100000
/-- A text's tokens have that text. -/
def Shows (S W : ByteArray) : Prop := (toks S.data.toList).2.2 = 0 ∧ (⟨(show_ (toks S.data.toList).1).toArray⟩ : ByteArray) = W ∧ S.size ≤ 100000
theorem shows_of {S W : ByteArray} {l m : List UInt8} (hS : S.data.toList = l) (hW : W.data.toList = m) (h1 : (toks l).2.2 = 0) (h2 : show_ (toks l).1 = m) (h3 : l.length ≤ 100000) : Shows S W := by
  refine ⟨by rw [hS]; exact h1, ?_, by rw [size_list, hS]; exact h3⟩
  rw [hS, h2]
  exact (ba_eq hW).symm
theorem fails_of {S : ByteArray} {l : List UInt8} {p q e : Nat} (hS : S.data.toList = l) (h : toks l = ([], (p, q), e)) (h3 : l.length ≤ 100000) : Fails S p q e := ⟨by rw [hS]; exact h, by rw [size_list, hS]; exact h3⟩
theorem app_list (a b : ByteArray) : (a ++ b).data.toList = a.data.toList ++ b.data.toList := by simp [ByteArray.data_append]
theorem fail0 : Fails ⟨#[97, 10, 32, 36]⟩ 2 2 4 := fails_of (l := [97, 10, 32, 36]) rfl (by kernel_rfl) (by decide)
theorem fail1 : Fails ⟨#[34, 97]⟩ 1 1 4 := fails_of (l := [34, 97]) rfl (by kernel_rfl) (by decide)
theorem fail2 : Fails ⟨#[34, 97, 10, 34]⟩ 1 1 4 := fails_of (l := [34, 97, 10, 34]) rfl (by kernel_rfl) (by decide)
theorem fail3 : Fails ⟨#[120, 32, 48, 49, 50]⟩ 1 3 4 := fails_of (l := [120, 32, 48, 49, 50]) rfl (by kernel_rfl) (by decide)
theorem fail4 : Fails ⟨#[49, 97]⟩ 1 1 4 := fails_of (l := [49, 97]) rfl (by kernel_rfl) (by decide)
theorem fail5 : Fails ⟨#[49, 50, 98, 98]⟩ 1 1 4 := fails_of (l := [49, 50, 98, 98]) rfl (by kernel_rfl) (by decide)
theorem fail6 : Fails ⟨#[49, 95]⟩ 1 1 4 := fails_of (l := [49, 95]) rfl (by kernel_rfl) (by decide)
theorem fail7 : Fails ⟨#[95, 120]⟩ 1 1 4 := fails_of (l := [95, 120]) rfl (by kernel_rfl) (by decide)
theorem fail8 : Fails ⟨#[34, 92, 113, 34]⟩ 1 1 4 := fails_of (l := [34, 92, 113, 34]) rfl (by kernel_rfl) (by decide)
theorem fail9 : Fails ⟨#[34, 92, 120, 52, 71, 34]⟩ 1 1 4 := fails_of (l := [34, 92, 120, 52, 71, 34]) rfl (by kernel_rfl) (by decide)
theorem fail10 : Fails ⟨#[97, 33]⟩ 1 2 4 := fails_of (l := [97, 33]) rfl (by kernel_rfl) (by decide)
theorem fail11 {B : ByteArray} (h : B.data.toList = List.replicate 33 97) : Fails B 1 1 63 := fails_of h (by kernel_rfl) (by decide)
theorem fail12 {B : ByteArray} (h : B.data.toList = List.replicate 33 97) : Fails (⟨#[97, 46]⟩ ++ B) 1 1 63 := fails_of (l := 97 :: 46 :: List.replicate 33 97) (by rw [app_list, h]; rfl) (by kernel_rfl) (by decide)
theorem fail13 {B : ByteArray} (h : B.data.toList = List.replicate 33 65) : Fails B 1 1 63 := fails_of h (by kernel_rfl) (by decide)
theorem fail14 {B : ByteArray} (h : B.data.toList = List.replicate 33 97) : Fails (⟨#[88, 46]⟩ ++ B) 1 2 63 := fails_of (l := 88 :: 46 :: List.replicate 33 97) (by rw [app_list, h]; rfl) (by kernel_rfl) (by decide)
theorem fail15 {B : ByteArray} (h : B.data.toList = List.replicate 201 57) : Fails B 1 1 80 := fails_of h (by kernel_rfl) (by rw [List.length_replicate]; decide)
theorem mks_rep : ∀ n, mks (List.replicate n 97) = List.replicate n 97
  | 0 => rfl
  | n + 1 => by
    rw [List.replicate_succ]
    show mk 97 ++ mks (List.replicate n 97) = _
    rw [mks_rep n]; rfl
theorem toks_head {c : UInt8} {r : List UInt8} (hb : blanks.contains c = false) (h35 : c ≠ 35) (hl : (c :: r).length ≤ 65536) (he : (fFirst (c :: r)).2 ≠ 0) : toks (c :: r) = ([], (1, 1), (fFirst (c :: r)).2) := by
  unfold toks
  rw [if_neg (by omega)]
  have h1 : sk (c :: r) = c :: r := sk_fine hb h35
  have h2 : (skipQ (1, 1) (c :: r)).2 = c :: r := h1
  have h3 : (skipQ (1, 1) (c :: r)).1 = (1, 1) := by
    show adv (1, 1) ((c :: r).take ((c :: r).length - (sk (c :: r)).length)) = _
    rw [h1, Nat.sub_self]; rfl
  rw [h2, h3, lexR, if_neg (by simp), if_pos he]
theorem fail16 {B : ByteArray} (h : B.data.toList = List.replicate 4097 97) : Fails (⟨#[34]⟩ ++ B ++ ⟨#[34]⟩) 1 1 40 := by
  have hq : qGo ((List.replicate 4097 (97 : UInt8) ++ [34]).length + 1) (List.replicate 4097 97 ++ [34]) [] 1 = some (List.replicate 4097 97, 1 + 4097 + 1) := by
    have := q_back (List.replicate 4097 97) ((List.replicate 4097 (97 : UInt8) ++ [34]).length + 1) [] [] 1 (by rw [List.length_append, List.length_replicate]; omega)
    rw [mks_rep, List.length_replicate, List.nil_append] at this
    exact this
  have hf := at_quote (List.replicate 4097 97 ++ [34])
  rw [hq] at hf
  dsimp only at hf
  rw [List.length_replicate, if_pos (by decide)] at hf
  refine fails_of (l := 34 :: (List.replicate 4097 97 ++ [34])) (by rw [app_list, app_list, h]; rfl) ?_ (by simp only [List.length_cons, List.length_append, List.length_replicate, List.length_nil]; omega)
  rw [toks_head (by decide) (by decide) (by simp only [List.length_cons, List.length_append, List.length_replicate, List.length_nil]; omega) (by rw [hf]; decide), hf]
theorem fail17 {B : ByteArray} (h : B.data.toList = List.replicate 65537 32) : Fails B 1 1 40 := by
  refine fails_of h ?_ (by rw [List.length_replicate]; decide)
  unfold toks
  rw [if_pos (by rw [List.length_replicate]; decide)]
theorem shows0 : Shows ⟨#[97, 46, 46, 98]⟩ ⟨#[97, 32, 46, 32, 46, 98]⟩ := shows_of (l := [97, 46, 46, 98]) (m := [97, 32, 46, 32, 46, 98]) rfl rfl (by kernel_rfl) (by kernel_rfl) (by decide)
theorem shows1 : Shows ⟨#[97, 46, 110, 111, 116]⟩ ⟨#[97, 32, 46, 32, 110, 111, 116]⟩ := shows_of (l := [97, 46, 110, 111, 116]) (m := [97, 32, 46, 32, 110, 111, 116]) rfl rfl (by kernel_rfl) (by kernel_rfl) (by decide)
theorem shows2 : Shows ⟨#[110, 111, 116, 46, 97]⟩ ⟨#[110, 111, 116, 32, 46, 97]⟩ := shows_of (l := [110, 111, 116, 46, 97]) (m := [110, 111, 116, 32, 46, 97]) rfl rfl (by kernel_rfl) (by kernel_rfl) (by decide)
theorem shows3 : Shows ⟨#[97, 46, 98, 46, 99, 46, 100]⟩ ⟨#[97, 46, 98, 32, 46, 99, 32, 46, 100]⟩ := shows_of (l := [97, 46, 98, 46, 99, 46, 100]) (m := [97, 46, 98, 32, 46, 99, 32, 46, 100]) rfl rfl (by kernel_rfl) (by kernel_rfl) (by decide)
theorem shows4 : Shows ⟨#[88, 46, 97, 46, 98]⟩ ⟨#[88, 32, 46, 97, 32, 46, 98]⟩ := shows_of (l := [88, 46, 97, 46, 98]) (m := [88, 32, 46, 97, 32, 46, 98]) rfl rfl (by kernel_rfl) (by kernel_rfl) (by decide)
theorem shows5 : Shows ⟨#[39, 97, 32, 99, 111, 117, 110, 116]⟩ ⟨#[39, 32, 97, 32, 99, 111, 117, 110, 116]⟩ := shows_of (l := [39, 97, 32, 99, 111, 117, 110, 116]) (m := [39, 32, 97, 32, 99, 111, 117, 110, 116]) rfl rfl (by kernel_rfl) (by kernel_rfl) (by decide)
theorem shows6 : Shows ⟨#[97, 46, 32, 98]⟩ ⟨#[97, 32, 46, 32, 98]⟩ := shows_of (l := [97, 46, 32, 98]) (m := [97, 32, 46, 32, 98]) rfl rfl (by kernel_rfl) (by kernel_rfl) (by decide)
theorem shows7 : Shows ⟨#[97, 46, 66]⟩ ⟨#[97, 32, 46, 32, 66]⟩ := shows_of (l := [97, 46, 66]) (m := [97, 32, 46, 32, 66]) rfl rfl (by kernel_rfl) (by kernel_rfl) (by decide)
theorem shows8 : Shows ⟨#[58, 58, 45, 61, 58]⟩ ⟨#[58, 32, 58, 45, 32, 61, 32, 58]⟩ := shows_of (l := [58, 58, 45, 61, 58]) (m := [58, 32, 58, 45, 32, 61, 32, 58]) rfl rfl (by kernel_rfl) (by kernel_rfl) (by decide)
theorem shows9 : Shows ⟨#[60, 61, 61, 62, 61, 61, 61]⟩ ⟨#[60, 61, 32, 61, 32, 62, 61, 32, 61, 61]⟩ := shows_of (l := [60, 61, 61, 62, 61, 61, 61]) (m := [60, 61, 32, 61, 32, 62, 61, 32, 61, 61]) rfl rfl (by kernel_rfl) (by kernel_rfl) (by decide)
theorem shows10 : Shows ⟨#[43, 43, 43]⟩ ⟨#[43, 43, 32, 43]⟩ := shows_of (l := [43, 43, 43]) (m := [43, 43, 32, 43]) rfl rfl (by kernel_rfl) (by kernel_rfl) (by decide)
theorem shows11 : Shows ⟨#[35, 97, 10, 98, 35, 99]⟩ ⟨#[98]⟩ := shows_of (l := [35, 97, 10, 98, 35, 99]) (m := [98]) rfl rfl (by kernel_rfl) (by kernel_rfl) (by decide)
theorem shows12 : Shows ⟨#[]⟩ ⟨#[]⟩ := shows_of (l := []) (m := []) rfl rfl (by kernel_rfl) (by kernel_rfl) (by decide)
theorem shows13 {A B C D : ByteArray} (hA : A.data.toList = List.replicate 32 97) (hB : B.data.toList = List.replicate 32 98) (hC : C.data.toList = List.replicate 32 97) (hD : D.data.toList = List.replicate 32 98) : Shows (A ++ ⟨#[46]⟩ ++ B) (C ++ ⟨#[46]⟩ ++ D) :=
  shows_of (l := List.replicate 32 97 ++ [46] ++ List.replicate 32 98) (m := List.replicate 32 97 ++ [46] ++ List.replicate 32 98) (by rw [app_list, app_list, hA, hB]) (by rw [app_list, app_list, hC, hD]) (by kernel_rfl) (by kernel_rfl) (by decide)
theorem shows14 {A B : ByteArray} (hA : A.data.toList = List.replicate 200 57) (hB : B.data.toList = List.replicate 200 57) : Shows (A ++ ⟨#[98]⟩) (B ++ ⟨#[98]⟩) :=
  shows_of (l := List.replicate 200 57 ++ [98]) (m := List.replicate 200 57 ++ [98]) (by rw [app_list, hA]) (by rw [app_list, hB]) (by kernel_rfl) (by kernel_rfl) (by simp only [List.length_append, List.length_replicate, List.length_cons, List.length_nil]; omega)
theorem shows15 : Shows ⟨#[34, 92, 120, 52, 49, 92, 110, 92, 116, 92, 92, 92, 34, 255, 34]⟩ ⟨#[34, 65, 92, 110, 92, 116, 92, 92, 92, 34, 255, 34]⟩ := shows_of (l := [34, 92, 120, 52, 49, 92, 110, 92, 116, 92, 92, 92, 34, 255, 34]) (m := [34, 65, 92, 110, 92, 116, 92, 92, 92, 34, 255, 34]) rfl rfl (by kernel_rfl) (by kernel_rfl) (by decide)
theorem shows16 : Shows ⟨#[116, 114, 117, 101, 120, 32, 116, 114, 117, 101]⟩ ⟨#[116, 114, 117, 101, 120, 32, 116, 114, 117, 101]⟩ := shows_of (l := [116, 114, 117, 101, 120, 32, 116, 114, 117, 101]) (m := [116, 114, 117, 101, 120, 32, 116, 114, 117, 101]) rfl rfl (by kernel_rfl) (by kernel_rfl) (by decide)
theorem toks_blank (n : Nat) (hn : n ≤ 65536) : toks (List.replicate n 32) = ([], (0, 0), 0) := by
  have h1 : sk (List.replicate n 32) = [] := by
    have := sk_gap (gap_blanks (List.replicate n 32) fun c hc => by rw [(List.mem_replicate.1 hc).2]; decide) []
    rw [List.append_nil] at this
    rw [this]; rfl
  unfold toks
  rw [if_neg (by rw [List.length_replicate]; omega), show (skipQ (1, 1) (List.replicate n 32)).2 = [] from h1, lexR, if_pos rfl]
theorem shows17 {B : ByteArray} (h : B.data.toList = List.replicate 65536 32) : Shows B ⟨#[]⟩ := by
  have ht := toks_blank 65536 (Nat.le_refl _)
  exact shows_of (m := []) h rfl (by rw [ht]) (by rw [ht]; rfl) (by rw [List.length_replicate]; decide)
theorem quo_ex : (⟨(quo [0, 127, 32, 97]).toArray⟩ : ByteArray) = ⟨#[34, 92, 120, 48, 48, 92, 120, 55, 102, 32, 97, 34]⟩ := by kernel_rfl
end Lx
end Go.Proofs.YteppdnlchjpekaaDoor
