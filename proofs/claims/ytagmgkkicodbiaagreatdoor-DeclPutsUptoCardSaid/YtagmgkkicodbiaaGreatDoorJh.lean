/- Package decl: Put, behind the visit of its parameters. -/
import Derived.Test.YtagmgkkicodbiaaGreatDoorJg
namespace Go.Proofs.YtagmgkkicodbiaaGreatDoor
open Go.RowKit Go.Shelf
open Go
attribute [local go_sem] Oper.semAt_some

/-- The first place from s on at which a parameter of that name stands. -/
def firstI (ps : List ByteArray) (k : ByteArray) : Nat → Nat → Option Nat
  | 0, _ => none
  | m + 1, s => if ps.getD s ⟨#[]⟩ = k ∧ pfx k = true then some s else firstI ps k m (s + 1)
def gOf (ps : List ByteArray) (zs : List Ty) (k : ByteArray) : Option Ty := (firstI ps k (min ps.length zs.length) 0).bind fun i => zs[i]?
/-- What a round does to the map, as places. -/
def stepF (ps : List ByteArray) (n : Nat) (f : ByteArray → Option Nat) (x : Nat) : ByteArray → Option Nat := if pfx (atE ps n x) = true then (fun k' => if k' = atE ps n x then some (n - 1 - x) else f k') else f
def foldF (ps : List ByteArray) (n : Nat) (pre : List Nat) : ByteArray → Option Nat := pre.foldl (stepF ps n) (fun _ => none)
theorem foldF_snoc (ps : List ByteArray) (n : Nat) (pre : List Nat) (x : Nat) : foldF ps n (pre ++ [x]) = stepF ps n (foldF ps n pre) x := by simp [foldF, List.foldl_append]
theorem foldF_first (ps : List ByteArray) (n : Nat) (k : ByteArray) : ∀ j, j ≤ n → foldF ps n (upto id j) k = firstI ps k j (n - j)
  | 0, _ => rfl
  | j + 1, h => by
    rw [upto_succ, foldF_snoc, firstI]
    have ih := foldF_first ps n k j (by omega)
    have e1 : atE ps n (id j) = ps.getD (n - (j + 1)) ⟨#[]⟩ := by unfold atE; rw [show n - 1 - id j = n - (j + 1) by simp; omega]
    unfold stepF
    rw [e1]
    have e2 : n - 1 - id j = n - (j + 1) := by simp; omega
    have e3 : n - (j + 1) + 1 = n - j := by omega
    rw [e2, e3]
    generalize ps.getD (n - (j + 1)) ⟨#[]⟩ = p
    by_cases hp : pfx p = true
    · rw [if_pos hp]
      by_cases hk : k = p
      · subst hk
        simp [hp]
      · rw [if_neg hk, if_neg (fun h => hk h.1.symm)]; exact ih
    · rw [if_neg hp]
      rw [if_neg (fun h => hp (by rw [h.1]; exact h.2))]; exact ih
theorem firstI_lt (ps : List ByteArray) (k : ByteArray) : ∀ m s i, firstI ps k m s = some i → s ≤ i ∧ i < s + m
  | 0, _, _, h => by cases h
  | m + 1, s, i, h => by
    rw [firstI] at h
    split at h
    · cases h; omega
    · have := firstI_lt ps k m (s + 1) i h; omega
/-- The values of a row. -/
theorem LRep.vals {w : World} {B : Nat} {l : List Ty} {A : Option Addr} {c : Nat} (h : LRep w B l A c) : ∃ vs : Nat → Option Addr × Nat, ∀ j (hj : j < l.length), ∃ b off, A = some ⟨b, off, none⟩ ∧ b < B ∧ l[j].name.size ≤ maxLen ∧ LRep w B l[j].args (vs j).1 (vs j).2 ∧
    w.cell? ⟨b, off + j * 2, none⟩ = some (.string l[j].name) ∧ w.cell? ⟨b, off + j * 2 + 1, none⟩ = some (.slice (vs j).1 l[j].args.length (vs j).2) := by
  have hy : ∀ j, ∃ (p : Option Addr × Nat), ∀ hj : j < l.length, ∃ b off, A = some ⟨b, off, none⟩ ∧ b < B ∧ l[j].name.size ≤ maxLen ∧ LRep w B l[j].args p.1 p.2 ∧
      w.cell? ⟨b, off + j * 2, none⟩ = some (.string l[j].name) ∧ w.cell? ⟨b, off + j * 2 + 1, none⟩ = some (.slice p.1 l[j].args.length p.2) := fun j => by
    by_cases hj : j < l.length
    · obtain ⟨b, off, h1, h2, n, a', A', c', h3, h4, h5, h6, h7⟩ := h.at_ hj
      have hn : l[j].name = n := by rw [h3]; rfl
      have ha : l[j].args = a' := by rw [h3]; rfl
      exact ⟨(A', c'), fun _ => ⟨b, off, h1, h2, hn ▸ h4, ha ▸ h5, hn ▸ h6, ha ▸ h7⟩⟩
    · exact ⟨(none, 0), fun h => absurd h hj⟩
  exact Classical.axiomOfChoice hy
def valA (l : List Ty) (vs : Nat → Option Addr × Nat) (j : Nat) : Value := match l[j]? with | some t => .agg #[.string t.name, .slice (vs j).1 t.args.length (vs j).2] | none => undef
def heldV (l : List Ty) (vs : Nat → Option Addr × Nat) (j : Nat) : DataW Value := .held (valA l vs j)
def anyV (v : Value) : Option (DataW Value × List MemPlace) := some (.held v, [])
theorem zero_any (w : World) : (zeroValue 24).run Tryz.prog w = .ok (.agg #[.string ⟨#[]⟩, .slice none 0 0]) w := zero_ty w
/-- The map of a part of the visit. -/
def PutI (l : List Ty) (vs : Nat → Option Addr × Nat) (ps : List ByteArray) (n mb : Nat) (w1 : World) (pre : List Nat) (W : World) : Prop :=
  Gm.MapR Tryz.prog 9 anyV Gm.kS (heldV l vs) W mb pre.length (foldF ps n pre) ∧ Keep (fun b => b = mb) w1 W
theorem puti_own {l : List Ty} {vs : Nat → Option Addr × Nat} {ps : List ByteArray} {n mb : Nat} {w1 : World} (hmb : mb < w1.heap.size) : OwnFrom w1.heap.size (PutI l vs ps n mb w1) := fun s W W' row hs hg hr => by
  obtain ⟨h1, h2⟩ := hs
  have hbl : ∀ b, b < w1.heap.size → W'.heap[b]? = W.heap[b]? := fun b hb => hg.block b (by have := h2.size; omega) fun e => by have := (hr b e.symm).1; omega
  exact ⟨h1.keep (hbl _ hmb), ⟨hg.os.trans h2.os, hg.tape.trans h2.tape, hg.output.trans h2.output, Nat.le_trans h2.size hg.size, fun b hb hn => (hbl b hb).trans (h2.block b hb hn)⟩⟩
/-- Behind the visit the map tells what gOf tells. -/
theorem puti_looks {l : List Ty} {vs : Nat → Option Addr × Nat} {ps : List ByteArray} {mb B : Nat} {w1 W : World} {A : Option Addr} (hB : B ≤ mb) (hmb : mb < w1.heap.size) (h : PutI l vs ps (min ps.length l.length) mb w1 (upto id (min ps.length l.length)) W)
    (hv : ∀ j (hj : j < l.length), ∃ b off, A = some ⟨b, off, none⟩ ∧ b < B ∧ l[j].name.size ≤ maxLen ∧ LRep w1 B l[j].args (vs j).1 (vs j).2 ∧
    w1.cell? ⟨b, off + j * 2, none⟩ = some (.string l[j].name) ∧ w1.cell? ⟨b, off + j * 2 + 1, none⟩ = some (.slice (vs j).1 l[j].args.length (vs j).2)) (B' : Nat) (hB' : mb < B') : Looks B' (some mb) (gOf ps l) W := fun V hV n hn => by
  obtain ⟨h1, h2⟩ := h
  have hm := h1.keep (w' := V) (hV.block mb hB')
  obtain ⟨v, q, e1, e2⟩ := hm.look_ok str_lawT Tryz.underlying62 (zero_any V) (zd := .held (.agg #[.string ⟨#[]⟩, .slice none 0 0])) (zp := []) rfl n (key_s hn)
  have hf := foldF_first ps (min ps.length l.length) n (min ps.length l.length) (Nat.le_refl _)
  rw [Nat.sub_self] at hf
  rw [hf] at e1 e2
  have hlt := firstI_lt ps n (min ps.length l.length) 0
  unfold gOf
  cases hc : firstI ps n (min ps.length l.length) 0 with
  | none =>
    rw [hc] at e1 e2
    simp only [anyV, Option.map_none, Option.getD_none, Option.some.injEq, Prod.mk.injEq, DataW.held.injEq] at e2
    rw [e2.1] at e1
    exact ⟨_, _, _, _, e1, fun t h => by cases h⟩
  | some i =>
    rw [hc] at e1 e2
    have hi := hlt i hc
    have hil : i < l.length := by omega
    simp only [anyV, Option.map_some, Option.getD_some, Option.some.injEq, Prod.mk.injEq, heldV, DataW.held.injEq] at e2
    have hva : valA l vs i = .agg #[.string l[i].name, .slice (vs i).1 l[i].args.length (vs i).2] := by simp [valA, hil]
    rw [e2.1, hva] at e1
    refine ⟨l[i].name, (vs i).1, l[i].args.length, (vs i).2, by rw [e1]; simp [hil], fun t ht => ?_⟩
    have : l[i] = t := by simpa [hil] using ht
    subst this
    obtain ⟨b, off, q1, q2, q3, q4, q5, q6⟩ := hv i hil
    have hbw : Below B w1 W := h2.below (fun x hx e => by omega) (by omega)
    exact ⟨_, _, rfl, q3, ((q4.under hbw).under (hV.mono (by omega))).more (by omega)⟩
/-- The world in which the visit begins. -/
def putW (w : World) (x : Value) (tn : ByteArray) (At : Option Addr) (tl ct : Nat) (y : Value) : World := (((((w.alloc (.cells #[.string tn, .slice At tl ct] 24)).alloc (.cells #[x] 22)).alloc (.cells #[.string ⟨#[]⟩, .slice none 0 0] 24)).alloc (.map #[] 0)).alloc (.cells #[.map (some (w.heap.size + 1 + 1 + 1))] 62)).alloc (.cells #[y] 25)
theorem putW_facts (w : World) (x : Value) (tn : ByteArray) (At : Option Addr) (tl ct : Nat) (y : Value) (l : List Ty) (vs : Nat → Option Addr × Nat) (ps : List ByteArray) (n : Nat) :
    (putW w x tn At tl ct y).heap.size = w.heap.size + 6 ∧ Below w.heap.size w (putW w x tn At tl ct y) ∧ Blk (putW w x tn At tl ct y) w.heap.size 24 #[.string tn, .slice At tl ct] ∧ Blk (putW w x tn At tl ct y) (w.heap.size + 1) 22 #[x] ∧
    Blk (putW w x tn At tl ct y) (w.heap.size + 1 + 1) 24 #[.string ⟨#[]⟩, .slice none 0 0] ∧ Blk (putW w x tn At tl ct y) (w.heap.size + 1 + 1 + 1 + 1) 62 #[.map (some (w.heap.size + 1 + 1 + 1))] ∧
    Blk (putW w x tn At tl ct y) (w.heap.size + 1 + 1 + 1 + 1 + 1) 25 #[y] ∧ PutI l vs ps n (w.heap.size + 1 + 1 + 1) (putW w x tn At tl ct y) [] (putW w x tn At tl ct y) := by
  have b0 := Blk.new w 24 #[.string tn, .slice At tl ct]
  have b1 := Blk.new (w.alloc (.cells #[.string tn, .slice At tl ct] 24)) 22 #[x]
  have b2 := Blk.new ((w.alloc (.cells #[.string tn, .slice At tl ct] 24)).alloc (.cells #[x] 22)) 24 #[.string ⟨#[]⟩, .slice none 0 0]
  have b3 := Gm.MapR.new (H := Value) (κ := ByteArray) (α := Nat) (P := Tryz.prog) (kt := 9) (R := anyV) (ke := Gm.kS) (en := heldV l vs) (((w.alloc (.cells #[.string tn, .slice At tl ct] 24)).alloc (.cells #[x] 22)).alloc (.cells #[.string ⟨#[]⟩, .slice none 0 0] 24))
  have b4 := Blk.new ((((w.alloc (.cells #[.string tn, .slice At tl ct] 24)).alloc (.cells #[x] 22)).alloc (.cells #[.string ⟨#[]⟩, .slice none 0 0] 24)).alloc (.map #[] 0)) 62 #[.map (some (w.heap.size + 1 + 1 + 1))]
  have b5 := Blk.new (((((w.alloc (.cells #[.string tn, .slice At tl ct] 24)).alloc (.cells #[x] 22)).alloc (.cells #[.string ⟨#[]⟩, .slice none 0 0] 24)).alloc (.map #[] 0)).alloc (.cells #[.map (some (w.heap.size + 1 + 1 + 1))] 62)) 25 #[y]
  simp only [World.size_alloc] at b1 b2 b3 b4 b5
  refine ⟨by simp [putW], ?_, ((((b0.alloc _).alloc _).alloc _).alloc _).alloc _, (((b1.alloc _).alloc _).alloc _).alloc _, ((b2.alloc _).alloc _).alloc _, b4.alloc _, b5, ⟨?_, Keep.refl _ _⟩⟩
  · unfold putW
    exact ((((((Below.refl _ w).alloc (Nat.le_refl _) _).alloc (by simp) _).alloc (by simp; omega) _).alloc (by simp; omega) _).alloc (by simp; omega) _).alloc (by simp; omega) _
  · unfold putW
    refine Gm.MapR.keep (w := ((((w.alloc (.cells #[.string tn, .slice At tl ct] 24)).alloc (.cells #[x] 22)).alloc (.cells #[.string ⟨#[]⟩, .slice none 0 0] 24)).alloc (.map #[] 0))) b3 ?_
    have h : ∀ (u : World) (o : Obj) (b : Nat), b < u.heap.size → (u.alloc o).heap[b]? = u.heap[b]? := fun u o b hb => ((Below.refl _ u).alloc (Nat.le_refl _) o).block b hb
    rw [h _ _ _ (by simp), h _ _ _ (by simp)]
set_option maxRecDepth 100000 in
set_option maxHeartbeats 4000000 in
theorem put_c (t : Ty) (ps : List ByteArray) (l : List Ty) (u : Value) (Ap A : Option Addr) (cp c : Nat) (w : World) (h : TyRep w w.heap.size t u) (hp : SRep w w.heap.size ps Ap cp) (hl : LRep w w.heap.size l A c) (hreach : ps.length ≤ 1000000)
    (hs : sizeT (substT (gOf ps l) t) ≤ 50000000) (hd : deepT (substT (gOf ps l) t) ≤ 100000) (hst : sizeT t ≤ 100000000) (hsl : ∀ x ∈ l, sizeT x ≤ 100000000) :
    Calls Tryz.prog 6 #[u, .slice Ap ps.length cp, .slice A l.length c] w fun e w' => ∃ u', e = .returned u' ∧ TyN (fun b => w.heap.size ≤ b) w' (substT (gOf ps l) t) u' ∧ Below w.heap.size w w' ∧ UnU w' u' := by
  have hu := h
  obtain ⟨At, ct, rfl, hn, hR⟩ := h
  obtain ⟨vs, hv⟩ := hl.vals
  have hlc := hl.len
  have hpc := hp.1
  have hpm := hp.2.1
  have hmax : maxLen = 9223372036854775807 := rfl
  generalize ht1 : t.name = tn at *
  generalize ht2 : t.args.length = tl at *
  refine (callsIn_wide (n := 6)).1 ?_
  refine callsIn_of_wp_marks Tryz.func6 rfl trivial ?_ rfl
  simp only [Tryz.ntmps6, List.size_toArray, List.length_cons, List.length_nil, Nat.reduceAdd, Nat.reduceSub, Array.replicate_succ, Array.replicate_zero, List.push_toArray, List.append_toArray, List.nil_append, List.cons_append]
  have HU := Lib.hid hu; have HR := Lib.hid hR; have HV := Lib.hid hv; have HP := Lib.hid hp; have HL := Lib.hid hl
  clear hu hR hv hp hl
  have hmm := @run_makeMap Tryz.prog
  gi_wp2_with fail
  refine ⟨trivial, (callsIn_wide.2 (back_c _ _ _ _)).mono ?_⟩
  rintro e w3 ⟨rfl, rfl⟩
  dsimp only
  gi_wp2_with fail
  obtain ⟨n, hnn⟩ : ∃ n, n = min ps.length l.length := ⟨_, rfl⟩
  have hmin : min (ps.length : Int) (l.length : Int) = (n : Int) := by omega
  simp only [World.size_alloc, hmin, Int.toNat_natCast]
  obtain ⟨sz1, hb1, k3, k5, k6, k7, kb, km⟩ := putW_facts w (.slice A l.length c) tn At tl ct (.slice Ap n cp) l vs ps n
  change Code.wpIn _ _ _ _ _ _ (putW w (.slice A l.length c) tn At tl ct (.slice Ap n cp))
  generalize putW w (.slice A l.length c) tn At tl ct (.slice Ap n cp) = w1 at *
  have hn1 : n ≤ ps.length := by omega
  have hn2 : n ≤ l.length := by omega
  have HN := Lib.hid hnn
  clear hnn hmin
  refine wpIn_rangeFunc_ownG rfl (by decide) (gf := 33) (lb := #[.pointer (some ⟨w.heap.size + 1 + 1 + 1 + 1 + 1, 0, none⟩)]) rfl trivial (enters_of Tryz.func33 (by kernel_rfl) rfl)
      (back_stops Fence.wide 5 trivial rfl (by decide) (w.heap.size + 1 + 1 + 1 + 1 + 1) w.heap.size cp n Ap ps (by omega) (by omega) w1 (by omega) (by omega) (by simpa using kb.cell 0) cp (HP.out.under hb1)) Keeps.trans (keepsK_b (by omega) (by omega)) (Below.refl _ _) (fun _ => rfl)
      (PutI l vs ps n (w.heap.size + 1 + 1 + 1) w1)
      (fun _ _ _ => False)
      (puti_own (by omega)) (fun c => fun s W W' row hs _ _ => hs) km
      (fun x => { tmps := #[.agg #[.string tn, .slice At tl ct], .slice Ap ps.length cp, .slice A l.length c, .pointer (some ⟨w.heap.size, 0, none⟩), undef, .pointer (some ⟨w.heap.size + 1, 0, none⟩), .pointer (some ⟨w.heap.size + 1 + 1, 0, none⟩), .pointer (some ⟨w.heap.size + 1 + 1 + 1 + 1, 0, none⟩),
        .int .i64 ((n - 1 - x : Nat) : Int), .string (atE ps n x), undef, .map (some (w.heap.size + 1 + 1 + 1)), .slice Ap ps.length cp, .slice Ap ps.length cp, .int .i64 (ps.length : Int), .slice A l.length c, .int .i64 (l.length : Int), .int .i64 (n : Int), .slice Ap n cp, .func (.func 33) #[] #[.pointer (some ⟨w.heap.size + 1 + 1 + 1 + 1 + 1, 0, none⟩)],
        .int .i64 ((n - 1 - x : Nat) : Int), .string (atE ps n x), undef, undef, undef, undef, undef, undef, undef, undef, undef, undef, undef, undef, undef, undef, undef, undef], defers := [] }) ?assign ?body ?done ?stop
  case assign =>
    intro l x W K hK
    gi_wp2
    exact hK
  case stop =>
    rintro D c pre W hD _ hf hK
    exact hf.elim
  case body =>
    rintro q pre x W ⟨hm, hk⟩ hlt
    have hpl : pre.length < n := hlt
    have hb : Below w.heap.size w1 W := hk.below (fun b hb e => by omega) (by omega)
    have hi : n - 1 - x < ps.length := by omega
    have hil : n - 1 - x < l.length := by omega
    obtain ⟨b, off, rfl, q2, q3, q4, q5, q6⟩ := HV.out _ hil
    have c7 : W.cell? ⟨w.heap.size + 1 + 1 + 1 + 1, 0, none⟩ = some (.map (some (w.heap.size + 1 + 1 + 1))) := (cell_of_block (hk.block _ (by omega) (by omega)) 0).trans (by simpa using k7.cell 0)
    have c5 : W.cell? ⟨w.heap.size + 1, 0, none⟩ = some (.slice (some ⟨b, off, none⟩) l.length c) := (cell_of_block (hk.block _ (by omega) (by omega)) 0).trans (by simpa using k5.cell 0)
    have e0 : W.cell? ⟨b, off + (n - 1 - x) * 2, none⟩ = some (.string l[n - 1 - x].name) := ((hb1.trans hb).cell (p := ⟨b, off + (n - 1 - x) * 2, none⟩) q2).trans q5
    have e1 : W.cell? ⟨b, off + (n - 1 - x) * 2 + 1, none⟩ = some (.slice (vs (n - 1 - x)).1 l[n - 1 - x].args.length (vs (n - 1 - x)).2) := ((hb1.trans hb).cell (p := ⟨b, off + (n - 1 - x) * 2 + 1, none⟩) q2).trans q6
    have hva : valA l vs (n - 1 - x) = .agg #[.string l[n - 1 - x].name, .slice (vs (n - 1 - x)).1 l[n - 1 - x].args.length (vs (n - 1 - x)).2] := by simp [valA, hil]
    have hats : (atE ps n x).size ≤ maxLen := by
      obtain ⟨b, off, _, _, h, _⟩ := HP.out.2.2 (n - 1 - x) hi
      unfold atE; simpa [List.getD_eq_getElem?_getD, hi] using h
    cases hpf : pfx (atE ps n x) with
    | false =>
      have hst : PutI l vs ps n (w.heap.size + 1 + 1 + 1) w1 (pre ++ [x]) W := ⟨by
        rw [foldF_snoc, stepF, if_neg (by rw [hpf]; decide)]
        exact hm.mono (by simp), hk⟩
      have HPF := Lib.hid hpf; have HST := Lib.hid hst
      clear hpf hst hm hk hb q3 q4 q5 q6 c7 c5 e0 e1 hva
      gi_wp2_with fail
      refine ⟨trivial, (callsIn_wide.2 (isParam_c _ _)).mono ?_⟩
      rintro e w3 ⟨rfl, rfl⟩
      rw [HPF.out]
      dsimp only
      gi_wp2_with fail
      exact ⟨KeepsFrom.refl _ _, Keeps.refl _ _ _, HST.out⟩
    | true =>
      obtain ⟨W', u1, u2, u3⟩ := (hm.keep (w' := W.drew) rfl).put (t := 62) str_lawT Tryz.underlying62 (by omega) Gm.kS_key Gm.kS_inj (key := .string (atE ps n x)) (val := .agg #[.string l[n - 1 - x].name, .slice (vs (n - 1 - x)).1 l[n - 1 - x].args.length (vs (n - 1 - x)).2])
        (atE ps n x) (n - 1 - x) (key_s hats) (ps := []) (by unfold anyV heldV; rw [hva])
      have hkd : Keep (fun b => b = w.heap.size + 1 + 1 + 1) W W' := (Keep.refl _ W).drew.trans (F' := fun b => b = w.heap.size + 1 + 1 + 1) (Keep.grown (w := W.drew) u3 (fun k e => (Option.some.inj e).symm)) fun _ _ h => h
      have hst : PutI l vs ps n (w.heap.size + 1 + 1 + 1) w1 (pre ++ [x]) W' := ⟨by
        rw [foldF_snoc, stepF, if_pos hpf, List.length_append]
        exact u2, hk.trans hkd fun _ _ h => h⟩
      have hkf : KeepsFrom w1.heap.size W.drew W' := KeepsFrom.of_grownBy u3 (fun j e => by have := Option.some.inj e; omega)
      have hall : KeepsFrom w1.heap.size W W' ∧ Keeps w.heap.size (w.heap.size + 1 + 1 + 1 + 1 + 1) W W' ∧ PutI l vs ps n (w.heap.size + 1 + 1 + 1) w1 (pre ++ [x]) W' :=
        ⟨⟨hkf.size, hkf.same⟩, ⟨hkd.below (fun b hb e => by omega) (by have := hk.size; omega), hkd.block _ (by have := hk.size; omega) (by omega)⟩, hst⟩
      have hS : ∀ V, V = W ∨ V = W.drew ∨ V = W' → V.cell? ⟨w.heap.size + 1 + 1 + 1 + 1, 0, none⟩ = some (.map (some (w.heap.size + 1 + 1 + 1))) ∧ V.cell? ⟨w.heap.size + 1, 0, none⟩ = some (.slice (some ⟨b, off, none⟩) l.length c) ∧
          V.cell? ⟨b, off + (n - 1 - x) * 2, none⟩ = some (.string l[n - 1 - x].name) ∧ V.cell? ⟨b, off + (n - 1 - x) * 2 + 1, none⟩ = some (.slice (vs (n - 1 - x)).1 l[n - 1 - x].args.length (vs (n - 1 - x)).2) := by
        rintro V (rfl | rfl | rfl)
        · exact ⟨c7, c5, e0, e1⟩
        · exact ⟨c7, c5, e0, e1⟩
        · have hsz := hk.size
          exact ⟨(cell_of_block (hkd.block _ (by omega) (by omega)) 0).trans c7, (cell_of_block (hkd.block _ (by omega) (by omega)) 0).trans c5, (cell_of_block (hkd.block _ (by omega) (by omega)) _).trans e0, (cell_of_block (hkd.block _ (by omega) (by omega)) _).trans e1⟩
      have hlt2 : ((n - 1 - x : Nat) : Int) < (l.length : Int) := by omega
      have hnn2 : ¬ ((n - 1 - x : Nat) : Int) < 0 := by omega
      have HPF := Lib.hid hpf; have HALL := Lib.hid hall; have HS := Lib.hid hS; have HU := Lib.hid u1
      clear hpf hst hm hk hb q3 q4 q5 q6 c7 c5 e0 e1 hva hall hS u1 u2 u3 hkd hats hkf
      generalize hiv : n - 1 - x = i at *
      clear hiv
      gi_wp2_with fail
      refine ⟨trivial, (callsIn_wide.2 (isParam_c _ _)).mono ?_⟩
      rintro e w3 ⟨rfl, rfl⟩
      rw [HPF.out]
      dsimp only
      gi_wp2_with fail
      refine round_chain (fun V => V.cell? ⟨w.heap.size + 1 + 1 + 1 + 1, 0, none⟩ = some (.map (some (w.heap.size + 1 + 1 + 1))) ∧ V.cell? ⟨w.heap.size + 1, 0, none⟩ = some (.slice (some ⟨b, off, none⟩) l.length c) ∧
          V.cell? ⟨b, off + i * 2, none⟩ = some (.string l[i].name) ∧ V.cell? ⟨b, off + i * 2 + 1, none⟩ = some (.slice (vs i).1 l[i].args.length (vs i).2)) 7 (by kernel_rfl) (by kernel_rfl) (by rintro ⟨a, W, h⟩; exact h) ?_
      have S0 := HS.out w3.drew (.inr (.inl rfl))
      have HS0 := Lib.hid S0; clear S0
      refine T_takeD (i := 0) (v := .map (some (w.heap.size + 1 + 1 + 1))) rfl (by kernel_rfl) (fun _ _ _ h => h) rfl (fun V hS => by obtain ⟨h1, _⟩ := hS; go_simp) HS0.out ?_
      refine T_takeD (i := 1) (v := .string (atE ps n x)) rfl (by kernel_rfl) (fun _ _ _ h => h) rfl (fun V hS => by go_simp) HS0.out ?_
      refine T_takeD (i := 2) (v := .slice (some ⟨b, off, none⟩) l.length c) rfl (by kernel_rfl) (fun _ _ _ h => h) rfl (fun V hS => by obtain ⟨_, h2, _⟩ := hS; go_simp) HS0.out ?_
      refine T_takeD (i := 3) (v := .int .i64 (i : Int)) rfl (by kernel_rfl) (fun _ _ _ h => h) rfl (fun V hS => by go_simp) HS0.out ?_
      refine T_takeD (i := 4) (v := .pointer (some ⟨b, off + i * 2, none⟩)) rfl (by kernel_rfl) (fun _ _ _ h => h) rfl (fun V hS => by go_simp) HS0.out ?_
      refine T_takeD (i := 5) (v := .agg #[.string l[i].name, .slice (vs i).1 l[i].args.length (vs i).2]) rfl (by kernel_rfl) (fun _ _ _ h => h) rfl (fun V hS => by obtain ⟨_, _, h3, h4⟩ := hS; go_simp) HS0.out ?_
      refine T_one (i := 6) rfl (by kernel_rfl) rfl ?_
      go_simp
      rw [HU.out]
      simp only [Result.andThen]
      rw [Oper.upon_skip]
      exact ⟨HS.out W' (.inr (.inr rfl)), T_done (by kernel_rfl) HALL.out⟩
  case done =>
    rintro D ys W hD rfl hI hK
    obtain ⟨hm, hk⟩ := hI
    have hI' : PutI l vs ps (min ps.length l.length) (w.heap.size + 1 + 1 + 1) w1 (upto id (min ps.length l.length)) W := by rw [← HN.out]; exact ⟨hm, hk⟩
    have hks := hk.size
    have hbw : Below w.heap.size w W := hb1.trans (hk.below (fun b hb e => by omega) (by omega))
    have hlk := puti_looks (B := w.heap.size) (A := A) (by omega) (by omega) hI' (fun j hj => by
      obtain ⟨b, off, q1, q2, q3, q4, q5, q6⟩ := HV.out j hj
      exact ⟨b, off, q1, q2, q3, q4.under hb1, (hb1.cell (p := ⟨b, off + j * 2, none⟩) q2).trans q5, (hb1.cell (p := ⟨b, off + j * 2 + 1, none⟩) q2).trans q6⟩) W.heap.size (by omega)
    have hDl : D < W.heap.size := (Array.getElem?_eq_some_iff.1 hK).1
    have hcells : ∀ V : World, (∀ b, b < W.heap.size → V.heap[b]? = W.heap[b]?) → V.cell? ⟨w.heap.size, 0, none⟩ = some (.string tn) ∧ V.cell? ⟨w.heap.size, 1, none⟩ = some (.slice At tl ct) ∧ V.cell? ⟨w.heap.size + 1 + 1 + 1 + 1, 0, none⟩ = some (.map (some (w.heap.size + 1 + 1 + 1))) ∧
        Blk V (w.heap.size + 1 + 1) 24 #[.string ⟨#[]⟩, .slice none 0 0] ∧ V.heap[D]? = some (.deferred (some [])) := fun V hV => by
      have g : ∀ b, b < w1.heap.size → ¬ b = w.heap.size + 1 + 1 + 1 → V.heap[b]? = w1.heap[b]? := fun b hb hn => (hV b (by omega)).trans (hk.block b hb hn)
      have x0 := k3.cell 0
      have x1 := k3.cell 1
      have x7 := k7.cell 0
      simp at x0 x1 x7
      exact ⟨(cell_of_block (g _ (by omega) (by omega)) 0).trans x0, (cell_of_block (g _ (by omega) (by omega)) 1).trans x1, (cell_of_block (g _ (by omega) (by omega)) 0).trans x7, (g _ (by omega) (by omega)).trans k6, (hV D hDl).trans hK⟩
    have hal : Below W.heap.size W (W.alloc (.cells #[.int .i64 53687091] 3)) := (Below.refl _ _).alloc (Nat.le_refl _) _
    have hty : TyRep W W.heap.size t (.agg #[.string tn, .slice At tl ct]) := (HU.out.under hbw).more (by omega)
    have hfit := fitsR_c W.heap.size W.heap.size (Nat.le_refl _) (some (w.heap.size + 1 + 1 + 1)) (gOf ps l) t 131072 (by omega) (by omega) (.agg #[.string tn, .slice At tl ct]) 53687091 (W.alloc (.cells #[.int .i64 53687091] 3)) (by omega) (by omega) (hty.under hal) (hlk.under hal) (Blk.new _ _ _) (by simp)
    have hrep : ∀ V, Below W.heap.size W V → Calls Tryz.prog 17 #[.agg #[.string tn, .slice At tl ct], .map (some (w.heap.size + 1 + 1 + 1))] V fun e w' => ∃ u', e = .returned u' ∧ TyN (fun b => V.heap.size ≤ b) w' (substT (gOf ps l) t) u' ∧ Below V.heap.size V w' ∧ UnU w' u' := fun V hV =>
      repl_c W.heap.size (some (w.heap.size + 1 + 1 + 1)) (gOf ps l) (fun nm x hx => copy_c W.heap.size x (by
        unfold gOf at hx
        obtain ⟨i, _, hi⟩ := Option.bind_eq_some_iff.1 hx
        exact hsl x (List.mem_of_getElem? hi))) t hst V _ (hlk.under hV) hV.size (hty.under hV)
    have c0 := hcells _ (fun b hb => hal.block b hb)
    have HCE := Lib.hid hcells; have HF := Lib.hid hfit; have HRP := Lib.hid hrep; have HBW := Lib.hid hbw; have HAL := Lib.hid hal
    obtain ⟨d0, d1, d2, _, _⟩ := c0
    clear hm hk hI' hlk hcells hfit hrep hty hbw hK hal
    gi_wp2_with fail
    refine ⟨trivial, (callsIn_wide.2 HF.out).mono ?_⟩
    rintro e w5 ⟨rfl, _, hk5⟩
    dsimp only
    have hV5 : ∀ b, b < W.heap.size → w5.heap[b]? = W.heap[b]? := fun b hb => (hk5.block b (by simp; omega) (by omega)).trans (HAL.out.block b hb)
    have hb5 : Below W.heap.size W w5 := HAL.out.trans (hk5.below (fun b hb e => by omega) (by simp))
    have hs5 := hb5.size
    obtain ⟨e0, e1, e2, _, _⟩ := HCE.out w5 hV5
    have HC6 := Lib.hid (HRP.out w5 hb5); have HV5 := Lib.hid hV5; have HB5 := Lib.hid hb5
    clear d0 d1 d2 hk5 hV5 hb5
    gi_wp2_with fail
    refine ⟨trivial, (callsIn_wide.2 HC6.out).mono ?_⟩
    rintro e w6 ⟨u', rfl, ⟨A', c', rfl, q1, q2⟩, q3, q4⟩
    dsimp only
    have hs6 := q3.size
    have hV6 : ∀ b, b < W.heap.size → w6.heap[b]? = W.heap[b]? := fun b hb => (q3.block b (by omega)).trans (HV5.out b hb)
    obtain ⟨_, _, _, r6, rD⟩ := HCE.out w6 hV6
    have b0 := r6.cell 0
    have b1 := r6.cell 1
    have g0 := r6.frozen 0
    have g1 := r6.frozen 1
    simp at b0 b1
    have hDD : ¬ w.heap.size + 1 + 1 = D := by omega
    have far : ∀ b, b ≠ w.heap.size + 1 + 1 → ((w6.setCell ⟨w.heap.size + 1 + 1, 0, none⟩ (.string (substT (gOf ps l) t).name)).setCell ⟨w.heap.size + 1 + 1, 1, none⟩ (.slice A' (substT (gOf ps l) t).args.length c')).heap[b]? = w6.heap[b]? := fun b hb => (Below.heap_setCell _ _ _ _ hb).trans (Below.heap_setCell _ _ _ _ hb)
    have hK' := (far D (fun e => hDD e.symm)).trans rD
    have hbl := r6.store2 (x' := .string (substT (gOf ps l) t).name) (y' := .slice A' (substT (gOf ps l) t).args.length c')
    have hbe : Below w.heap.size w ((w6.setCell ⟨w.heap.size + 1 + 1, 0, none⟩ (.string (substT (gOf ps l) t).name)).setCell ⟨w.heap.size + 1 + 1, 1, none⟩ (.slice A' (substT (gOf ps l) t).args.length c')) := (((HBW.out.trans (HB5.out.mono (by omega))).trans (q3.mono (by omega))).setCell (by simp; omega) _).setCell (by simp; omega) _
    have hln : TyN (fun b => w5.heap.size ≤ b) ((w6.setCell ⟨w.heap.size + 1 + 1, 0, none⟩ (.string (substT (gOf ps l) t).name)).setCell ⟨w.heap.size + 1 + 1, 1, none⟩ (.slice A' (substT (gOf ps l) t).args.length c')) (substT (gOf ps l) t) (.agg #[.string (substT (gOf ps l) t).name, .slice A' (substT (gOf ps l) t).args.length c']) :=
      ⟨A', c', rfl, q1, q2.keep (fun b hb _ => far b (by omega)) fun b h => h⟩
    have hun : UnF (((w6.setCell ⟨w.heap.size + 1 + 1, 0, none⟩ (.string (substT (gOf ps l) t).name)).setCell ⟨w.heap.size + 1 + 1, 1, none⟩ (.slice A' (substT (gOf ps l) t).args.length c'))) A' := ((q4 _ _ _ _ rfl).set _ _ _).set _ _ _
    have HUN := Lib.hid hun
    have HK' := Lib.hid hK'; have HBL := Lib.hid hbl; have HBE := Lib.hid hbe; have HLN := Lib.hid hln
    clear hK' hbl hbe hln hun q1 q2 q3 q4 r6 rD hV6 far e0 e1 e2
    gi_wp2_with fail
    refine ⟨by simp, .inl ⟨_, _, rfl, run_takeDeferred HK'.out, ?_⟩⟩
    refine ⟨_, retT1 (g := w.heap.size + 1 + 1) Tryz.results6 rfl ((World.putObj_heap_other hDD).trans HBL.out), ⟨_, rfl, HLN.out.keep (fun b hb _ => World.putObj_heap_other (by omega)) fun b hb => by omega, ?_, fun n A l c e => ?_⟩⟩
    rotate_left
    · cases e
      intro p hp
      obtain ⟨cur, hcur⟩ := HUN.out p hp
      refine ⟨cur, (World.putObj_heap_other fun e => ?_).trans hcur⟩
      rw [e, Blk, HK'.out] at hcur
      cases hcur
    exact HBE.out.trans (belowK_b (w := w) (Nat.le_refl _) _ D _ _ (by omega) HK'.out rfl rfl)
end Go.Proofs.YtagmgkkicodbiaaGreatDoor
