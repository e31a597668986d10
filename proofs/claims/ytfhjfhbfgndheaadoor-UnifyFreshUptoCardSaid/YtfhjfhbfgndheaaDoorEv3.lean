/- An evaluator of closed runs, proved sound (part 3 of 5). -/
import Derived.Test.YtfhjfhbfgndheaaDoorEv2
import Derived.Laws.RangeString
import Derived.Lib.ConvBytes
namespace Go.Xe
noncomputable section
set_option linter.unusedSimpArgs false
section
variable {R : Nat} {B : Bs} {e : Env} {h : T AO} {nx : Nat} {w : World} {P : Program}

theorem Sim.heap (s : Sim R B e h nx w) {w' : World} (hw : w'.heap = w.heap) : Sim R B e h nx w' :=
  ⟨fun i o hi => by rw [hw]; exact s.obj i o hi, s.inj, s.fresh, s.glob, s.own, by rw [hw]; exact s.base⟩

/-! ### append -/
def srcCells (h : T AO) (x : AV) (sz : Nat) : Option (Nat × List AV) :=
  match x with
  | .nils => some (0, [])
  | .slice id off len _ => (h.get id).bind fun o => o.cells.bind fun c => (ldCells c off (len * sz)).bind fun r => some (len, r)
  | .grow id off len _ => match Nat.beq len 0 with
    | true => some (0, [])
    | false => (h.get id).bind fun o => o.cells.bind fun c => (ldCells c off (len * sz)).bind fun r => some (len, r)
  | .str s => match Nat.beq sz 1 with
    | true => some (s.length, s.map fun b => .int .u8 b.toNat)
    | false => none
  | _ => none
theorem str_cells : ∀ (s : List UInt8), VRs e (s.map fun b => AV.int .u8 b.toNat) (s.map fun b => Value.int .u8 b.toNat)
  | [] => .nil
  | _ :: s => .cons _ _ _ _ (.int _ _) (str_cells s)
theorem src_ok (s : Sim R B e h nx w) {x : AV} {X : Value} {sz n : Nat} {news : List AV} (hx : srcCells h x sz = some (n, news)) (hX : VR e x X) :
    ∃ NEWS, (Builtin.lenOf X).run P w = .ok n w ∧ (∀ w', w'.heap = w.heap → (Builtin.firstCells sz n X).run P w' = .ok ⟨NEWS⟩ w') ∧ VRs e news NEWS := by
  unfold srcCells at hx
  split at hx
  · cases hx; cases hX
    exact ⟨[], by simp [Builtin.lenOf], fun w' _ => by simp [Builtin.firstCells], .nil⟩
  · obtain ⟨o, ho, hx⟩ := Option.bind_eq_some_iff.1 hx
    obtain ⟨c, hc, hx⟩ := Option.bind_eq_some_iff.1 hx
    obtain ⟨r, hr, hx⟩ := Option.bind_eq_some_iff.1 hx
    cases hx
    cases hX with
    | slice _ _ _ _ b hb =>
      obtain ⟨L, h1, h2⟩ := s.cells (P := P) ho hc hb hr
      exact ⟨L, by simp [Builtin.lenOf], fun w' hw => by simpa [Builtin.firstCells] using h1 w' hw, h2⟩
  · rename_i id0 off0 len sk0
    cases hX with
    | grow _ _ _ _ b o' hb hl ho' =>
      split at hx
      · rename_i hz
        have hz := Nat.eq_of_beq_eq_true hz
        subst hz
        cases hx
        exact ⟨[], by simp [Builtin.lenOf], fun w' _ => by simp [Builtin.firstCells, loadCells, loadCellsFrom], .nil⟩
      · rename_i hz
        have hz : len ≠ 0 := fun hh => by rw [hh] at hz; cases hz
        obtain ⟨o, ho, hx⟩ := Option.bind_eq_some_iff.1 hx
        obtain ⟨c, hc, hx⟩ := Option.bind_eq_some_iff.1 hx
        obtain ⟨r, hr, hx⟩ := Option.bind_eq_some_iff.1 hx
        cases hx
        obtain rfl := ho'.resolve_right (by omega)
        obtain ⟨L, h1, h2⟩ := s.cells (P := P) ho hc hb hr
        exact ⟨L, by simp [Builtin.lenOf], fun w' hw => by simpa [Builtin.firstCells] using h1 w' hw, h2⟩
  · split at hx <;> cases hx
    rename_i hz
    have hz := Nat.eq_of_beq_eq_true hz
    cases hX
    rename List UInt8 => l
    refine ⟨l.map fun b => Value.int .u8 b.toNat, by simp only [Builtin.lenOf, Sem.run_pure]; rfl, fun w' _ => ?_, str_cells l⟩
    simp only [Builtin.firstCells, Sem.run_pure, Result.ok.injEq, and_true]
    apply Array.ext'
    simp [ByteArray.data_extract]
  · cases hx

def notInt (d : TypeDesc) : Bool := match d with
  | .slice _ | .string => true
  | _ => false
theorem run_app_in {ts : Array TypeId} {ty t t1 el : TypeId} {d1 : TypeDesc} {j : TI} {b off sLen sCap n : Nat} {X : Value} {NEWS : List Value} (h0 : ts[0]? = some t) (h1 : ts[1]? = some t1)
    (ht : (underlying t).run P w = .ok (.slice el) w) (ht1 : (underlying t1).run P w = .ok d1 w) (hd : notInt d1 = true) (hj : TI.Ok P el j)
    (hn : (Builtin.lenOf X).run P w = .ok n w) (hf : (Builtin.firstCells j.size n X).run P w = .ok ⟨NEWS⟩ w) (hle : sLen + n ≤ sCap) :
    (Builtin.append_ ts ty #[.slice (some ⟨b, off, none⟩) sLen sCap, X]).run P w = ((storeCells ⟨b, off + sLen * j.size, none⟩ NEWS).run P w).andThen fun _ w' => .ok (.slice (some ⟨b, off, none⟩) (sLen + n) sCap) w' := by
  have hS := run_sizeOf (P := P) (w := w) hj
  unfold Builtin.append_
  simp only [h0]
  simp only [List.getElem?_toArray, List.getElem?_cons_zero, List.getElem?_cons_succ, Sem.run_bind, ht, Result.andThen, hS, h1, ht1, Sem.run_pure]
  cases d1 <;> first
    | (cases hd; done)
    | (simp only [Bool.false_eq_true, if_false, Sem.run_bind, hn, Result.andThen]
       rw [if_pos hle]
       simp only [Bool.not_false, if_true, Sem.run_bind, hf, Result.andThen, Sem.run_pure, Addr.add_mk])
theorem cut_ge (need old : Nat) (el : TypeId) (t : Nat) : need ≤ (Question.appendCap need old el).cut t := by simp [Question.cut]
theorem run_app_out {ts : Array TypeId} {ty t t1 el : TypeId} {d1 : TypeDesc} {j : TI} {base : Option Addr} {sLen sCap n : Nat} {X : Value} {OLD NEWS : List Value} {z : AV} (h0 : ts[0]? = some t) (h1 : ts[1]? = some t1)
    (ht : (underlying t).run P w = .ok (.slice el) w) (ht1 : (underlying t1).run P w = .ok d1 w) (hd : notInt d1 = true) (hj : TI.Ok P el j) (hz : j.zero = some z)
    (hn : (Builtin.lenOf X).run P w = .ok n w) (hf : (Builtin.firstCells j.size n X).run P w.drew = .ok ⟨NEWS⟩ w.drew) (hold : (Builtin.firstCells j.size sLen (.slice base sLen sCap)).run P w.drew = .ok ⟨OLD⟩ w.drew)
    (hlt : sCap < sLen + n) (hsm : (sLen + n) ≤ 1048576) (hbm : j.bytes ≤ 1048576) :
    ∃ cap Z, sLen + n ≤ cap ∧ (∀ e, VR e z Z) ∧ (Builtin.append_ ts ty #[.slice base sLen sCap, X]).run P w =
      .ok (.slice (some ⟨w.heap.size, 0, none⟩) (sLen + n) cap) (w.drew.alloc (.cells (⟨OLD⟩ ++ ⟨NEWS⟩ ++ Builtin.zeroCells Z.cells (cap - (sLen + n))) el)) := by
  have hS := run_sizeOf (P := P) (w := w) hj
  obtain ⟨_, J, hJ, hjs, hjb, hzz⟩ := hj
  obtain ⟨Z, hZ, hzr⟩ := hzz z hz
  have hI : ∀ w, (typeInfo el).run P w = .ok J w := fun w => by simp [typeInfo, hJ]
  have hzv : ∀ w, (zeroValue el).run P w = .ok Z w := fun w => by simp [zeroValue, hI, Result.andThen, hZ]
  refine ⟨(Question.appendCap (sLen + n) sCap el).cut (w.tape w.drawn (.appendCap (sLen + n) sCap el)), Z, cut_ge _ _ _ _, hzr, ?_⟩
  have hcap : Builtin.nextslicecap (sLen + n) sCap ≤ 2097152 := by
    unfold Builtin.nextslicecap
    split
    · omega
    · split
      · omega
      · have key : ∀ (r c m : Nat), c ≤ m → ∀ N, Builtin.growBy N r c ≤ max m (N + (N + 768) / 4) := by
          intro r
          induction r with
          | zero => intro c m hc N; simp only [Builtin.growBy]; omega
          | succ r ih =>
            intro c m hc N
            simp only [Builtin.growBy]
            split
            · omega
            · have := ih (c + (c + 768) / 4) (max m (N + (N + 768) / 4)) (by omega) N
              omega
        have := key 4 sCap sCap (Nat.le_refl _) (sLen + n)
        omega
  have hbytes : ¬ Builtin.nextslicecap (sLen + n) sCap * J.bytes > 2 ^ 48 := by
    rw [hjb]
    have := Nat.mul_le_mul hcap hbm
    omega
  have hmax : ¬ ((sLen + n : Nat) : Int) > IntKind.i64.max := by rw [IntKind.max_i64]; omega
  have hch : (choose (.appendCap (sLen + n) sCap el)).run P w = .ok ((Question.appendCap (sLen + n) sCap el).cut (w.tape w.drawn (.appendCap (sLen + n) sCap el))) w.drew := by
    simp [Question.forced]
  unfold Builtin.append_
  simp only [h0]
  simp only [List.getElem?_toArray, List.getElem?_cons_zero, List.getElem?_cons_succ, Sem.run_bind, ht, Result.andThen, hS, h1, ht1, Sem.run_pure]
  cases d1 <;> first
    | (cases hd; done)
    | (simp only [Bool.false_eq_true, if_false, Sem.run_bind, hn, Result.andThen]
       rw [if_neg (by omega)]
       simp only [Sem.run_bind, hI, Result.andThen]
       rw [if_neg (fun hh => hmax hh.1)]
       simp only [Sem.run_bind, hI, Result.andThen]
       rw [if_neg hbytes]
       simp only [Sem.run_bind, hch, hI, run_askRoom, Bool.not_false, if_true, hf, hold, hzv, Result.andThen, Sem.run_pure, newRow, run_newObj, World.alloc_eq]
       rfl)
end
end
end Go.Xe

namespace Go.Xe
noncomputable section
set_option linter.unusedSimpArgs false
section
variable {R : Nat} {B : Bs} {e : Env} {h : T AO} {nx : Nat} {w : World} {P : Program}

/-- An object is known no longer. -/
theorem Sim.drop (s : Sim R B e h nx w) {id : Nat} {h' : T AO} (hp : h.put 60 id none = some h') : Sim R B e h' nx w ∧ Ste R e h nx w e h' nx w := by
  have hg := T.put_get 60 h id none h' hp
  have key : ∀ i o, h'.get i = some o → h.get i = some o := fun i o hio => by
    rw [hg] at hio
    split at hio
    · cases hio
    · exact hio
  exact ⟨⟨fun i o hi => s.obj i o (key i o hi), fun i j o o' b h1 h2 => s.inj i j o o' b (key _ _ h1) (key _ _ h2), s.fresh, s.glob, fun i o b hi ho => s.own i o b hi (key _ _ ho), s.base⟩,
    ⟨e.le_refl, Nat.le_refl _, rfl, rfl, rfl, Nat.le_refl _, fun _ _ _ => rfl, fun i o _ hi ho hb _ => ⟨i, o, hi, key _ _ ho, hb⟩, fun _ _ => rfl⟩⟩
/-- An object under another name, in the place of one that is known no longer. -/
theorem Sim.move (s : Sim R B e h nx w) {id b rm : Nat} {o o' : AO} {O' : Obj} {h1 h' : T AO} (ho : h.get id = some o) (hid : R ≤ id) (hb : e.blk id = some b) (hp1 : h.put 60 id none = some h1)
    (hp : h1.put 60 nx (some o') = some h') {w' : World}
    (hw : w'.heap[b]? = some O') (hother : ∀ k, k ≠ b → w'.heap[k]? = w.heap[k]?) (hsz : w'.heap.size = w.heap.size) (hos : w'.os = w.os) (htape : w'.tape = w.tape) (hout : w'.output = w.output)
    (hO : ∀ e', e.le e' → e'.room nx = rm → OR e' nx o' O') :
    (e.put nx b rm).blk nx = some b ∧ (e.put nx b rm).room nx = rm ∧ Sim R B (e.put nx b rm) h' (nx + 1) w' ∧ Ste R e h nx w (e.put nx b rm) h' (nx + 1) w' := by
  have hn : e.blk nx = none := s.fresh nx (Nat.le_refl _)
  have hle := Env.put_le (e := e) (b := b) (rm := rm) hn
  have hg1 := T.put_get 60 h id none h1 hp1
  have hg := T.put_get 60 h1 nx (some o') h' hp
  have hnb : (e.put nx b rm).blk nx = some b := by simp [Env.put]
  have hnr : (e.put nx b rm).room nx = rm := by simp [Env.put]
  have hob : ∀ i, i ≠ nx → (e.put nx b rm).blk i = e.blk i := fun i hi => by simp [Env.put, hi]
  have key : ∀ i p, i ≠ nx → h'.get i = some p → h.get i = some p ∧ i ≠ id := fun i p hi hip => by
    rw [hg, if_neg hi, hg1] at hip
    split at hip
    · cases hip
    · rename_i hne; exact ⟨hip, hne⟩
  have knx : ∀ p, h'.get nx = some p → p = o' := fun p hp => by
    rw [hg, if_pos rfl] at hp; exact (Option.some.inj hp).symm
  refine ⟨hnb, hnr, ⟨?_, ?_, ?_, ?_, ?_, ?_⟩, ⟨hle, by omega, hos, htape, hout, by omega, ?_, ?_, fun i hi => hob i (by omega)⟩⟩
  · intro i p hip
    by_cases hi : i = nx
    · subst hi
      obtain rfl := knx p hip
      exact ⟨b, O', hnb, hw, hO _ hle hnr⟩
    · obtain ⟨hip', hne⟩ := key i p hi hip
      obtain ⟨c, Q, hc, hQ, hr⟩ := s.obj i p hip'
      have hcb : c ≠ b := fun hh => hne (s.inj i id p o b hip' ho (hh ▸ hc) hb)
      exact ⟨c, Q, by rw [hob i hi]; exact hc, by rw [hother c hcb]; exact hQ, hr.mono hle hc⟩
  · intro i j p q c hip hjq hib hjb
    by_cases hi : i = nx
    · by_cases hj : j = nx
      · rw [hi, hj]
      · subst hi
        obtain ⟨hjq', hne⟩ := key j q hj hjq
        rw [hnb] at hib
        rw [hob j hj] at hjb
        cases hib
        exact (hne (s.inj j id q o _ hjq' ho hjb hb)).elim
    · obtain ⟨hip', hne⟩ := key i p hi hip
      rw [hob i hi] at hib
      by_cases hj : j = nx
      · subst hj
        rw [hnb] at hjb
        cases hjb
        exact (hne (s.inj i id p o _ hip' ho hib hb)).elim
      · obtain ⟨hjq', _⟩ := key j q hj hjq
        rw [hob j hj] at hjb
        exact s.inj i j p q c hip' hjq' hib hjb
  · intro i hi
    rw [hob i (by omega)]
    exact s.fresh i (by omega)
  · intro g hgR
    rw [hob g (by have := s.base.2.2.1; omega)]
    exact s.glob g hgR
  · intro i p c hi hip hic
    by_cases hin : i = nx
    · subst hin
      rw [hnb] at hic
      cases hic
      exact s.own id o _ hid ho hb
    · obtain ⟨hip', _⟩ := key i p hin hip
      rw [hob i hin] at hic
      exact s.own i p c hi hip' hic
  · exact ⟨by rw [hsz]; exact s.base.1, s.base.2.1, by have := s.base.2.2.1; omega, fun k hk => (hother k fun hkb => by have := s.own id o _ hid ho hb; omega).trans (s.base.2.2.2 k hk)⟩
  · intro k hk hno
    exact hother k fun hkb => hno id o hid ho (hkb ▸ hb)
  · intro i p c hi hip hic hlt
    by_cases hin : i = nx
    · subst hin
      rw [hnb] at hic
      cases hic
      exact ⟨id, o, hid, ho, hb⟩
    · obtain ⟨hip', _⟩ := key i p hin hip
      rw [hob i hin] at hic
      exact ⟨i, p, hi, hip', hic⟩

def growTo (h : T AO) (nx : Nat) (c : List AV) (el sz len : Nat) : Option (AV × T AO × Nat) :=
  (h.put 60 nx (some (.opn c el sz))).bind fun h' => some (.grow nx 0 len 0, h', nx + 1)
def appNil (h : T AO) (nx : Nat) (el : TypeId) (sz n : Nat) (news : List AV) : Option (AV × T AO × Nat) :=
  match Nat.beq n 0, Nat.ble n 1048576 with
  | true, _ => some (.nils, h, nx)
  | false, true => growTo h nx news el sz n
  | _, _ => none
def appSl (R : Nat) (h : T AO) (nx : Nat) (el : TypeId) (sz n : Nat) (news : List AV) (id off len cap : Nat) : Option (AV × T AO × Nat) :=
  match Nat.ble (len + n) cap with
  | true => (aStore R h id (off + len * sz) news).bind fun h' => some (.slice id off (len + n) cap, h', nx)
  | false => match Nat.ble (len + n) 1048576 with
    | true => (srcCells h (.slice id off len cap) sz).bind fun (_, old) => growTo h nx (old ++ news) el sz (len + n)
    | false => none
def appGr2 (h : T AO) (nx : Nat) (el : TypeId) (sz n : Nat) (news : List AV) (id len skip : Nat) (c : List AV) : Option (AV × T AO × Nat) :=
  match Nat.beq skip 0, Nat.beq c.length (len * sz), Nat.ble (len + n) 1048576, ones news with
  | true, true, true, true => (h.put 60 id none).bind fun h1 => growTo h1 nx (c ++ news) el sz (len + n)
  | _, _, _, _ => none
def appGr1 (R : Nat) (h : T AO) (nx : Nat) (el : TypeId) (sz n : Nat) (news : List AV) (id off len skip : Nat) (c : List AV) (t : TypeId) (sz' : Nat) : Option (AV × T AO × Nat) :=
  match Nat.beq sz' sz, Nat.beq off (skip * sz), Nat.ble 1 sz, Nat.beq t el, Nat.ble R id with
  | true, true, true, true, true => match Nat.ble ((skip + len + n) * sz) c.length with
    | true => (aStore R h id (off + len * sz) news).bind fun h' => some (.grow id off (len + n) skip, h', nx)
    | false => appGr2 h nx el sz n news id len skip c
  | _, _, _, _, _ => none
def appGr (R : Nat) (h : T AO) (nx : Nat) (el : TypeId) (sz n : Nat) (news : List AV) (id off len skip : Nat) : Option (AV × T AO × Nat) :=
  match h.get id with
  | some (.opn c t sz') => appGr1 R h nx el sz n news id off len skip c t sz'
  | _ => none
def aApp2 (A : Tab) (h : T AO) (nx : Nat) (el : TypeId) (j : TI) (z : AV) (n : Nat) (news : List AV) (s : AV) : Option (AV × T AO × Nat) :=
  match Nat.beq z.cells.length j.size, Nat.ble j.bytes 1048576 with
  | true, true =>
    match s with
    | .nils => appNil h nx el j.size n news
    | .slice id off len cap => appSl A.R h nx el j.size n news id off len cap
    | .grow id off len skip => appGr A.R h nx el j.size n news id off len skip
    | _ => none
  | _, _ => none
def aApp (A : Tab) (h : T AO) (nx : Nat) (ts : List TypeId) (s x : AV) : Option (AV × T AO × Nat) :=
  match ts with
  | t :: t1 :: _ => (A.ty.get t).bind fun i => (A.ty.get t1).bind fun i1 =>
    match i.desc, notInt i1.desc with
    | .slice el, true => (A.ty.get el).bind fun j => j.zero.bind fun z => (srcCells h x j.size).bind fun q => aApp2 A h nx el j z q.1 q.2 s
    | _, _ => none
  | _ => none

theorem growTo_ok (s : Sim R B e h nx w) {c : List AV} {el sz len cap : Nat} {C : List Value} {Z : Value} {z : AV} {v : AV} {h' : T AO} {nx' : Nat} (hg : growTo h nx c el sz len = some (v, h', nx')) (hc : VRs e c C)
    (hlen : c.length = len * sz) (hz : z.cells.length = sz) (hZ : ∀ e, VR e z Z) (hcap : len ≤ cap) :
    ∃ e', VR e' v (.slice (some ⟨w.heap.size, 0, none⟩) len cap) ∧ Sim R B e' h' nx' (w.drew.alloc (.cells (⟨C⟩ ++ Builtin.zeroCells Z.cells (cap - len)) el)) ∧
      Ste R e h nx w e' h' nx' (w.drew.alloc (.cells (⟨C⟩ ++ Builtin.zeroCells Z.cells (cap - len)) el)) := by
  obtain ⟨h1, hp, hg⟩ := Option.bind_eq_some_iff.1 hg
  cases hg
  have hZs : Z.cells.size = sz := by have := ((hZ e).cells).length; simp at this; omega
  have hCl := hc.length
  obtain ⟨hb, hr, hs, hst⟩ := s.drew.push (O := .cells (⟨C⟩ ++ Builtin.zeroCells Z.cells (cap - len)) el) hp cap (fun e' hle hrm => by
    refine ⟨C, (Builtin.zeroCells Z.cells (cap - len)).toList, (0, 0), ?_, hc.mono hle, ?_, .inl rfl⟩
    · congr 1
      apply Array.ext'; simp
    · rw [hrm]
      simp only [List.length_append, Builtin.zeroCells, Array.toList_map, List.length_map, Array.toList_range, List.length_range, hZs, hCl, hlen, ← Nat.add_mul]
      congr 1; omega)
  refine ⟨_, ?_, hs, Ste.drew.trans hst⟩
  have := VR.grow nx 0 len 0 w.heap.size 0 (e := e.put nx w.drew.heap.size cap) hb (by rw [hr]; simpa using hcap) (.inl rfl)
  rw [hr] at this
  exact this
end
end
end Go.Xe

namespace Go.Xe
noncomputable section
set_option linter.unusedSimpArgs false
section
variable {R : Nat} {B : Bs} {e : Env} {h : T AO} {nx : Nat} {w : World} {P : Program}

theorem run_app_nil {ts : Array TypeId} {ty t t1 el : TypeId} {d1 : TypeDesc} {j : TI} {X : Value} (h0 : ts[0]? = some t) (h1 : ts[1]? = some t1)
    (ht : (underlying t).run P w = .ok (.slice el) w) (ht1 : (underlying t1).run P w = .ok d1 w) (hd : notInt d1 = true) (hj : TI.Ok P el j)
    (hn : (Builtin.lenOf X).run P w = .ok 0 w) {NEWS : List Value} (hf : (Builtin.firstCells j.size 0 X).run P w = .ok ⟨NEWS⟩ w) :
    (Builtin.append_ ts ty #[.slice none 0 0, X]).run P w = .ok (.slice none 0 0) w := by
  have hS := run_sizeOf (P := P) (w := w) hj
  unfold Builtin.append_
  simp only [h0]
  simp only [List.getElem?_toArray, List.getElem?_cons_zero, List.getElem?_cons_succ, Sem.run_bind, ht, Result.andThen, hS, h1, ht1, Sem.run_pure]
  cases d1 <;> first
    | (cases hd; done)
    | (simp only [Bool.false_eq_true, if_false, Sem.run_bind, hn, Result.andThen]
       rw [if_pos (by omega)]
       simp only [Bool.not_false, if_true, Sem.run_bind, hf, Result.andThen, Sem.run_pure])

theorem srcLen (x : AV) (sz : Nat) (n : Nat) (news : List AV) (hs : srcCells h x sz = some (n, news)) : news.length = n * sz := by
  unfold srcCells at hs
  split at hs
  · cases hs; simp
  · obtain ⟨_, _, hs⟩ := Option.bind_eq_some_iff.1 hs
    obtain ⟨_, _, hs⟩ := Option.bind_eq_some_iff.1 hs
    obtain ⟨r, hr, hs⟩ := Option.bind_eq_some_iff.1 hs
    cases hs
    exact (ldCells_ok hr).2
  · split at hs
    · cases hs; simp
    · obtain ⟨_, _, hs⟩ := Option.bind_eq_some_iff.1 hs
      obtain ⟨_, _, hs⟩ := Option.bind_eq_some_iff.1 hs
      obtain ⟨r, hr, hs⟩ := Option.bind_eq_some_iff.1 hs
      cases hs
      exact (ldCells_ok hr).2
  · split at hs
    · rename_i hb
      have hb := Nat.eq_of_beq_eq_true hb
      cases hs
      simp [hb]
    · cases hs
  · cases hs
theorem appNil_ok (s : Sim R B e h nx w) {ts : Array TypeId} {ty t t1 el : TypeId} {d1 : TypeDesc} {j : TI} {z v : AV} {n : Nat} {news : List AV} {Y : Value} {NEWS : List Value} {h' : T AO} {nx' : Nat} (h0 : ts[0]? = some t) (h1 : ts[1]? = some t1)
    (ht : (underlying t).run P w = .ok (.slice el) w) (ht1 : (underlying t1).run P w = .ok d1 w) (hni : notInt d1 = true) (hJ : TI.Ok P el j) (hz : j.zero = some z)
    (hn : (Builtin.lenOf Y).run P w = .ok n w) (hf : ∀ w', w'.heap = w.heap → (Builtin.firstCells j.size n Y).run P w' = .ok ⟨NEWS⟩ w') (hnews : VRs e news NEWS) (hnl : news.length = n * j.size)
    (hzl : z.cells.length = j.size) (hbm : j.bytes ≤ 1048576) {X : Value} (hv : appNil h nx el j.size n news = some (v, h', nx')) (hx : VR e .nils X) :
    ∃ V e' w', (Builtin.append_ ts ty #[X, Y]).run P w = .ok V w' ∧ VR e' v V ∧ Sim R B e' h' nx' w' ∧ Ste R e h nx w e' h' nx' w' := by
  cases hx
  unfold appNil at hv
  split at hv
  · rename_i hb
    have hb := Nat.eq_of_beq_eq_true hb
    subst hb
    cases hv
    exact ⟨.slice none 0 0, e, w, run_app_nil h0 h1 ht ht1 hni hJ hn (hf w rfl), .nils, s, Ste.refl⟩
  · rename_i hb hb2
    have hb : 0 < n := by
      rcases Nat.eq_zero_or_pos n with h' | h'
      · subst h'; cases hb
      · exact h'
    have hb2 := Nat.le_of_ble_eq_true hb2
    obtain ⟨cap, Z, hcap, hZ, hrun⟩ := run_app_out (P := P) (ty := ty) (base := none) (sLen := 0) (sCap := 0) (OLD := []) h0 h1 ht ht1 hni hJ hz hn (hf w.drew rfl) (by simp [Builtin.firstCells]) (by omega) (by omega) hbm
    obtain ⟨e', hV, hs, hst⟩ := growTo_ok (cap := cap) s hv hnews hnl hzl hZ (by omega)
    refine ⟨_, e', _, hrun, ?_, ?_, ?_⟩
    · simpa using hV
    · simpa using hs
    · simpa using hst
  · cases hv
theorem appSl_ok (s : Sim R B e h nx w) {ts : Array TypeId} {ty t t1 el : TypeId} {d1 : TypeDesc} {j : TI} {z v : AV} {n : Nat} {news : List AV} {Y : Value} {NEWS : List Value} {h' : T AO} {nx' : Nat} (h0 : ts[0]? = some t) (h1 : ts[1]? = some t1)
    (ht : (underlying t).run P w = .ok (.slice el) w) (ht1 : (underlying t1).run P w = .ok d1 w) (hni : notInt d1 = true) (hJ : TI.Ok P el j) (hz : j.zero = some z)
    (hn : (Builtin.lenOf Y).run P w = .ok n w) (hf : ∀ w', w'.heap = w.heap → (Builtin.firstCells j.size n Y).run P w' = .ok ⟨NEWS⟩ w') (hnews : VRs e news NEWS) (hnl : news.length = n * j.size)
    (hzl : z.cells.length = j.size) (hbm : j.bytes ≤ 1048576) {X : Value} {id off len cap : Nat} (hv : appSl R h nx el j.size n news id off len cap = some (v, h', nx')) (hx : VR e (.slice id off len cap) X) :
    ∃ V e' w', (Builtin.append_ ts ty #[X, Y]).run P w = .ok V w' ∧ VR e' v V ∧ Sim R B e' h' nx' w' ∧ Ste R e h nx w e' h' nx' w' := by
  cases hx with
  | slice _ _ _ _ b hb =>
    unfold appSl at hv
    split at hv
    · rename_i hle
      have hle := Nat.le_of_ble_eq_true hle
      obtain ⟨h2, hst, hv⟩ := Option.bind_eq_some_iff.1 hv
      cases hv
      obtain ⟨w', hr, hs, hste⟩ := aStore_ok (P := P) s hst hb hnews
      refine ⟨_, e, w', ?_, .slice _ _ _ _ b hb, hs, hste⟩
      rw [run_app_in (ty := ty) h0 h1 ht ht1 hni hJ hn (hf w rfl) hle, hr]
      rfl
    · rename_i hle
      have hle : ¬ len + n ≤ cap := fun hh => by
        have := Nat.ble_eq_true_of_le hh
        rw [this] at hle; cases hle
      split at hv <;> (try (cases hv; done))
      rename_i hsm
      have hsm := Nat.le_of_ble_eq_true hsm
      obtain ⟨⟨m, old⟩, hold, hv⟩ := Option.bind_eq_some_iff.1 hv
      have hvr : VR e (.slice id off len cap) (.slice (some ⟨b, off, none⟩) len cap) := .slice _ _ _ _ b hb
      obtain ⟨OLD, hlo, hfo, holds⟩ := src_ok (P := P) s hold hvr
      have hm : m = len := by
        have := hold
        unfold srcCells at this
        simp only at this
        obtain ⟨_, _, this⟩ := Option.bind_eq_some_iff.1 this
        obtain ⟨_, _, this⟩ := Option.bind_eq_some_iff.1 this
        obtain ⟨r, hr, this⟩ := Option.bind_eq_some_iff.1 this
        cases this
        rfl
      subst hm
      have hol := srcLen _ _ _ _ hold
      obtain ⟨cp, Z, hcap, hZ, hrun⟩ := run_app_out (P := P) (ty := ty) h0 h1 ht ht1 hni hJ hz hn (hf w.drew rfl) (hfo w.drew rfl) (by omega) hsm hbm
      obtain ⟨e', hV, hs, hst⟩ := growTo_ok (cap := cp) s hv (holds.append hnews) (by rw [List.length_append, hol, hnl, Nat.add_mul]) hzl hZ hcap
      have earr : (⟨OLD⟩ : Array Value) ++ ⟨NEWS⟩ = ⟨OLD ++ NEWS⟩ := by apply Array.ext'; simp
      rw [earr] at hrun
      exact ⟨_, e', _, hrun, hV, hs, hst⟩
theorem appGr2_ok (s : Sim R B e h nx w) {ts : Array TypeId} {ty t t1 el : TypeId} {d1 : TypeDesc} {j : TI} {z v : AV} {n : Nat} {news : List AV} {Y : Value} {NEWS : List Value} {h' : T AO} {nx' : Nat} (h0 : ts[0]? = some t) (h1 : ts[1]? = some t1)
    (ht : (underlying t).run P w = .ok (.slice el) w) (ht1 : (underlying t1).run P w = .ok d1 w) (hni : notInt d1 = true) (hJ : TI.Ok P el j) (hz : j.zero = some z)
    (hn : (Builtin.lenOf Y).run P w = .ok n w) (hf : ∀ w', w'.heap = w.heap → (Builtin.firstCells j.size n Y).run P w' = .ok ⟨NEWS⟩ w') (hnews : VRs e news NEWS) (hnl : news.length = n * j.size)
    (hzl : z.cells.length = j.size) (hbm : j.bytes ≤ 1048576) {X : Value} {id len skip : Nat} {c : List AV} (hv : appGr2 h nx el j.size n news id len skip c = some (v, h', nx')) (hx : VR e (.grow id (skip * j.size) len skip) X)
    (ho : h.get id = some (.opn c el j.size)) (q5 : R ≤ id) (_hsp : 1 ≤ j.size) (hnle : ¬ (skip + len + n) * j.size ≤ c.length) :
    ∃ V e' w', (Builtin.append_ ts ty #[X, Y]).run P w = .ok V w' ∧ VR e' v V ∧ Sim R B e' h' nx' w' ∧ Ste R e h nx w e' h' nx' w' := by
  unfold appGr2 at hv
  split at hv <;> (try (cases hv; done))
  rename_i p1 p2 p3 p4
  have p1 := Nat.eq_of_beq_eq_true p1
  have p2 := Nat.eq_of_beq_eq_true p2
  have p3 := Nat.le_of_ble_eq_true p3
  subst p1
  obtain ⟨h2, hd2, hv⟩ := Option.bind_eq_some_iff.1 hv
  simp only [Nat.zero_mul, Nat.zero_add] at hx hnle
  cases hx with
  | grow _ _ _ _ b o' hb hl ho' =>
    obtain ⟨b', O, hb', hO, C, rest, fz, rfl, hC, hsz, hfz⟩ := s.obj id _ ho
    obtain rfl : b' = b := by rw [hb] at hb'; exact (Option.some.inj hb').symm
    have hCl := hC.length
    by_cases hfit : len + n ≤ e.room id - 0
    · -- in the place that there is
      obtain rfl : o' = 0 := by
        rcases ho' with h' | h'
        · exact h'
        · obtain ⟨rfl, rfl⟩ : len = 0 ∧ n = 0 := by omega
          exact (hnle (by simp)).elim
      have hg := hv
      obtain ⟨h3, hp3, hg⟩ := Option.bind_eq_some_iff.1 hg
      cases hg
      have hNl := hnews.length
      have hlen : C.length + NEWS.length ≤ (C ++ rest).length := by
        rw [hsz, hCl, p2, hNl, hnl, ← Nat.add_mul]
        exact Nat.mul_le_mul_right _ (by omega)
      have hrun2 := run_storeCells_up (P := P) b' (0 + len * j.size) el fz (C ++ rest).length hfz NEWS 0 ⟨C ++ rest⟩ w rfl hO (by simp only [List.size_toArray]; omega) (ones_ok hnews p4)
      have hcut : (C ++ rest).take (0 + len * j.size + 0) ++ NEWS ++ (C ++ rest).drop (0 + len * j.size + 0 + NEWS.length) = (C ++ NEWS) ++ rest.drop NEWS.length := by
        have e1 : 0 + len * j.size + 0 = C.length := by omega
        rw [e1, List.take_left, List.drop_append]
        simp
      rw [show (⟨C ++ rest⟩ : Array Value).toList = C ++ rest from rfl, hcut] at hrun2
      obtain ⟨k1, k2, k3, k4⟩ := s.move (rm := e.room id) (O' := .cells ⟨(C ++ NEWS) ++ rest.drop NEWS.length⟩ el fz) ho q5 hb hd2 hp3 (setRow_heap w b' _ _ el _ hO) (fun k hk => setRow_other w b' k _ hk) (setRow_size _ _ _) rfl rfl rfl
        (fun e' hle hrm => ⟨C ++ NEWS, rest.drop NEWS.length, fz, rfl, (hC.append hnews).mono hle, by
          rw [hrm, ← hsz]
          simp only [List.length_append, List.length_drop] at hlen ⊢
          omega, by
          have : ((C ++ NEWS) ++ rest.drop NEWS.length).length = (C ++ rest).length := by
            simp only [List.length_append, List.length_drop] at hlen ⊢
            omega
          rw [this]; exact hfz⟩)
      have hvg := VR.grow nx 0 (len + n) 0 b' 0 k1 (by rw [k2]; omega) (.inl rfl)
      rw [k2] at hvg
      refine ⟨_, _, _, ?_, hvg, k3, k4⟩
      rw [run_app_in (ty := ty) h0 h1 ht ht1 hni hJ hn (hf w rfl) hfit, hrun2]
      rfl
    · -- elsewhere
      have hvr : VR e (.grow id 0 len 0) (.slice (some ⟨b', o', none⟩) len (e.room id - 0)) := .grow _ _ _ _ b' o' hb hl ho'
      have hsrc2 : srcCells h (.grow id 0 len 0) j.size = some (len, c) := by
        unfold srcCells
        simp only
        split
        · rename_i hz0
          have hz0 := Nat.eq_of_beq_eq_true hz0
          subst hz0
          have : c = [] := by simpa using p2
          rw [this]
        · rw [ho]
          simp only [Option.bind_some, AO.cells]
          have hl : ldCells c 0 (len * j.size) = some c := by
            unfold ldCells
            rw [fits_eq, dropF_eq, takeF_eq, List.drop_zero, ← p2, List.take_length, show Nat.ble c.length c.length = true from Nat.ble_eq.mpr (Nat.le_refl _)]
          rw [hl]
          rfl
      obtain ⟨OLD, hlo, hfo, holds⟩ := src_ok (P := P) s hsrc2 hvr
      obtain ⟨cp, Z, hcap, hZ, hrun⟩ := run_app_out (P := P) (ty := ty) h0 h1 ht ht1 hni hJ hz hn (hf w.drew rfl) (hfo w.drew rfl) (by omega) p3 hbm
      obtain ⟨sd, std⟩ := s.drop hd2
      obtain ⟨e', hV, hs, hst⟩ := growTo_ok (cap := cp) sd hv (holds.append hnews) (by rw [List.length_append, p2, hnl, Nat.add_mul]) hzl hZ hcap
      have earr : (⟨OLD⟩ : Array Value) ++ ⟨NEWS⟩ = ⟨OLD ++ NEWS⟩ := by apply Array.ext'; simp
      rw [earr] at hrun
      exact ⟨_, e', _, hrun, hV, hs, std.trans hst⟩
theorem appGr1_ok (s : Sim R B e h nx w) {ts : Array TypeId} {ty t t1 el : TypeId} {d1 : TypeDesc} {j : TI} {z v : AV} {n : Nat} {news : List AV} {Y : Value} {NEWS : List Value} {h' : T AO} {nx' : Nat} (h0 : ts[0]? = some t) (h1 : ts[1]? = some t1)
    (ht : (underlying t).run P w = .ok (.slice el) w) (ht1 : (underlying t1).run P w = .ok d1 w) (hni : notInt d1 = true) (hJ : TI.Ok P el j) (hz : j.zero = some z)
    (hn : (Builtin.lenOf Y).run P w = .ok n w) (hf : ∀ w', w'.heap = w.heap → (Builtin.firstCells j.size n Y).run P w' = .ok ⟨NEWS⟩ w') (hnews : VRs e news NEWS) (hnl : news.length = n * j.size)
    (hzl : z.cells.length = j.size) (hbm : j.bytes ≤ 1048576) {X : Value} {id off len skip sz' : Nat} {c : List AV} {t' : TypeId} (hv : appGr1 R h nx el j.size n news id off len skip c t' sz' = some (v, h', nx')) (hx : VR e (.grow id off len skip) X)
    (ho : h.get id = some (.opn c t' sz')) :
    ∃ V e' w', (Builtin.append_ ts ty #[X, Y]).run P w = .ok V w' ∧ VR e' v V ∧ Sim R B e' h' nx' w' ∧ Ste R e h nx w e' h' nx' w' := by
  unfold appGr1 at hv
  split at hv <;> (try (cases hv; done))
  rename_i q1 q2 q3 q4 q5
  have q1 := Nat.eq_of_beq_eq_true q1
  have q2 := Nat.eq_of_beq_eq_true q2
  have q3 := Nat.le_of_ble_eq_true q3
  have q4 := Nat.eq_of_beq_eq_true q4
  have q5 := Nat.le_of_ble_eq_true q5
  subst q1; subst q4; subst q2
  split at hv
  · rename_i hle
    have hle := Nat.le_of_ble_eq_true hle
    obtain ⟨h2, hst, hv⟩ := Option.bind_eq_some_iff.1 hv
    cases hv
    cases hx with
    | grow _ _ _ _ b o' hb hl ho' =>
      obtain ⟨b', O, hb', hO, C, rest, fz, rfl, hC, hsz, hfz⟩ := s.obj id _ ho
      obtain rfl : b' = b := by rw [hb] at hb'; exact (Option.some.inj hb').symm
      have hCl := hC.length
      have hroom : skip + len + n ≤ e.room id := by
        have h3 : (skip + len + n) * j.size ≤ e.room id * j.size := by
          rw [← hsz, List.length_append, hCl]; omega
        exact Nat.le_of_mul_le_mul_right h3 (by omega)
      have hoff : o' = skip * j.size ∨ len + n = 0 := by
        rcases ho' with h' | h'
        · exact .inl h'
        · right; omega
      rcases hoff with rfl | hzero
      · obtain ⟨w', hr, hs, hste⟩ := aStore_ok (P := P) s hst hb hnews
        refine ⟨_, e, w', ?_, .grow _ _ _ _ b' _ hb (by omega) (.inl rfl), hs, hste⟩
        rw [run_app_in (ty := ty) h0 h1 ht ht1 hni hJ hn (hf w rfl) (by omega), hr]
        rfl
      · obtain ⟨rfl, rfl⟩ : len = 0 ∧ n = 0 := by omega
        have hnil : news = [] := by simpa using hnl
        subst hnil
        cases hnews
        obtain ⟨w', hr, hs, hste⟩ := aStore_ok (P := P) s hst hb .nil
        have hw' : w = w' := by
          have : (storeCells ⟨b', skip * j.size + 0 * j.size, none⟩ ([] : List Value)).run P w = .ok () w := rfl
          rw [this] at hr; cases hr; rfl
        subst hw'
        refine ⟨_, e, w, ?_, .grow _ _ _ _ b' o' hb (by omega) ho', hs, hste⟩
        rw [run_app_in (ty := ty) h0 h1 ht ht1 hni hJ hn (hf w rfl) (by omega)]
        rfl
  · rename_i hnle
    exact appGr2_ok s h0 h1 ht ht1 hni hJ hz hn hf hnews hnl hzl hbm hv hx ho q5 q3 (fun hh => by rw [Nat.ble_eq_true_of_le hh] at hnle; cases hnle)
theorem aApp_ok {A : Tab} (hA : A.Ok P) (s : Sim A.R B e h nx w) {ts : Array TypeId} {ty : TypeId} {x y v : AV} {X Y : Value} {h' : T AO} {nx' : Nat} (hv : aApp A h nx ts.toList x y = some (v, h', nx')) (hx : VR e x X) (hy : VR e y Y) :
    ∃ V e' w', (Builtin.append_ ts ty #[X, Y]).run P w = .ok V w' ∧ VR e' v V ∧ Sim A.R B e' h' nx' w' ∧ Ste A.R e h nx w e' h' nx' w' := by
  obtain ⟨ts⟩ := ts
  unfold aApp at hv
  split at hv <;> (try (cases hv; done))
  rename_i t t1 tr hts
  simp only at hts
  subst hts
  obtain ⟨i, hi, hv⟩ := Option.bind_eq_some_iff.1 hv
  obtain ⟨i1, hi1, hv⟩ := Option.bind_eq_some_iff.1 hv
  have ht : (underlying t).run P w = .ok i.desc w := run_und (hA.ty _ i hi)
  have ht1 : (underlying t1).run P w = .ok i1.desc w := run_und (hA.ty _ i1 hi1)
  have h0 : (⟨t :: t1 :: tr⟩ : Array TypeId)[0]? = some t := by simp
  have h1 : (⟨t :: t1 :: tr⟩ : Array TypeId)[1]? = some t1 := by simp
  split at hv <;> (try (cases hv; done))
  rename_i el hd hni
  rw [hd] at ht
  obtain ⟨j, hj, hv⟩ := Option.bind_eq_some_iff.1 hv
  obtain ⟨z, hz, hv⟩ := Option.bind_eq_some_iff.1 hv
  obtain ⟨⟨n, news⟩, hsrc, hv⟩ := Option.bind_eq_some_iff.1 hv
  have hJ := hA.ty _ j hj
  obtain ⟨NEWS, hn, hf, hnews⟩ := src_ok (P := P) s hsrc hy
  have hnl := srcLen _ _ _ _ hsrc
  unfold aApp2 at hv
  split at hv <;> (try (cases hv; done))
  rename_i hzl hbm
  have hzl := Nat.eq_of_beq_eq_true hzl
  have hbm := Nat.le_of_ble_eq_true hbm
  split at hv
  · exact appNil_ok s h0 h1 ht ht1 hni hJ hz hn hf hnews hnl hzl hbm hv hx
  · exact appSl_ok s h0 h1 ht ht1 hni hJ hz hn hf hnews hnl hzl hbm hv hx
  · unfold appGr at hv
    split at hv <;> (try (cases hv; done))
    rename h.get _ = some _ => ho
    exact appGr1_ok s h0 h1 ht ht1 hni hJ hz hn hf hnews hnl hzl hbm hv hx ho
  · cases hv
end
end
end Go.Xe

namespace Go.Xe
noncomputable section
set_option linter.unusedSimpArgs false
section
variable {R : Nat} {B : Bs} {e : Env} {h : T AO} {nx : Nat} {w : World} {P : Program}

/-! ### Maps that are written -/
theorem findNow_at {d : TypeDesc} {K : Value} : ∀ {E : List MapEntry} {i k : Nat} {V : Value}, Instr.findNow d K E i = some (some (k, V)) → ∃ y, i ≤ k ∧ E[k - i]? = some y ∧ Instr.sameNow d K y.key = some true
  | [], _, _, _, h => by simp [Instr.findNow] at h
  | x :: E, i, k, V, h => by
    rw [Instr.findNow] at h
    cases hs : Instr.sameNow d K x.key with
    | none => simp [hs] at h
    | some b =>
      cases b with
      | true => simp [hs] at h; obtain ⟨rfl, _⟩ := h; exact ⟨x, Nat.le_refl _, by simp, hs⟩
      | false =>
        simp [hs] at h
        obtain ⟨y, hle, hy, hyk⟩ := findNow_at h
        exact ⟨y, by omega, by rw [show k - i = (k - (i + 1)) + 1 by omega]; simpa using hy, hyk⟩
theorem sameNow_bits {d : TypeDesc} {K Y : Value} (hs : Instr.sameNow d K Y = some true) (n : Nat) : Instr.sameBits n Y K = true := by
  unfold Instr.sameNow at hs
  split at hs <;> (try (cases hs; done))
  · split at hs
    · rename_i hk
      subst hk
      simp only [Option.some.injEq, beq_iff_eq] at hs
      subst hs
      cases n <;> simp [Instr.sameBits]
    · cases hs
  · rename_i a b
    simp only [Option.some.injEq] at hs
    have hsb : Instr.sameBits n (.string b) (.string a) = (b == a) := by cases n <;> rfl
    rw [hsb]
    have hbe : ∀ x y : ByteArray, (x == y) = (x.data == y.data) := fun _ _ => rfl
    have hs' : a.data = b.data := by rw [hbe] at hs; exact eq_of_beq hs
    rw [hbe, hs']
    exact beq_self_eq_true _
  · simp only [Option.some.injEq, beq_iff_eq] at hs
    subst hs
    cases n <;> simp [Instr.sameBits]
def aMapSet (es : List (AV × AV × Nat)) (clk : Nat) (k v : AV) (r : Option (Nat × AV)) : AO :=
  match r with
  | some (i, _) => .map (es.modify i fun x => (k, v, x.2.2)) clk
  | none => .map (es ++ [(k, v, clk)]) (clk + 1)
mutual
def sameBA : AV → AV → Bool
  | .bool a, .bool b => a == b
  | .int j a, .int k b => j == k && a == b
  | .str a, .str b => a == b
  | .agg a, .agg b => sameBAs a b
  | _, _ => false
termination_by structural a => a
def sameBAs : List AV → List AV → Bool
  | [], [] => true
  | a :: l, b :: m => sameBA a b && sameBAs l m
  | _, _ => false
termination_by structural l => l
end
def flatC : AV → Bool
  | .agg _ => false
  | _ => true
def sameB2 : AV → AV → Bool
  | .agg a, .agg b => a.all flatC && sameBAs a b
  | a, b => flatC a && sameBA a b
theorem sameBA_flat {x y : AV} {X Y : Value} (h : sameBA x y = true) (hf : flatC x = true) (hx : VR e x X) (hy : VR e y Y) (n : Nat) : Instr.sameBits n X Y = true := by
  cases x <;> cases y <;> simp only [sameBA] at h <;> (try (cases h; done)) <;> (try (cases hf; done)) <;> cases hx <;> cases hy
  · cases n <;> simpa [Instr.sameBits] using h
  · cases n <;> simpa [Instr.sameBits] using h
  · have h' := eq_of_beq h
    subst h'
    have hbe : ∀ x : ByteArray, (x == x) = true := fun x => by show (x.data == x.data) = true; exact beq_self_eq_true _
    cases n <;> exact hbe _
theorem sameBAs_flat (n : Nat) : ∀ {xs ys : List AV} {XS YS : List Value}, sameBAs xs ys = true → xs.all flatC = true → VRs e xs XS → VRs e ys YS → XS.length = YS.length ∧ ((XS.zip YS).all fun (x, y) => Instr.sameBits n x y) = true
  | [], [], _, _, _, _, .nil, .nil => ⟨rfl, rfl⟩
  | a :: l, b :: m, _, _, h, hf, .cons _ A _ L ha hl, .cons _ B _ M hb hm => by
    simp only [sameBAs, Bool.and_eq_true] at h
    simp only [List.all_cons, Bool.and_eq_true] at hf
    obtain ⟨h1, h2⟩ := sameBAs_flat n h.2 hf.2 hl hm
    exact ⟨by simp [h1], by simp only [List.zip_cons_cons, List.all_cons, Bool.and_eq_true]; exact ⟨sameBA_flat h.1 hf.1 ha hb n, h2⟩⟩
  | [], _ :: _, _, _, h, _, _, _ => by cases h
  | _ :: _, [], _, _, h, _, _, _ => by cases h
theorem sameB2_ok {x y : AV} {X Y : Value} (h : sameB2 x y = true) (hx : VR e x X) (hy : VR e y Y) (n : Nat) : Instr.sameBits (n + 1) X Y = true := by
  unfold sameB2 at h
  split at h
  · simp only [Bool.and_eq_true] at h
    cases hx with
    | agg _ XS hxs => cases hy with
      | agg _ YS hys =>
        obtain ⟨h1, h2⟩ := sameBAs_flat n h.2 h.1 hxs hys
        simp only [Instr.sameBits, Bool.and_eq_true]
        exact ⟨by simpa using h1, h2⟩
  · simp only [Bool.and_eq_true] at h
    exact sameBA_flat h.2 h.1 hx hy _
/-- Does a key that is found stay as it is? -/
def staysK (d : TypeDesc) (es : List (AV × AV × Nat)) (k : AV) (r : Option (Nat × AV)) : Bool := match isStruct d with
  | false => true
  | true => match r with
    | none => true
    | some q => match nth es q.1 with
      | some x => sameB2 x.1 k
      | none => false
def aMapPut (A : Tab) (h : T AO) (t : TypeId) (m k v : AV) : Option (T AO) :=
  (A.ty.get t).bind fun i =>
  match i.desc, m with
  | .map kt _, .map id => (A.ty.get kt).bind fun j => match keyOk A j.desc kt k, Nat.ble A.R id with
    | true, true => match h.get id with
      | some (.map es clk) => (aFindK A kt j.desc k es).bind fun r => match staysK j.desc es k r with
        | true => h.put 60 id (some (aMapSet es clk k v r))
        | false => none
      | _ => none
    | _, _ => none
  | _, _ => none
theorem map_modify {α β : Type} (n : Nat) (f : α → α) (g : α → β) (c : β) (hc : ∀ x, g (f x) = c) (l : List α) : (l.modify n f).map g = (l.map g).modify n fun _ => c := by
  apply List.ext_getElem?
  intro j
  simp only [List.getElem?_map, List.getElem?_modify]
  cases l[j]? with
  | none => simp
  | some x => by_cases hnj : n = j <;> simp [hnj, hc]
theorem map_modify_same {α β : Type} (n : Nat) (f : α → α) (g : α → β) (hc : ∀ x, g (f x) = g x) (l : List α) : (l.modify n f).map g = l.map g := by
  apply List.ext_getElem?
  intro j
  simp only [List.getElem?_map, List.getElem?_modify]
  cases l[j]? with
  | none => simp
  | some x => by_cases hnj : n = j <;> simp [hnj, hc]
theorem VRs.modify {l : List AV} {L : List Value} (hl : VRs e l L) (i : Nat) {v : AV} {V : Value} (hv : VR e v V) : VRs e (l.modify i fun _ => v) (L.modify i fun _ => V) := by
  have h1 : ∀ {α : Type} (l : List α) (x : α), l.modify i (fun _ => x) = l.set i x := fun l x => by
    apply List.ext_getElem?
    intro j
    rw [List.getElem?_modify, List.getElem?_set]
    by_cases hij : i = j
    · subst hij
      by_cases hlt : i < l.length
      · simp [hlt]
      · simp [hlt]
    · simp [hij]
  rw [h1, h1]
  exact hl.set i hv
theorem putObj_ok (s : Sim R B e h nx w) {id b : Nat} {o o' : AO} {O' : Obj} {h' : T AO} (ho : h.get id = some o) (hid : R ≤ id) (hb : e.blk id = some b) (hp : h.put 60 id (some o') = some h') (hO : OR e id o' O')
    (hnc : ∀ O, w.heap[b]? = some O → OR e id o O → ∀ c t f, O ≠ .cells c t f) :
    ∃ w', (setObj b O').run P w = .ok () w' ∧ Sim R B e h' nx w' ∧ Ste R e h nx w e h' nx w' := by
  obtain ⟨b', O, hb', hOb, hor⟩ := s.obj id o ho
  obtain rfl : b' = b := by rw [hb] at hb'; exact (Option.some.inj hb').symm
  have hlt := s.lt ho hb
  have hnc' := hnc O hOb hor
  refine ⟨{ w with heap := w.heap.setIfInBounds b' O' }, ?_, s.swap (O' := O') ho hid hb hp ?_ ?_ (by simp) rfl rfl rfl hO⟩
  · cases O <;> first
      | exact (hnc' _ _ _ rfl).elim
      | simp only [setObj, Sem.run, hOb]
  · simp [hlt]
  · intro k hk
    simp [Array.getElem?_setIfInBounds, Ne.symm hk]
theorem aMapPut_ok {A : Tab} (hA : A.Ok P) (s : Sim A.R B e h nx w) {t : TypeId} {m k v : AV} {M K V : Value} {h' : T AO} (hv : aMapPut A h t m k v = some h') (hm : VR e m M) (hk : VR e k K) (hvv : VR e v V) :
    ∃ w', (Instr.mapUpdate t M K V).run P w = .ok () w' ∧ Sim A.R B e h' nx w' ∧ Ste A.R e h nx w e h' nx w' := by
  have hv0 := hv
  clear hv
  obtain ⟨i, hi, hv⟩ := Option.bind_eq_some_iff.1 hv0
  clear hv0
  have hU : (underlying t).run P w = .ok i.desc w := run_und (hA.ty _ i hi)
  split at hv <;> (try (cases hv; done))
  rename_i kt et id hd
  rw [hd] at hU
  obtain ⟨j, hj, hv⟩ := Option.bind_eq_some_iff.1 hv
  have hK : (underlying kt).run P w = .ok j.desc w := run_und (hA.ty _ j hj)
  split at hv <;> (try (cases hv; done))
  rename_i hkt hR
  have hR := Nat.le_of_ble_eq_true hR
  have hck : ∀ b, (Instr.checkKey b 10000 kt K).run P w = .ok () w := fun b => keyOk_ok hA hj hkt hk b
  split at hv <;> (try (cases hv; done))
  rename_i es clk ho
  obtain ⟨r, hr, hp⟩ := Option.bind_eq_some_iff.1 hv
  split at hp <;> (try (cases hp; done))
  rename_i hstay
  cases hm with
  | map _ b hb =>
    obtain ⟨b', O, hb', hO, hor⟩ := s.obj id _ ho
    obtain rfl : b' = b := by rw [hb] at hb'; exact (Option.some.inj hb').symm
    obtain ⟨E, rfl, hE1, hE2, hE3⟩ := hor
    obtain ⟨r', hr', hrel, hnow⟩ := aFindK_ok (P := P) (w := w) hA hj hk hr hE1 hE2
    have hg : (getObj b').run P w = .ok (.map ⟨E⟩ clk) w := by simp [getObj, Sem.run, hO]
    have hnc : ∀ O, w.heap[b']? = some O → OR e id (.map es clk) O → ∀ c t f, O ≠ .cells c t f := by
      intro O _ hor c t f hh
      obtain ⟨E, rfl, _⟩ := hor
      cases hh
    cases r with
    | none =>
      cases r' with
      | some q => exact hrel.elim
      | none =>
        obtain ⟨w', hrun, hs, hst⟩ := putObj_ok (P := P) (O' := .map ((⟨E⟩ : Array MapEntry).push ⟨K, V, clk⟩) (clk + 1)) s ho hR hb hp
          ⟨E ++ [⟨K, V, clk⟩], by simp, by simpa using hE1.append (VRs.one hk), by simpa using hE2.append (VRs.one hvv), by simpa using hE3⟩ hnc
        refine ⟨w', ?_, hs, hst⟩
        simp only [Instr.mapUpdate, Sem.run_bind, hU, Result.andThen, hg, hck, hr', Sem.run_pure]
        exact hrun
    | some q =>
      obtain ⟨n, v0⟩ := q
      cases r' with
      | none => exact hrel.elim
      | some q' =>
        obtain ⟨n', V0⟩ := q'
        obtain ⟨rfl, _⟩ := hrel
        obtain ⟨y, hy, hbits⟩ : ∃ y, E[n]? = some y ∧ Instr.sameBits 10000 y.key K = true := by
          unfold staysK at hstay
          split at hstay
          · rename_i hns
            obtain ⟨y, _, hy, hyk⟩ := findNow_at (hnow hns)
            simp only [Nat.sub_zero] at hy
            exact ⟨y, hy, sameNow_bits hyk 10000⟩
          · split at hstay <;> (try (cases hstay; done))
            · rename_i hh; cases hh
            · rename_i q' hq
              cases hq
              split at hstay <;> (try (cases hstay; done))
              rename_i x hx
              rw [nth_eq] at hx
              have hx1 : (es.map (·.1))[n]? = some x.1 := by simp only [List.getElem?_map, hx, Option.map_some]
              obtain ⟨V, hV1, hV2⟩ := hE1.get n x.1 hx1
              simp only [List.getElem?_map] at hV1
              obtain ⟨y, hy, rfl⟩ := Option.map_eq_some_iff.1 hV1
              exact ⟨y, hy, sameB2_ok hstay hV2 hk 9999⟩
        have hkey : (Instr.keyThatStays y.key K).run P w = .ok K w := by unfold Instr.keyThatStays; rw [if_pos hbits]; rfl
        have hmod1 : ∀ l : List (AV × AV × Nat), (l.modify n fun x => (k, v, x.2.2)).map (·.1) = (l.map (·.1)).modify n fun _ => k := map_modify n _ _ k (fun _ => rfl)
        have hmod2 : ∀ l : List (AV × AV × Nat), (l.modify n fun x => (k, v, x.2.2)).map (·.2.1) = (l.map (·.2.1)).modify n fun _ => v := map_modify n _ _ v (fun _ => rfl)
        have hmod3 : ∀ l : List (AV × AV × Nat), (l.modify n fun x => (k, v, x.2.2)).map (·.2.2) = l.map (·.2.2) := map_modify_same n _ _ (fun _ => rfl)
        have rmod1 : ∀ l : List MapEntry, (l.modify n fun x => { x with key := K, val := V }).map (·.key) = (l.map (·.key)).modify n fun _ => K := map_modify n _ _ K (fun _ => rfl)
        have rmod2 : ∀ l : List MapEntry, (l.modify n fun x => { x with key := K, val := V }).map (·.val) = (l.map (·.val)).modify n fun _ => V := map_modify n _ _ V (fun _ => rfl)
        have rmod3 : ∀ l : List MapEntry, (l.modify n fun x => { x with key := K, val := V }).map (·.born) = l.map (·.born) := map_modify_same n _ _ (fun _ => rfl)
        obtain ⟨w', hrun, hs, hst⟩ := putObj_ok (P := P) (O' := .map ((⟨E⟩ : Array MapEntry).modify n fun x => { x with key := K, val := V }) clk) s ho hR hb hp
          ⟨E.modify n fun x => { x with key := K, val := V }, by congr 1; apply Array.ext'; simp, by rw [hmod1, rmod1]; exact hE1.modify n hk, by rw [hmod2, rmod2]; exact hE2.modify n hvv, by rw [hmod3, rmod3]; exact hE3⟩ hnc
        refine ⟨w', ?_, hs, hst⟩
        simp only [Instr.mapUpdate, Sem.run_bind, hU, Result.andThen, hg, hck, hr', Sem.run_pure]
        have hyy : (((⟨E⟩ : Array MapEntry)[n]?).map (·.key)).getD K = y.key := by simp [hy]
        rw [hyy, hkey]
        exact hrun

/-- delete of a key. -/
def aDel (A : Tab) (h : T AO) (ts : Array TypeId) (m k : AV) : Option (T AO) :=
  (ts[0]?).bind fun t => (A.ty.get t).bind fun i =>
  match i.desc with
  | .map kt _ => (A.ty.get kt).bind fun j => match keyOk A j.desc kt k with
    | true => match m with
      | .nilm => some h
      | .map id => match Nat.ble A.R id with
        | true => match h.get id with
          | some (.map es clk) => (aFindK A kt j.desc k es).bind fun r => h.put 60 id (some (.map (match r with | some q => es.eraseIdx q.1 | none => es) clk))
          | _ => none
        | false => none
      | _ => none
    | false => none
  | _ => none
theorem VRs.erase : ∀ {l : List AV} {L : List Value}, VRs e l L → ∀ i : Nat, VRs e (l.eraseIdx i) (L.eraseIdx i)
  | _, _, .nil, i => by simpa using .nil
  | _, _, .cons v V l L hv hs, 0 => by simpa using hs
  | _, _, .cons v V l L hv hs, i + 1 => by simpa using .cons _ _ _ _ hv (hs.erase i)
theorem map_erase {α β : Type} (g : α → β) : ∀ (l : List α) (i : Nat), (l.eraseIdx i).map g = (l.map g).eraseIdx i
  | [], _ => by simp
  | _ :: l, 0 => by simp
  | _ :: l, i + 1 => by simp [map_erase g l i]
theorem aDel_ok {A : Tab} (hA : A.Ok P) (s : Sim A.R B e h nx w) {ts : Array TypeId} {ty : TypeId} {m k : AV} {M K : Value} {h' : T AO} (hv : aDel A h ts m k = some h') (hm : VR e m M) (hk : VR e k K) :
    ∃ w', (Builtin.delete_ ts ty #[M, K]).run P w = .ok (.tuple #[]) w' ∧ Sim A.R B e h' nx w' ∧ Ste A.R e h nx w e h' nx w' := by
  obtain ⟨t, ht, hv1⟩ := Option.bind_eq_some_iff.1 hv
  clear hv
  obtain ⟨i, hi, hv⟩ := Option.bind_eq_some_iff.1 hv1
  clear hv1
  have hU : (underlying t).run P w = .ok i.desc w := run_und (hA.ty _ i hi)
  split at hv <;> (try (cases hv; done))
  rename_i kt et hd
  rw [hd] at hU
  obtain ⟨j, hj, hv1⟩ := Option.bind_eq_some_iff.1 hv
  clear hv
  split at hv1 <;> (try (cases hv1; done))
  rename_i hkt
  have hck : ∀ b, (Instr.checkKey b 10000 kt K).run P w = .ok () w := fun b => keyOk_ok hA hj hkt hk b
  split at hv1 <;> (try (cases hv1; done))
  · cases hv1
    cases hm
    exact ⟨w, by simp [Builtin.delete_, ht, hU, hck, Result.andThen], s, Ste.refl⟩
  · rename_i id
    split at hv1 <;> (try (cases hv1; done))
    rename_i hR
    have hR := Nat.le_of_ble_eq_true hR
    split at hv1 <;> (try (cases hv1; done))
    rename_i es clk ho
    obtain ⟨r, hr, hp⟩ := Option.bind_eq_some_iff.1 hv1
    cases hm with
    | map _ b hb =>
      obtain ⟨b', O, hb', hO, hor⟩ := s.obj id _ ho
      obtain rfl : b' = b := by rw [hb] at hb'; exact (Option.some.inj hb').symm
      obtain ⟨E, rfl, hE1, hE2, hE3⟩ := hor
      obtain ⟨r', hr', hrel, _⟩ := aFindK_ok (P := P) (w := w) hA hj hk hr hE1 hE2
      have hg : (getObj b').run P w = .ok (.map ⟨E⟩ clk) w := by simp [getObj, Sem.run, hO]
      have hnc : ∀ O, w.heap[b']? = some O → OR e id (.map es clk) O → ∀ c t f, O ≠ .cells c t f := by
        intro O _ hor c t f hh
        obtain ⟨E, rfl, _⟩ := hor
        cases hh
      cases r with
      | none =>
        cases r' with
        | some q => exact hrel.elim
        | none =>
          obtain ⟨w', hrun, hs, hst⟩ := putObj_ok (P := P) (O' := .map ⟨E⟩ clk) s ho hR hb hp ⟨E, rfl, hE1, hE2, hE3⟩ hnc
          refine ⟨w', ?_, hs, hst⟩
          simp [Builtin.delete_, ht, hU, hg, hck, hr', hrun, Result.andThen]
      | some q =>
        obtain ⟨n, v0⟩ := q
        cases r' with
        | none => exact hrel.elim
        | some q' =>
          obtain ⟨n', V0⟩ := q'
          obtain ⟨rfl, _⟩ := hrel
          obtain ⟨w', hrun, hs, hst⟩ := putObj_ok (P := P) (O' := .map ((⟨E⟩ : Array MapEntry).eraseIdxIfInBounds n) clk) s ho hR hb hp
            ⟨E.eraseIdx n, by congr 1; apply Array.ext'; simp, by rw [map_erase, map_erase]; exact hE1.erase n, by rw [map_erase, map_erase]; exact hE2.erase n, by rw [map_erase, map_erase, hE3]⟩ hnc
          refine ⟨w', ?_, hs, hst⟩
          simp only [Builtin.delete_, ht]
          simp only [List.getElem?_toArray, List.getElem?_cons_zero, List.getElem?_cons_succ, Sem.run_bind, hU, Result.andThen, hg, hck, hr', hrun, Sem.run_pure]

/-- clear of a slice, or of a map. -/
def aClear (A : Tab) (h : T AO) (ts : Array TypeId) (x : AV) : Option (T AO) :=
  (ts[0]?).bind fun t => (A.ty.get t).bind fun i =>
  match x with
  | .nilm => some h
  | .nils => some h
  | .slice id off n _ => match n with
    | 0 => some h
    | n + 1 => match i.desc with
      | .slice el => (A.ty.get el).bind fun j => j.zero.bind fun z => match Nat.blt 0 z.cells.length with
        | true => aStore A.R h id off (aTile z.cells ((n + 1) * z.cells.length))
        | false => none
      | _ => none
  | .grow id off n _ => match n with
    | 0 => some h
    | n + 1 => match i.desc with
      | .slice el => (A.ty.get el).bind fun j => j.zero.bind fun z => match Nat.blt 0 z.cells.length with
        | true => aStore A.R h id off (aTile z.cells ((n + 1) * z.cells.length))
        | false => none
      | _ => none
  | .map id => match Nat.ble A.R id with
    | true => match h.get id with
      | some (.map _ clk) => h.put 60 id (some (.map [] clk))
      | _ => none
    | false => none
  | _ => none
theorem run_clear_row {ts : Array TypeId} {ty t el : TypeId} (ht : ts[0]? = some t) (hU : (underlying t).run P w = .ok (.slice el) w) {Z : Value} (hz : (zeroValue el).run P w = .ok Z w) {b off n cap : Nat} {w' : World}
    (hr : (storeCells ⟨b, off, none⟩ (Builtin.zeroCells Z.cells (n + 1)).toList).run P w = .ok () w') : (Builtin.clear_ ts ty #[.slice (some ⟨b, off, none⟩) (n + 1) cap]).run P w = .ok (.tuple #[]) w' := by
  unfold Builtin.clear_
  simp only [ht]
  simp only [List.getElem?_toArray, List.getElem?_cons_zero, Sem.run_bind, hU, Result.andThen, hz, hr, Sem.run_pure]
theorem aClear_ok {A : Tab} (hA : A.Ok P) (s : Sim A.R B e h nx w) {ts : Array TypeId} {ty : TypeId} {x : AV} {X : Value} {h' : T AO} (hv : aClear A h ts x = some h') (hx : VR e x X) :
    ∃ w', (Builtin.clear_ ts ty #[X]).run P w = .ok (.tuple #[]) w' ∧ Sim A.R B e h' nx w' ∧ Ste A.R e h nx w e h' nx w' := by
  obtain ⟨t, ht, hv1⟩ := Option.bind_eq_some_iff.1 hv
  clear hv
  obtain ⟨i, hi, hv⟩ := Option.bind_eq_some_iff.1 hv1
  clear hv1
  have hU : (underlying t).run P w = .ok i.desc w := run_und (hA.ty _ i hi)
  have tile : ∀ {el n : Nat} {j : TI} {z : AV}, A.ty.get el = some j → j.zero = some z → 0 < z.cells.length → ∃ Z, (zeroValue el).run P w = .ok Z w ∧ VRs e (aTile z.cells (n * z.cells.length)) (Builtin.zeroCells Z.cells n).toList := by
    intro el n j z hj hz hpos
    obtain ⟨Z, hZ, hzr⟩ := run_zero (P := P) (w := w) (hA.ty _ j hj) hz
    have hlen : Z.cells.size = z.cells.length := by have := ((hzr e).cells).length; simpa using this
    refine ⟨Z, hZ, ?_⟩
    have := aTile_ok (hzr e).cells hpos (n * z.cells.length)
    unfold Builtin.zeroCells
    rw [← hlen] at this ⊢
    exact this
  split at hv <;> (try (cases hv; done))
  · cases hv; cases hx
    exact ⟨w, by simp [Builtin.clear_, ht, hU, Result.andThen], s, Ste.refl⟩
  · cases hv; cases hx
    exact ⟨w, by cases i.desc <;> simp [Builtin.clear_, ht, hU, Result.andThen], s, Ste.refl⟩
  · rename_i id off n cap
    cases hx with
    | slice _ _ _ _ b hb =>
      split at hv
      · cases hv
        exact ⟨w, by cases i.desc <;> simp [Builtin.clear_, ht, hU, Result.andThen], s, Ste.refl⟩
      · rename_i n
        split at hv <;> (try (cases hv; done))
        rename_i el hd
        rw [hd] at hU
        obtain ⟨j, hj, hv1⟩ := Option.bind_eq_some_iff.1 hv
        obtain ⟨z, hz, hv2⟩ := Option.bind_eq_some_iff.1 hv1
        split at hv2 <;> (try (cases hv2; done))
        rename_i hpos
        obtain ⟨Z, hZ, hc⟩ := tile (n := n + 1) hj hz (blt_iff.1 hpos)
        obtain ⟨w', hr, hs, hst⟩ := aStore_ok (P := P) s hv2 hb hc
        exact ⟨w', run_clear_row ht hU hZ hr, hs, hst⟩
  · rename_i id off n skip
    cases hx with
    | grow _ _ _ _ b o hb hl ho =>
      split at hv
      · cases hv
        exact ⟨w, by cases i.desc <;> simp [Builtin.clear_, ht, hU, Result.andThen], s, Ste.refl⟩
      · rename_i n
        obtain rfl : o = off := by omega
        split at hv <;> (try (cases hv; done))
        rename_i el hd
        rw [hd] at hU
        obtain ⟨j, hj, hv1⟩ := Option.bind_eq_some_iff.1 hv
        obtain ⟨z, hz, hv2⟩ := Option.bind_eq_some_iff.1 hv1
        split at hv2 <;> (try (cases hv2; done))
        rename_i hpos
        obtain ⟨Z, hZ, hc⟩ := tile (n := n + 1) hj hz (blt_iff.1 hpos)
        obtain ⟨w', hr, hs, hst⟩ := aStore_ok (P := P) s hv2 hb hc
        exact ⟨w', run_clear_row ht hU hZ hr, hs, hst⟩
  · rename_i id
    split at hv <;> (try (cases hv; done))
    rename_i hR
    split at hv <;> (try (cases hv; done))
    rename_i es clk ho
    cases hx with
    | map _ b hb =>
      obtain ⟨b', O, hb', hO, hor⟩ := s.obj id _ ho
      obtain rfl : b' = b := by rw [hb] at hb'; exact (Option.some.inj hb').symm
      obtain ⟨E, rfl, hE1, hE2, hE3⟩ := hor
      have hg : (getObj b').run P w = .ok (.map ⟨E⟩ clk) w := by simp [getObj, Sem.run, hO]
      obtain ⟨w', hrun, hs, hst⟩ := putObj_ok (P := P) (O' := .map #[] clk) s ho (Nat.le_of_ble_eq_true hR) hb hv ⟨[], rfl, .nil, .nil, rfl⟩ (fun O hO2 _ c t f hh => by rw [hO] at hO2; cases hO2; cases hh)
      refine ⟨w', ?_, hs, hst⟩
      cases i.desc <;> simp [Builtin.clear_, ht, hU, hg, hrun, Result.andThen]
end
end
end Go.Xe

namespace Go.Xe
noncomputable section
set_option linter.unusedSimpArgs false
section
variable {R : Nat} {B : Bs} {e : Env} {h : T AO} {nx : Nat} {w : World} {P : Program}

/-! ### Operations that write -/
theorem freeze_size' (w : World) (a : Addr) (n : Nat) : (w.freeze a n).heap.size = w.heap.size := by
  unfold World.freeze; split <;> simp
theorem freeze_other' (w : World) (a : Addr) (n k : Nat) (hk : k ≠ a.block) : (w.freeze a n).heap[k]? = w.heap[k]? := by
  unfold World.freeze
  split
  · rfl
  · simp only [Array.getElem?_modify, if_neg (Ne.symm hk)]
theorem freeze_same' (w : World) (a : Addr) (n : Nat) : (w.freeze a n).os = w.os ∧ (w.freeze a n).tape = w.tape ∧ (w.freeze a n).output = w.output := by
  unfold World.freeze; split <;> exact ⟨rfl, rfl, rfl⟩
def evEf0 (A : Tab) (h : T AO) (nx : Nat) (tm : T AV) (op : Op) : Option (AV × T AO × Nat) :=
  match op with
  | .store t a x => (A.ty.get t).bind fun i => (opd A.R tm a).bind fun p => (opd A.R tm x).bind fun v =>
    match p, Nat.beq v.cells.length i.size with
    | .ptr id off, true => (aStore A.R h id off v.cells).bind fun h' => some (.tup [], h', nx)
    | _, _ => none
  | .mapUpdate t m k v => (opd A.R tm m).bind fun m' => (opd A.R tm k).bind fun k' => (opd A.R tm v).bind fun v' => (aMapPut A h t m' k' v').bind fun h' => some (.tup [], h', nx)
  | .insert t m k v => (opd A.R tm m).bind fun m' => (opd A.R tm k).bind fun k' => (opd A.R tm v).bind fun v' => (aMapPut A h t m' k' v').bind fun h' => some (.tup [], h', nx)
  | .call { callee := .builtin .append, args := ⟨[x, y]⟩, argTypes := ts } => (opd A.R tm x).bind fun u => (opd A.R tm y).bind fun v => aApp A h nx ts.toList u v
  | _ => none
def aNext (R : Nat) (h : T AO) (id : Nat) : Option (AV × T AO) :=
  match Nat.ble R id, h.get id with
  | true, some (.iter s pos) => match nth s pos with
    | none => some (.tup [.bool false], h)
    | some b => match Nat.blt b.toNat 128 with
      | true => (h.put 60 id (some (.iter s (pos + 1)))).bind fun h' => some (.tup [.bool true, .int .i64 pos, .int .i32 b.toNat], h')
      | false => none
  | _, _ => none
/-- unsafe.String: of the bytes' row nothing is known then (they are frozen). -/
def strOf : List AV → Nat → Option (List UInt8)
  | _, 0 => some []
  | .int .u8 (.ofNat b) :: l, n + 1 => match Nat.blt b 256 with
    | true => (strOf l n).bind fun r => some (b.toUInt8 :: r)
    | false => none
  | _, _ => none
theorem strOf_ok : ∀ {c : List AV} {C : List Value} {n : Nat} {l : List UInt8}, strOf c n = some l → VRs e c C → l.length = n ∧ n ≤ C.length ∧ ∀ (j : Nat) (x : UInt8), l[j]? = some x → C[j]? = some (Value.int .u8 (x.toNat : Int))
  | c, C, 0, l, hs, _ => by
    have : l = [] := by cases c with
      | nil => cases hs; rfl
      | cons x c => simp [strOf] at hs; exact hs
    subst this
    exact ⟨rfl, Nat.zero_le _, fun j x hj => by cases hj⟩
  | [], C, n + 1, l, hs, _ => by cases hs
  | x :: c, C, n + 1, l, hs, hc => by
    unfold strOf at hs
    split at hs <;> (try (cases hs; done))
    · rename_i heq; cases heq
    · rename_i b l' n' heq heq2
      cases heq
      cases heq2
      split at hs <;> (try (cases hs; done))
      rename_i hb
      have hb := blt_iff.1 hb
      obtain ⟨r, hr, hs⟩ := Option.bind_eq_some_iff.1 hs
      cases hs
      cases hc with
      | cons _ X _ C' hX hC =>
        obtain ⟨h1, h2, h3⟩ := strOf_ok hr hC
        cases hX
        refine ⟨by simp [h1], by simp; omega, fun j x hj => ?_⟩
        cases j with
        | zero =>
          simp only [List.getElem?_cons_zero, Option.some.injEq] at hj
          subst hj
          simp [Nat.mod_eq_of_lt hb]
        | succ j => exact h3 j x hj
def aStr (A : Tab) (h : T AO) (pt : TypeId) (p n : AV) : Option (AV × T AO) :=
  match p, n with
  | .ptr id 0, .int .i64 (.ofNat m) => (A.ty.get pt).bind fun i => match i.desc with
    | .pointer el => (A.ty.get el).bind fun k => match Nat.beq k.size 1, Nat.blt 0 m, Nat.ble m 1048576, Nat.ble A.R id with
      | true, true, true, true => match h.get id with
        | some (.row c t) => match Nat.beq t el with
          | true => (strOf c m).bind fun l => (h.put 60 id none).bind fun h' => some (.str l, h')
          | false => none
        | some (.opn c t _) => match Nat.beq t el with
          | true => (strOf c m).bind fun l => (h.put 60 id none).bind fun h' => some (.str l, h')
          | false => none
        | _ => none
      | _, _, _, _ => none
    | _ => none
  | .nilp, .int .i64 (.ofNat 0) => some (.str [], h)
  | _, _ => none
/-- copy, of a source that fits. -/
def aCopy (A : Tab) (h : T AO) (ts : Array TypeId) (d x : AV) : Option (AV × T AO) :=
  (ts[0]?).bind fun t => (A.ty.get t).bind fun i => match i.desc, d with
  | .slice el, .slice id off len _ => (A.ty.get el).bind fun k => (srcCells h x k.size).bind fun q => match Nat.ble q.1 len with
    | true => (aStore A.R h id off q.2).bind fun h' => some (.int .i64 q.1, h')
    | false => none
  | .slice el, .grow id off len _ => (A.ty.get el).bind fun k => (srcCells h x k.size).bind fun q => match q.1, q.2, Nat.ble q.1 len with
    | 0, [], _ => some (.int .i64 0, h)
    | n + 1, _, true => (aStore A.R h id off q.2).bind fun h' => some (.int .i64 (n + 1 : Nat), h')
    | _, _, _ => none
  | _, _ => none
theorem aCopy_ok {A : Tab} (hA : A.Ok P) (s : Sim A.R B e h nx w) {ts : Array TypeId} {ty : TypeId} {d x v : AV} {X Y : Value} {h' : T AO} (hv : aCopy A h ts d x = some (v, h')) (hx : VR e d X) (hy : VR e x Y) :
    ∃ V w', (Builtin.copy_ ts ty #[X, Y]).run P w = .ok V w' ∧ VR e v V ∧ Sim A.R B e h' nx w' ∧ Ste A.R e h nx w e h' nx w' := by
  obtain ⟨t, ht, hv1⟩ := Option.bind_eq_some_iff.1 hv
  clear hv
  obtain ⟨i, hi, hv⟩ := Option.bind_eq_some_iff.1 hv1
  clear hv1
  split at hv <;> (try (cases hv; done))
  · rename_i el id off len cap hd
    obtain ⟨k, hk, hv1⟩ := Option.bind_eq_some_iff.1 hv
    clear hv
    obtain ⟨⟨n, news⟩, hq, hv⟩ := Option.bind_eq_some_iff.1 hv1
    clear hv1
    split at hv <;> (try (cases hv; done))
    rename_i hle
    have hle : n ≤ len := Nat.le_of_ble_eq_true hle
    obtain ⟨h2, hs, hv1⟩ := Option.bind_eq_some_iff.1 hv
    clear hv
    cases hv1
    have hU : (underlying t).run P w = .ok i.desc w := run_und (hA.ty _ i hi)
    rw [hd] at hU
    have hS := run_sizeOf (P := P) (w := w) (hA.ty _ k hk)
    obtain ⟨NEWS, l1, l2, l3⟩ := src_ok (P := P) s hq hy
    cases hx with
    | slice _ _ _ _ b hb =>
      obtain ⟨w', hr, hsim, hste⟩ := aStore_ok (P := P) s hs hb l3
      refine ⟨.int .i64 n, w', ?_, .int _ _, hsim, hste⟩
      have hmin : Nat.min n len = n := Nat.min_eq_left hle
      have l2' := l2 w rfl
      simp [Builtin.copy_, ht, hU, l1, hS, hmin, l2', hr, Result.andThen, goInt]
  · rename_i el id off len skip hd
    obtain ⟨k, hk, hv1⟩ := Option.bind_eq_some_iff.1 hv
    clear hv
    obtain ⟨⟨n, news⟩, hq, hv⟩ := Option.bind_eq_some_iff.1 hv1
    clear hv1
    have hU : (underlying t).run P w = .ok i.desc w := run_und (hA.ty _ i hi)
    rw [hd] at hU
    have hS := run_sizeOf (P := P) (w := w) (hA.ty _ k hk)
    obtain ⟨NEWS, l1, l2, l3⟩ := src_ok (P := P) s hq hy
    have l2' := l2 w rfl
    cases hx with
    | grow _ _ _ _ b o hb hl ho =>
      split at hv <;> (try (cases hv; done))
      · rename_i _ h0 h1
        cases hv
        have h0 : n = 0 := h0
        have h1 : news = [] := h1
        subst h0
        subst h1
        cases l3
        refine ⟨.int .i64 0, w, ?_, .int _ _, s, Ste.refl⟩
        simp [Builtin.copy_, ht, hU, l1, hS, l2', Result.andThen, goInt, storeCells]
      · rename_i n' h0 hle
        have h0 : n = n' + 1 := h0
        subst h0
        have hle : n' + 1 ≤ len := Nat.le_of_ble_eq_true hle
        obtain ⟨h2, hs, hv1⟩ := Option.bind_eq_some_iff.1 hv
        clear hv
        cases hv1
        have hoo : o = off := by rcases ho with h | h; exact h; omega
        subst hoo
        obtain ⟨w', hr, hsim, hste⟩ := aStore_ok (P := P) s hs hb l3
        refine ⟨.int .i64 (n' + 1 : Nat), w', ?_, .int _ _, hsim, hste⟩
        have hmin : Nat.min (n' + 1) len = n' + 1 := Nat.min_eq_left hle
        simp [Builtin.copy_, ht, hU, l1, hS, hmin, l2', hr, Result.andThen, goInt]
/-- A string's bytes, or bytes again (the row is marked then). -/
def aBytes (A : Tab) (h : T AO) (nx : Nat) (src dst : TypeId) (x : AV) : Option (AV × T AO × Nat) :=
  (A.ty.get src).bind fun _ => (A.ty.get dst).bind fun j => match j.desc with
  | .slice el => (A.ty.get el).bind fun k => match k.desc, x with
    | .int .u8, .str l => (h.put 60 nx (some (.opn (l.map fun b => .int .u8 b.toNat) el 1))).bind fun h' => some (.grow nx 0 l.length 0, h', nx + 1)
    | .int .u8, .slice id off len cap => match Nat.beq src dst, Nat.ble A.R id with
      | true, true => (aMark h id).bind fun h' => some (.slice id off len cap, h', nx)
      | _, _ => none
    | .int .u8, .grow id off len skip => match Nat.beq src dst, Nat.ble A.R id with
      | true, true => (aMark h id).bind fun h' => some (.grow id off len skip, h', nx)
      | _, _ => none
    | _, _ => none
  | _ => none
where aMark (h : T AO) (id : Nat) : Option (T AO) := match h.get id with
  | some (.row c t) => h.put 60 id (some (.row c t))
  | some (.opn c t sz) => h.put 60 id (some (.opn c t sz))
  | _ => none
theorem mark_ok (s : Sim R B e h nx w) {id b : Nat} {h' : T AO} (hm : aBytes.aMark h id = some h') (hR : R ≤ id) (hb : e.blk id = some b) (o : Nat) :
    ∃ w', (markStringish ⟨b, o, none⟩).run P w = .ok () w' ∧ Sim R B e h' nx w' ∧ Ste R e h nx w e h' nx w' := by
  have key : ∀ (C : List Value) (t : TypeId) (fz : Nat × Nat), FzOk fz C.length → w.heap[b]? = some (.cells ⟨C⟩ t fz) → ∃ w', (markStringish ⟨b, o, none⟩).run P w = .ok () w' ∧ w'.heap[b]? = some (.cells ⟨C⟩ t (C.length, C.length + 1)) ∧ (∀ k, k ≠ b → w'.heap[k]? = w.heap[k]?) ∧ w'.heap.size = w.heap.size ∧ w'.os = w.os ∧ w'.tape = w.tape ∧ w'.output = w.output := by
    intro C t fz hfz hO
    have hsh : w.shape? b = some (t, C.length) := by simp [World.shape?, hO]
    refine ⟨w.freeze ⟨b, C.length, none⟩ 1, by simp [markStringish, hsh], ?_, fun k hk => freeze_other' _ _ _ _ hk, freeze_size' _ _ _, (freeze_same' _ _ _).1, (freeze_same' _ _ _).2.1, (freeze_same' _ _ _).2.2⟩
    unfold World.freeze
    rw [if_neg (by decide)]
    simp only [Array.getElem?_modify, if_pos, hO, Option.map_some, Option.some.injEq]
    rcases hfz with h | h <;> subst h <;> simp
  unfold aBytes.aMark at hm
  split at hm <;> (try (cases hm; done))
  · rename_i c t hg
    obtain ⟨b', O, hb', hO, C, fz, rfl, hC, hfz⟩ := s.obj id _ hg
    obtain rfl : b' = b := by rw [hb] at hb'; exact (Option.some.inj hb').symm
    obtain ⟨w', r1, r2, r3, r4, r5, r6, r7⟩ := key C t fz hfz hO
    exact ⟨w', r1, s.swap hg hR hb hm r2 r3 r4 r5 r6 r7 ⟨C, _, rfl, hC, .inr rfl⟩⟩
  · rename_i c t sz hg
    obtain ⟨b', O, hb', hO, C, rest, fz, rfl, hC, hsz, hfz⟩ := s.obj id _ hg
    obtain rfl : b' = b := by rw [hb] at hb'; exact (Option.some.inj hb').symm
    obtain ⟨w', r1, r2, r3, r4, r5, r6, r7⟩ := key (C ++ rest) t fz hfz hO
    exact ⟨w', r1, s.swap hg hR hb hm r2 r3 r4 r5 r6 r7 ⟨C, rest, _, rfl, hC, hsz, .inr rfl⟩⟩
theorem aBytes_ok {A : Tab} (hA : A.Ok P) (s : Sim A.R B e h nx w) {src dst : TypeId} {x v : AV} {X : Value} {h' : T AO} {nx' : Nat} (hv : aBytes A h nx src dst x = some (v, h', nx')) (hx : VR e x X) :
    ∃ V e' w', (convert src dst X).run P w = .ok V w' ∧ VR e' v V ∧ Sim A.R B e' h' nx' w' ∧ Ste A.R e h nx w e' h' nx' w' := by
  obtain ⟨i, hi, hv1⟩ := Option.bind_eq_some_iff.1 hv
  clear hv
  obtain ⟨j, hj, hv⟩ := Option.bind_eq_some_iff.1 hv1
  clear hv1
  split at hv <;> (try (cases hv; done))
  rename_i el hd
  obtain ⟨k, hk, hv1⟩ := Option.bind_eq_some_iff.1 hv
  clear hv
  have hS := (hA.ty _ i hi).1
  have hD := (hA.ty _ j hj).1
  rw [hd] at hD
  have hE := (hA.ty _ k hk).1
  split at hv1 <;> (try (cases hv1; done)) <;> (rename k.desc = _ => hkd; rw [hkd] at hE)
  · rename_i l
    obtain ⟨h1, hp, hv⟩ := Option.bind_eq_some_iff.1 hv1
    cases hv
    cases hx
    have hge : l.length ≤ grownCap w l.length 0 el := by simpa using grownCap_ge w l.length 0 el
    have hrun := Lib.run_convert_string_bytes (P := P) w src dst el ⟨⟨l⟩⟩ hS hD hE
    have hcells : Lib.bytesCells w el ⟨⟨l⟩⟩ = ⟨(l.map fun b => Value.int .u8 b.toNat) ++ List.replicate (grownCap w l.length 0 el - l.length) (.int .u8 0)⟩ := by
      unfold Lib.bytesCells
      apply Array.ext'
      simp [ByteArray.size]
    have hlen : ((l.map fun b => Value.int .u8 b.toNat) ++ List.replicate (grownCap w l.length 0 el - l.length) (Value.int .u8 0)).length = grownCap w l.length 0 el := by simp; omega
    have hbw : Lib.bytesWorld w el ⟨⟨l⟩⟩ = w.drew.alloc (.cells ⟨(l.map fun b => Value.int .u8 b.toNat) ++ List.replicate (grownCap w l.length 0 el - l.length) (.int .u8 0)⟩ el (grownCap w l.length 0 el, grownCap w l.length 0 el + 1)) := by
      have hm : ∀ (a : Array Obj) (x : Obj) (f : Obj → Obj), (a.push x).modify a.size f = a.push (f x) := by
        intro a x f
        apply Array.ext
        · simp
        · intro i h1 h2
          simp only [Array.getElem_modify, Array.getElem_push]
          by_cases h : a.size = i
          · subst h
            simp
          · have hi : i < a.size := by simp at h1; omega
            simp [h, hi]
      unfold Lib.bytesWorld
      rw [hcells]
      unfold World.freeze
      rw [if_neg (by decide)]
      show ({ w.drew.alloc _ with heap := (w.heap.push _).modify w.heap.size _ } : World) = _
      rw [hm]
      simp only [List.size_toArray, hlen]
      rfl
    rw [hbw] at hrun
    obtain ⟨q1, q2, q3, q4⟩ := s.drew.push (O := .cells ⟨(l.map fun b => Value.int .u8 b.toNat) ++ List.replicate (grownCap w l.length 0 el - l.length) (.int .u8 0)⟩ el (grownCap w l.length 0 el, grownCap w l.length 0 el + 1)) hp (grownCap w l.length 0 el)
      (fun e' hle hrm => ⟨_, _, _, rfl, str_cells l, by rw [hrm, hlen, Nat.mul_one], .inr (by rw [hlen])⟩)
    refine ⟨_, _, _, hrun, ?_, q3, Ste.drew.trans q4⟩
    have := VR.grow nx 0 l.length 0 w.heap.size 0 (e := e.put nx w.drew.heap.size (grownCap w l.length 0 el)) q1 (by rw [q2]; simpa using hge) (.inl rfl)
    rw [q2] at this
    exact this
  · rename_i id off len cap
    split at hv1 <;> (try (cases hv1; done))
    rename_i hsd hR
    obtain ⟨h1, hm, hv⟩ := Option.bind_eq_some_iff.1 hv1
    cases hv
    obtain rfl := Nat.eq_of_beq_eq_true hsd
    cases hx with
    | slice _ _ _ _ b hb =>
      obtain ⟨w', hr, hs, hst⟩ := mark_ok (P := P) s hm (Nat.le_of_ble_eq_true hR) hb off
      exact ⟨_, e, w', by simp [convert, run_underlying hD, run_underlying hE, hr, Result.andThen], .slice _ _ _ _ b hb, hs, hst⟩
  · rename_i id off len skip
    split at hv1 <;> (try (cases hv1; done))
    rename_i hsd hR
    obtain ⟨h1, hm, hv⟩ := Option.bind_eq_some_iff.1 hv1
    cases hv
    obtain rfl := Nat.eq_of_beq_eq_true hsd
    cases hx with
    | grow _ _ _ _ b o hb hl ho =>
      obtain ⟨w', hr, hs, hst⟩ := mark_ok (P := P) s hm (Nat.le_of_ble_eq_true hR) hb o
      exact ⟨_, e, w', by simp [convert, run_underlying hD, run_underlying hE, hr, Result.andThen], .grow _ _ _ _ b o hb hl ho, hs, hst⟩
def evEf (A : Tab) (h : T AO) (nx : Nat) (tm : T AV) (op : Op) : Option (AV × T AO × Nat) :=
  match op with
  | .next it true => (opd A.R tm it).bind fun v => match v with
    | .ptr id 0 => (aNext A.R h id).bind fun q => some (q.1, q.2, nx)
    | _ => none
  | .call { callee := .builtin .unsafeString, args := ⟨[x, y]⟩, argTypes := ⟨[pt, _]⟩ } => (opd A.R tm x).bind fun u => (opd A.R tm y).bind fun v => (aStr A h pt u v).bind fun q => some (q.1, q.2, nx)
  | .call { callee := .builtin .copy, args := ⟨[x, y]⟩, argTypes := ts } => (opd A.R tm x).bind fun u => (opd A.R tm y).bind fun v => (aCopy A h ts u v).bind fun q => some (q.1, q.2, nx)
  | .convert s d x => (opd A.R tm x).bind fun u => aBytes A h nx s d u
  | .call { callee := .builtin .delete, args := ⟨[x, y]⟩, argTypes := ts } => (opd A.R tm x).bind fun u => (opd A.R tm y).bind fun v => (aDel A h ts u v).bind fun h' => some (.tup [], h', nx)
  | .call { callee := .builtin .clear, args := ⟨[x]⟩, argTypes := ts } => (opd A.R tm x).bind fun u => (aClear A h ts u).bind fun h' => some (.tup [], h', nx)
  | op => evEf0 A h nx tm op
theorem freeze_size (w : World) (a : Addr) (n : Nat) : (w.freeze a n).heap.size = w.heap.size := by
  unfold World.freeze; split <;> simp
theorem freeze_other (w : World) (a : Addr) (n k : Nat) (hk : k ≠ a.block) : (w.freeze a n).heap[k]? = w.heap[k]? := by
  unfold World.freeze
  split
  · rfl
  · simp only [Array.getElem?_modify, if_neg (Ne.symm hk)]
theorem freeze_same (w : World) (a : Addr) (n : Nat) : (w.freeze a n).os = w.os ∧ (w.freeze a n).tape = w.tape ∧ (w.freeze a n).output = w.output := by
  unfold World.freeze; split <;> exact ⟨rfl, rfl, rfl⟩
theorem aStr_row {A : Tab} (hA : A.Ok P) (s : Sim A.R B e h nx w) {pt it ty el : TypeId} {id b m : Nat} {i k : TI} (hi : A.ty.get pt = some i) (hd : i.desc = .pointer el) (hk : A.ty.get el = some k) (h1 : k.size = 1) (h0 : 0 < m) (hm : m ≤ 1048576) (hR : A.R ≤ id)
    {o : AO} (hg : h.get id = some o) {c : List AV} {C rest : List Value} {fz : Nat × Nat} (hb : e.blk id = some b) (hO : w.heap[b]? = some (.cells ⟨C ++ rest⟩ el fz)) (hC : VRs e c C) {l : List UInt8} (hl : strOf c m = some l) {h' : T AO} (hp : h.put 60 id none = some h') :
    ∃ w', (Builtin.unsafeString_ #[pt, it] ty #[.pointer (some ⟨b, 0, none⟩), .int .i64 m]).run P w = .ok (.string ⟨⟨l⟩⟩) w' ∧ Sim A.R B e h' nx w' ∧ Ste A.R e h nx w e h' nx w' := by
  have hU := (hA.ty _ i hi).1
  rw [hd] at hU
  obtain ⟨_, K, hK, hKs, _⟩ := hA.ty _ k hk
  obtain ⟨rfl, hlen, hcell⟩ := strOf_ok hl hC
  have hrun := Lib.run_unsafeString_row (P := P) w pt it ty el hU (by simp [Program.cellsOf, hK, hKs, h1]) b (C ++ rest).length (by simp [World.shape?, hO]) l (by intro h; subst h; simp at h0) (by simp; omega) (by omega)
    (fun j x hj => by
      have := hcell j x hj
      have hjl : j < C.length := (List.getElem?_eq_some_iff.1 this).1
      have e2 : ((⟨b, 0, none⟩ : Addr).add j) = ⟨b, j, none⟩ := by rw [Addr.add_mk]; simp
      rw [e2]
      simp [World.cell?, hO, List.getElem?_append_left hjl, this])
  obtain ⟨f1, f2, f3⟩ := freeze_same w ⟨b, 0, none⟩ l.length
  exact ⟨_, hrun, s.gone hg hR hb hp (fun q hq => freeze_other _ _ _ _ hq) (freeze_size _ _ _) f1 f2 f3⟩
theorem aStr_ok {A : Tab} (hA : A.Ok P) (s : Sim A.R B e h nx w) {pt it ty : TypeId} {p n v : AV} {X Y : Value} {h' : T AO} (hv : aStr A h pt p n = some (v, h')) (hx : VR e p X) (hy : VR e n Y) :
    ∃ V w', (Builtin.unsafeString_ #[pt, it] ty #[X, Y]).run P w = .ok V w' ∧ VR e v V ∧ Sim A.R B e h' nx w' ∧ Ste A.R e h nx w e h' nx w' := by
  unfold aStr at hv
  split at hv <;> (try (cases hv; done))
  · rename_i id m
    obtain ⟨i, hi, hv1⟩ := Option.bind_eq_some_iff.1 hv
    clear hv
    split at hv1 <;> (try (cases hv1; done))
    rename_i el hd
    obtain ⟨k, hk, hv⟩ := Option.bind_eq_some_iff.1 hv1
    clear hv1
    split at hv <;> (try (cases hv; done))
    rename_i h1 h0 hm hR
    have h1 := Nat.eq_of_beq_eq_true h1
    have h0 := blt_iff.1 h0
    have hm := Nat.le_of_ble_eq_true hm
    have hR := Nat.le_of_ble_eq_true hR
    cases hx with
    | ptr _ _ b hb =>
      cases hy
      split at hv <;> (try (cases hv; done))
      · rename_i c t hg
        split at hv <;> (try (cases hv; done))
        rename_i ht
        have ht : t = el := Nat.eq_of_beq_eq_true ht
        subst ht
        obtain ⟨l, hl, hv1⟩ := Option.bind_eq_some_iff.1 hv
        clear hv
        obtain ⟨h2, hp, hv⟩ := Option.bind_eq_some_iff.1 hv1
        clear hv1
        cases hv
        obtain ⟨b', O, hb', hO, C, fz, rfl, hC, _⟩ := s.obj id _ hg
        obtain rfl : b' = b := by rw [hb] at hb'; exact (Option.some.inj hb').symm
        obtain ⟨w', hr, hs⟩ := aStr_row (P := P) (rest := []) (it := it) (ty := ty) hA s hi hd hk h1 h0 hm hR hg hb (by simpa using hO) hC hl hp
        exact ⟨_, w', hr, .str _, hs⟩
      · rename_i c t sz hg
        split at hv <;> (try (cases hv; done))
        rename_i ht
        have ht : t = el := Nat.eq_of_beq_eq_true ht
        subst ht
        obtain ⟨l, hl, hv1⟩ := Option.bind_eq_some_iff.1 hv
        clear hv
        obtain ⟨h2, hp, hv⟩ := Option.bind_eq_some_iff.1 hv1
        clear hv1
        cases hv
        obtain ⟨b', O, hb', hO, C, rest, fz, rfl, hC, hsz, _⟩ := s.obj id _ hg
        obtain rfl : b' = b := by rw [hb] at hb'; exact (Option.some.inj hb').symm
        obtain ⟨w', hr, hs⟩ := aStr_row (P := P) (rest := rest) (it := it) (ty := ty) hA s hi hd hk h1 h0 hm hR hg hb hO hC hl hp
        exact ⟨_, w', hr, .str _, hs⟩
  · cases hv
    cases hx
    cases hy
    exact ⟨_, w, Lib.run_unsafeString_none w pt it ty none, .str [], s, Ste.refl⟩
def NR (e : Env) (v : AV) (N : Next) : Prop := (∃ V, N = .value V ∧ VR e v V) ∨ (N = .skip ∧ v = .tup [])
theorem ef0_ok {A : Tab} (hA : A.Ok P) (s : Sim A.R B e h nx w) {tm : T AV} {a : Act} (ht : TmR e tm a.tmps) {o : Oper} {v : AV} {h' : T AO} {nx' : Nat} (hv : evEf0 A h nx tm o.op = some (v, h', nx')) :
    ∃ N e' w', (execOp a.eval o).run P w = .ok N w' ∧ NR e' v N ∧ Sim A.R B e' h' nx' w' ∧ Ste A.R e h nx w e' h' nx' w' := by
  cases hop : o.op <;> rw [hop] at hv <;> simp only [evEf0] at hv <;> try (cases hv; done)
  case store t x y =>
    obtain ⟨i, hi, hv⟩ := Option.bind_eq_some_iff.1 hv
    obtain ⟨p, hp, hv⟩ := Option.bind_eq_some_iff.1 hv
    obtain ⟨u, hu, hv⟩ := Option.bind_eq_some_iff.1 hv
    have hX := opd_ok s ht hp
    have hY := opd_ok s ht hu
    generalize hXe : a.eval x = X at hX
    split at hv <;> (try (cases hv; done))
    rename Nat.beq _ _ = true => hb
    have hb := Nat.eq_of_beq_eq_true hb
    obtain ⟨h2, hs, hv⟩ := Option.bind_eq_some_iff.1 hv
    cases hv
    cases hX with
    | ptr _ _ b hbk =>
      obtain ⟨w', hr, hsim, hste⟩ := aStore_ok (P := P) s hs hbk hY.cells
      have hS := run_sizeOf (P := P) (w := w) (hA.ty _ i hi)
      have hlen : (a.eval y).cells.size = i.size := by have := hY.cells.length; simp at this; omega
      refine ⟨.skip, e, w', ?_, .inr ⟨rfl, rfl⟩, hsim, hste⟩
      simp only [execOp, hop, hXe, Instr.storeAt, Instr.sureAddr, storeVar, Sem.run_bind, Sem.run_pure, Result.andThen, hS]
      rw [if_neg (by simpa using hlen)]
      simp only [hr]
  case mapUpdate t m k y =>
    obtain ⟨m', hm, hv⟩ := Option.bind_eq_some_iff.1 hv
    obtain ⟨k', hk, hv⟩ := Option.bind_eq_some_iff.1 hv
    obtain ⟨v', hv', hv⟩ := Option.bind_eq_some_iff.1 hv
    obtain ⟨h2, hs, hv⟩ := Option.bind_eq_some_iff.1 hv
    cases hv
    obtain ⟨w', hr, hsim, hste⟩ := aMapPut_ok (P := P) hA s hs (opd_ok s ht hm) (opd_ok s ht hk) (opd_ok s ht hv')
    exact ⟨.skip, e, w', by simp [execOp, hop, hr, Result.andThen], .inr ⟨rfl, rfl⟩, hsim, hste⟩
  case insert t m k y =>
    obtain ⟨m', hm, hv⟩ := Option.bind_eq_some_iff.1 hv
    obtain ⟨k', hk, hv⟩ := Option.bind_eq_some_iff.1 hv
    obtain ⟨v', hv', hv⟩ := Option.bind_eq_some_iff.1 hv
    obtain ⟨h2, hs, hv⟩ := Option.bind_eq_some_iff.1 hv
    cases hv
    obtain ⟨w', hr, hsim, hste⟩ := aMapPut_ok (P := P) hA s hs (opd_ok s ht hm) (opd_ok s ht hk) (opd_ok s ht hv')
    exact ⟨.skip, e, w', by simp [execOp, hop, hr, Result.andThen], .inr ⟨rfl, rfl⟩, hsim, hste⟩
  case call c =>
    obtain ⟨cl, args, ts⟩ := c
    cases cl <;> (try simp only at hv) <;> try (cases hv; done)
    rename_i b
    obtain ⟨args⟩ := args
    cases b <;> (try (cases hv; done)) <;> rcases args with _ | ⟨x, _ | ⟨y, _ | ⟨z, r⟩⟩⟩ <;> try (cases hv; done)
    obtain ⟨u, hu, hv⟩ := Option.bind_eq_some_iff.1 hv
    obtain ⟨u', hu', hv⟩ := Option.bind_eq_some_iff.1 hv
    obtain ⟨V, e', w', hr, hvr, hsim, hste⟩ := aApp_ok (P := P) (ty := o.type) hA s hv (opd_ok s ht hu) (opd_ok s ht hu')
    refine ⟨.value V, e', w', ?_, .inl ⟨V, rfl, hvr⟩, hsim, hste⟩
    simp [execOp, hop, resolve, invoke, builtin, hr, Result.andThen]

theorem aNext_ok (s : Sim R B e h nx w) {id b : Nat} {v : AV} {h' : T AO} {ty : TypeId} (hv : aNext R h id = some (v, h')) (hb : e.blk id = some b) :
    ∃ V w', (Instr.next (.pointer (some ⟨b, 0, none⟩)) true ty).run P w = .ok V w' ∧ VR e v V ∧ Sim R B e h' nx w' ∧ Ste R e h nx w e h' nx w' := by
  unfold aNext at hv
  split at hv <;> (try (cases hv; done))
  rename_i l pos hR ho
  have hR := Nat.le_of_ble_eq_true hR
  obtain ⟨b', O, hb', hO, hor⟩ := s.obj id _ ho
  obtain rfl : b' = b := by rw [hb] at hb'; exact (Option.some.inj hb').symm
  have hor' : O = .stringIter ⟨⟨l⟩⟩ pos := hor
  subst hor'
  have hg : (getObj b').run P w = .ok (.stringIter ⟨⟨l⟩⟩ pos) w := by simp [getObj, Sem.run, hO]
  split at hv
  · rename_i hnone
    cases hv
    have hge : ¬ pos < (⟨⟨l⟩⟩ : ByteArray).size := fun hlt => by
      have : pos < l.length := hlt
      rw [nth_eq, List.getElem?_eq_getElem this] at hnone; cases hnone
    exact ⟨.tuple ⟨[.bool false]⟩, w, by simp [Instr.next, hg, Result.andThen, hge], .tup _ _ (VRs.one (.bool false)), s, Ste.refl⟩
  · rename_i c hc
    rw [nth_eq] at hc
    split at hv <;> (try (cases hv; done))
    rename_i ha
    have ha := blt_iff.1 ha
    obtain ⟨h2, hp, hv⟩ := Option.bind_eq_some_iff.1 hv
    cases hv
    obtain ⟨hlt', hcv⟩ := List.getElem?_eq_some_iff.1 hc
    have hlt : pos < (⟨⟨l⟩⟩ : ByteArray).size := hlt'
    have hcv' : (⟨⟨l⟩⟩ : ByteArray)[pos]'hlt = c := hcv
    have hdec := decode_ascii ⟨⟨l⟩⟩ pos hlt (by rw [hcv']; exact ha)
    rw [hcv'] at hdec
    obtain ⟨w', hrun, hs, hst⟩ := putObj_ok (P := P) (O' := .stringIter ⟨⟨l⟩⟩ (pos + 1)) s ho hR hb hp rfl (fun O _ hor c t f hh => by
      have : O = .stringIter ⟨⟨l⟩⟩ pos := hor
      rw [this] at hh; cases hh)
    refine ⟨.tuple ⟨[.bool true, .int .i64 pos, .int .i32 c.toNat]⟩, w', ?_, .tup _ _ (.cons _ _ _ _ (.bool true) (.cons _ _ _ _ (.int _ _) (VRs.one (.int _ _)))), hs, hst⟩
    simp only [Instr.next, Sem.run_bind, hg, Result.andThen]
    rw [if_pos hlt, hdec]
    simp only [Sem.run_bind, hrun, Result.andThen, Sem.run_pure, goInt]
theorem ef_ok {A : Tab} (hA : A.Ok P) (s : Sim A.R B e h nx w) {tm : T AV} {a : Act} (ht : TmR e tm a.tmps) {o : Oper} {v : AV} {h' : T AO} {nx' : Nat} (hv : evEf A h nx tm o.op = some (v, h', nx')) :
    ∃ N e' w', (execOp a.eval o).run P w = .ok N w' ∧ NR e' v N ∧ Sim A.R B e' h' nx' w' ∧ Ste A.R e h nx w e' h' nx' w' := by
  unfold evEf at hv
  split at hv
  · rename_i it hop
    obtain ⟨u, hu, hv⟩ := Option.bind_eq_some_iff.1 hv
    have hX := opd_ok s ht hu
    generalize hXe : a.eval it = X at hX
    split at hv <;> (try (cases hv; done))
    obtain ⟨⟨v', h2⟩, hn, hv⟩ := Option.bind_eq_some_iff.1 hv
    cases hv
    cases hX with
    | ptr _ _ b hb =>
      obtain ⟨V, w', hr, hV, hs, hst⟩ := aNext_ok (P := P) (ty := o.type) s hn hb
      exact ⟨.value V, e, w', by simp [execOp, hop, hXe, hr, Result.andThen], .inl ⟨V, rfl, hV⟩, hs, hst⟩
  · rename_i x y pt it hop
    obtain ⟨u, hu, hv1⟩ := Option.bind_eq_some_iff.1 hv
    clear hv
    obtain ⟨u', hu', hv2⟩ := Option.bind_eq_some_iff.1 hv1
    clear hv1
    obtain ⟨⟨v', h2⟩, hq, hv⟩ := Option.bind_eq_some_iff.1 hv2
    clear hv2
    cases hv
    obtain ⟨V, w', hr, hV, hs, hst⟩ := aStr_ok (P := P) (it := it) (ty := o.type) hA s hq (opd_ok s ht hu) (opd_ok s ht hu')
    exact ⟨.value V, e, w', by simp [execOp, hop, resolve, invoke, builtin, hr, Result.andThen], .inl ⟨V, rfl, hV⟩, hs, hst⟩
  · rename_i x y ts hop
    obtain ⟨u, hu, hv1⟩ := Option.bind_eq_some_iff.1 hv
    clear hv
    obtain ⟨u', hu', hv2⟩ := Option.bind_eq_some_iff.1 hv1
    clear hv1
    obtain ⟨⟨v', h2⟩, hq, hv⟩ := Option.bind_eq_some_iff.1 hv2
    clear hv2
    cases hv
    obtain ⟨V, w', hr, hV, hs, hst⟩ := aCopy_ok (P := P) (ty := o.type) hA s hq (opd_ok s ht hu) (opd_ok s ht hu')
    exact ⟨.value V, e, w', by simp [execOp, hop, resolve, invoke, builtin, hr, Result.andThen], .inl ⟨V, rfl, hV⟩, hs, hst⟩
  · rename_i sr ds x hop
    obtain ⟨u, hu, hv1⟩ := Option.bind_eq_some_iff.1 hv
    obtain ⟨V, e', w', hr, hV, hs, hst⟩ := aBytes_ok (P := P) hA s hv1 (opd_ok s ht hu)
    exact ⟨.value V, e', w', by simp [execOp, hop, hr, Result.andThen], .inl ⟨V, rfl, hV⟩, hs, hst⟩
  · rename_i x y ts hop
    obtain ⟨u, hu, hv1⟩ := Option.bind_eq_some_iff.1 hv
    clear hv
    obtain ⟨u', hu', hv2⟩ := Option.bind_eq_some_iff.1 hv1
    clear hv1
    obtain ⟨h2, hq, hv⟩ := Option.bind_eq_some_iff.1 hv2
    clear hv2
    cases hv
    obtain ⟨w', hr, hs, hst⟩ := aDel_ok (P := P) (ty := o.type) hA s hq (opd_ok s ht hu) (opd_ok s ht hu')
    exact ⟨.value (.tuple #[]), e, w', by simp [execOp, hop, resolve, invoke, builtin, hr, Result.andThen], .inl ⟨_, rfl, .tup _ _ .nil⟩, hs, hst⟩
  · rename_i x ts hop
    obtain ⟨u, hu, hv1⟩ := Option.bind_eq_some_iff.1 hv
    clear hv
    obtain ⟨h2, hq, hv⟩ := Option.bind_eq_some_iff.1 hv1
    clear hv1
    cases hv
    obtain ⟨w', hr, hs, hst⟩ := aClear_ok (P := P) (ty := o.type) hA s hq (opd_ok s ht hu)
    exact ⟨.value (.tuple #[]), e, w', by simp [execOp, hop, resolve, invoke, builtin, hr, Result.andThen], .inl ⟨_, rfl, .tup _ _ .nil⟩, hs, hst⟩
  · exact ef0_ok hA s ht hv

/-- Any operation but a call. -/
def evS (A : Tab) (h : T AO) (nx : Nat) (tm : T AV) (op : Op) : Option (AV × T AO × Nat) :=
  match evRd A h tm op with
  | some v => some (v, h, nx)
  | none => match evAl A tm op with
    | some (o, k) => (h.put 60 nx (some o)).bind fun h' => some (k.val nx, h', nx + 1)
    | none => evEf A h nx tm op
theorem evS_ok {A : Tab} (hA : A.Ok P) (s : Sim A.R B e h nx w) {tm : T AV} {a : Act} (ht : TmR e tm a.tmps) {o : Oper} {v : AV} {h' : T AO} {nx' : Nat} (hv : evS A h nx tm o.op = some (v, h', nx')) :
    ∃ N e' w', (execOp a.eval o).run P w = .ok N w' ∧ NR e' v N ∧ Sim A.R B e' h' nx' w' ∧ Ste A.R e h nx w e' h' nx' w' := by
  unfold evS at hv
  split at hv
  · rename_i u hu
    cases hv
    obtain ⟨V, h1, h2⟩ := rd_ok (P := P) hA s ht hu
    exact ⟨_, e, w, h1, .inl ⟨V, rfl, h2⟩, s, Ste.refl⟩
  · split at hv
    · rename_i ob k hal
      obtain ⟨h2, hp, hv⟩ := Option.bind_eq_some_iff.1 hv
      cases hv
      obtain ⟨O, hr, hO⟩ := al_ok (P := P) hA s ht hal
      obtain ⟨hb, _, hs, hst⟩ := s.push (O := O) hp 0 (fun e' hle _ => hO e' _ hle)
      exact ⟨_, _, _, hr, .inl ⟨_, rfl, Mk.ok k hb⟩, hs, hst⟩
    · exact ef_ok hA s ht hv

def kR (h : T AO) (nx : Nat) (r : Option AV) : Option (AV × T AO × Nat) := Option.rec (motive := fun _ => Option (AV × T AO × Nat)) none (fun v => some (v, h, nx)) r
/-- What is read, or else what is done. -/
def kE (r : Option AV) (h : T AO) (nx : Nat) (f : Unit → Option (AV × T AO × Nat)) : Option (AV × T AO × Nat) := Option.rec (motive := fun _ => Option (AV × T AO × Nat)) (f ()) (fun v => some (v, h, nx)) r
def kA (h : T AO) (nx : Nat) (r : Option (AO × Mk)) : Option (AV × T AO × Nat) := Option.rec (motive := fun _ => Option (AV × T AO × Nat)) none (fun q => Option.rec (motive := fun _ => Option (AV × T AO × Nat)) none (fun h' => some (q.2.val nx, h', Nat.succ nx)) (h.put 60 nx (some q.1))) r
/-- The same, in few steps. -/
def evK (op : Op) : Tab → T AO → Nat → T AV → Option (AV × T AO × Nat) :=
  Op.rec (motive := fun _ => Tab → T AO → Nat → T AV → Option (AV × T AO × Nat))
    (fun x A h nx tm => kR h nx (opd A.R tm x))
    (fun x A h nx tm => kR h nx (opd A.R tm x))
    (fun c a b A h nx tm => kR h nx (rPick A tm c a b))
    (fun t A h nx tm => kA h nx (evAl A tm (.alloc t)))
    (fun t v A h nx tm => kA h nx (evAl A tm (.box t v)))
    (fun t ps A h nx tm => kR h nx (rBuild A tm t ps))
    (fun t n ps A h nx tm => kA h nx (evAl A tm (.buildSlice t n ps)))
    (fun t m k v A h nx tm => evEf0 A h nx tm (.insert t m k v))
    (fun t a A h nx tm => kR h nx (rLoad A h tm t a))
    (fun t a x A h nx tm => evEf0 A h nx tm (.store t a x))
    (fun _ _ _ _ _ => none)
    (fun _ _ _ _ _ => none)
    (fun x A h nx tm => kR h nx (rNil A tm x))
    (fun op t x y _t' A h nx tm => kR h nx (rBin A tm op t x y))
    (fun op _t x A h nx tm => kR h nx (rUn A tm op x))
    (fun s d x A h nx tm => kE (rConv A h tm s d x) h nx (fun _ => (opd A.R tm x).bind fun u => aBytes A h nx s d u))
    (fun _ _ _ _ _ _ => none)
    (fun t x A h nx tm => kR h nx (rMkI A tm t x))
    (fun fn f c A h nx tm => kR h nx (rMkF A tm fn f c))
    (fun t r A h nx tm => kA h nx (evAl A tm (.makeMap t r)))
    (fun _ _ _ _ _ _ => none)
    (fun t l c A h nx tm => kA h nx (evAl A tm (.makeSlice t l c)))
    (fun t x lo hi mx A h nx tm => kR h nx (rSlice A tm t x lo hi mx))
    (fun t x f A h nx tm => kR h nx (rFldA A tm t x f))
    (fun t x f A h nx tm => kR h nx (rFld A tm t x f))
    (fun t x i A h nx tm => kR h nx (rIdxA A tm t x i))
    (fun t x i A h nx tm => kR h nx (rIdx A tm t x i))
    (fun t x k ok A h nx tm => kR h nx (rLook A h tm t x k ok))
    (fun t m k v A h nx tm => evEf0 A h nx tm (.mapUpdate t m k v))
    (fun _ _ _ _ _ _ _ => none)
    (fun _ _ _ _ _ _ _ _ => none)
    (fun t x A h nx tm => kA h nx (evAl A tm (.range t x)))
    (fun it b A h nx tm => evEf A h nx tm (.next it b))
    (fun _ _ _ _ _ => none)
    (fun x _t as_ ok A h nx tm => kR h nx (rTA A tm x as_ ok))
    (fun x i A h nx tm => kR h nx (rExt A tm x i))
    (fun c A h nx tm => evS A h nx tm (.call c))
    (fun _ _ _ _ _ => none)
    (fun _ _ _ _ _ => none)
    (fun _ _ _ _ _ => none)
    (fun _ _ _ _ _ _ => none)
    (fun _ _ _ _ _ _ _ => none)
    (fun _ _ _ _ _ _ => none)
    op
theorem evK_eq (op : Op) (A : Tab) (h : T AO) (nx : Nat) (tm : T AV) : evK op A h nx tm = evS A h nx tm op := by
  have k1 : ∀ r : Option AV, kR h nx r = match r with | some v => some (v, h, nx) | none => none := fun r => by cases r <;> rfl
  have k2 : ∀ r : Option (AO × Mk), kA h nx r = match r with | some (o, k) => (h.put 60 nx (some o)).bind fun h' => some (k.val nx, h', nx + 1) | none => none := fun r => by
    cases r with
    | none => rfl
    | some q =>
      obtain ⟨o, k⟩ := q
      show Option.rec (motive := fun _ => Option (AV × T AO × Nat)) none (fun h' => some (k.val nx, h', Nat.succ nx)) (h.put 60 nx (some o)) = (h.put 60 nx (some o)).bind fun h' => some (k.val nx, h', nx + 1)
      cases h.put 60 nx (some o) <;> rfl
  have k3 : ∀ (r : Option AV) f, kE r h nx f = match r with | some v => some (v, h, nx) | none => f () := fun r f => by cases r <;> rfl
  cases op
  case convert s d x =>
    refine (k3 (rConv A h tm s d x) (fun _ => (opd A.R tm x).bind fun u => aBytes A h nx s d u)).trans ?_
    unfold evS
    simp only [evRd]
    split <;> simp_all [evAl, evEf]
  all_goals first
    | rfl
    | (refine (k1 _).trans ?_; unfold evS; simp only [evRd]; split <;> simp_all [evAl, evEf, evEf0]; done)
    | (refine (k2 _).trans ?_; unfold evS; simp only [evRd]; split <;> simp_all [evEf, evEf0]; done)

/-! ### Temporaries, guards -/
def tmPut (N : Nat) (tm : T AV) (d : Option Tmp) (v : AV) : Option (T AV) :=
  Option.rec (motive := fun _ => Nat → T AV → AV → Option (T AV)) (fun _ tm _ => some tm) (fun d N tm v => Bool.rec (motive := fun _ => Option (T AV)) none (tm.put 60 d (some v)) (Nat.ble (Nat.succ d) N)) d N tm v
theorem tmPut_some (N : Nat) (tm : T AV) (d : Tmp) (v : AV) : tmPut N tm (some d) v = match Nat.blt d N with
    | true => tm.put 60 d (some v)
    | false => none := by
  show Bool.rec (motive := fun _ => Option (T AV)) none (tm.put 60 d (some v)) (Nat.blt d N) = _
  cases Nat.blt d N <;> rfl
theorem tmPut_ok {N : Nat} {tm tm' : T AV} {d : Option Tmp} {v : AV} {V : Value} {a : Act} (hp : tmPut N tm d v = some tm') (ht : TmR e tm a.tmps) (hN : a.tmps.size = N) (hv : VR e v V) :
    TmR e tm' (a.put d V).tmps ∧ (a.put d V).tmps.size = N ∧ (a.put d V).defers = a.defers := by
  cases d with
  | none => cases hp; exact ⟨ht, hN, rfl⟩
  | some d =>
    rw [tmPut_some] at hp
    split at hp <;> (try (cases hp; done))
    rename_i hlt
    have hlt := blt_iff.1 hlt
    have hg := T.put_get 60 tm d (some v) tm' hp
    refine ⟨fun i u hi => ?_, by simp [Act.put, hN], rfl⟩
    rw [hg] at hi
    by_cases hid : i = d
    · subst hid
      rw [if_pos rfl] at hi
      cases hi
      exact ⟨V, by simp [Act.put, hN, hlt], hv⟩
    · rw [if_neg hid] at hi
      obtain ⟨U, h1, h2⟩ := ht i u hi
      exact ⟨U, by simp [Act.put, Array.getElem?_setIfInBounds, Ne.symm hid, h1], h2⟩
def wantB (ops : List Oper) (tm : T AV) (o : Oper) : Option Bool :=
  match o.guard with
  | none => some true
  | some (j, want) => match nth ops j with
    | none => some false
    | some p => match p.dst with
      | none => some false
      | some d => match tm.get d with
        | none => none
        | some (.bool b) => some (b == want)
        | some _ => some false
def wantA (ops : List Oper) (tm : T AV) (o : Oper) : Option Bool :=
  Option.rec (motive := fun _ => List Oper → T AV → Oper → Option Bool) (fun _ _ _ => some true) (fun _ ops tm o => wantB ops tm o) o.guard ops tm o
theorem wantA_eq (ops : List Oper) (tm : T AV) (o : Oper) : wantA ops tm o = wantB ops tm o := by
  unfold wantA
  cases h : o.guard with
  | none => show some true = _; unfold wantB; rw [h]
  | some g => rfl
theorem wantA_ok {ops : Array Oper} {tm : T AV} {o : Oper} {b : Bool} {tmps : Array Value} (hw : wantA ops.toList tm o = some b) (ht : TmR e tm tmps) : Region.wanted o (yielded ops tmps) = b := by
  rw [wantA_eq] at hw
  unfold wantB at hw
  unfold Region.wanted
  split at hw
  · rename_i hg; rw [hg]; cases hw; rfl
  · rename_i j want hg
    rw [hg]
    simp only [yielded]
    rw [← Array.getElem?_toList]
    split at hw
    · rename_i hj; rw [nth_eq] at hj; cases hw; rw [hj]; rfl
    · rename_i p hj
      rw [nth_eq] at hj
      rw [hj]
      split at hw
      · rename_i hd; cases hw; simp [hd]
      · rename_i d hd
        simp only [Option.bind_some, hd]
        split at hw
        · cases hw
        · rename_i b' hb'
          obtain ⟨V, h1, h2⟩ := ht d _ hb'
          cases h2
          cases hw
          rw [h1]
          rfl
        · rename_i u hnb hu
          obtain ⟨V, h1, h2⟩ := ht d _ hu
          cases hw
          rw [h1]
          cases h2 <;> first | rfl | (rename_i b'; exact (hnb b' rfl).elim)
end
end
end Go.Xe

