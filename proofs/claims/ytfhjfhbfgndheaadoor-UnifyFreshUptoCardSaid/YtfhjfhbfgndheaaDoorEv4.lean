/- An evaluator of closed runs, proved sound (part 4 of 5). -/
import Derived.Test.YtfhjfhbfgndheaaDoorEv3
namespace Go.Xe
noncomputable section
set_option linter.unusedSimpArgs false

/-- What a call answers, and what it leaves. -/
abbrev Ev := FuncId → List AV → T AO → Nat → Option (AV × T AO × Nat)
/-- No function's number: a call of it is a round of a range over a function, its first argument the place of the loop. -/
def YB : Nat := 4000000000
def evMnz (k : Nat) (args : List AV) (h : T AO) (nx : Nat) : Option (AV × T AO × Nat) := match args with
  | [.int .i64 (.ofNat n)] => match Nat.ble 16 k, Nat.ble n 1048576 with
    | true, true => (h.put 60 nx (some (.opn [] (k - 16) 1))).bind fun h' => some (.grow nx 0 n 0, h', nx + 1)
    | _, _ => none
  | _ => none
theorem evMnz_ok {P : Program} {R : Nat} {B : Bs} {e : Env} {h : T AO} {nx : Nat} {w : World} {f : FuncId} {k : Nat} (hf : ExtOk P f k) (s : Sim R B e h nx w) {args : List AV} {ARGS : List Value} {v : AV} {h' : T AO} {nx' : Nat} (hv : evMnz k args h nx = some (v, h', nx')) (ha : VRs e args ARGS) :
    ∃ V e' w', (callFunc f ⟨ARGS⟩).run P w = .ok (.value V) w' ∧ VR e' v V ∧ Sim R B e' h' nx' w' ∧ Ste R e h nx w e' h' nx' w' := by
  unfold evMnz at hv
  split at hv <;> (try (cases hv; done))
  split at hv <;> (try (cases hv; done))
  rename_i n _ _ hk hn
  have hk := Nat.le_of_ble_eq_true hk
  have hn := Nat.le_of_ble_eq_true hn
  obtain ⟨h1, hp, hv⟩ := Option.bind_eq_some_iff.1 hv
  cases hv
  cases ha with
  | cons _ _ _ _ h2 hs2 =>
    cases hs2; cases h2
    obtain ⟨C, hr, hle⟩ := hf.1 hk n w hn
    obtain ⟨q1, q2, q3, q4⟩ := s.drew.drew.push (O := .cells ⟨C⟩ (k - 16)) hp C.length (fun e' hle' hrm => ⟨[], C, (0, 0), rfl, .nil, by rw [hrm]; simp, .inl rfl⟩)
    refine ⟨_, _, _, hr, ?_, q3, Ste.drew.trans (Ste.drew.trans q4)⟩
    have := VR.grow nx 0 n 0 w.heap.size 0 (e := e.put nx w.drew.drew.heap.size C.length) q1 (by rw [q2]; simpa using hle) (.inl rfl)
    rw [q2] at this
    exact this
def evPanic (h : T AO) (nx : Nat) (x : Option AV) : Option (AV × T AO × Nat) := match x with
  | some (.iface t y) => some (.pan (.iface t y), h, nx)
  | _ => none
def evOp0 (A : Tab) (call : Ev) (h : T AO) (nx : Nat) (tm : T AV) (op : Op) : Option (AV × T AO × Nat) :=
  match op with
  | .panic x => evPanic h nx (opd A.R tm x)
  | .call { callee := .value f, args := args, argTypes := _ } => (opd A.R tm f).bind fun g => match g with
    | .func (.func fid) first cap => (opds A.R tm args.toList).bind fun ays => match A.ext.get fid with
      | none => match Nat.beq fid YB with
        | true => none
        | false => call fid (first ++ ays ++ cap) h nx
      | some k => match evExt k (first ++ ays ++ cap) with
        | some v => some (v, h, nx)
        | none => evMnz k (first ++ ays ++ cap) h nx
    | .yld id => (opds A.R tm args.toList).bind fun ays => call YB (.ptr id 0 :: ays) h nx
    | _ => none
  | op => evS A h nx tm op
def evOp' (op : Op) : Tab → Ev → T AO → Nat → T AV → Option (AV × T AO × Nat) :=
  Op.rec (motive := fun _ => Tab → Ev → T AO → Nat → T AV → Option (AV × T AO × Nat))
    (fun x A _ h nx tm => kR h nx (opd A.R tm x))
    (fun x A _ h nx tm => kR h nx (opd A.R tm x))
    (fun c a b A _ h nx tm => kR h nx (rPick A tm c a b))
    (fun t A _ h nx tm => kA h nx (evAl A tm (.alloc t)))
    (fun t v A _ h nx tm => kA h nx (evAl A tm (.box t v)))
    (fun t ps A _ h nx tm => kR h nx (rBuild A tm t ps))
    (fun t n ps A _ h nx tm => kA h nx (evAl A tm (.buildSlice t n ps)))
    (fun t m k v A _ h nx tm => evEf0 A h nx tm (.insert t m k v))
    (fun t a A _ h nx tm => kR h nx (rLoad A h tm t a))
    (fun t a x A _ h nx tm => evEf0 A h nx tm (.store t a x))
    (fun _ _ _ _ _ _ => none)
    (fun _ _ _ _ _ _ => none)
    (fun x A _ h nx tm => kR h nx (rNil A tm x))
    (fun op t x y _t' A _ h nx tm => kR h nx (rBin A tm op t x y))
    (fun op _t x A _ h nx tm => kR h nx (rUn A tm op x))
    (fun s d x A _ h nx tm => kE (rConv A h tm s d x) h nx (fun _ => (opd A.R tm x).bind fun u => aBytes A h nx s d u))
    (fun _ _ _ _ _ _ _ => none)
    (fun t x A _ h nx tm => kR h nx (rMkI A tm t x))
    (fun fn f c A _ h nx tm => kR h nx (rMkF A tm fn f c))
    (fun t r A _ h nx tm => kA h nx (evAl A tm (.makeMap t r)))
    (fun _ _ _ _ _ _ _ => none)
    (fun t l c A _ h nx tm => kA h nx (evAl A tm (.makeSlice t l c)))
    (fun t x lo hi mx A _ h nx tm => kR h nx (rSlice A tm t x lo hi mx))
    (fun t x f A _ h nx tm => kR h nx (rFldA A tm t x f))
    (fun t x f A _ h nx tm => kR h nx (rFld A tm t x f))
    (fun t x i A _ h nx tm => kR h nx (rIdxA A tm t x i))
    (fun t x i A _ h nx tm => kR h nx (rIdx A tm t x i))
    (fun t x k ok A _ h nx tm => kR h nx (rLook A h tm t x k ok))
    (fun t m k v A _ h nx tm => evEf0 A h nx tm (.mapUpdate t m k v))
    (fun _ _ _ _ _ _ _ _ => none)
    (fun _ _ _ _ _ _ _ _ _ => none)
    (fun t x A _ h nx tm => kA h nx (evAl A tm (.range t x)))
    (fun it b A _ h nx tm => evEf A h nx tm (.next it b))
    (fun _ _ _ _ _ _ => none)
    (fun x _t as_ ok A _ h nx tm => kR h nx (rTA A tm x as_ ok))
    (fun x i A _ h nx tm => kR h nx (rExt A tm x i))
    (fun c A cl h nx tm => evOp0 A cl h nx tm (.call c))
    (fun _ _ _ _ _ _ => none)
    (fun _ _ _ _ _ _ => none)
    (fun x A _ h nx tm => evPanic h nx (opd A.R tm x))
    (fun _ _ _ _ _ _ _ => none)
    (fun _ _ _ _ _ _ _ _ => none)
    (fun _ _ _ _ _ _ _ => none)
    op
def evOp (A : Tab) (call : Ev) (h : T AO) (nx : Nat) (tm : T AV) (op : Op) : Option (AV × T AO × Nat) := evOp' op A call h nx tm
theorem evOp_eq (A : Tab) (call : Ev) (h : T AO) (nx : Nat) (tm : T AV) (op : Op) : evOp A call h nx tm op = evOp0 A call h nx tm op := by
  by_cases hp : ∃ x, op = .panic x
  · obtain ⟨x, rfl⟩ := hp
    rfl
  have key : (∀ c, op ≠ .call c) → evOp0 A call h nx tm op = evS A h nx tm op ∧ evOp A call h nx tm op = evK op A h nx tm := fun hc => by
    cases op <;> first | exact ⟨rfl, rfl⟩ | exact (hc _ rfl).elim | exact (hp ⟨_, rfl⟩).elim
  by_cases hc : ∃ c, op = .call c
  · obtain ⟨c, rfl⟩ := hc
    rfl
  · have := key fun c h => hc ⟨c, h⟩
    rw [this.1, this.2, evK_eq]
abbrev Got := AX × T AV × T AO × NX
def isPan : AV → Option AV
  | .pan u => some u
  | _ => none
/-- A deferred call. -/
def evDefer (A : Tab) (tm : T AV) (op : Op) (z : NX) : Option NX := match op, z.ok with
  | .defer { callee := .value f, args := args, argTypes := _ }, true => (opd A.R tm f).bind fun g => match g with
    | .func (.func fid) first cap => (opds A.R tm args.toList).bind fun ays => match Nat.beq fid YB with
      | true => none
      | false => some ⟨z.n, .func (.func fid) (first ++ ays) cap :: z.ds, true⟩
    | _ => none
  | _, _ => none
def evOps (A : Tab) (call : Ev) (N : Nat) (all : List Oper) (l : List Oper) : T AV → T AO → NX → Option Got :=
  List.rec (motive := fun _ => T AV → T AO → NX → Option Got) (fun tm h z => some (.norm, tm, h, z)) (fun o _ ih tm h z =>
    Option.rec (motive := fun _ => Option Got) none (fun b => Bool.rec (motive := fun _ => Option Got)
      (Option.rec (motive := fun _ => Option Got) none (fun tm' => ih tm' h z) (tmPut N tm o.dst (.tup [])))
      (Option.rec (motive := fun _ => Option Got) (Option.rec (motive := fun _ => Option Got) none (fun z' => Option.rec (motive := fun _ => Option Got) none (fun tm' => ih tm' h z') (tmPut N tm o.dst (.tup []))) (evDefer A tm o.op z))
        (fun q => Prod.rec (motive := fun _ => Option Got) (fun v r => Prod.rec (motive := fun _ => Option Got) (fun h' nx' => Option.rec (motive := fun _ => Option Got) (Option.rec (motive := fun _ => Option Got) none (fun tm' => ih tm' h' ⟨nx', z.ds, z.ok⟩) (tmPut N tm o.dst v)) (fun u => some (.pan u, tm, h', ⟨nx', z.ds, z.ok⟩)) (isPan v)) r) q) (evOp A call h z.n tm o.op)) b) (wantA all tm o)) l
theorem evOps_cons (A : Tab) (call : Ev) (N : Nat) (all : List Oper) (o : Oper) (rest : List Oper) (tm : T AV) (h : T AO) (z : NX) : evOps A call N all (o :: rest) tm h z =
    match wantA all tm o with
    | none => none
    | some false => (tmPut N tm o.dst (.tup [])).bind fun tm' => evOps A call N all rest tm' h z
    | some true => match evOp A call h z.n tm o.op with
      | none => (evDefer A tm o.op z).bind fun z' => (tmPut N tm o.dst (.tup [])).bind fun tm' => evOps A call N all rest tm' h z'
      | some q => match isPan q.1 with
        | some u => some (.pan u, tm, q.2.1, ⟨q.2.2, z.ds, z.ok⟩)
        | none => (tmPut N tm o.dst q.1).bind fun tm' => evOps A call N all rest tm' q.2.1 ⟨q.2.2, z.ds, z.ok⟩ := by
  have ob2 : ∀ {α : Type} (x : Option α) (f : α → Option Got), Option.rec (motive := fun _ => Option Got) none (fun a => f a) x = x.bind f := fun x f => by cases x <;> rfl
  show Option.rec (motive := fun _ => Option Got) none (fun b => Bool.rec (motive := fun _ => Option Got)
      (Option.rec (motive := fun _ => Option Got) none (fun tm' => evOps A call N all rest tm' h z) (tmPut N tm o.dst (.tup [])))
      (Option.rec (motive := fun _ => Option Got) (Option.rec (motive := fun _ => Option Got) none (fun z' => Option.rec (motive := fun _ => Option Got) none (fun tm' => evOps A call N all rest tm' h z') (tmPut N tm o.dst (.tup []))) (evDefer A tm o.op z))
        (fun q => Prod.rec (motive := fun _ => Option Got) (fun v r => Prod.rec (motive := fun _ => Option Got) (fun h' nx' => Option.rec (motive := fun _ => Option Got) (Option.rec (motive := fun _ => Option Got) none (fun tm' => evOps A call N all rest tm' h' ⟨nx', z.ds, z.ok⟩) (tmPut N tm o.dst v)) (fun u => some (.pan u, tm, h', ⟨nx', z.ds, z.ok⟩)) (isPan v)) r) q) (evOp A call h z.n tm o.op)) b) (wantA all tm o) = _
  cases wantA all tm o with
  | none => rfl
  | some b => cases b with
    | false => exact ob2 _ _
    | true =>
      cases evOp A call h z.n tm o.op with
      | none =>
        show Option.rec (motive := fun _ => Option Got) none (fun z' => Option.rec (motive := fun _ => Option Got) none (fun tm' => evOps A call N all rest tm' h z') (tmPut N tm o.dst (.tup []))) (evDefer A tm o.op z) = _
        rw [ob2]
        congr 1
        funext z'
        exact ob2 _ _
      | some q =>
        obtain ⟨v, h', nx'⟩ := q
        show Option.rec (motive := fun _ => Option Got) (Option.rec (motive := fun _ => Option Got) none (fun tm' => evOps A call N all rest tm' h' ⟨nx', z.ds, z.ok⟩) (tmPut N tm o.dst v)) (fun u => some (.pan u, tm, h', ⟨nx', z.ds, z.ok⟩)) (isPan v) = match isPan v with
          | some u => some (.pan u, tm, h', ⟨nx', z.ds, z.ok⟩)
          | none => (tmPut N tm o.dst v).bind fun tm' => evOps A call N all rest tm' h' ⟨nx', z.ds, z.ok⟩
        cases isPan v with
        | none => exact ob2 _ _
        | some u => rfl
def Wd (r : Option Nat) : Fence := { Fence.wide with round := r }
/-- How a call ends: with a value, or with a panic of a value. -/
def ER (e : Env) (v : AV) (E : Ending) : Prop := (∃ V, E = .returned V ∧ VR e v V) ∨ ∃ u U, v = .pan u ∧ E = .panicked [{ v := U, recovered := false }] ∧ VR e u U
/-- A call of a function. -/
def FJ (A : Tab) (P : Program) (B : Bs) (f : FuncId) (args : List AV) (h : T AO) (nx : Nat) (v : AV) (h' : T AO) (nx' : Nat) : Prop :=
  (∀ ays w, (callFunc f ays).run P w = .ok (.enter f ays) w) ∧
    ∀ (e : Env) (w : World) (ARGS : List Value) (n : Nat), Sim A.R B e h nx w → VRs e args ARGS →
      CallsIn (Wd none) n P f ⟨ARGS⟩ w fun E w' => ∃ e', ER e' v E ∧ Sim A.R B e' h' nx' w' ∧ Ste A.R e h nx w e' h' nx' w'
/-- A round of a range over a function. -/
def RJ (A : Tab) (P : Program) (B : Bs) (args : List AV) (h : T AO) (nx : Nat) (v : AV) (h' : T AO) (nx' : Nat) : Prop :=
  ∃ id ays, args = .ptr id 0 :: ays ∧ ∀ (e : Env) (w : World) (ARGS : List Value) (n b : Nat), Sim A.R B e h nx w → VRs e ays ARGS → e.blk id = some b →
    ∃ f tmps asg body, (Instr.yield b ⟨ARGS⟩).run P w = .ok (.round b f tmps asg body) w ∧
      RoundIn (Wd none) n P b f tmps asg body w fun E w' => ∃ V e', E = .returned V ∧ VR e' v V ∧ Sim A.R B e' h' nx' w' ∧ Ste A.R e h nx w e' h' nx' w'
def COk (A : Tab) (P : Program) (B : Bs) (call : Ev) : Prop :=
  ∀ (f : FuncId) (args : List AV) (h : T AO) (nx : Nat) (v : AV) (h' : T AO) (nx' : Nat), call f args h nx = some (v, h', nx') → (f = YB → RJ A P B args h nx v h' nx') ∧ (f ≠ YB → FJ A P B f args h nx v h' nx')
section
variable {R : Nat} {B : Bs} {e : Env} {h : T AO} {nx : Nat} {w : World} {P : Program}

/-- One operation in an activation. -/
theorem evOp_ok {A : Tab} (hA : A.Ok P) {call : Ev} (hC : COk A P B call) (s : Sim A.R B e h nx w) {tm : T AV} {a : Act} (ht : TmR e tm a.tmps) {o : Oper} {v : AV} {h' : T AO} {nx' : Nat}
    (hv : evOp A call h nx tm o.op = some (v, h', nx')) {r : Option Nat} {n : Nat} {K : Act → World → Prop} {Q : Exit → Act → World → Prop}
    (hK : ∀ e' V w', VR e' v V → Sim A.R B e' h' nx' w' → Ste A.R e h nx w e' h' nx' w' → K (a.put o.dst V) w')
    (hP : ∀ e' u U w', v = .pan u → VR e' u U → Sim A.R B e' h' nx' w' → Ste A.R e h nx w e' h' nx' w' → Q (.panic [{ v := U, recovered := false }]) a w') : o.wpIn (Wd r) n P a w K Q := by
  refine ⟨fun _ _ => trivial, ?_⟩
  have hsem : o.semAt (Wd r).round a.eval = execOp a.eval o := by
    refine Oper.semAt_eq _ _ _ fun c hc => ?_
    rw [hc] at hv
    rw [evOp_eq] at hv
    simp [evOp0, evS, evRd, evAl, evEf, evEf0] at hv
  rw [hsem]
  have plain : evS A h nx tm o.op = some (v, h', nx') → o.uponIn (Wd r) n P a K Q ((execOp a.eval o).run P w) := fun hs => by
    obtain ⟨N, e', w', hr, hN, hsim, hst⟩ := evS_ok (P := P) hA s ht hs
    rw [hr]
    rcases hN with ⟨V, rfl, hV⟩ | ⟨rfl, rfl⟩
    · exact hK e' V w' hV hsim hst
    · exact hK e' undef w' (.tup _ _ .nil) hsim hst
  rw [evOp_eq] at hv
  unfold evOp0 at hv
  split at hv
  · rename_i x hop
    unfold evPanic at hv
    split at hv <;> (try (cases hv; done))
    rename_i t y hx
    cases hv
    have hX := opd_ok s ht hx
    generalize hXe : a.eval x = X at hX
    cases hX with
    | iface _ _ Y hY =>
      have hr : (execOp a.eval o).run P w = .halt (.panic (.iface t Y)) w := by simp [execOp, hop, hXe, Instr.panic, goPanic, Result.andThen]
      rw [hr]
      exact hP e _ _ w rfl (.iface _ _ _ hY) s Ste.refl
  · rename_i f args ts hop
    obtain ⟨g, hg, hv⟩ := Option.bind_eq_some_iff.1 hv
    have hG := opd_ok s ht hg
    generalize hGe : a.eval f = G at hG
    split at hv <;> (try (cases hv; done))
    case h_2 =>
      rename_i id
      obtain ⟨ays, has, hv⟩ := Option.bind_eq_some_iff.1 hv
      cases hG with
      | yld _ b hb =>
        have hAs := opds_ok s ht has
        have hrun : (execOp a.eval o).run P w = (Instr.yield b ⟨args.toList.map a.eval⟩).run P w := by
          simp only [execOp, hop, resolve, hGe, Deferred.ofValue, Sem.run_bind, Sem.run_pure, Result.andThen, invoke]
          congr 2
          apply Array.ext'
          simp
        obtain ⟨id', ays', heq, hj⟩ := (hC YB _ h nx v h' nx' hv).1 rfl
        cases heq
        obtain ⟨f', tmps, asg, body, hy, hround⟩ := hj e w _ (n - 1) b s hAs hb
        rw [hrun, hy]
        refine ⟨fun hd => by simp [Wd, Fence.wide] at hd, ?_⟩
        have hround' : RoundIn (Wd r) (n - 1) P b f' tmps asg body w _ := hround
        refine hround'.mono fun E w' hE => ?_
        obtain ⟨V, e', rfl, hV, hsim, hst⟩ := hE
        exact hK e' V w' hV hsim hst
    rename_i fid first cap
    obtain ⟨ays, has, hv⟩ := Option.bind_eq_some_iff.1 hv
    cases hG with
    | func _ _ _ F C hF hCc =>
      have hAs := opds_ok s ht has
      have hrun : (execOp a.eval o).run P w = (callFunc fid ⟨F ++ args.toList.map a.eval ++ C⟩).run P w := by
        simp only [execOp, hop, resolve, hGe, Deferred.ofValue, Sem.run_bind, Sem.run_pure, Result.andThen, invoke]
        congr 2
        apply Array.ext'
        simp
      split at hv
      case h_2 =>
        rename_i k hk
        split at hv
        · rename_i u hu
          cases hv
          obtain ⟨V, hV1, hV2⟩ := (hA.ext fid k hk).2 e _ _ _ hu ((hF.append hAs).append hCc) w
          rw [hrun, hV1]
          exact hK e V w hV2 s Ste.refl
        · obtain ⟨V, e', w', hr, hV, hs', hst'⟩ := evMnz_ok (hA.ext fid k hk) s hv ((hF.append hAs).append hCc)
          rw [hrun, hr]
          exact hK e' V w' hV hs' hst'
      split at hv <;> (try (cases hv; done))
      rename_i hne
      have hne : fid ≠ YB := fun hh => by rw [hh, Nat.beq_refl] at hne; cases hne
      have hcall := ((hC fid _ h nx v h' nx' hv).2 hne).2 e w (F ++ args.toList.map a.eval ++ C) (n - 1) s ((hF.append hAs).append hCc)
      have henter : (callFunc fid ⟨F ++ args.toList.map a.eval ++ C⟩).run P w = .ok (.enter fid ⟨F ++ args.toList.map a.eval ++ C⟩) w := ((hC fid _ h nx v h' nx' hv).2 hne).1 _ _
      rw [hrun, henter]
      refine ⟨fun hd => by simp [Wd, Fence.wide] at hd, ?_⟩
      have hcall' : CallsIn (Wd r) (n - 1) P fid ⟨F ++ args.toList.map a.eval ++ C⟩ w _ := hcall
      refine hcall'.mono fun E w' hE => ?_
      obtain ⟨e', hE, hsim, hst⟩ := hE
      rcases hE with ⟨V, rfl, hV⟩ | ⟨u, U, hu, rfl, hU⟩
      · exact hK e' V w' hV hsim hst
      · exact hP e' u U w' hu hU hsim hst
  · exact plain hv

/-- A mark among the deferred calls: that of a range over a function, whose rounds deferred nothing. -/
def markOf (D : Nat) : Deferred := { target := .collected D, args := #[] }
/-- What is there of deferred calls. -/
inductive DR (R : Nat) (e : Env) (h : T AO) (w : World) (n0 : Nat) : List AV → List Deferred → Prop
  | nil : DR R e h w n0 [] []
  | mark (D : Nat) (l : List AV) (L : List Deferred) (hl : DR R e h w n0 l L) (h1 : n0 ≤ D) (h2 : w.heap[D]? = some (.deferred (some []))) (h3 : ∀ i o, R ≤ i → h.get i = some o → e.blk i ≠ some D)
      (h4 : ∀ d ∈ L, d.target ≠ .collected D) : DR R e h w n0 (.nilp :: l) (markOf D :: L)
  | call (f : FuncId) (args cap : List AV) (ARGS CAP : List Value) (l : List AV) (L : List Deferred) (ha : VRs e args ARGS) (hc : VRs e cap CAP) (hf : Nat.beq f YB = false) (hl : DR R e h w n0 l L) :
      DR R e h w n0 (.func (.func f) args cap :: l) ({ target := .fn (.func f) ⟨CAP⟩, args := ⟨ARGS⟩ } :: L)
theorem DR.mono {e1 e2 : Env} {h1 h2 : T AO} {n1 n2 : Nat} {w1 w2 : World} {n0 : Nat} (st : Ste R e1 h1 n1 w1 e2 h2 n2 w2) : ∀ {l : List AV} {L : List Deferred}, DR R e1 h1 w1 n0 l L → DR R e2 h2 w2 n0 l L
  | _, _, .nil => .nil
  | _, _, .mark D l L hl q1 q2 q3 q4 => by
    have lt : D < w1.heap.size := (Array.getElem?_eq_some_iff.1 q2).1
    refine .mark D l L (hl.mono st) q1 ((st.blk D lt q3).trans q2) (fun i o hi ho hb => ?_) q4
    obtain ⟨j, p, hj, hp, hb'⟩ := st.img i o D hi ho hb lt
    exact q3 j p hj hp hb'
  | _, _, .call f args cap ARGS CAP l L ha hc hf hl => .call f args cap ARGS CAP l L (ha.mono st.le) (hc.mono st.le) hf (hl.mono st)
/-- A region's operations in their order. -/
theorem evOps_ok {A : Tab} (hA : A.Ok P) {call : Ev} (hC : COk A P B call) {N : Nat} {ops : Array Oper} {r : Option Nat} {n n0 : Nat} {Q : Exit → Act → World → Prop} : ∀ (l : List Oper) (i : Nat), ops.toList.drop i = l →
    ∀ {e : Env} {h : T AO} {z : NX} {w : World} {tm : T AV} {a : Act} {x : AX} {tm' : T AV} {h' : T AO} {z' : NX}, Sim A.R B e h z.n w → TmR e tm a.tmps → a.tmps.size = N → (z.ok = true → r = none) → DR A.R e h w n0 z.ds a.defers → evOps A call N ops.toList l tm h z = some (x, tm', h', z') →
    (∀ e' a' w' E, TmR e' tm' a'.tmps → a'.tmps.size = N → z'.ok = z.ok → DR A.R e' h' w' n0 z'.ds a'.defers → Sim A.R B e' h' z'.n w' → Ste A.R e h z.n w e' h' z'.n w' → XR e' x E → Q E a' w') →
    wpOpsIn (Wd r) n P ops Q (List.range' i l.length) a w
  | [], i, hl, e, h, z, w, tm, a, x, tm', h', z', s, ht, hN, hz, hd, hv, hQ => by
    cases hv
    exact hQ e a w .normal ht hN rfl hd s Ste.refl rfl
  | o :: l, i, hl, e, h, z, w, tm, a, x, tm', h', z', s, ht, hN, hz, hd, hv, hQ => by
    have hi : ops[i]? = some o := by
      rw [← Array.getElem?_toList]
      have := congrArg (·[0]?) hl
      simpa [List.getElem?_drop] using this
    have hl' : ops.toList.drop (i + 1) = l := by
      have := congrArg List.tail hl
      simpa [List.tail_drop] using this
    rw [List.length_cons, List.range'_succ]
    simp only [wpOpsIn, hi]
    rw [evOps_cons] at hv
    split at hv
    · cases hv
    · rename_i hw
      rw [wantA_ok hw ht]
      simp only [Bool.false_eq_true, if_false]
      refine ⟨fun _ _ => trivial, ?_⟩
      obtain ⟨tm1, htm, hv⟩ := Option.bind_eq_some_iff.1 hv
      obtain ⟨k1, k2, k3⟩ := tmPut_ok (V := undef) htm ht hN (.tup _ _ .nil)
      exact evOps_ok hA hC l (i + 1) hl' s k1 k2 hz (by rw [k3]; exact hd) hv hQ
    · rename_i hw
      rw [wantA_ok hw ht]
      simp only [if_true]
      split at hv
      · rename_i hno
        obtain ⟨z1, hdef, hv1⟩ := Option.bind_eq_some_iff.1 hv
        clear hv
        obtain ⟨tm1, htm, hv⟩ := Option.bind_eq_some_iff.1 hv1
        clear hv1
        unfold evDefer at hdef
        split at hdef <;> (try (cases hdef; done))
        rename_i f args ts hop hok
        obtain ⟨g, hg, hdef1⟩ := Option.bind_eq_some_iff.1 hdef
        clear hdef
        have hG := opd_ok s ht hg
        generalize hGe : a.eval f = G at hG
        split at hdef1 <;> (try (cases hdef1; done))
        rename_i fid first cap
        obtain ⟨ays, has, hdef⟩ := Option.bind_eq_some_iff.1 hdef1
        clear hdef1
        split at hdef <;> (try (cases hdef; done))
        rename_i hne
        cases hdef
        have hAs := opds_ok s ht has
        have hrn := hz hok
        subst hrn
        cases hG with
        | func _ _ _ F C hF hCc =>
          have hres : resolve a.eval { callee := .value f, args := args, argTypes := ts } o.type = pure { target := .fn (.func fid) ⟨C⟩, args := ⟨F ++ args.toList.map a.eval⟩ } := by
            simp only [resolve, hGe, Deferred.ofValue]
            congr 2
            apply Array.ext'
            simp
          refine ⟨fun _ _ => trivial, ?_⟩
          have hsem : o.semAt (Wd none).round a.eval = execOp a.eval o := Oper.semAt_none _ _
          rw [hsem]
          have hrun : (execOp a.eval o).run P w = .ok (.defer { target := .fn (.func fid) ⟨C⟩, args := ⟨F ++ args.toList.map a.eval⟩ }) w := by
            simp only [execOp, hop, Sem.run_bind, hres, Sem.run_pure, Result.andThen]
          rw [hrun]
          show wpOpsIn (Wd none) n P ops Q _ _ w
          obtain ⟨k1, k2, k3⟩ := tmPut_ok (V := undef) (a := { a with defers := { target := .fn (.func fid) ⟨C⟩, args := ⟨F ++ args.toList.map a.eval⟩ } :: a.defers }) htm ht hN (.tup _ _ .nil)
          refine evOps_ok hA hC l (i + 1) hl' (z := ⟨z.n, .func (.func fid) (first ++ ays) cap :: z.ds, true⟩) s k1 k2 (fun _ => rfl) ?_ hv (fun e' a' w' E h1 h2 h3 h4 h5 h6 h7 => hQ e' a' w' E h1 h2 (h3.trans hok.symm) h4 h5 h6 h7)
          rw [k3]
          exact .call fid _ _ _ _ _ _ (hF.append hAs) hCc hne hd
      · rename_i q hop
        obtain ⟨v, h1, n1⟩ := q
        split at hv
        · rename_i u hu
          cases hv
          have hvu : v = .pan u := by
            unfold isPan at hu
            split at hu <;> (try (cases hu; done))
            rename_i u' hh
            cases hu
            exact hh
          refine evOp_ok hA hC s ht hop (fun e1 V w1 hV hs1 hst1 => ?_) (fun e1 u' U w1 hu' hU hs1 hst1 => ?_)
          · rw [hvu] at hV; cases hV
          · rw [hvu] at hu'
            cases hu'
            exact hQ e1 a w1 _ (ht.mono hst1.le) hN rfl (hd.mono hst1) hs1 hst1 ⟨U, hU, rfl⟩
        · rename_i hu
          obtain ⟨tm1, htm, hv⟩ := Option.bind_eq_some_iff.1 hv
          refine evOp_ok hA hC s ht hop (fun e1 V w1 hV hs1 hst1 => ?_) (fun e1 u' U w1 hu' hU hs1 hst1 => ?_)
          · obtain ⟨k1, k2, k3⟩ := tmPut_ok htm (ht.mono hst1.le) hN hV
            exact evOps_ok hA hC l (i + 1) hl' (z := ⟨n1, z.ds, z.ok⟩) hs1 k1 k2 hz (by rw [k3]; exact hd.mono hst1) hv (fun e' a' w' E h1 h2 h3 h4 h5 h6 h7 => hQ e' a' w' E h1 h2 h3 h4 h5 (hst1.trans h6) h7)
          · rw [hu'] at hu; cases hu
end
end
end Go.Xe

namespace Go.Xe
noncomputable section
set_option linter.unusedSimpArgs false

/-! ### A region that draws its order: what is reckoned -/
def bit (m j : Nat) : Bool := m.testBit j
def bnd (e : Edge) : Bool := match e.ground with
  | .textOnly _ | .gcOnly _ => false
  | _ => true
theorem bnd_eq (e : Edge) : Region.binds .any e = bnd e := by
  unfold Region.binds bnd
  cases e.ground <;> rfl
def ancOf (acc : List Nat) : List Edge → Nat → Option Nat
  | [], m => some m
  | e :: es, m => match bnd e with
    | false => ancOf acc es m
    | true => match acc[e.on]? with
      | none => none
      | some x => ancOf acc es (m ||| (1 <<< e.on) ||| x)
structure St where
  dst : Option Tmp
  anc : Nat
  al : Bool
inductive Cl where
  | q | a | e
def cls : Op → Cl
  | .alloc _ | .box .. | .buildSlice .. | .makeMap .. | .makeSlice .. | .range .. => .a
  | .store .. | .mapUpdate .. | .insert .. | .next .. => .e
  | .call { callee := .builtin .len, .. } | .call { callee := .builtin .cap, .. } | .call { callee := .builtin .min, .. } | .call { callee := .builtin .max, .. } => .q
  | .call _ => .e
  | _ => .q
/-- The same; what makes bytes of a text, or marks them, acts. -/
def clsA (A : Tab) (op : Op) : Cl := match op with
  | .convert _ d _ => match A.ty.get d with
    | some j => match j.desc with
      | .slice _ => .e
      | _ => .q
    | none => .q
  | op => cls op
def isA : Cl → Bool
  | .a => true
  | _ => false
theorem isA_clsA (A : Tab) (op : Op) : isA (clsA A op) = isA (cls op) := by
  unfold clsA
  split
  · split
    · split <;> rfl
    · rfl
  · rfl
def sts : List Oper → List Nat → Option (List St)
  | [], _ => some []
  | o :: l, acc => (ancOf acc o.after.toList 0).bind fun m => (sts l (acc ++ [m])).bind fun r => some (⟨o.dst, m, isA (cls o.op)⟩ :: r)
abbrev DD := List (AV × Option AO)
/-- The temporaries as operation i may see them. -/
def tmV (ai i : Nat) : List St → Nat → DD → T AV → Option (T AV)
  | [], _, _, tm => some tm
  | s :: sl, j, ds, tm => match s.dst with
    | none => tmV ai i sl (j + 1) ds.tail tm
    | some t => match bit ai j with
      | true => match ds with
        | x :: _ => (tm.put 60 t (some x.1)).bind fun tm' => tmV ai i sl (j + 1) ds.tail tm'
        | [] => none
      | false => match Nat.beq i j || bit s.anc i with
        | true => tmV ai i sl (j + 1) ds.tail tm
        | false => (tm.put 60 t none).bind fun tm' => tmV ai i sl (j + 1) ds.tail tm'
def obOf : DD → Option AO
  | x :: _ => x.2
  | [] => none
def selO : Bool → Option AO → Option AO
  | true, o => o
  | false, _ => none
/-- The heap as it may see it. -/
def vw (ai vis nx0 : Nat) : List St → Nat → DD → T AO → Option (T AO)
  | [], _, _, h => some h
  | s :: sl, j, ds, h => match s.al with
    | false => vw ai vis nx0 sl (j + 1) ds.tail h
    | true => match bit vis j with
      | true => vw ai vis nx0 sl (j + 1) ds.tail h
      | false => (h.put 60 (nx0 + j) (selO (bit ai j) (obOf ds))).bind fun h' => vw ai vis nx0 sl (j + 1) ds.tail h'
structure Hk where
  h : T AO
  nx : Nat
  vis : Nat
def lastOk (chain : List Nat) (anc : Nat) : Bool := match chain.getLast? with
  | none => true
  | some q => bit anc q
structure Acc where
  ds : DD
  chain : List Nat
  hs : List Hk
  cur : Hk
/-- An operation of the region panics: which one, of what, the temporaries that it saw, what is there then. -/
structure Pn where
  i : Nat
  u : AV
  tm : T AV
  h : T AO
  nx : Nat
def drGo (A : Tab) (call : Ev) (all : List Oper) (st : List St) (nx0 : Nat) (tm0 : T AV) : List Oper → Nat → List St → Acc → Option (Acc × Option Pn)
  | [], _, _, c => some (c, none)
  | o :: rest, i, ss, c => match ss with
    | [] => none
    | s :: sl => (tmV s.anc i st 0 c.ds tm0).bind fun tm =>
      match wantA all tm o with
      | none => none
      | some false => drGo A call all st nx0 tm0 rest (i + 1) sl { c with ds := c.ds ++ [(.tup [], none)] }
      | some true => match clsA A o.op with
        | .q => (vw s.anc c.cur.vis nx0 st 0 c.ds c.cur.h).bind fun h => (evRd A h tm o.op).bind fun v => drGo A call all st nx0 tm0 rest (i + 1) sl { c with ds := c.ds ++ [(v, none)] }
        | .a => (evAl A tm o.op).bind fun q => drGo A call all st nx0 tm0 rest (i + 1) sl { c with ds := c.ds ++ [(q.2.val (nx0 + i), some q.1)] }
        | .e => match lastOk c.chain s.anc with
          | false => none
          | true => (vw s.anc c.cur.vis nx0 st 0 c.ds c.cur.h).bind fun h => (evOp A call h c.cur.nx tm o.op).bind fun q => match isPan q.1 with
            | some u => match sl.all (fun t => bit t.anc i) with
              | true => some (c, some ⟨i, u, tm, q.2.1, q.2.2⟩)
              | false => none
            | none => drGo A call all st nx0 tm0 rest (i + 1) sl { ds := c.ds ++ [(q.1, none)], chain := c.chain ++ [i], hs := c.hs ++ [c.cur], cur := ⟨q.2.1, q.2.2, c.cur.vis ||| s.anc⟩ }

/-! Values told apart. -/
mutual
def beqV : AV → AV → Bool
  | .bool a, .bool b => a == b
  | .int k a, .int l b => k == l && a == b
  | .str a, .str b => a == b
  | .nilp, .nilp | .nils, .nils | .nilm, .nilm | .nilf, .nilf | .nili, .nili => true
  | .ptr a b, .ptr c d => a == c && b == d
  | .slice a b c d, .slice a' b' c' d' => a == a' && b == b' && c == c' && d == d'
  | .grow a b c d, .grow a' b' c' d' => a == a' && b == b' && c == c' && d == d'
  | .map a, .map b => a == b
  | .func (.func f) a b, .func (.func g) c d => f == g && beqVs a c && beqVs b d
  | .iface t a, .iface u b => t == u && beqV a b
  | .agg a, .agg b => beqVs a b
  | .tup a, .tup b => beqVs a b
  | .yld a, .yld b => a == b
  | _, _ => false
def beqVs : List AV → List AV → Bool
  | [], [] => true
  | a :: l, b :: m => beqV a b && beqVs l m
  | _, _ => false
end
mutual
theorem beqV_ok : ∀ (x y : AV), beqV x y = true → x = y := by
  intro x y h
  cases x <;> cases y <;> first
    | (simp [beqV] at h; done)
    | rfl
    | (simp [beqV] at h; simp [h]; done)
    | skip
  case func.func fn a b fn' c d =>
    cases fn <;> cases fn' <;> simp [beqV] at h
    obtain ⟨⟨rfl, h1⟩, h2⟩ := h
    rw [beqVs_ok a c h1, beqVs_ok b d h2]
  case iface.iface t a u b =>
    simp [beqV] at h
    obtain ⟨rfl, h1⟩ := h
    rw [beqV_ok a b h1]
  case agg.agg a b =>
    simp [beqV] at h
    rw [beqVs_ok a b h]
  case tup.tup a b =>
    simp [beqV] at h
    rw [beqVs_ok a b h]
theorem beqVs_ok : ∀ (x y : List AV), beqVs x y = true → x = y := by
  intro x y h
  cases x with
  | nil => cases y with
    | nil => rfl
    | cons b m => simp [beqVs] at h
  | cons a l => cases y with
    | nil => simp [beqVs] at h
    | cons b m =>
      simp [beqVs] at h
      rw [beqV_ok a b h.1, beqVs_ok l m h.2]
end

/-- May operation i come up when just the first k of the chain have been? -/
def mayAt (st : List St) (ai i : Nat) : List Nat → Nat → Nat → Bool
  | [], _, _ => true
  | c :: cs, p, k => match Nat.blt p k with
    | true => (match st[c]? with | some s => !bit s.anc i | none => true) && mayAt st ai i cs (p + 1) k
    | false => !bit ai c && mayAt st ai i cs (p + 1) k
def hdep : Op → Bool
  | .load .. | .lookup .. | .call _ | .convert .. => true
  | _ => false
def reAt (A : Tab) (st : List St) (nx0 : Nat) (chain : List Nat) (ds : DD) (tm : T AV) (ai i : Nat) (op : Op) (v : AV) : List Hk → Nat → Bool
  | [], _ => true
  | x :: l, k => (match mayAt st ai i chain 0 k with
    | false => true
    | true => match vw ai x.vis nx0 st 0 ds x.h with
      | none => false
      | some h => match evRd A h tm op with
        | none => false
        | some u => beqV u v) && reAt A st nx0 chain ds tm ai i op v l (k + 1)
def reGo (A : Tab) (all : List Oper) (st : List St) (nx0 : Nat) (tm0 : T AV) (chain : List Nat) (D : DD) (HS : List Hk) : List Oper → Nat → List St → DD → Bool
  | [], _, _, _ => true
  | o :: rest, i, ss, ds => match ss, ds with
    | s :: sl, d :: dl => (match clsA A o.op with
      | .q => match hdep o.op with
        | false => true
        | true => match tmV s.anc i st 0 D tm0 with
          | none => false
          | some tm => match wantA all tm o with
            | some true => reAt A st nx0 chain D tm s.anc i o.op d.1 HS 0
            | _ => true
      | _ => true) && reGo A all st nx0 tm0 chain D HS rest (i + 1) sl dl
    | _, _ => false
def nodupT : List St → List Tmp → Bool
  | [], _ => true
  | s :: l, seen => match s.dst with
    | none => nodupT l seen
    | some t => match seen.elem t with
      | true => false
      | false => nodupT l (t :: seen)
/-- A region that draws its order. -/
def evDr (A : Tab) (call : Ev) (N : Nat) (ops : List Oper) (tm : T AV) (h : T AO) (nx : Nat) : Option (AX × T AV × T AO × Nat) :=
  (sts ops []).bind fun st =>
  match nodupT st [], st.all (fun s => match s.dst with | some t => Nat.blt t N | none => true) with
  | true, true =>
    let n := ops.length
    (drGo A call ops st nx tm ops 0 st ⟨[], [], [], ⟨h, nx + n, 0⟩⟩).bind fun q =>
    let c := q.1
    match q.2 with
    | none => match reGo A ops st nx tm c.chain c.ds (c.hs ++ [c.cur]) ops 0 st c.ds with
      | false => none
      | true =>
        let all := 2 ^ n - 1
        (tmV all n st 0 c.ds tm).bind fun tm' => (vw all c.cur.vis nx st 0 c.ds c.cur.h).bind fun h' => some (.norm, tm', h', c.cur.nx)
    | some p => match reGo A ops st nx tm c.chain c.ds (c.hs ++ [c.cur]) (ops.take p.i) 0 st c.ds with
      | false => none
      | true => some (.pan p.u, p.tm, p.h, p.nx)
  | _, _ => none
end
end Go.Xe

namespace Go.Xe
noncomputable section
set_option linter.unusedSimpArgs false
set_option linter.unusedVariables false

theorem bit_or (a b j : Nat) : bit (a ||| b) j = (bit a j || bit b j) := by simp [bit, Nat.testBit_or]
theorem bit_shl (k j : Nat) : bit (1 <<< k) j = decide (k = j) := by simp [bit, Nat.one_shiftLeft, Nat.testBit_two_pow]
theorem bit_zero (j : Nat) : bit 0 j = false := by simp [bit]
theorem bit_all (n j : Nat) (h : j < n) : bit (2 ^ n - 1) j = true := by simp [bit, Nat.testBit_two_pow_sub_one, h]
theorem ancOf_spec : ∀ (es : List Edge) {acc : List Nat} {m r : Nat}, ancOf acc es m = some r →
    (∀ j, bit r j = true → bit m j = true ∨ ∃ e ∈ es, bnd e = true ∧ ∃ x, acc[e.on]? = some x ∧ (j = e.on ∨ bit x j = true)) ∧ (∀ e ∈ es, bnd e = true → e.on < acc.length)
  | [], acc, m, r, h => by cases h; exact ⟨fun j hj => .inl hj, fun e he => by cases he⟩
  | e :: es, acc, m, r, h => by
    rw [ancOf] at h
    split at h
    · rename_i hb
      obtain ⟨h1, h2⟩ := ancOf_spec es h
      refine ⟨fun j hj => ?_, fun e' he' hb' => ?_⟩
      · rcases h1 j hj with h' | ⟨e', he', hr⟩
        · exact .inl h'
        · exact .inr ⟨e', List.mem_cons_of_mem _ he', hr⟩
      · cases he' with
        | head => rw [hb] at hb'; cases hb'
        | tail _ hm => exact h2 e' hm hb'
    · rename_i hb
      split at h
      · cases h
      · rename_i x hx
        obtain ⟨h1, h2⟩ := ancOf_spec es h
        refine ⟨fun j hj => ?_, fun e' he' hb' => ?_⟩
        · rcases h1 j hj with h' | ⟨e', he', hr⟩
          · rw [bit_or, bit_or, bit_shl] at h'
            simp only [Bool.or_eq_true, decide_eq_true_eq] at h'
            rcases h' with (h' | h') | h'
            · exact .inl h'
            · exact .inr ⟨e, List.mem_cons_self .., hb, x, hx, .inl h'.symm⟩
            · exact .inr ⟨e, List.mem_cons_self .., hb, x, hx, .inr h'⟩
          · exact .inr ⟨e', List.mem_cons_of_mem _ he', hr⟩
        · cases he' with
          | head => exact (List.getElem?_eq_some_iff.1 hx).1
          | tail _ hm => exact h2 e' hm hb'
theorem sts_spec : ∀ (l : List Oper) (acc : List Nat) (st : List St), sts l acc = some st → st.length = l.length ∧
    ∀ j s, st[j]? = some s → ∃ o, l[j]? = some o ∧ s.dst = o.dst ∧ s.al = isA (cls o.op) ∧ ancOf (acc ++ (st.take j).map (·.anc)) o.after.toList 0 = some s.anc
  | [], acc, st, h => by cases h; exact ⟨rfl, fun j s hj => by simp at hj⟩
  | o :: l, acc, st, h => by
    rw [sts] at h
    obtain ⟨m, hm, h⟩ := Option.bind_eq_some_iff.1 h
    obtain ⟨r, hr, h⟩ := Option.bind_eq_some_iff.1 h
    cases h
    obtain ⟨h1, h2⟩ := sts_spec l (acc ++ [m]) r hr
    refine ⟨by simp [h1], fun j s hj => ?_⟩
    cases j with
    | zero => simp at hj; subst hj; exact ⟨o, by simp, rfl, rfl, by simpa using hm⟩
    | succ j =>
      obtain ⟨o', g1, g2, g3, g4⟩ := h2 j s (by simpa using hj)
      exact ⟨o', by simpa using g1, g2, g3, by simpa using g4⟩

section
variable {all : List Oper} {st : List St} (hst : sts all [] = some st)
include hst
theorem anc_lt {i j : Nat} {s : St} (hs : st[i]? = some s) (hj : bit s.anc j = true) : j < i := by
  induction i using Nat.strongRecOn generalizing s j with
  | _ i ih =>
    obtain ⟨o, ho, _, _, ha⟩ := (sts_spec all [] st hst).2 i s hs
    rcases (ancOf_spec _ ha).1 j hj with h' | ⟨e, he, hb, x, hx, hr⟩
    · rw [bit_zero] at h'; cases h'
    · have hlt := (ancOf_spec _ ha).2 e he hb
      simp only [List.nil_append, List.length_map, List.length_take] at hlt hx
      have hei : e.on < i := by omega
      rcases hr with rfl | hr
      · exact hei
      · simp only [List.getElem?_map, List.getElem?_take_of_lt hei] at hx
        cases hs' : st[e.on]? with
        | none => rw [hs'] at hx; cases hx
        | some s' =>
          rw [hs'] at hx
          cases hx
          exact Nat.lt_trans (ih e.on hei hs' hr) hei
theorem edge_lt {i : Nat} {o : Oper} (ho : all[i]? = some o) {e : Edge} (he : e ∈ o.after.toList) (hb : bnd e = true) : e.on < i := by
  obtain ⟨hl, hsp⟩ := sts_spec all [] st hst
  have hlt : i < st.length := by rw [hl]; exact (List.getElem?_eq_some_iff.1 ho).1
  obtain ⟨o', ho', _, _, ha⟩ := hsp i st[i] (List.getElem?_eq_getElem hlt)
  rw [ho] at ho'
  cases ho'
  have := (ancOf_spec _ ha).2 e he hb
  simp only [List.nil_append, List.length_map, List.length_take] at this
  omega
theorem anc_in {L : Nat → Prop} (hL : ∀ i o, all[i]? = some o → L i → ∀ e ∈ o.after.toList, bnd e = true → L e.on) {i j : Nat} {s : St} (hs : st[i]? = some s) (hr : ∀ o, all[i]? = some o → ∀ e ∈ o.after.toList, bnd e = true → L e.on)
    (hj : bit s.anc j = true) : L j := by
  induction i using Nat.strongRecOn generalizing s j with
  | _ i ih =>
    obtain ⟨o, ho, _, _, ha⟩ := (sts_spec all [] st hst).2 i s hs
    rcases (ancOf_spec _ ha).1 j hj with h' | ⟨e, he, hb, x, hx, hrr⟩
    · rw [bit_zero] at h'; cases h'
    · have hlt := (ancOf_spec _ ha).2 e he hb
      simp only [List.nil_append, List.length_map, List.length_take] at hlt hx
      have hei : e.on < i := by omega
      have hon : L e.on := hr o ho e he hb
      rcases hrr with rfl | hrr
      · exact hon
      · simp only [List.getElem?_map, List.getElem?_take_of_lt hei] at hx
        cases hs' : st[e.on]? with
        | none => rw [hs'] at hx; cases hx
        | some s' =>
          rw [hs'] at hx
          cases hx
          exact ih e.on hei hs' (fun o' ho' e' he' hb' => hL e.on o' ho' hon e' he' hb') hrr
end

/-! What may be seen hangs on what stands ahead alone. -/
theorem tmV_ext {ai i : Nat} : ∀ (sl : List St) (j : Nat) (ds ds' : DD) (tm : T AV), (∀ k, bit ai (j + k) = true → ds'[k]? = ds[k]?) → tmV ai i sl j ds' tm = tmV ai i sl j ds tm
  | [], _, _, _, _, _ => rfl
  | s :: sl, j, ds, ds', tm, h => by
    have ht : ∀ k, bit ai (j + 1 + k) = true → ds'.tail[k]? = ds.tail[k]? := fun k hk => by
      have := h (k + 1) (by rw [show j + (k + 1) = j + 1 + k by omega]; exact hk)
      cases ds <;> cases ds' <;> simp at this ⊢ <;> exact this
    rw [tmV, tmV]
    split
    · exact tmV_ext sl _ _ _ _ ht
    · split
      · rename_i hb
        have h0 := h 0 (by simp [hb])
        cases ds with
        | nil => cases ds' with
          | nil => rfl
          | cons x l => simp at h0
        | cons y l => cases ds' with
          | nil => simp at h0
          | cons x l' =>
            simp at h0
            subst h0
            simp only
            congr 1
            funext tm'
            exact tmV_ext sl _ _ _ _ ht
      · split
        · exact tmV_ext sl _ _ _ _ ht
        · congr 1
          funext tm'
          exact tmV_ext sl _ _ _ _ ht
theorem vw_ext {ai vis nx0 : Nat} : ∀ (sl : List St) (j : Nat) (ds ds' : DD) (h : T AO), (∀ k, bit ai (j + k) = true → ds'[k]? = ds[k]?) → vw ai vis nx0 sl j ds' h = vw ai vis nx0 sl j ds h
  | [], _, _, _, _, _ => rfl
  | s :: sl, j, ds, ds', h, hh => by
    have ht : ∀ k, bit ai (j + 1 + k) = true → ds'.tail[k]? = ds.tail[k]? := fun k hk => by
      have := hh (k + 1) (by rw [show j + (k + 1) = j + 1 + k by omega]; exact hk)
      cases ds <;> cases ds' <;> simp at this ⊢ <;> exact this
    unfold vw
    split
    · exact vw_ext sl _ _ _ _ ht
    · split
      · exact vw_ext sl _ _ _ _ ht
      · have hm : selO (bit ai j) (obOf ds') = selO (bit ai j) (obOf ds) := by
          cases hb : bit ai j with
          | false => rfl
          | true =>
            have h0 := hh 0 (by simp [hb])
            cases ds <;> cases ds' <;> simp at h0
            · rfl
            · rw [h0]; rfl
        rw [hm]
        congr 1
        funext h'
        exact vw_ext sl _ _ _ _ ht
open Classical in
theorem tmV_get {ai i : Nat} : ∀ (sl : List St) (seen : List Tmp) (j : Nat) (ds : DD) (tm tm' : T AV), nodupT sl seen = true → tmV ai i sl j ds tm = some tm' →
    (∀ t, (∀ (k : Nat) (s : St), sl[k]? = some s → s.dst ≠ some t) → tm'.get t = tm.get t) ∧ (∀ t, t ∈ seen → tm'.get t = tm.get t) ∧
    (∀ (k : Nat) (s : St) (t : Tmp), sl[k]? = some s → s.dst = some t → t ∉ seen ∧ tm'.get t = if bit ai (j + k) = true then (ds[k]?).map (·.1) else if i = j + k ∨ bit s.anc i = true then tm.get t else none)
  | [], _, _, _, _, _, _, h => by cases h; exact ⟨fun _ _ => rfl, fun _ _ => rfl, fun k s t hk => by simp at hk⟩
  | s :: sl, seen, j, ds, tm, tm', hn, h => by
    rw [nodupT] at hn
    rw [tmV] at h
    have tl : ∀ k, (ds.tail[k]?) = ds[k + 1]? := fun k => by cases ds <;> simp
    split at h
    · rename_i hd
      rw [hd] at hn
      obtain ⟨h1, h2, h3⟩ := tmV_get sl seen (j + 1) ds.tail tm tm' hn h
      refine ⟨fun t ht => h1 t fun k s' hk => ht (k + 1) s' (by simpa using hk), h2, fun k s' t hk hdst => ?_⟩
      cases k with
      | zero => simp at hk; subst hk; rw [hd] at hdst; cases hdst
      | succ k =>
        have := h3 k s' t (by simpa using hk) hdst
        rw [tl, show j + 1 + k = j + (k + 1) by omega] at this
        exact this
    · rename_i t0 hd
      rw [hd] at hn
      simp only at hn
      split at hn
      · cases hn
      · rename_i hne
        have hne : t0 ∉ seen := by simpa using hne
        have fin : ∀ tmx, tmV ai i sl (j + 1) ds.tail tmx = some tm' → (∀ t, t ≠ t0 → tmx.get t = tm.get t) →
            (tmx.get t0 = if bit ai j = true then (ds[0]?).map (·.1) else if i = j ∨ bit s.anc i = true then tm.get t0 else none) → _ := fun tmx hx hother hsame => by
          obtain ⟨h1, h2, h3⟩ := tmV_get sl (t0 :: seen) (j + 1) ds.tail tmx tm' hn hx
          refine (⟨fun t ht => ?_, fun t ht => ?_, fun k s' t hk hdst => ?_⟩ :
            (∀ t, (∀ (k : Nat) (s' : St), (s :: sl)[k]? = some s' → s'.dst ≠ some t) → tm'.get t = tm.get t) ∧ (∀ t, t ∈ seen → tm'.get t = tm.get t) ∧
            (∀ (k : Nat) (s' : St) (t : Tmp), (s :: sl)[k]? = some s' → s'.dst = some t → t ∉ seen ∧ tm'.get t = if bit ai (j + k) = true then (ds[k]?).map (·.1) else if i = j + k ∨ bit s'.anc i = true then tm.get t else none))
          · have hne0 : t ≠ t0 := fun hh => ht 0 s (by simp) (by rw [hd, hh])
            rw [h1 t (fun k s' hk => ht (k + 1) s' (by simpa using hk)), hother t hne0]
          · have hne0 : t ≠ t0 := fun hh => hne (hh ▸ ht)
            rw [h2 t (List.mem_cons_of_mem _ ht), hother t hne0]
          · cases k with
            | zero =>
              simp at hk; subst hk
              rw [hd] at hdst
              cases hdst
              refine ⟨hne, ?_⟩
              rw [h2 t0 (List.mem_cons_self ..), hsame]
              simp
            | succ k =>
              obtain ⟨g1, g2⟩ := h3 k s' t (by simpa using hk) hdst
              have hne0 : t ≠ t0 := fun hh => g1 (by rw [hh]; exact List.mem_cons_self ..)
              refine ⟨fun hm => g1 (List.mem_cons_of_mem _ hm), ?_⟩
              rw [g2, tl, show j + 1 + k = j + (k + 1) by omega, hother t hne0]
        split at h
        · rename_i hb
          split at h
          · rename_i x dl
            obtain ⟨tmx, hp, h⟩ := Option.bind_eq_some_iff.1 h
            have hg := T.put_get 60 tm t0 (some x.1) tmx hp
            exact fin tmx h (fun t ht => by rw [hg, if_neg ht]) (by rw [hg, if_pos rfl, hb]; simp)
          · cases h
        · rename_i hb
          split at h
          · rename_i hk
            refine fin tm h (fun _ _ => rfl) ?_
            rw [hb]
            simp only [Bool.false_eq_true, if_false]
            rw [if_pos]
            simp only [Bool.or_eq_true] at hk
            rcases hk with hk | hk
            · exact .inl (Nat.eq_of_beq_eq_true hk)
            · exact .inr hk
          · rename_i hk
            obtain ⟨tmx, hp, h⟩ := Option.bind_eq_some_iff.1 h
            have hg := T.put_get 60 tm t0 none tmx hp
            refine fin tmx h (fun t ht => by rw [hg, if_neg ht]) ?_
            rw [hg, if_pos rfl, hb]
            simp only [Bool.false_eq_true, if_false]
            rw [if_neg]
            simp only [Bool.or_eq_false_iff] at hk
            rintro (hh | hh)
            · rw [hh, Nat.beq_refl] at hk; cases hk.1
            · rw [hh] at hk; cases hk.2
/-- Is this a name that is kept for a block that the region makes, and that has not been handed on? -/
def Kept (st : List St) (vis nx0 id : Nat) : Prop := ∃ j s, id = nx0 + j ∧ st[j]? = some s ∧ s.al = true ∧ bit vis j = false
theorem vw_get {ai vis nx0 : Nat} : ∀ (sl : List St) (j : Nat) (ds : DD) (h h' : T AO), vw ai vis nx0 sl j ds h = some h' →
    (∀ id, (∀ (k : Nat) (s : St), sl[k]? = some s → s.al = true → bit vis (j + k) = false → id ≠ nx0 + (j + k)) → h'.get id = h.get id) ∧
    (∀ (k : Nat) (s : St), sl[k]? = some s → s.al = true → bit vis (j + k) = false → h'.get (nx0 + (j + k)) = if bit ai (j + k) = true then (ds[k]?).bind (·.2) else none)
  | [], _, _, _, _, h => by cases h; exact ⟨fun _ _ => rfl, fun k s hk => by simp at hk⟩
  | s :: sl, j, ds, h, h', hv => by
    have tl : ∀ k, (ds.tail[k]?) = ds[k + 1]? := fun k => by cases ds <;> simp
    unfold vw at hv
    have skip : vw ai vis nx0 sl (j + 1) ds.tail h = some h' → (s.al = false ∨ bit vis j = true) → _ := fun hv hs => by
      obtain ⟨h1, h2⟩ := vw_get sl (j + 1) ds.tail h h' hv
      refine (⟨fun id hid => h1 id fun k s' hk ha hb => ?_, fun k s' hk ha hb => ?_⟩ :
        (∀ id, (∀ (k : Nat) (s' : St), (s :: sl)[k]? = some s' → s'.al = true → bit vis (j + k) = false → id ≠ nx0 + (j + k)) → h'.get id = h.get id) ∧
        (∀ (k : Nat) (s' : St), (s :: sl)[k]? = some s' → s'.al = true → bit vis (j + k) = false → h'.get (nx0 + (j + k)) = if bit ai (j + k) = true then (ds[k]?).bind (·.2) else none))
      · have := hid (k + 1) s' (by simpa using hk) ha (by rw [show j + (k + 1) = j + 1 + k by omega]; exact hb)
        rwa [show j + (k + 1) = j + 1 + k by omega] at this
      · cases k with
        | zero =>
          simp at hk; subst hk
          rcases hs with hs | hs
          · rw [hs] at ha; cases ha
          · rw [Nat.add_zero, hs] at hb; cases hb
        | succ k =>
          have := h2 k s' (by simpa using hk) ha (by rw [show j + 1 + k = j + (k + 1) by omega]; exact hb)
          rw [tl, show j + 1 + k = j + (k + 1) by omega] at this
          exact this
    split at hv
    · rename_i ha; exact skip hv (.inl ha)
    · rename_i ha
      split at hv
      · rename_i hb; exact skip hv (.inr hb)
      · rename_i hb
        obtain ⟨hx, hp, hv⟩ := Option.bind_eq_some_iff.1 hv
        have hg := T.put_get 60 h (nx0 + j) _ hx hp
        obtain ⟨h1, h2⟩ := vw_get sl (j + 1) ds.tail hx h' hv
        refine ⟨fun id hid => ?_, fun k s' hk ha' hb' => ?_⟩
        · rw [h1 id fun k s' hk ha hb => ?_, hg, if_neg]
          · have := hid 0 s (by simp) ha (by simpa using hb)
            simpa using this
          · have := hid (k + 1) s' (by simpa using hk) ha (by rw [show j + (k + 1) = j + 1 + k by omega]; exact hb)
            rwa [show j + (k + 1) = j + 1 + k by omega] at this
        · cases k with
          | zero =>
            rw [Nat.add_zero, h1 (nx0 + j) (fun k s' _ _ _ => by omega), hg, if_pos rfl]
            cases hbi : bit ai j with
            | false => simp [selO]
            | true => cases ds <;> simp [obOf, selO]
          | succ k =>
            have := h2 k s' (by simpa using hk) ha' (by rw [show j + 1 + k = j + (k + 1) by omega]; exact hb')
            rw [tl, show j + 1 + k = j + (k + 1) by omega] at this
            exact this
end
end Go.Xe

namespace Go.Xe
noncomputable section
set_option linter.unusedSimpArgs false
set_option linter.unusedVariables false

/-- What is known of operation i, the whole region being reckoned. -/
structure Fact (A : Tab) (call : Ev) (all : List Oper) (st : List St) (nx0 : Nat) (tm0 : T AV) (D : DD) (CH : List Nat) (HS : List Hk) (i : Nat) (o : Oper) (s : St) (tm : T AV) (b : Bool) (d : AV × Option AO) : Prop where
  view : tmV s.anc i st 0 D tm0 = some tm
  want : wantA all tm o = some b
  dat : D[i]? = some d
  no : b = false → d = (.tup [], none) ∧ i ∉ CH
  q : b = true → clsA A o.op = .q → d.2 = none ∧ i ∉ CH ∧ ∃ (k : Nat) (x : Hk) (h : T AO), HS[k]? = some x ∧ vw s.anc x.vis nx0 st 0 D x.h = some h ∧ evRd A h tm o.op = some d.1
  a : b = true → clsA A o.op = .a → i ∉ CH ∧ ∃ ob k, evAl A tm o.op = some (ob, k) ∧ d = (k.val (nx0 + i), some ob)
  e : b = true → clsA A o.op = .e → d.2 = none ∧ isPan d.1 = none ∧ ∃ (p : Nat) (x y : Hk) (h : T AO), CH[p]? = some i ∧ HS[p]? = some x ∧ HS[p + 1]? = some y ∧ vw s.anc x.vis nx0 st 0 D x.h = some h ∧
    evOp A call h x.nx tm o.op = some (d.1, y.h, y.nx) ∧ y.vis = (x.vis ||| s.anc) ∧ ∀ q c, q + 1 = p → CH[q]? = some c → bit s.anc c = true

theorem getElem?_append_some {α : Type} {l m : List α} {i : Nat} {x : α} (h : l[i]? = some x) : (l ++ m)[i]? = some x := by
  rw [List.getElem?_append_left (List.getElem?_eq_some_iff.1 h).1]; exact h

/-- What is known of the operation that panics. -/
structure PFact (A : Tab) (call : Ev) (all : List Oper) (st : List St) (nx0 : Nat) (tm0 : T AV) (c : Acc) (p : Pn) (o : Oper) (s : St) (h : T AO) : Prop where
  ho : all[p.i]? = some o
  hs : st[p.i]? = some s
  view : tmV s.anc p.i st 0 c.ds tm0 = some p.tm
  want : wantA all p.tm o = some true
  cl : clsA A o.op = .e
  last : lastOk c.chain s.anc = true
  vh : vw s.anc c.cur.vis nx0 st 0 c.ds c.cur.h = some h
  op : evOp A call h c.cur.nx p.tm o.op = some (.pan p.u, p.h, p.nx)
  dead : ∀ j s', p.i < j → st[j]? = some s' → bit s'.anc p.i = true
def limOf (n : Nat) : Option Pn → Nat
  | none => n
  | some p => p.i
theorem drGo_ok {A : Tab} {call : Ev} {all : List Oper} {st : List St} {nx0 : Nat} {tm0 : T AV} (hst : sts all [] = some st) : ∀ (rest : List Oper) (i : Nat) (ss : List St) (c cF : Acc) (pn : Option Pn), drGo A call all st nx0 tm0 rest i ss c = some (cF, pn) →
    all.drop i = rest → st.drop i = ss → c.ds.length = i → c.hs.length = c.chain.length → (∀ x ∈ c.chain, x < i) → c.chain.Nodup →
    (∃ md mc mh, cF.ds = c.ds ++ md ∧ cF.chain = c.chain ++ mc ∧ cF.hs ++ [cF.cur] = (c.hs ++ [c.cur]) ++ mh ∧ cF.ds.length = limOf (i + rest.length) pn ∧ cF.hs.length = cF.chain.length ∧ (∀ x ∈ mc, i ≤ x) ∧ cF.chain.Nodup ∧
      (∀ j o s, i ≤ j → j < limOf (i + rest.length) pn → all[j]? = some o → st[j]? = some s → ∃ tm b d, Fact A call all st nx0 tm0 cF.ds cF.chain (cF.hs ++ [cF.cur]) j o s tm b d) ∧
      (∀ p, pn = some p → i ≤ p.i ∧ ∃ o s h, PFact A call all st nx0 tm0 cF p o s h))
  | [], i, ss, c, cF, pn, h, hl, hs, hd, hh, hc, hn => by
    cases h
    refine ⟨[], [], [], by simp, by simp, by simp, by simpa [limOf] using hd, hh, by simp, hn, fun j o s hij hlt hj => ?_, fun p hp => by cases hp⟩
    exfalso
    simp [limOf] at hlt
    omega
  | o :: rest, i, ss, c, cF, pn, h, hl, hs, hd, hh, hc, hn => by
    cases ss with
    | nil => cases h
    | cons s sl =>
      have ho : all[i]? = some o := by have := congrArg (·[0]?) hl; simpa [List.getElem?_drop] using this
      have hsi : st[i]? = some s := by have := congrArg (·[0]?) hs; simpa [List.getElem?_drop] using this
      have hl' : all.drop (i + 1) = rest := by have := congrArg List.tail hl; simpa [List.tail_drop] using this
      have hs' : st.drop (i + 1) = sl := by have := congrArg List.tail hs; simpa [List.tail_drop] using this
      have hlt : ∀ j, bit s.anc j = true → j < c.ds.length := fun j hj => by rw [hd]; exact anc_lt hst hsi hj
      have hext : ∀ (m : DD) (k : Nat), bit s.anc (0 + k) = true → (c.ds ++ m)[k]? = c.ds[k]? := fun m k hk => List.getElem?_append_left (hlt k (by simpa using hk))
      simp only [drGo] at h
      obtain ⟨tm, htm, h⟩ := Option.bind_eq_some_iff.1 h
      -- how to go on, once the step is made
      have go : ∀ (c1 : Acc) (d : AV × Option AO), drGo A call all st nx0 tm0 rest (i + 1) sl c1 = some (cF, pn) → c1.ds = c.ds ++ [d] → c1.hs.length = c1.chain.length → (∃ mc, c1.chain = c.chain ++ mc ∧ ∀ x ∈ mc, x = i) →
          (∃ mh, c1.hs ++ [c1.cur] = (c.hs ++ [c.cur]) ++ mh) → c1.chain.Nodup →
          (∀ md mc mh, cF.ds = c1.ds ++ md → cF.chain = c1.chain ++ mc → cF.hs ++ [cF.cur] = (c1.hs ++ [c1.cur]) ++ mh → (∀ x ∈ mc, i + 1 ≤ x) → ∃ tm b d, Fact A call all st nx0 tm0 cF.ds cF.chain (cF.hs ++ [cF.cur]) i o s tm b d) →
          (∃ md mc mh, cF.ds = c.ds ++ md ∧ cF.chain = c.chain ++ mc ∧ cF.hs ++ [cF.cur] = (c.hs ++ [c.cur]) ++ mh ∧ cF.ds.length = limOf (i + (o :: rest).length) pn ∧ cF.hs.length = cF.chain.length ∧ (∀ x ∈ mc, i ≤ x) ∧ cF.chain.Nodup ∧
            (∀ j o s, i ≤ j → j < limOf (i + (o :: rest).length) pn → all[j]? = some o → st[j]? = some s → ∃ tm b d, Fact A call all st nx0 tm0 cF.ds cF.chain (cF.hs ++ [cF.cur]) j o s tm b d) ∧
            (∀ p, pn = some p → i ≤ p.i ∧ ∃ o s h, PFact A call all st nx0 tm0 cF p o s h)) := by
        rintro c1 d hrec e1 e2 ⟨mc1, e3, e3'⟩ ⟨mh1, e4⟩ e5 hfact
        obtain ⟨md, mc, mh, k1, k2, k3, k4, k5, k6, k7, k8, k9⟩ := drGo_ok hst rest (i + 1) sl c1 cF pn hrec hl' hs' (by rw [e1]; simp [hd]) e2 (fun x hx => by
          rw [e3] at hx
          rcases List.mem_append.1 hx with hx | hx
          · exact Nat.lt_succ_of_lt (hc x hx)
          · rw [e3' x hx]; exact Nat.lt_succ_self _) e5
        have hf := hfact md mc mh k1 k2 k3 k6
        have elim : i + 1 + rest.length = i + (o :: rest).length := by simp; omega
        rw [elim] at k4 k8
        refine ⟨[d] ++ md, mc1 ++ mc, mh1 ++ mh, by rw [k1, e1]; simp, by rw [k2, e3]; simp, by rw [k3, e4]; simp, k4, k5, fun x hx => ?_, k7, fun j o' s' hij hlt hj hsj => ?_, fun p hp => ⟨by have := (k9 p hp).1; omega, (k9 p hp).2⟩⟩
        · rcases List.mem_append.1 hx with hx | hx
          · rw [e3' x hx]; exact Nat.le_refl _
          · exact Nat.le_of_succ_le (k6 x hx)
        · by_cases hji : j = i
          · subst hji
            rw [ho] at hj; rw [hsi] at hsj
            cases hj; cases hsj
            exact hf
          · exact k8 j o' s' (by omega) hlt hj hsj
      have hnot : i ∉ c.chain := fun hm => Nat.lt_irrefl _ (hc i hm)
      split at h
      · cases h
      · rename_i hw
        refine go _ (.tup [], none) h rfl hh ⟨[], by simp, by simp⟩ ⟨[], by simp⟩ hn fun md mc mh k1 k2 k3 k6 => ?_
        refine ⟨tm, false, (.tup [], none), ?_, hw, ?_, fun _ => ⟨rfl, ?_⟩, fun hb => (by cases hb), fun hb => (by cases hb), fun hb => (by cases hb)⟩
        · rw [k1, List.append_assoc, tmV_ext st 0 c.ds _ tm0 (hext _)]; exact htm
        · rw [k1, List.append_assoc, List.getElem?_append_right (by omega)]; simp [hd]
        · rw [k2]; intro hm
          rcases List.mem_append.1 hm with hm | hm
          · exact hnot hm
          · exact Nat.lt_irrefl _ (k6 i hm)
      · rename_i hw
        split at h
        · rename_i hcl
          obtain ⟨hv, hvw, h⟩ := Option.bind_eq_some_iff.1 h
          obtain ⟨v, hrd, h⟩ := Option.bind_eq_some_iff.1 h
          refine go _ (v, none) h rfl hh ⟨[], by simp, by simp⟩ ⟨[], by simp⟩ hn fun md mc mh k1 k2 k3 k6 => ?_
          have hni : i ∉ cF.chain := by
            rw [k2]; intro hm
            rcases List.mem_append.1 hm with hm | hm
            · exact hnot hm
            · exact Nat.lt_irrefl _ (k6 i hm)
          refine ⟨tm, true, (v, none), ?_, hw, ?_, fun hb => (by cases hb), fun _ _ => ⟨rfl, hni, c.hs.length, c.cur, hv, ?_, ?_, hrd⟩, fun _ hc' => (by rw [hcl] at hc'; cases hc'), fun _ hc' => (by rw [hcl] at hc'; cases hc')⟩
          · rw [k1, List.append_assoc, tmV_ext st 0 c.ds _ tm0 (hext _)]; exact htm
          · rw [k1, List.append_assoc, List.getElem?_append_right (by omega)]; simp [hd]
          · rw [k3]; exact getElem?_append_some (by simp)
          · rw [k1, List.append_assoc, vw_ext st 0 c.ds _ _ (hext _)]; exact hvw
        · rename_i hcl
          obtain ⟨⟨ob, k⟩, hal, h⟩ := Option.bind_eq_some_iff.1 h
          refine go _ (k.val (nx0 + i), some ob) h rfl hh ⟨[], by simp, by simp⟩ ⟨[], by simp⟩ hn fun md mc mh k1 k2 k3 k6 => ?_
          have hni : i ∉ cF.chain := by
            rw [k2]; intro hm
            rcases List.mem_append.1 hm with hm | hm
            · exact hnot hm
            · exact Nat.lt_irrefl _ (k6 i hm)
          refine ⟨tm, true, (k.val (nx0 + i), some ob), ?_, hw, ?_, fun hb => (by cases hb), fun _ hc' => (by rw [hcl] at hc'; cases hc'), fun _ _ => ⟨hni, ob, k, hal, rfl⟩, fun _ hc' => (by rw [hcl] at hc'; cases hc')⟩
          · rw [k1, List.append_assoc, tmV_ext st 0 c.ds _ tm0 (hext _)]; exact htm
          · rw [k1, List.append_assoc, List.getElem?_append_right (by omega)]; simp [hd]
        · rename_i hcl
          split at h
          · cases h
          · rename_i hok
            obtain ⟨hv, hvw, h⟩ := Option.bind_eq_some_iff.1 h
            obtain ⟨⟨v, h1, n1⟩, hop, h⟩ := Option.bind_eq_some_iff.1 h
            split at h
            · rename_i u hu
              split at h <;> (try (cases h; done))
              rename_i hdead
              cases h
              have hvu : v = .pan u := by
                unfold isPan at hu
                split at hu <;> (try (cases hu; done))
                rename_i u' hh
                cases hu
                exact hh
              subst hvu
              refine ⟨[], [], [], by simp, by simp, by simp, hd, hh, by simp, hn, fun j o' s' hij hlt => absurd hlt (Nat.not_lt.2 hij), fun p hp => ?_⟩
              cases hp
              refine ⟨Nat.le_refl _, o, s, hv, ho, hsi, htm, hw, hcl, hok, hvw, hop, fun j s' hlt hsj => ?_⟩
              have hlt : i < j := hlt
              have hm : s' ∈ sl := by
                rw [← hs']
                have : (st.drop (i + 1))[j - (i + 1)]? = some s' := by rw [List.getElem?_drop, show i + 1 + (j - (i + 1)) = j by omega]; exact hsj
                exact List.mem_of_getElem? this
              exact List.all_eq_true.1 hdead s' hm
            rename_i hnp
            refine go _ (v, none) h rfl (by simp [hh]) ⟨[i], rfl, by simp⟩ ⟨[⟨h1, n1, c.cur.vis ||| s.anc⟩], by simp⟩ (by
              rw [List.nodup_append]
              exact ⟨hn, by simp, fun x hx y hy => by simp at hy; subst hy; exact fun hxy => hnot (hxy ▸ hx)⟩) fun md mc mh k1 k2 k3 k6 => ?_
            simp only at k1 k2 k3
            refine ⟨tm, true, (v, none), ?_, hw, ?_, fun hb => (by cases hb), fun _ hc' => (by rw [hcl] at hc'; cases hc'), fun _ hc' => (by rw [hcl] at hc'; cases hc'),
              fun _ _ => ⟨rfl, hnp, c.hs.length, c.cur, ⟨h1, n1, c.cur.vis ||| s.anc⟩, hv, ?_, ?_, ?_, ?_, hop, rfl, ?_⟩⟩
            · rw [k1, List.append_assoc, tmV_ext st 0 c.ds _ tm0 (hext _)]; exact htm
            · rw [k1, List.append_assoc, List.getElem?_append_right (by omega)]; simp [hd]
            · rw [k2]; exact getElem?_append_some (by rw [hh]; simp)
            · rw [k3]; exact getElem?_append_some (getElem?_append_some (by simp))
            · rw [k3]; exact getElem?_append_some (by rw [List.getElem?_append_right (by simp)]; simp)
            · rw [k1, List.append_assoc, vw_ext st 0 c.ds _ _ (hext _)]; exact hvw
            · intro q x hq hx
              rw [k2, List.append_assoc, List.getElem?_append_left (by omega)] at hx
              have hlast : c.chain.getLast? = some x := by
                rw [List.getLast?_eq_getElem?, show c.chain.length - 1 = q by omega]; exact hx
              unfold lastOk at hok
              rw [hlast] at hok
              exact hok

theorem evRd_any {A : Tab} {op : Op} {tm : T AV} (hd : hdep op = false) (h h' : T AO) : evRd A h tm op = evRd A h' tm op := by
  cases op <;> first | rfl | (simp [hdep] at hd)
theorem reAt_ok {A : Tab} {st : List St} {nx0 : Nat} {chain : List Nat} {ds : DD} {tm : T AV} {ai i : Nat} {op : Op} {v : AV} : ∀ (HS : List Hk) (k0 : Nat), reAt A st nx0 chain ds tm ai i op v HS k0 = true →
    ∀ k x, HS[k]? = some x → mayAt st ai i chain 0 (k0 + k) = true → ∃ h, vw ai x.vis nx0 st 0 ds x.h = some h ∧ evRd A h tm op = some v
  | [], _, _, k, x, hk, _ => by simp at hk
  | y :: l, k0, h, k, x, hk, hm => by
    rw [reAt] at h
    simp only [Bool.and_eq_true] at h
    cases k with
    | zero =>
      simp at hk; subst hk
      have h1 := h.1
      rw [show k0 + 0 = k0 from rfl] at hm
      rw [hm] at h1
      simp only at h1
      split at h1
      · cases h1
      · rename_i hh hv
        split at h1
        · cases h1
        · rename_i u hu
          exact ⟨hh, hv, by rw [hu, beqV_ok u v h1]⟩
    | succ k => exact reAt_ok l (k0 + 1) h.2 k x (by simpa using hk) (by rw [show k0 + 1 + k = k0 + (k + 1) by omega]; exact hm)
theorem reGo_ok {A : Tab} {all : List Oper} {st : List St} {nx0 : Nat} {tm0 : T AV} {chain : List Nat} {D : DD} {HS : List Hk} : ∀ (rest : List Oper) (i0 : Nat) (ss : List St) (ds : DD), reGo A all st nx0 tm0 chain D HS rest i0 ss ds = true →
    ∀ j o s d tm, rest[j]? = some o → ss[j]? = some s → ds[j]? = some d → clsA A o.op = .q → hdep o.op = true → tmV s.anc (i0 + j) st 0 D tm0 = some tm → wantA all tm o = some true →
      ∀ k x, HS[k]? = some x → mayAt st s.anc (i0 + j) chain 0 k = true → ∃ h, vw s.anc x.vis nx0 st 0 D x.h = some h ∧ evRd A h tm o.op = some d.1
  | [], _, _, _, _, j, o, s, d, tm, hj, _, _, _, _, _, _ => by simp at hj
  | o' :: rest, i0, ss, ds, h, j, o, s, d, tm, hj, hs, hd, hcl, hdp, htm, hw => by
    cases ss with
    | nil => simp at hs
    | cons s' sl =>
      cases ds with
      | nil => simp at hd
      | cons d' dl =>
        rw [reGo] at h
        simp only [Bool.and_eq_true] at h
        cases j with
        | zero =>
          simp at hj hs hd
          subst hj; subst hs; subst hd
          have h1 := h.1
          rw [hcl] at h1
          simp only [hdp] at h1
          rw [Nat.add_zero] at htm
          rw [htm] at h1
          simp only [hw] at h1
          intro k x hk hm
          exact reAt_ok HS 0 h1 k x hk (by simpa using hm)
        | succ j =>
          have := reGo_ok rest (i0 + 1) sl dl h.2 j o s d tm (by simpa using hj) (by simpa using hs) (by simpa using hd) hcl hdp (by rw [show i0 + 1 + j = i0 + (j + 1) by omega]; exact htm) hw
          rw [show i0 + 1 + j = i0 + (j + 1) by omega] at this
          exact this
theorem mayAt_ok {st : List St} {ai i : Nat} : ∀ (chain : List Nat) (p k : Nat), (∀ q c, chain[q]? = some c → p + q < k → ∀ s, st[c]? = some s → bit s.anc i = false) → (∀ q c, chain[q]? = some c → k ≤ p + q → bit ai c = false) → mayAt st ai i chain p k = true
  | [], _, _, _, _ => rfl
  | c :: cs, p, k, h1, h2 => by
    rw [mayAt]
    have tl := mayAt_ok (ai := ai) (i := i) (st := st) cs (p + 1) k (fun q c hq hk => h1 (q + 1) c (by simpa using hq) (by omega)) (fun q c hq hk => h2 (q + 1) c (by simpa using hq) (by omega))
    split
    · rename_i hlt
      have hlt := blt_iff.1 hlt
      rw [tl, Bool.and_true]
      split
      · rename_i s hs
        rw [h1 0 c (by simp) (by omega) s hs]; rfl
      · rfl
    · rename_i hlt
      have hlt : ¬ p < k := fun hh => by rw [blt_iff.2 hh] at hlt; cases hlt
      rw [tl, Bool.and_true, h2 0 c (by simp) (by omega)]
      rfl
end
end Go.Xe

namespace Go.Xe
noncomputable section
set_option linter.unusedSimpArgs false
set_option linter.unusedVariables false

theorem nodupT_spec : ∀ (sl : List St) (seen : List Tmp), nodupT sl seen = true → (∀ (k : Nat) (s : St) (t : Tmp), sl[k]? = some s → s.dst = some t → t ∉ seen) ∧
    ∀ (k k' : Nat) (s s' : St) (t : Tmp), sl[k]? = some s → sl[k']? = some s' → s.dst = some t → s'.dst = some t → k = k'
  | [], _, _ => ⟨fun k s t h => by simp at h, fun k k' s s' t h => by simp at h⟩
  | s0 :: sl, seen, h => by
    rw [nodupT] at h
    split at h
    · rename_i hd
      obtain ⟨h1, h2⟩ := nodupT_spec sl seen h
      refine ⟨fun k s t hk hs => ?_, fun k k' s s' t hk hk' hs hs' => ?_⟩
      · cases k with
        | zero => simp at hk; subst hk; rw [hd] at hs; cases hs
        | succ k => exact h1 k s t (by simpa using hk) hs
      · cases k with
        | zero => simp at hk; subst hk; rw [hd] at hs; cases hs
        | succ k => cases k' with
          | zero => simp at hk'; subst hk'; rw [hd] at hs'; cases hs'
          | succ k' => rw [h2 k k' s s' t (by simpa using hk) (by simpa using hk') hs hs']
    · rename_i t0 hd
      split at h
      · cases h
      · rename_i hne
        have hne : t0 ∉ seen := by simpa using hne
        obtain ⟨h1, h2⟩ := nodupT_spec sl (t0 :: seen) h
        refine ⟨fun k s t hk hs => ?_, fun k k' s s' t hk hk' hs hs' => ?_⟩
        · cases k with
          | zero => simp at hk; subst hk; rw [hd] at hs; cases hs; exact hne
          | succ k => exact fun hm => h1 k s t (by simpa using hk) hs (List.mem_cons_of_mem _ hm)
        · cases k with
          | zero =>
            simp at hk; subst hk; rw [hd] at hs; cases hs
            cases k' with
            | zero => rfl
            | succ k' => exact (h1 k' s' t0 (by simpa using hk') hs' (List.mem_cons_self ..)).elim
          | succ k => cases k' with
            | zero => simp at hk'; subst hk'; rw [hd] at hs'; cases hs'; exact (h1 k s t0 (by simpa using hk) hs (List.mem_cons_self ..)).elim
            | succ k' => rw [h2 k k' s s' t (by simpa using hk) (by simpa using hk') hs hs']

open Classical in
noncomputable def gV (st : List St) (D : DD) (nx0 vis : Nat) (L : Nat → Prop) (h : T AO) (id : Nat) : Option AO :=
  if Kept st vis nx0 id then (if L (id - nx0) then (D[id - nx0]?).bind (·.2) else none) else h.get id

structure Inv (st : List St) (all : List Oper) (D : DD) (CH : List Nat) (HS : List Hk) (N R : Nat) (B : Bs) (nx0 : Nat) (tm0 : T AV) (e0 : Env) (h0 : T AO) (w0 : World) (ds : List Deferred) (L : Nat → Prop) (k : Nat) (x : Hk) (e : Env) (a : Act) (w : World) : Prop where
  hk : HS[k]? = some x
  size : a.tmps.size = N
  defs : a.defers = ds
  t1 : ∀ (j : Nat) (s : St) (t : Tmp) (d : AV × Option AO), st[j]? = some s → s.dst = some t → L j → D[j]? = some d → ∃ V, a.tmps[t]? = some V ∧ VR e d.1 V
  t2 : ∀ t v, (∀ (j : Nat) (s : St), st[j]? = some s → s.dst = some t → ¬ L j) → tm0.get t = some v → ∃ V, a.tmps[t]? = some V ∧ VR e v V
  obj : ∀ i o, gV st D nx0 x.vis L x.h i = some o → ∃ b O, e.blk i = some b ∧ w.heap[b]? = some O ∧ OR e i o O
  inj : ∀ i j o o' b, gV st D nx0 x.vis L x.h i = some o → gV st D nx0 x.vis L x.h j = some o' → e.blk i = some b → e.blk j = some b → i = j
  fresh : ∀ i, x.nx ≤ i → e.blk i = none
  res : ∀ j, j < all.length → ¬ L j → e.blk (nx0 + j) = none
  glob : ∀ g, g < R → e.blk g = some g
  own : ∀ i o b, R ≤ i → gV st D nx0 x.vis L x.h i = some o → e.blk i = some b → B.n ≤ b
  base : B.n ≤ w.heap.size ∧ R ≤ B.n ∧ R ≤ nx0 ∧ ∀ k, k < B.n → w.heap[k]? = B.H k
  nxle : nx0 + all.length ≤ x.nx
  le : e0.le e
  os : w.os = w0.os
  tape : w.tape = w0.tape
  output : w.output = w0.output
  grown : w0.heap.size ≤ w.heap.size
  blk : ∀ b, b < w0.heap.size → (∀ i o, R ≤ i → h0.get i = some o → e0.blk i ≠ some b) → w.heap[b]? = w0.heap[b]?
  img : ∀ i o b, R ≤ i → gV st D nx0 x.vis L x.h i = some o → e.blk i = some b → b < w0.heap.size → ∃ j p, R ≤ j ∧ h0.get j = some p ∧ e0.blk j = some b
  old : ∀ i, i < nx0 → e.blk i = e0.blk i
  chain : ∀ (p c : Nat), CH[p]? = some c → (L c ↔ p < k)
  vis : ∀ j, bit x.vis j = true → L j
  dc : ∀ (i : Nat) (o : Oper), all[i]? = some o → L i → ∀ e ∈ o.after.toList, bnd e = true → L e.on

section
variable {P : Program} {A : Tab} {call : Ev} {all : List Oper} {st : List St} {D : DD} {CH : List Nat} {HS : List Hk} {N nx0 : Nat} {B : Bs} {tm0 : T AV} {e0 : Env} {h0 : T AO} {w0 : World} {ds : List Deferred}
  {L : Nat → Prop} {k : Nat} {x : Hk} {e : Env} {a : Act} {w : World}

/-- What a view shows is there. -/
theorem vw_sub (hst : sts all [] = some st) (I : Inv st all D CH HS N A.R B nx0 tm0 e0 h0 w0 ds L k x e a w) {ai : Nat} {h : T AO} (hai : ∀ j, bit ai j = true → L j) (hv : vw ai x.vis nx0 st 0 D x.h = some h) :
    ∀ id o, h.get id = some o → gV st D nx0 x.vis L x.h id = some o := by
  intro id o ho
  obtain ⟨g1, g2⟩ := vw_get st 0 D x.h h hv
  unfold gV
  by_cases hK : Kept st x.vis nx0 id
  · rw [if_pos hK]
    obtain ⟨j, s, rfl, hs, ha, hb⟩ := hK
    have := g2 j s hs ha (by simpa using hb)
    rw [Nat.zero_add] at this
    rw [this] at ho
    rw [Nat.add_sub_cancel_left]
    split at ho
    · rename_i hbi
      rw [if_pos (hai j hbi)]; exact ho
    · cases ho
  · rw [if_neg hK, ← g1 id fun j s hs ha hb hid => hK ⟨j, s, by simpa using hid, hs, ha, by simpa using hb⟩]
    exact ho
theorem Inv.sim (I : Inv st all D CH HS N A.R B nx0 tm0 e0 h0 w0 ds L k x e a w) {h : T AO} (hsub : ∀ id o, h.get id = some o → gV st D nx0 x.vis L x.h id = some o) : Sim A.R B e h x.nx w :=
  ⟨fun i o hi => I.obj i o (hsub i o hi), fun i j o o' b hi hj => I.inj i j o o' b (hsub i o hi) (hsub j o' hj), I.fresh, I.glob, fun i o b hR hi => I.own i o b hR (hsub i o hi),
    ⟨I.base.1, I.base.2.1, by have := I.base.2.2.1; have := I.nxle; omega, I.base.2.2.2⟩⟩
/-- The temporaries that an operation may see are there. -/
theorem Inv.tmR (hst : sts all [] = some st) (hnd : nodupT st [] = true) (I : Inv st all D CH HS N A.R B nx0 tm0 e0 h0 w0 ds L k x e a w) {i : Nat} {ai : Nat} {tm : T AV} (hai : ∀ j, bit ai j = true → L j)
    (hlat : ∀ (j : Nat) (s : St), st[j]? = some s → (i = j ∨ bit s.anc i = true) → ¬ L j) (hv : tmV ai i st 0 D tm0 = some tm) : TmR e tm a.tmps := by
  obtain ⟨g1, _, g3⟩ := tmV_get st [] 0 D tm0 tm hnd hv
  intro t v ht
  by_cases hex : ∃ (j : Nat) (s : St), st[j]? = some s ∧ s.dst = some t
  · obtain ⟨j, s, hs, hd⟩ := hex
    have := (g3 j s t hs hd).2
    rw [Nat.zero_add] at this
    rw [this] at ht
    split at ht
    · rename_i hb
      cases hD : D[j]? with
      | none => rw [hD] at ht; cases ht
      | some d =>
        rw [hD] at ht
        cases ht
        exact I.t1 j s t d hs hd (hai j hb) hD
    · split at ht
      · rename_i hk
        refine I.t2 t v (fun j' s' hs' hd' => ?_) ht
        obtain rfl := (nodupT_spec st [] hnd).2 j' j s' s t hs' hs hd' hd
        rw [hs] at hs'
        cases hs'
        exact hlat _ s hs hk
      · cases ht
  · have hno : ∀ (j : Nat) (s : St), st[j]? = some s → s.dst ≠ some t := fun j s hs hd => hex ⟨j, s, hs, hd⟩
    rw [g1 t hno] at ht
    exact I.t2 t v (fun j s hs hd => (hno j s hs hd).elim) ht

/-- The temporaries behind an operation. -/
theorem tms_step (hnd : nodupT st [] = true) (hdn : ∀ (j : Nat) (s : St) (t : Tmp), st[j]? = some s → s.dst = some t → t < N) (I : Inv st all D CH HS N A.R B nx0 tm0 e0 h0 w0 ds L k x e a w) {i : Nat} {s : St} {d : AV × Option AO} {e' : Env} {V : Value} (hs : st[i]? = some s)
    (hd : D[i]? = some d) (hni : ¬ L i) (hle : e.le e') (hV : VR e' d.1 V) :
    (∀ (j : Nat) (s' : St) (t : Tmp) (d' : AV × Option AO), st[j]? = some s' → s'.dst = some t → (L j ∨ j = i) → D[j]? = some d' → ∃ V', (a.put s.dst V).tmps[t]? = some V' ∧ VR e' d'.1 V') ∧
    (∀ (t : Tmp) (v : AV), (∀ (j : Nat) (s' : St), st[j]? = some s' → s'.dst = some t → ¬ (L j ∨ j = i)) → tm0.get t = some v → ∃ V', (a.put s.dst V).tmps[t]? = some V' ∧ VR e' v V') ∧ (a.put s.dst V).tmps.size = N ∧ (a.put s.dst V).defers = ds := by
  have hsz : (a.put s.dst V).tmps.size = N ∧ (a.put s.dst V).defers = ds := by
    cases hsd : s.dst with
    | none => exact ⟨I.size, I.defs⟩
    | some t => exact ⟨by simp [Act.put, I.size], I.defs⟩
  have hother : ∀ t, s.dst ≠ some t → (a.put s.dst V).tmps[t]? = a.tmps[t]? := by
    intro t ht
    cases hsd : s.dst with
    | none => rfl
    | some t' =>
      have : t' ≠ t := fun hh => ht (by rw [hsd, hh])
      simp [Act.put, Array.getElem?_setIfInBounds, this]
  have hsame : ∀ t, s.dst = some t → (a.put s.dst V).tmps[t]? = some V := by
    intro t ht
    have hlt := hdn i s t hs ht
    rw [ht]
    simp [Act.put, I.size, hlt]
  refine ⟨fun j s' t d' hs' hd' hL hD => ?_, fun t v hno ht => ?_, hsz.1, hsz.2⟩
  · by_cases hji : j = i
    · subst hji
      rw [hs] at hs'; cases hs'
      rw [hd] at hD; cases hD
      exact ⟨V, hsame t hd', hV⟩
    · have hne : s.dst ≠ some t := fun hh => hji ((nodupT_spec st [] hnd).2 j i s' s t hs' hs hd' hh)
      obtain ⟨V', h1, h2⟩ := I.t1 j s' t d' hs' hd' (hL.resolve_right hji) hD
      exact ⟨V', by rw [hother t hne]; exact h1, h2.mono hle⟩
  · have hne : s.dst ≠ some t := fun hh => hno i s hs hh (.inr rfl)
    obtain ⟨V', h1, h2⟩ := I.t2 t v (fun j s' hs' hd' hL => hno j s' hs' hd' (.inl hL)) ht
    exact ⟨V', by rw [hother t hne]; exact h1, h2.mono hle⟩
theorem gV_same {i vis : Nat} {d : AV × Option AO} {h : T AO} (hd : D[i]? = some d) (h2 : d.2 = none) (hni : ¬ L i) : gV st D nx0 vis (fun j => L j ∨ j = i) h = gV st D nx0 vis L h := by
  funext id
  unfold gV
  by_cases hK : Kept st vis nx0 id
  · rw [if_pos hK, if_pos hK]
    by_cases hi : id - nx0 = i
    · rw [hi, if_pos (Or.inr rfl), if_neg hni, hd]; exact h2
    · by_cases hL : L (id - nx0)
      · rw [if_pos (Or.inl hL), if_pos hL]
      · rw [if_neg (fun hh => hh.elim hL hi), if_neg hL]
  · rw [if_neg hK, if_neg hK]

/-- An operation that changes nothing in memory. -/
theorem Inv.quiet (hnd : nodupT st [] = true) (hdn : ∀ (j : Nat) (s : St) (t : Tmp), st[j]? = some s → s.dst = some t → t < N) (I : Inv st all D CH HS N A.R B nx0 tm0 e0 h0 w0 ds L k x e a w) {i : Nat} {o : Oper} {s : St} {d : AV × Option AO} {V : Value} (ho : all[i]? = some o) (hs : st[i]? = some s)
    (hd : D[i]? = some d) (h2 : d.2 = none) (hni : ¬ L i) (hch : i ∉ CH) (hedge : ∀ e ∈ o.after.toList, bnd e = true → L e.on) (hV : VR e d.1 V) :
    Inv st all D CH HS N A.R B nx0 tm0 e0 h0 w0 ds (fun j => L j ∨ j = i) k x e (a.put s.dst V) w := by
  obtain ⟨q1, q2, q3, q4⟩ := tms_step hnd hdn I hs hd hni e.le_refl hV
  have hg : gV st D nx0 x.vis (fun j => L j ∨ j = i) x.h = gV st D nx0 x.vis L x.h := gV_same hd h2 hni
  exact { hk := I.hk, size := q3, defs := q4, t1 := q1, t2 := q2, obj := by rw [hg]; exact I.obj, inj := by rw [hg]; exact I.inj, fresh := I.fresh, res := fun j hj hL => I.res j hj fun hh => hL (.inl hh),
          glob := I.glob, own := by rw [hg]; exact I.own, base := I.base, nxle := I.nxle, le := I.le, os := I.os, tape := I.tape, output := I.output, grown := I.grown, blk := I.blk, img := by rw [hg]; exact I.img, old := I.old,
          chain := fun p c hc => by
            have hci : c ≠ i := fun hh => hch (hh ▸ List.mem_of_getElem? hc)
            rw [← I.chain p c hc]
            exact ⟨fun hh => hh.resolve_right hci, .inl⟩,
          vis := fun j hj => .inl (I.vis j hj),
          dc := fun j o' hj hL e he hb => by
            rcases hL with hL | rfl
            · exact .inl (I.dc j o' hj hL e he hb)
            · rw [ho] at hj; cases hj; exact .inl (hedge e he hb) }
end
end
end Go.Xe

