/- What is known of strconv's numDigits at 2^63, where the table of the powers of ten starts as the program lays it. -/
import Derived.Test.YtbdegmhpdjpppaaGreatDoorTab
import Derived.Test.YtbdegmhpdjpppaaGreatDoorEv5
import Derived.Lib.LaidTab
import Derived.Lib.ItoaNum
namespace Go.Proofs.YtbdegmhpdjpppaaGreatDoor
open Go.RowKit
open Go Go.Xe

noncomputable def tabG : Tab := ⟨tabT, tabF, 1, tab.ext, tabL, tabC⟩
theorem tabG_ok : tabG.Ok Tryz.prog := ⟨tab_ok.ty, tab_ok.fn, tab_ok.ext, tab_ok.lies, tab_ok.cmp⟩
theorem nd_follows : Tryz.prog.follows .mixedOrders = true := by kernel_rfl
/-- The table. -/
def pw : List Int := [1, 10, 100, 1000, 10000, 100000, 1000000, 10000000, 100000000, 1000000000, 10000000000, 100000000000, 1000000000000, 10000000000000, 100000000000000, 1000000000000000, 10000000000000000, 100000000000000000, 1000000000000000000, 10000000000000000000]
theorem pw_eq : Lib.pow10Tab = pw := by kernel_rfl
def pwA : List AV := pw.map fun z => .int .u64 z
theorem pw_rs (e : Env) : ∀ l : List Int, VRs e (l.map fun z => AV.int .u64 z) (l.map fun z => Value.int .u64 z)
  | [] => .nil
  | _ :: l => .cons _ _ _ _ (.int _ _) (pw_rs e l)
def pwH : T AO := .node .leaf (some (.rom pwA)) .leaf
set_option maxRecDepth 10000000 in
theorem nd_run : (match evCall tabG 100 50 65 [.int .u64 9223372036854775808] pwH 1 with | some (.int .i64 n, _, _) => decide (n = 19) | _ => false) = true := by kernel_rfl
theorem nd_c (w : World) (hT : Lib.TabIs Tryz.prog w "internal/strconv.uint64pow10" .u64 Lib.pow10Tab) :
    Calls Tryz.prog 65 ⟨[.int .u64 9223372036854775808]⟩ w fun e w' => e = .returned (.int .i64 19) ∧ Below w.heap.size w w' := by
  have hg : Tryz.prog.globalNamed "internal/strconv.uint64pow10" = some 0 := by kernel_rfl
  unfold Lib.TabIs World.var? at hT
  rw [hg, pw_eq] at hT
  simp only [Option.bind_some] at hT
  have h := nd_run
  split at h <;> (try (cases h; done))
  rename_i n h' n' hv
  have hn : n = 19 := of_decide_eq_true h
  subst hn
  split at hT <;> (try (cases hT; done))
  rename_i cs t fz hO
  obtain rfl := Option.some.inj hT
  refine (run_glob (A := tabG) tabG_ok nd_follows hv w (fun i o ho => ?_) ?_ (.cons _ _ _ _ (.int _ _) .nil)).mono ?_
  · cases i with
    | zero =>
      cases ho
      exact ⟨by decide, _, hO, pw.map fun z => Value.int .u64 z, t, fz, rfl, pw_rs _ pw⟩
    | succ i =>
      have hn : pwH.get (i + 1) = none := by
        show (T.node .leaf (some (.rom pwA)) .leaf : T AO).get (i + 1) = none
        rw [T.get_succ]
        split <;> rfl
      rw [hn] at ho; cases ho
  · have := (Array.getElem?_eq_some_iff.1 hO).1
    show 1 ≤ w.heap.size
    omega
  · rintro E w' ⟨V, e', rfl, hV, hb⟩
    cases hV
    exact ⟨rfl, hb⟩
def ndS : List AV → T AO → Nat → Option (AV × T AO × Nat)
  | [.int .u64 (.ofNat m)], h, nx => match Nat.beq m 9223372036854775808 with
    | true => some (.int .i64 19, h, nx)
    | false => none
  | _, _, _ => none
theorem nd_enters : ∀ ays w, (callFunc 65 ays).run Tryz.prog w = .ok (.enter 65 ays) w := fun xs w => Tryz.call65 xs w
theorem nd_ok (W : World) (hT : Lib.TabIs Tryz.prog W "internal/strconv.uint64pow10" .u64 Lib.pow10Tab) : FOk tab Tryz.prog (baseOf W) 65 ndS := by
  intro args h nx v h' nx' hv e w ARGS s ha
  unfold ndS at hv
  split at hv <;> (try (cases hv; done))
  split at hv <;> (try (cases hv; done))
  rename_i m _ _ hm
  cases hv
  have hm := Nat.eq_of_beq_eq_true hm
  subst hm
  cases ha with
  | cons _ _ _ _ r1 r2 =>
    cases r2; cases r1
    have hg : Tryz.prog.globalNamed "internal/strconv.uint64pow10" = some 0 := by kernel_rfl
    have hlt : 0 < W.heap.size := by
      have hT' := hT
      unfold Lib.TabIs World.var? at hT'
      rw [hg] at hT'
      simp only [Option.bind_some] at hT'
      split at hT' <;> (try (cases hT'; done))
      rename_i hO
      exact (Array.getElem?_eq_some_iff.1 hO).1
    have h00 : w.heap[0]? = W.heap[0]? := s.base.2.2.2 0 hlt
    have hT2 : Lib.TabIs Tryz.prog w "internal/strconv.uint64pow10" .u64 Lib.pow10Tab := by
      unfold Lib.TabIs World.var? at hT ⊢
      rw [hg] at hT ⊢
      simp only [Option.bind_some] at hT ⊢
      rw [h00]
      exact hT
    refine (nd_c w hT2).mono ?_
    rintro E w' ⟨rfl, hb⟩
    obtain ⟨s', st'⟩ := s.belowW hb
    exact ⟨_, e, rfl, .int _ _, s', st'⟩
end Go.Proofs.YtbdegmhpdjpppaaGreatDoor
