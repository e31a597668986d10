/- Skb, Skc, Skd, Ske, Skf in one text. -/
import Derived.Test.YtlhkjmckigblpaaGreatDoorSka
/- Skb: Skb: CodePuts, region 7: pair 0. -/
namespace Go.Proofs.YtlhkjmckigblpaaGreatDoor
open Go.RowKit Go.Shelf Vp Cp Tx Rm
open Go
attribute [local go_sem] Oper.semAt_some

set_option maxRecDepth 100000 in
set_option maxHeartbeats 4000000 in
theorem pair0 {Q : Exit → Act → World → Prop} {S : World → Prop} (hQ : ∀ h (a : Act) w d v, Q (.panic h) (a.put (some d) v) w → Q (.panic h) a w) (l : List UInt8) (hL : l.length ≤ 1048576) (ub vk : Value) (n c : Int) (s : ByteArray) (b : Bool) (pw : Nat) (y5 y6 y7 y8 y9 y10 y14 y15 y16 y17 y18 y19 y20 y73 y74 y75 y76 y77 y78 y79 y80 : Value)
    (w1 : World) (HC1 : Hid (∀ W', Below w1.heap.size w1 W' → S W')) (HU1 : Hid (∀ W', Below w1.heap.size w1 W' → Hands W' ub l))
    (hn0 : -9223372036854775808 ≤ n) (hn1 : n ≤ 9223372036854775807)
    (a : Act) (ha : GoodA ub vk n c s b pw y5 y6 y7 y8 y9 y10 y14 y15 y16 y17 y18 y19 y20 y73 y74 y75 y76 y77 y78 y79 y80 a) (WD : World) (hB : Below w1.heap.size w1 WD) (hK : Bys w1.heap.size l WD vk)
    (hnext : ∀ a' X, Good33 ub vk n c s b pw y5 y6 y7 y8 y9 y10 y14 y15 y16 y17 y18 y19 y20 y73 y74 y75 y76 y77 y78 y79 y80 a' → Below w1.heap.size w1 X → Bys w1.heap.size l X vk → wpAnyT Tryz.prog .any ops7 Q S 44 39 (mask7 9) a' X) :
    wpAnyT Tryz.prog .any ops7 Q S 44 48 (mask7 0) a WD := by
  have HB0 := Lib.hid hB; have HK0 := Lib.hid hK; have HL := Lib.hid hL; have HQ := Lib.hid hQ; have HNX := Lib.hid hnext
  have HN0 := Lib.hid hn0; have HN1 := Lib.hid hn1; clear hn0 hn1
  clear hB hK hL hQ hnext
  obtain ⟨t12, t21, t22, t23, t24, t25, t26, t27, t28, t29, t30, t31, t32, t33, t34, t35, t36, t37, t38, t39, t40, t41, t42, t43, t44, t45, t46, t47, t48, t49, t50, t51, t52, t53, t54, t55, t56, t57, t58, t59, t60, t61, t62, t63, t64, t65, t66, t67, t68, t69, t70, t71, t72, rfl⟩ := ha
  refine T_takeD (i := 0) (v := ub) o7_0 (by kernel_rfl) (fun _ _ _ h => HQ.out _ _ _ _ _ h) rfl (fun W hS => by go_simp) (HC1.out _ HB0.out) ?_
  go_simp
  refine T_takeD (i := 1) (v := .int .i64 n) o7_1 (by kernel_rfl) (fun _ _ _ h => HQ.out _ _ _ _ _ h) rfl (fun W hS => by go_simp) (HC1.out _ HB0.out) ?_
  go_simp
  refine T_takeD (i := 3) (v := vk) o7_3 (by kernel_rfl) (fun _ _ _ h => HQ.out _ _ _ _ _ h) rfl (fun W hS => by go_simp) (HC1.out _ HB0.out) ?_
  go_simp
  refine T_takeD (i := 4) (v := .int .i64 n) o7_4 (by kernel_rfl) (fun _ _ _ h => HQ.out _ _ _ _ _ h) rfl (fun W hS => by go_simp) (HC1.out _ HB0.out) ?_
  go_simp
  have HLE0 : Hid ((l ++ numB n).length ≤ 70000000000000) := Lib.hid (by have h9 := num_len ⟨HN0.out, HN1.out⟩; have := HL.out; rw [List.length_append]; omega)
  refine T_one (i := 2) o7_2 (by kernel_rfl) rfl ?_
  refine op_callT #[ub, .int .i64 n] (by simp [go_sem]) (enters_of Tryz.func11 (by kernel_rfl) rfl _ _) (num_h l ub n HN0.out HN1.out WD (HU1.out _ HB0.out) (by have := HL.out; omega)) ?_
  rintro e X0a ⟨r0, rfl, hy, hb⟩
  have HY0 := Lib.hid hy; have HS0 := Lib.hid hb; have HB1 := Lib.hid (HB0.out.trans (hb.mono HB0.out.size)); have HK1 := Lib.hid (HK0.out.under hb)
  clear hy hb
  refine ⟨_, rfl, (fun _ => HC1.out _ HB1.out), ?_⟩
  go_simp
  refine T_one (i := 5) o7_5 (by kernel_rfl) rfl ?_
  refine op_callT #[vk, .int .i64 n] (by simp [go_sem]) (enters_of Tryz.func29 (by kernel_rfl) rfl _ _) (rnum_c l vk n HN0.out HN1.out X0a (hands_of HK1.out) (by have := HL.out; omega)) ?_
  rintro e X0b ⟨q0, rfl, hy, hb⟩
  have HZ0 := Lib.hid hy; have HY10 := Lib.hid (HY0.out.under hb); have HS10 := Lib.hid (HS0.out.trans (hb.mono HS0.out.size)); have HB2 := Lib.hid (HB1.out.trans (hb.mono HB1.out.size))
  clear hy hb
  refine ⟨_, rfl, (fun _ => HC1.out _ HB2.out), ?_⟩
  go_simp
  refine T_one (i := 6) o7_6 (by kernel_rfl) rfl ?_
  refine op_callT #[r0, q0] (by simp [go_sem]) (enters_of Tryz.func28 (by kernel_rfl) rfl _ _) (lawput_c WD.heap.size (l ++ numB n) r0 q0 X0b HY10.out HZ0.out.sees HLE0.out) ?_
  rintro e X0c ⟨rfl, hb⟩
  have HS20 := Lib.hid (HS10.out.trans hb)
  have HB3 := Lib.hid (HB0.out.trans (HS20.out.mono HB0.out.size)); have HK3 := Lib.hid (HK0.out.under HS20.out)
  clear hb HY0 HY10 HZ0 HS0 HS10 HS20 HK1 HB1 HB2
  refine ⟨_, rfl, (fun _ => HC1.out _ HB3.out), ?_⟩
  go_simp
  refine T_one (i := 7) o7_7 (by kernel_rfl) rfl ?_
  go_simp
  refine ⟨HC1.out _ HB3.out, ?_⟩
  refine T_one (i := 8) o7_8 (by kernel_rfl) rfl ?_
  go_simp
  refine ⟨HC1.out _ HB3.out, ?_⟩
  exact relist (by kernel_rfl) (HNX.out _ _ ⟨_, _, _, _, _, _, _, _, _, _, _, _, _, _, _, _, _, _, _, _, _, _, _, _, _, _, _, _, _, _, _, _, _, _, _, _, _, _, _, _, _, _, _, _, _, _, _, _, _, _, _, _, rfl⟩ HB3.out HK3.out)
end Go.Proofs.YtlhkjmckigblpaaGreatDoor
/- Skc: Skc: CodePuts, region 7: pair 1. -/
namespace Go.Proofs.YtlhkjmckigblpaaGreatDoor
open Go.RowKit Go.Shelf Vp Cp Tx Rm
open Go
attribute [local go_sem] Oper.semAt_some

set_option maxRecDepth 100000 in
set_option maxHeartbeats 4000000 in
theorem pair1 {Q : Exit → Act → World → Prop} {S : World → Prop} (hQ : ∀ h (a : Act) w d v, Q (.panic h) (a.put (some d) v) w → Q (.panic h) a w) (l : List UInt8) (hL : l.length ≤ 1048576) (ub vk : Value) (n c : Int) (s : ByteArray) (b : Bool) (pw : Nat) (y5 y6 y7 y8 y9 y10 y14 y15 y16 y17 y18 y19 y20 y73 y74 y75 y76 y77 y78 y79 y80 : Value)
    (w1 : World) (HC1 : Hid (∀ W', Below w1.heap.size w1 W' → S W')) (HU1 : Hid (∀ W', Below w1.heap.size w1 W' → Hands W' ub l))
    (a : Act) (ha : Good33 ub vk n c s b pw y5 y6 y7 y8 y9 y10 y14 y15 y16 y17 y18 y19 y20 y73 y74 y75 y76 y77 y78 y79 y80 a) (X0c : World) (hB : Below w1.heap.size w1 X0c) (hK : Bys w1.heap.size l X0c vk)
    (hnext : ∀ a' X, Good43 ub vk n c s b pw y5 y6 y7 y8 y9 y10 y14 y15 y16 y17 y18 y19 y20 y73 y74 y75 y76 y77 y78 y79 y80 a' → Below w1.heap.size w1 X → Bys w1.heap.size l X vk → wpAnyT Tryz.prog .any ops7 Q S 44 29 (mask7 19) a' X) :
    wpAnyT Tryz.prog .any ops7 Q S 44 39 (mask7 9) a X0c := by
  have HB3 := Lib.hid hB; have HK3 := Lib.hid hK; have HL := Lib.hid hL; have HQ := Lib.hid hQ; have HNX := Lib.hid hnext
  clear hB hK hL hQ hnext
  obtain ⟨t12, t21, t22, t23, t24, t25, t26, t27, t28, t29, t30, t31, t32, t34, t35, t36, t37, t38, t39, t40, t41, t42, t43, t44, t45, t46, t47, t48, t49, t50, t51, t52, t53, t54, t55, t56, t57, t58, t59, t60, t61, t62, t63, t64, t65, t66, t67, t68, t69, t70, t71, t72, rfl⟩ := ha
  refine T_takeD (i := 9) (v := ub) o7_9 (by kernel_rfl) (fun _ _ _ h => HQ.out _ _ _ _ _ h) rfl (fun W hS => by go_simp) (HC1.out _ HB3.out) ?_
  go_simp
  refine T_takeD (i := 10) (v := .int .i64 c) o7_10 (by kernel_rfl) (fun _ _ _ h => HQ.out _ _ _ _ _ h) rfl (fun W hS => by go_simp) (HC1.out _ HB3.out) ?_
  go_simp
  refine T_takeD (i := 12) (v := vk) o7_12 (by kernel_rfl) (fun _ _ _ h => HQ.out _ _ _ _ _ h) rfl (fun W hS => by go_simp) (HC1.out _ HB3.out) ?_
  go_simp
  refine T_takeD (i := 13) (v := .int .i64 c) o7_13 (by kernel_rfl) (fun _ _ _ h => HQ.out _ _ _ _ _ h) rfl (fun W hS => by go_simp) (HC1.out _ HB3.out) ?_
  go_simp
  have HLE1 : Hid ((l ++ cntB c).length ≤ 70000000000000) := Lib.hid (by have h9 := cnt_le c; have := HL.out; rw [List.length_append]; omega)
  refine T_one (i := 11) o7_11 (by kernel_rfl) rfl ?_
  refine op_guard ?_
  refine op_callT #[ub, .int .i64 c] (by simp [go_sem]) (enters_of Tryz.func10 (by kernel_rfl) rfl _ _) (count_h l ub c X0c (HU1.out _ HB3.out) (by have := HL.out; omega)) ?_
  rintro e X1a ⟨r1, rfl, hy, hb⟩
  have HY1 := Lib.hid hy; have HS1 := Lib.hid hb; have HB4 := Lib.hid (HB3.out.trans (hb.mono HB3.out.size)); have HK4 := Lib.hid (HK3.out.under hb)
  clear hy hb
  refine ⟨_, rfl, (fun _ => HC1.out _ HB4.out), ?_⟩
  go_simp
  refine T_one (i := 14) o7_14 (by kernel_rfl) rfl ?_
  refine op_guard ?_
  refine op_callT #[vk, .int .i64 c] (by simp [go_sem]) (enters_of Tryz.func30 (by kernel_rfl) rfl _ _) (rcount_c l vk c X1a (hands_of HK4.out) (by have := HL.out; omega)) ?_
  rintro e X1b ⟨q1, rfl, hy, hb⟩
  have HZ1 := Lib.hid hy; have HY11 := Lib.hid (HY1.out.under hb); have HS11 := Lib.hid (HS1.out.trans (hb.mono HS1.out.size)); have HB5 := Lib.hid (HB4.out.trans (hb.mono HB4.out.size))
  clear hy hb
  refine ⟨_, rfl, (fun _ => HC1.out _ HB5.out), ?_⟩
  go_simp
  refine T_one (i := 15) o7_15 (by kernel_rfl) rfl ?_
  refine op_guard ?_
  refine op_callT #[r1, q1] (by simp [go_sem]) (enters_of Tryz.func28 (by kernel_rfl) rfl _ _) (lawput_c X0c.heap.size (l ++ cntB c) r1 q1 X1b HY11.out HZ1.out.sees HLE1.out) ?_
  rintro e X1c ⟨rfl, hb⟩
  have HS21 := Lib.hid (HS11.out.trans hb)
  have HB6 := Lib.hid (HB3.out.trans (HS21.out.mono HB3.out.size)); have HK6 := Lib.hid (HK3.out.under HS21.out)
  clear hb HY1 HY11 HZ1 HS1 HS11 HS21 HK4 HB4 HB5
  refine ⟨_, rfl, (fun _ => HC1.out _ HB6.out), ?_⟩
  go_simp
  refine T_one (i := 16) o7_16 (by kernel_rfl) rfl ?_
  go_simp
  refine ⟨HC1.out _ HB6.out, ?_⟩
  refine T_one (i := 17) o7_17 (by kernel_rfl) rfl ?_
  go_simp
  refine ⟨HC1.out _ HB6.out, ?_⟩
  refine T_one (i := 18) o7_18 (by kernel_rfl) rfl ?_
  go_simp
  refine ⟨HC1.out _ HB6.out, ?_⟩
  exact relist (by kernel_rfl) (HNX.out _ _ ⟨_, _, _, _, _, _, _, _, _, _, _, _, _, _, _, _, _, _, _, _, _, _, _, _, _, _, _, _, _, _, _, _, _, _, _, _, _, _, _, _, _, _, _, _, _, _, _, _, _, _, _, _, rfl⟩ HB6.out HK6.out)
end Go.Proofs.YtlhkjmckigblpaaGreatDoor
/- Skd: Skd: CodePuts, region 7: pair 2. -/
namespace Go.Proofs.YtlhkjmckigblpaaGreatDoor
open Go.RowKit Go.Shelf Vp Cp Tx Rm
open Go
attribute [local go_sem] Oper.semAt_some

set_option maxRecDepth 100000 in
set_option maxHeartbeats 4000000 in
theorem pair2 {Q : Exit → Act → World → Prop} {S : World → Prop} (hQ : ∀ h (a : Act) w d v, Q (.panic h) (a.put (some d) v) w → Q (.panic h) a w) (l : List UInt8) (hL : l.length ≤ 1048576) (ub vk : Value) (n c : Int) (s : ByteArray) (b : Bool) (pw : Nat) (y5 y6 y7 y8 y9 y10 y14 y15 y16 y17 y18 y19 y20 y73 y74 y75 y76 y77 y78 y79 y80 : Value)
    (w1 : World) (HC1 : Hid (∀ W', Below w1.heap.size w1 W' → S W')) (HU1 : Hid (∀ W', Below w1.heap.size w1 W' → Hands W' ub l))
    (hs : s.size ≤ 1048576) (HM1 : Hid (∀ W', Below w1.heap.size w1 W' → MaxB W'.heap.size W'))
    (a : Act) (ha : Good43 ub vk n c s b pw y5 y6 y7 y8 y9 y10 y14 y15 y16 y17 y18 y19 y20 y73 y74 y75 y76 y77 y78 y79 y80 a) (X1c : World) (hB : Below w1.heap.size w1 X1c) (hK : Bys w1.heap.size l X1c vk)
    (hnext : ∀ a' X, Good53 ub vk n c s b pw y5 y6 y7 y8 y9 y10 y14 y15 y16 y17 y18 y19 y20 y73 y74 y75 y76 y77 y78 y79 y80 a' → Below w1.heap.size w1 X → Bys w1.heap.size l X vk → wpAnyT Tryz.prog .any ops7 Q S 44 19 (mask7 29) a' X) :
    wpAnyT Tryz.prog .any ops7 Q S 44 29 (mask7 19) a X1c := by
  have HB6 := Lib.hid hB; have HK6 := Lib.hid hK; have HL := Lib.hid hL; have HQ := Lib.hid hQ; have HNX := Lib.hid hnext
  have HSL := Lib.hid hs; clear hs
  clear hB hK hL hQ hnext
  obtain ⟨t12, t21, t22, t23, t24, t25, t26, t27, t28, t29, t30, t31, t32, t33, t34, t35, t36, t37, t38, t39, t40, t41, t42, t44, t45, t46, t47, t48, t49, t50, t51, t52, t53, t54, t55, t56, t57, t58, t59, t60, t61, t62, t63, t64, t65, t66, t67, t68, t69, t70, t71, t72, rfl⟩ := ha
  refine T_takeD (i := 19) (v := ub) o7_19 (by kernel_rfl) (fun _ _ _ h => HQ.out _ _ _ _ _ h) rfl (fun W hS => by go_simp) (HC1.out _ HB6.out) ?_
  go_simp
  refine T_takeD (i := 20) (v := .string s) o7_20 (by kernel_rfl) (fun _ _ _ h => HQ.out _ _ _ _ _ h) rfl (fun W hS => by go_simp) (HC1.out _ HB6.out) ?_
  go_simp
  refine T_takeD (i := 22) (v := vk) o7_22 (by kernel_rfl) (fun _ _ _ h => HQ.out _ _ _ _ _ h) rfl (fun W hS => by go_simp) (HC1.out _ HB6.out) ?_
  go_simp
  refine T_takeD (i := 23) (v := .string s) o7_23 (by kernel_rfl) (fun _ _ _ h => HQ.out _ _ _ _ _ h) rfl (fun W hS => by go_simp) (HC1.out _ HB6.out) ?_
  go_simp
  have HLE2 : Hid ((l ++ strB s.data.toList).length ≤ 70000000000000) := Lib.hid (by have h9 := strB_le s; have := HSL.out; have := HL.out; rw [List.length_append]; omega)
  refine T_one (i := 21) o7_21 (by kernel_rfl) rfl ?_
  refine op_guard ?_
  refine op_callT #[ub, .string s] (by simp [go_sem]) (enters_of Tryz.func31 (by kernel_rfl) rfl _ _) (str_h l ub s (by have := HSL.out; omega) X1c (HU1.out _ HB6.out) (by have := HL.out; omega) (HM1.out _ HB6.out).2) ?_
  rintro e X2a ⟨r2, rfl, hy, hb⟩
  have HY2 := Lib.hid hy; have HS2 := Lib.hid hb; have HB7 := Lib.hid (HB6.out.trans (hb.mono HB6.out.size)); have HK7 := Lib.hid (HK6.out.under hb)
  clear hy hb
  refine ⟨_, rfl, (fun _ => HC1.out _ HB7.out), ?_⟩
  go_simp
  refine T_one (i := 24) o7_24 (by kernel_rfl) rfl ?_
  refine op_guard ?_
  refine op_callT #[vk, .string s] (by simp [go_sem]) (enters_of Tryz.func32 (by kernel_rfl) rfl _ _) (rstr_c l vk s (by have := HSL.out; omega) X2a (hands_of HK7.out) (by have := HL.out; omega)) ?_
  rintro e X2b ⟨q2, rfl, hy, hb⟩
  have HZ2 := Lib.hid hy; have HY12 := Lib.hid (HY2.out.under hb); have HS12 := Lib.hid (HS2.out.trans (hb.mono HS2.out.size)); have HB8 := Lib.hid (HB7.out.trans (hb.mono HB7.out.size))
  clear hy hb
  refine ⟨_, rfl, (fun _ => HC1.out _ HB8.out), ?_⟩
  go_simp
  refine T_one (i := 25) o7_25 (by kernel_rfl) rfl ?_
  refine op_guard ?_
  refine op_callT #[r2, q2] (by simp [go_sem]) (enters_of Tryz.func28 (by kernel_rfl) rfl _ _) (lawput_c X1c.heap.size (l ++ strB s.data.toList) r2 q2 X2b HY12.out HZ2.out.sees HLE2.out) ?_
  rintro e X2c ⟨rfl, hb⟩
  have HS22 := Lib.hid (HS12.out.trans hb)
  have HB9 := Lib.hid (HB6.out.trans (HS22.out.mono HB6.out.size)); have HK9 := Lib.hid (HK6.out.under HS22.out)
  clear hb HY2 HY12 HZ2 HS2 HS12 HS22 HK7 HB7 HB8
  refine ⟨_, rfl, (fun _ => HC1.out _ HB9.out), ?_⟩
  go_simp
  refine T_one (i := 26) o7_26 (by kernel_rfl) rfl ?_
  go_simp
  refine ⟨HC1.out _ HB9.out, ?_⟩
  refine T_one (i := 27) o7_27 (by kernel_rfl) rfl ?_
  go_simp
  refine ⟨HC1.out _ HB9.out, ?_⟩
  refine T_one (i := 28) o7_28 (by kernel_rfl) rfl ?_
  go_simp
  refine ⟨HC1.out _ HB9.out, ?_⟩
  exact relist (by kernel_rfl) (HNX.out _ _ ⟨_, _, _, _, _, _, _, _, _, _, _, _, _, _, _, _, _, _, _, _, _, _, _, _, _, _, _, _, _, _, _, _, _, _, _, _, _, _, _, _, _, _, _, _, _, _, _, _, _, _, _, _, rfl⟩ HB9.out HK9.out)
end Go.Proofs.YtlhkjmckigblpaaGreatDoor
/- Ske: Ske: CodePuts, region 7: pair 3. -/
namespace Go.Proofs.YtlhkjmckigblpaaGreatDoor
open Go.RowKit Go.Shelf Vp Cp Tx Rm
open Go
attribute [local go_sem] Oper.semAt_some

set_option maxRecDepth 100000 in
set_option maxHeartbeats 4000000 in
theorem pair3 {Q : Exit → Act → World → Prop} {S : World → Prop} (hQ : ∀ h (a : Act) w d v, Q (.panic h) (a.put (some d) v) w → Q (.panic h) a w) (l : List UInt8) (hL : l.length ≤ 1048576) (ub vk : Value) (n c : Int) (s : ByteArray) (b : Bool) (pw : Nat) (y5 y6 y7 y8 y9 y10 y14 y15 y16 y17 y18 y19 y20 y73 y74 y75 y76 y77 y78 y79 y80 : Value)
    (w1 : World) (HC1 : Hid (∀ W', Below w1.heap.size w1 W' → S W')) (HU1 : Hid (∀ W', Below w1.heap.size w1 W' → Hands W' ub l))
    (a : Act) (ha : Good53 ub vk n c s b pw y5 y6 y7 y8 y9 y10 y14 y15 y16 y17 y18 y19 y20 y73 y74 y75 y76 y77 y78 y79 y80 a) (X2c : World) (hB : Below w1.heap.size w1 X2c) (hK : Bys w1.heap.size l X2c vk)
    (hnext : ∀ a' X, Good63 ub vk n c s b pw y5 y6 y7 y8 y9 y10 y14 y15 y16 y17 y18 y19 y20 y73 y74 y75 y76 y77 y78 y79 y80 a' → Below w1.heap.size w1 X → Bys w1.heap.size l X vk → wpAnyT Tryz.prog .any ops7 Q S 44 9 (mask7 39) a' X) :
    wpAnyT Tryz.prog .any ops7 Q S 44 19 (mask7 29) a X2c := by
  have HB9 := Lib.hid hB; have HK9 := Lib.hid hK; have HL := Lib.hid hL; have HQ := Lib.hid hQ; have HNX := Lib.hid hnext
  clear hB hK hL hQ hnext
  obtain ⟨t12, t21, t22, t23, t24, t25, t26, t27, t28, t29, t30, t31, t32, t33, t34, t35, t36, t37, t38, t39, t40, t41, t42, t43, t44, t45, t46, t47, t48, t49, t50, t51, t52, t54, t55, t56, t57, t58, t59, t60, t61, t62, t63, t64, t65, t66, t67, t68, t69, t70, t71, t72, rfl⟩ := ha
  refine T_takeD (i := 29) (v := ub) o7_29 (by kernel_rfl) (fun _ _ _ h => HQ.out _ _ _ _ _ h) rfl (fun W hS => by go_simp) (HC1.out _ HB9.out) ?_
  go_simp
  refine T_takeD (i := 30) (v := .bool b) o7_30 (by kernel_rfl) (fun _ _ _ h => HQ.out _ _ _ _ _ h) rfl (fun W hS => by go_simp) (HC1.out _ HB9.out) ?_
  go_simp
  refine T_takeD (i := 32) (v := vk) o7_32 (by kernel_rfl) (fun _ _ _ h => HQ.out _ _ _ _ _ h) rfl (fun W hS => by go_simp) (HC1.out _ HB9.out) ?_
  go_simp
  refine T_takeD (i := 33) (v := .bool b) o7_33 (by kernel_rfl) (fun _ _ _ h => HQ.out _ _ _ _ _ h) rfl (fun W hS => by go_simp) (HC1.out _ HB9.out) ?_
  go_simp
  have HLE3 : Hid ((l ++ flgB b).length ≤ 70000000000000) := Lib.hid (by have := HL.out; cases b <;> simp [flgB] <;> omega)
  refine T_one (i := 31) o7_31 (by kernel_rfl) rfl ?_
  refine op_guard ?_
  refine op_callT #[ub, .bool b] (by simp [go_sem]) (enters_of Tryz.func33 (by kernel_rfl) rfl _ _) (flag_h l ub b X2c (HU1.out _ HB9.out) (by have := HL.out; omega)) ?_
  rintro e X3a ⟨r3, rfl, hy, hb⟩
  have HY3 := Lib.hid hy; have HS3 := Lib.hid hb; have HB10 := Lib.hid (HB9.out.trans (hb.mono HB9.out.size)); have HK10 := Lib.hid (HK9.out.under hb)
  clear hy hb
  refine ⟨_, rfl, (fun _ => HC1.out _ HB10.out), ?_⟩
  go_simp
  refine T_one (i := 34) o7_34 (by kernel_rfl) rfl ?_
  refine op_guard ?_
  refine op_callT #[vk, .bool b] (by simp [go_sem]) (enters_of Tryz.func34 (by kernel_rfl) rfl _ _) (rflag_c l vk b X3a (hands_of HK10.out) (by have := HL.out; omega)) ?_
  rintro e X3b ⟨q3, rfl, hy, hb⟩
  have HZ3 := Lib.hid hy; have HY13 := Lib.hid (HY3.out.under hb); have HS13 := Lib.hid (HS3.out.trans (hb.mono HS3.out.size)); have HB11 := Lib.hid (HB10.out.trans (hb.mono HB10.out.size))
  clear hy hb
  refine ⟨_, rfl, (fun _ => HC1.out _ HB11.out), ?_⟩
  go_simp
  refine T_one (i := 35) o7_35 (by kernel_rfl) rfl ?_
  refine op_guard ?_
  refine op_callT #[r3, q3] (by simp [go_sem]) (enters_of Tryz.func28 (by kernel_rfl) rfl _ _) (lawput_c X2c.heap.size (l ++ flgB b) r3 q3 X3b HY13.out HZ3.out.sees HLE3.out) ?_
  rintro e X3c ⟨rfl, hb⟩
  have HS23 := Lib.hid (HS13.out.trans hb)
  have HB12 := Lib.hid (HB9.out.trans (HS23.out.mono HB9.out.size)); have HK12 := Lib.hid (HK9.out.under HS23.out)
  clear hb HY3 HY13 HZ3 HS3 HS13 HS23 HK10 HB10 HB11
  refine ⟨_, rfl, (fun _ => HC1.out _ HB12.out), ?_⟩
  go_simp
  refine T_one (i := 36) o7_36 (by kernel_rfl) rfl ?_
  go_simp
  refine ⟨HC1.out _ HB12.out, ?_⟩
  refine T_one (i := 37) o7_37 (by kernel_rfl) rfl ?_
  go_simp
  refine ⟨HC1.out _ HB12.out, ?_⟩
  refine T_one (i := 38) o7_38 (by kernel_rfl) rfl ?_
  go_simp
  refine ⟨HC1.out _ HB12.out, ?_⟩
  exact relist (by kernel_rfl) (HNX.out _ _ ⟨_, _, _, _, _, _, _, _, _, _, _, _, _, _, _, _, _, _, _, _, _, _, _, _, _, _, _, _, _, _, _, _, _, _, _, _, _, _, _, _, _, _, _, _, _, _, _, _, _, _, _, _, rfl⟩ HB12.out HK12.out)
end Go.Proofs.YtlhkjmckigblpaaGreatDoor
/- Skf: Skf: CodePuts, region 7: pair 4. -/
namespace Go.Proofs.YtlhkjmckigblpaaGreatDoor
open Go.RowKit Go.Shelf Vp Cp Tx Rm
open Go
attribute [local go_sem] Oper.semAt_some

set_option maxRecDepth 100000 in
set_option maxHeartbeats 4000000 in
theorem pair4 {Q : Exit → Act → World → Prop} (hQ : ∀ h (a : Act) w d v, Q (.panic h) (a.put (some d) v) w → Q (.panic h) a w) (l : List UInt8) (hL : l.length ≤ 1048576) (ub vk : Value) (n c : Int) (s : ByteArray) (b : Bool) (pw : Nat) (y5 y6 y7 y8 y9 y10 y14 y15 y16 y17 y18 y19 y20 y73 y74 y75 y76 y77 y78 y79 y80 : Value)
    (w1 : World) (t : V) (k : Nat) (m : Int) (sv : ByteArray) (A : Option Addr) (its : List V) (cc : Nat) (HC1 : Hid (∀ W', Below w1.heap.size w1 W' → S4 pw k m sv A its.length cc W')) (HU1 : Hid (∀ W', Below w1.heap.size w1 W' → Hands W' ub l))
    (HM1 : Hid (∀ W', Below w1.heap.size w1 W' → MaxB W'.heap.size W')) (HV1 : Hid (∀ W', Below w1.heap.size w1 W' → VRep W' W'.heap.size t (.agg #[.int .u8 (k : Int), .int .i64 m, .string sv, .slice A its.length cc])))
    (hE : chkV t = 0 → (encV t).length ≤ 400000) (hdp : depth t < 100000000)
    (a : Act) (ha : Good63 ub vk n c s b pw y5 y6 y7 y8 y9 y10 y14 y15 y16 y17 y18 y19 y20 y73 y74 y75 y76 y77 y78 y79 y80 a) (X3c : World) (hB : Below w1.heap.size w1 X3c) (hK : Bys w1.heap.size l X3c vk)
    (hnext : ∀ a' X, Good72 ub vk n c s b pw y5 y6 y7 y8 y9 y10 y14 y15 y16 y17 y18 y19 y20 y73 y74 y75 y76 y77 y78 y79 y80 a' → Below w1.heap.size w1 X → Bys w1.heap.size l X vk → Q .normal a' X) :
    wpAnyT Tryz.prog .any ops7 Q (S4 pw k m sv A its.length cc) 44 9 (mask7 39) a X3c := by
  have HB12 := Lib.hid hB; have HK12 := Lib.hid hK; have HL := Lib.hid hL; have HQ := Lib.hid hQ; have HNX := Lib.hid hnext
  have HE := Lib.hid hE; have HD := Lib.hid hdp; clear hE hdp
  clear hB hK hL hQ hnext
  obtain ⟨t12, t21, t22, t23, t24, t25, t26, t27, t28, t29, t30, t31, t32, t33, t34, t35, t36, t37, t38, t39, t40, t41, t42, t43, t44, t45, t46, t47, t48, t49, t50, t51, t52, t53, t54, t55, t56, t57, t58, t59, t60, t61, t62, t64, t65, t66, t67, t68, t69, t70, t71, t72, rfl⟩ := ha
  refine T_takeD (i := 39) (v := ub) o7_39 (by kernel_rfl) (fun _ _ _ h => HQ.out _ _ _ _ _ h) rfl (fun W hS => by go_simp) (HC1.out _ HB12.out) ?_
  go_simp
  refine T_takeD (i := 40) (v := .agg #[.int .u8 (k : Int), .int .i64 m, .string sv, .slice A its.length cc]) o7_40 (by kernel_rfl) (fun _ _ _ h => HQ.out _ _ _ _ _ h) rfl (fun W hS => by unfold S4 at hS; obtain ⟨h1, h2, h3, h4⟩ := hS; go_simp) (HC1.out _ HB12.out) ?_
  go_simp
  refine T_takeD (i := 42) (v := vk) o7_42 (by kernel_rfl) (fun _ _ _ h => HQ.out _ _ _ _ _ h) rfl (fun W hS => by go_simp) (HC1.out _ HB12.out) ?_
  go_simp
  refine T_takeD (i := 43) (v := .agg #[.int .u8 (k : Int), .int .i64 m, .string sv, .slice A its.length cc]) o7_43 (by kernel_rfl) (fun _ _ _ h => HQ.out _ _ _ _ _ h) rfl (fun W hS => by unfold S4 at hS; obtain ⟨h1, h2, h3, h4⟩ := hS; go_simp) (HC1.out _ HB12.out) ?_
  go_simp
  have HLE4 : Hid ((l ++ valB t).length ≤ 70000000000000) := Lib.hid (by have h9 := val_le t HE.out; have := HL.out; rw [List.length_append]; omega)
  refine T_one (i := 41) o7_41 (by kernel_rfl) rfl ?_
  refine op_guard ?_
  refine op_callT #[ub, .agg #[.int .u8 (k : Int), .int .i64 m, .string sv, .slice A its.length cc]] (by simp [go_sem]) (enters_of Tryz.func21 (by kernel_rfl) rfl _ _) (value_h l ub t _ X3c (HU1.out _ HB12.out) (HV1.out _ HB12.out) (by have := HL.out; omega) (fun h0 => by have := HE.out h0; have := HL.out; omega) (HM1.out _ HB12.out)) ?_
  rintro e X4a ⟨r4, rfl, hy, hb⟩
  have HY4 := Lib.hid hy; have HS4 := Lib.hid hb; have HB13 := Lib.hid (HB12.out.trans (hb.mono HB12.out.size)); have HK13 := Lib.hid (HK12.out.under hb)
  clear hy hb
  refine ⟨_, rfl, (fun _ => HC1.out _ HB13.out), ?_⟩
  go_simp
  refine T_one (i := 44) o7_44 (by kernel_rfl) rfl ?_
  refine op_guard ?_
  refine op_callT #[vk, .agg #[.int .u8 (k : Int), .int .i64 m, .string sv, .slice A its.length cc]] (by simp [go_sem]) (enters_of Tryz.func35 (by kernel_rfl) rfl _ _) (rvalue_c l t vk _ X4a (hands_of HK13.out) (HV1.out _ HB13.out) HD.out (by have := HL.out; omega) (fun h0 => by have := HE.out h0; omega)) ?_
  rintro e X4b ⟨q4, rfl, hy, hb⟩
  have HZ4 := Lib.hid hy; have HY14 := Lib.hid (HY4.out.under hb); have HS14 := Lib.hid (HS4.out.trans (hb.mono HS4.out.size)); have HB14 := Lib.hid (HB13.out.trans (hb.mono HB13.out.size))
  clear hy hb
  refine ⟨_, rfl, (fun h => absurd h (by decide)), ?_⟩
  go_simp
  refine T_one (i := 45) o7_45 (by kernel_rfl) rfl ?_
  refine op_guard ?_
  refine op_callT #[r4, q4] (by simp [go_sem]) (enters_of Tryz.func28 (by kernel_rfl) rfl _ _) (lawput_c X3c.heap.size (l ++ valB t) r4 q4 X4b HY14.out HZ4.out.sees HLE4.out) ?_
  rintro e X4c ⟨rfl, hb⟩
  have HS24 := Lib.hid (HS14.out.trans hb)
  have HB15 := Lib.hid (HB12.out.trans (HS24.out.mono HB12.out.size)); have HK15 := Lib.hid (HK12.out.under HS24.out)
  clear hb HY4 HY14 HZ4 HS4 HS14 HS24 HK13 HB13 HB14
  refine ⟨_, rfl, (fun h => absurd h (by decide)), ?_⟩
  go_simp
  refine T_one (i := 46) o7_46 (by kernel_rfl) rfl ?_
  go_simp
  refine T_one (i := 47) o7_47 (by kernel_rfl) rfl ?_
  go_simp
  refine ⟨by kernel_rfl, ?_⟩
  exact HNX.out _ _ ⟨_, _, _, _, _, _, _, _, _, _, _, _, _, _, _, _, _, _, _, _, _, _, _, _, _, _, _, _, _, _, _, _, _, _, _, _, _, _, _, _, _, _, _, _, _, _, _, _, _, _, _, _, rfl⟩ HB15.out HK15.out
end Go.Proofs.YtlhkjmckigblpaaGreatDoor
