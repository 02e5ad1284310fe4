/-
  Texts of one seat, put together: SpzA.
-/
import Derived.Test.YtlhjcdkkmloamaaGreatDoorSp37
set_option linter.unusedSimpArgs false
namespace Go.Proofs.YtlhjcdkkmloamaaGreatDoor
open Go.RowKit
namespace Hx
open Lx Tr Tx Nmb Es Ns
attribute [local irreducible] wpList
set_option maxRecDepth 100000
set_option maxHeartbeats 16000000
set_option linter.unusedVariables false
theorem pfx_no (p q s a b : ByteArray) (w : World) (z9 : Int) (m9 : Nat) (vp vq oq : List Nd) (gp : decide ((100 : Int) < (p.size : Int)) = false) (gq : decide ((100 : Int) < (q.size : Int)) = false) (gs : decide ((100 : Int) < (s.size : Int)) = false) (ga : decide ((100 : Int) < (a.size : Int)) = false) (gb : decide ((100 : Int) < (b.size : Int)) = false) (fb : (b.toList == [120, 109, 108, 110, 115]) = false) (fp : (p.toList == [120, 109, 108]) = false) (kp : (p.toList == [120, 109, 108, 110, 115]) = false) (fq : (q.toList == [120, 109, 108]) = false) (kq : (q.toList == [120, 109, 108, 110, 115]) = false) (fz : (z9 == 0) = false) (fz2 : (z9 != 0) = true) (fz3 : decide (z9 = 0) = false) (HAL : Hid (Calls Tryz.prog 4 #[] w fun e w' => e = .returned (.bool true) ∧ Below w.heap.size w w')) (HNp : Hid (∀ W : World, Calls Tryz.prog 5 #[.string p] W fun e w' => e = .returned (.bool true) ∧ Below W.heap.size W w')) (HNq : Hid (∀ W : World, Calls Tryz.prog 5 #[.string q] W fun e w' => e = .returned (.bool true) ∧ Below W.heap.size W w')) (HNa : Hid (∀ W : World, Calls Tryz.prog 5 #[.string a] W fun e w' => e = .returned (.bool true) ∧ Below W.heap.size W w')) (HNb : Hid (∀ W : World, Calls Tryz.prog 5 #[.string b] W fun e w' => e = .returned (.bool true) ∧ Below W.heap.size W w')) (HMP : Hid (∀ W : World, Calls Tryz.prog 7 #[.string p, .string s, .string a, .string b] W fun e w' => ∃ A c, e = .returned (.slice A 2 c) ∧ RdB NdS w' A vp ∧ Below W.heap.size W w')) (HMQ : Hid (∀ W : World, Calls Tryz.prog 7 #[.string q, .string s, .string a, .string b] W fun e w' => ∃ A c, e = .returned (.slice A 2 c) ∧ RdB NdS w' A vq ∧ Below W.heap.size W w')) (HRp : Hid (∀ A c W, RdB NdS W A vp → Calls Tryz.prog 6 #[.slice A 2 c] W fun e w' => ∃ A c, e = .returned (.tuple #[.slice A m9 c, .int .i64 z9]) ∧ RdB NdS w' A oq ∧ Below W.heap.size W w')) (HRq : Hid (∀ A c W, RdB NdS W A vq → Calls Tryz.prog 6 #[.slice A 2 c] W fun e w' => ∃ A c, e = .returned (.tuple #[.slice A m9 c, .int .i64 z9]) ∧ RdB NdS w' A oq ∧ Below W.heap.size W w')) (HSM : Hid (∀ A c B d W, RdB NdS W A oq → RdB NdS W B oq → Calls Tryz.prog 8 #[.slice A m9 c, .slice B m9 d] W fun e w' => e = .returned (.bool true) ∧ Below W.heap.size W w')) :
    Calls Tryz.prog 3 #[.string p, .string q, .string s, .string a, .string b] w fun e w' => e = .returned (.bool true) ∧ Below w.heap.size w w' := by
  go_enter Tryz.func3, Tryz.ntmps3
  go_wp2_with (first
    | (go_at_call 4; (with_reducible refine (HAL.out).mono ?_); rintro e1 w1 ⟨rfl, hb1⟩; have HB1 := Lib.hid hb1; clear hb1)
    | (go_at_call 5; (with_reducible refine (HNp.out w1).mono ?_); rintro e2 w2 ⟨rfl, hb2⟩; have HB2 := Lib.hid (stp HB1.out hb2); clear hb2)
    | (go_at_call 5; (with_reducible refine (HNq.out w2).mono ?_); rintro e3 w3 ⟨rfl, hb3⟩; have HB3 := Lib.hid (stp HB2.out hb3); clear hb3)
    | (go_at_call 5; (with_reducible refine (HNa.out w3).mono ?_); rintro e4 w4 ⟨rfl, hb4⟩; have HB4 := Lib.hid (stp HB3.out hb4); clear hb4)
    | (go_at_call 5; (with_reducible refine (HNb.out w4).mono ?_); rintro e5 w5 ⟨rfl, hb5⟩; have HB5 := Lib.hid (stp HB4.out hb5); clear hb5)
    | (go_at_call 7; (with_reducible refine (HMP.out w5).mono ?_); rintro e6 w6 ⟨A6, c6, rfl, hr6, hb6⟩; have HR6 := Lib.hid hr6; have HB6 := Lib.hid (stp HB5.out hb6); clear hr6 hb6)
    | (go_at_call 6; (with_reducible refine (HRp.out _ _ w6 HR6.out).mono ?_); rintro e7 w7 ⟨A7, c7, rfl, hr7, hb7⟩; have HR7 := Lib.hid hr7; have HB7 := Lib.hid (stp HB6.out hb7); clear hr7 hb7)
    | (go_at_call 7; (with_reducible refine (HMQ.out w7).mono ?_); rintro e8 w8 ⟨A8, c8, rfl, hr8, hb8⟩; have HR78 := Lib.hid (HR7.out.on hb8); have HR8 := Lib.hid hr8; have HB8 := Lib.hid (stp HB7.out hb8); clear hr8 hb8)
    | (go_at_call 6; (with_reducible refine (HRq.out _ _ w8 HR8.out).mono ?_); rintro e9 w9 ⟨A9, c9, rfl, hr9, hb9⟩; have HR79 := Lib.hid (HR78.out.on hb9); have HR9 := Lib.hid hr9; have HB9 := Lib.hid (stp HB8.out hb9); clear hr9 hb9)
    | fail)
  rename_i K9 hk9
  (with_reducible refine (HSM.out _ _ _ _ w9 HR79.out HR9.out).mono ?_)
  rintro e w10 ⟨rfl, hb10⟩
  have HB10 := Lib.hid (stp HB9.out hb10)
  clear HAL HNp HNq HNa HNb HMP HMQ HRp HRq HSM gp gq gs ga gb fb fp kp fq kq hb10
  refine hk9 _ _ ?_
  refine takeLA (.bool true) (by kernel_rfl) (by go_simp) ?_
  try simp only [Act.put, List.setIfInBounds_toArray, List.set_cons_zero, List.set_cons_succ]
  refine takeLA (.bool true) (by kernel_rfl) (by go_simp) ?_
  try simp only [Act.put, List.setIfInBounds_toArray, List.set_cons_zero, List.set_cons_succ]
  refine takeLA (.int .i64 z9) (by kernel_rfl) (by go_simp) ?_
  try simp only [Act.put, List.setIfInBounds_toArray, List.set_cons_zero, List.set_cons_succ]
  refine takeLA (.bool true) (by kernel_rfl) (by go_simp) ?_
  try simp only [Act.put, List.setIfInBounds_toArray, List.set_cons_zero, List.set_cons_succ]
  refine takeLA (.bool true) (by kernel_rfl) (by go_simp) ?_
  try simp only [Act.put, List.setIfInBounds_toArray, List.set_cons_zero, List.set_cons_succ]
  refine skipLA (by kernel_rfl) ?_
  refine skipL 34 (by kernel_rfl) ?_
  refine takeL (.bool true) (by kernel_rfl) (by go_simp) ?_
  try simp only [Act.put, List.setIfInBounds_toArray, List.set_cons_zero, List.set_cons_succ]
  refine takeL (.bool true) (by kernel_rfl) (by go_simp) ?_
  try simp only [Act.put, List.setIfInBounds_toArray, List.set_cons_zero, List.set_cons_succ]
  refine takeL (.bool true) (by kernel_rfl) (by go_simp) ?_
  try simp only [Act.put, List.setIfInBounds_toArray, List.set_cons_zero, List.set_cons_succ]
  refine wpList_nil ?_
  go_wp2_with fail
  go_ret
  exact ⟨rfl, HB10.out⟩
end Hx
end Go.Proofs.YtlhjcdkkmloamaaGreatDoor
