/-
  Texts of one seat, put together: SpzB.
-/
import Derived.Test.YtlhjcdkkmloamaaGreatDoorSp38
set_option linter.unusedSimpArgs false
namespace Go.Proofs.YtlhjcdkkmloamaaGreatDoor
open Go.RowKit
namespace Hx
open Lx Tr Tx Nmb Es Ns
attribute [local irreducible] wpList
set_option maxRecDepth 100000
set_option maxHeartbeats 16000000
set_option linter.unusedVariables false
theorem pfx_yes (p q s a b : ByteArray) (w : World) (vp vq oq : List Nd) (gp : decide ((100 : Int) < (p.size : Int)) = false) (gq : decide ((100 : Int) < (q.size : Int)) = false) (gs : decide ((100 : Int) < (s.size : Int)) = false) (ga : decide ((100 : Int) < (a.size : Int)) = false) (gb : decide ((100 : Int) < (b.size : Int)) = false) (fb : (b.toList == [120, 109, 108, 110, 115]) = false) (fp : (p.toList == [120, 109, 108]) = false) (kp : (p.toList == [120, 109, 108, 110, 115]) = false) (fq : (q.toList == [120, 109, 108]) = false) (kq : (q.toList == [120, 109, 108, 110, 115]) = false) (HOQ : Hid (oq = [⟨1, s.data.toList, a.data.toList, [], [], 1⟩, ⟨1, s.data.toList, b.data.toList, [⟨s.data.toList, a.data.toList, [49]⟩, ⟨[], b.data.toList, [50]⟩], [], 0⟩])) (HAL : Hid (Calls Tryz.prog 4 #[] w fun e w' => e = .returned (.bool true) ∧ Below w.heap.size w w')) (HNp : Hid (∀ W : World, Calls Tryz.prog 5 #[.string p] W fun e w' => e = .returned (.bool true) ∧ Below W.heap.size W w')) (HNq : Hid (∀ W : World, Calls Tryz.prog 5 #[.string q] W fun e w' => e = .returned (.bool true) ∧ Below W.heap.size W w')) (HNa : Hid (∀ W : World, Calls Tryz.prog 5 #[.string a] W fun e w' => e = .returned (.bool true) ∧ Below W.heap.size W w')) (HNb : Hid (∀ W : World, Calls Tryz.prog 5 #[.string b] W fun e w' => e = .returned (.bool true) ∧ Below W.heap.size W w')) (HMP : Hid (∀ W : World, Calls Tryz.prog 7 #[.string p, .string s, .string a, .string b] W fun e w' => ∃ A c, e = .returned (.slice A 2 c) ∧ RdB NdS w' A vp ∧ Below W.heap.size W w')) (HMQ : Hid (∀ W : World, Calls Tryz.prog 7 #[.string q, .string s, .string a, .string b] W fun e w' => ∃ A c, e = .returned (.slice A 2 c) ∧ RdB NdS w' A vq ∧ Below W.heap.size W w')) (HRp : Hid (∀ A c W, RdB NdS W A vp → Calls Tryz.prog 6 #[.slice A 2 c] W fun e w' => ∃ A c, e = .returned (.tuple #[.slice A 2 c, .int .i64 0]) ∧ RdB NdS w' A oq ∧ Below W.heap.size W w')) (HRq : Hid (∀ A c W, RdB NdS W A vq → Calls Tryz.prog 6 #[.slice A 2 c] W fun e w' => ∃ A c, e = .returned (.tuple #[.slice A 2 c, .int .i64 0]) ∧ RdB NdS w' A oq ∧ Below W.heap.size W w')) (HSM : Hid (∀ A c B d W, RdB NdS W A oq → RdB NdS W B oq → Calls Tryz.prog 8 #[.slice A 2 c, .slice B 2 d] W fun e w' => e = .returned (.bool true) ∧ Below W.heap.size W w')) :
    Calls Tryz.prog 3 #[.string p, .string q, .string s, .string a, .string b] w fun e w' => e = .returned (.bool true) ∧ Below w.heap.size w w' := by
  go_enter Tryz.func3, Tryz.ntmps3
  go_wp2_with (first
    | (go_at_call 4; (with_reducible refine (HAL.out).mono ?_); rintro e1 w1 ⟨rfl, hb1⟩; have HB1 := Lib.hid hb1; clear hb1)
    | (go_at_call 5; (with_reducible refine (HNp.out w1).mono ?_); rintro e2 w2 ⟨rfl, hb2⟩; have HB2 := Lib.hid (stp HB1.out hb2); clear hb2)
    | (go_at_call 5; (with_reducible refine (HNq.out w2).mono ?_); rintro e3 w3 ⟨rfl, hb3⟩; have HB3 := Lib.hid (stp HB2.out hb3); clear hb3)
    | (go_at_call 5; (with_reducible refine (HNa.out w3).mono ?_); rintro e4 w4 ⟨rfl, hb4⟩; have HB4 := Lib.hid (stp HB3.out hb4); clear hb4)
    | (go_at_call 5; (with_reducible refine (HNb.out w4).mono ?_); rintro e5 w5 ⟨rfl, hb5⟩; have HB5 := Lib.hid (stp HB4.out hb5); clear hb5)
    | (go_at_call 7; (with_reducible refine (HMP.out w5).mono ?_); rintro e6 w6 ⟨A6, c6, rfl, hr6, hb6⟩; have HR6 := Lib.hid hr6; have HB6 := Lib.hid (stp HB5.out hb6); clear hr6 hb6)
    | (go_at_call 6; (with_reducible refine (HRp.out _ _ w6 HR6.out).mono ?_); rintro e7 w7 ⟨A7, c7, rfl, hr7, hb7⟩; have HR7 := Lib.hid hr7; have HB7 := Lib.hid (stp HB6.out hb7); clear hr7 hb7)
    | (go_at_call 7; (with_reducible refine (HMQ.out w7).mono ?_); rintro e8 w8 ⟨A8, c8, rfl, hr8, hb8⟩; have HR78 := Lib.hid (HR7.out.on hb8); have HR8 := Lib.hid hr8; have HB8 := Lib.hid (stp HB7.out hb8); clear hr8 hb8)
    | (go_at_call 6; (with_reducible refine (HRq.out _ _ w8 HR8.out).mono ?_); rintro e9 w9 ⟨A9, c9, rfl, hr9, hb9⟩; have HR79 := Lib.hid (HR78.out.on hb9); have HR9 := Lib.hid hr9; have HB9 := Lib.hid (stp HB8.out hb9); clear hr9 hb9)
    | (go_at_call 8; (with_reducible refine (HSM.out _ _ _ _ w9 HR79.out HR9.out).mono ?_); rintro e10 w10 ⟨rfl, hb10⟩; have HB10 := Lib.hid (stp HB9.out hb10); have HRX := HR79.out.on hb10; obtain ⟨b0, o0, x0, y0, t0, A0, c0, hA0, -, hi0, -, q01, -, -, -, -⟩ := nd_at HRX (k := 0) (by rw [HOQ.out]; simp); obtain ⟨b1, o1, x1, y1, t1, A1, c1, hA1, -, hi1, -, q11, q12, q13, -, -⟩ := nd_at HRX (k := 1) (by rw [HOQ.out]; simp); rw [hA0] at hA1; injection hA1 with hA1; injection hA1 with hAa hAb; subst hAa hAb; obtain rfl : x0 = s := ba_inj (by rw [hi0.space]; simp only [HOQ.out, List.getElem_cons_zero]); obtain rfl : x1 = x0 := ba_inj (by rw [hi1.space]; simp only [HOQ.out, List.getElem_cons_succ, List.getElem_cons_zero]); obtain rfl : y1 = b := ba_inj (by rw [hi1.name]; simp only [HOQ.out, List.getElem_cons_succ, List.getElem_cons_zero]); have hat := hi1.attrs; simp only [HOQ.out, List.getElem_cons_succ, List.getElem_cons_zero] at hat q13; obtain ⟨b2, o2, e0, e1, e2, hA2, -, he0, -, -, r0, -, -⟩ := at_at hat (k := 0) (by simp); obtain ⟨b3, o3, e3, e4, e5, hA3, -, he3, -, -, r3, -, -⟩ := at_at hat (k := 1) (by simp); rw [hA2] at hA3; injection hA3 with hA3; injection hA3 with hAa hAb; subst hAa hAb; obtain rfl : e0 = x1 := ba_inj he0; obtain rfl : e3 = ⟨#[]⟩ := ba_inj he3; subst hA0 hA2; have q01' := q01; have q11' := q11; have q12' := q12; have q13' := q13; have r0' := r0; have r3' := r3; simp only [Nat.zero_mul, Nat.add_zero, Nat.one_mul] at q01 q11 q12 q13 r0 r3; clear hi0 hi1 hat he0 he3 hb10)
    | fail)
  all_goals first
  | (go_ret; exact ⟨rfl, HB10.out⟩)
  | (refine wpList_nil ?_; go_wp2_with fail; go_ret; exact ⟨rfl, HB10.out⟩)
end Hx
end Go.Proofs.YtlhjcdkkmloamaaGreatDoor
