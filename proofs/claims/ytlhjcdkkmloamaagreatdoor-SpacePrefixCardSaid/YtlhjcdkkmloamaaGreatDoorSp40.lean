/-
  Texts of one seat, put together: SpzP.
-/
import Derived.Test.YtlhjcdkkmloamaaGreatDoorSp39
set_option linter.unusedSimpArgs false
namespace Go.Proofs.YtlhjcdkkmloamaaGreatDoor
open Go.RowKit
namespace Hx
open Lx Tr Tx Nmb Es Ns
set_option maxRecDepth 100000
set_option maxHeartbeats 16000000
set_option linter.unusedVariables false
theorem pfx11 (p q s a b : ByteArray) (w : World) (mp : p.size ≤ 9223372036854775807) (mq : q.size ≤ 9223372036854775807) (ms : s.size ≤ 9223372036854775807) (ma : a.size ≤ 9223372036854775807) (mb : b.size ≤ 9223372036854775807) (hE : Ev9 w) (hT : TbH w) :
    Calls Tryz.prog 3 #[.string p, .string q, .string s, .string a, .string b] w fun e w' => e = .returned (.bool true) ∧ Below w.heap.size w w' := by
  have HAL := Lib.hid (alive11 w hE hT)
  by_cases zp : p.size ≤ 100
  case neg =>
    have gp : (100 : Int) < (p.size : Int) := by omega
    clear hE hT
    go_enter Tryz.func3, Tryz.ntmps3
    go_wp2_with (first
      | (go_at_call 4; (with_reducible refine (HAL.out).mono ?_); rintro e1 w1 ⟨rfl, hb1⟩; have HB1 := Lib.hid hb1; clear hb1)
      | fail)
    go_ret
    exact ⟨rfl, HB1.out⟩
  by_cases zq : q.size ≤ 100
  case neg =>
    have gq : (100 : Int) < (q.size : Int) := by omega
    have gp : ¬ (100 : Int) < (p.size : Int) := by omega
    clear hE hT
    go_enter Tryz.func3, Tryz.ntmps3
    go_wp2_with (first
      | (go_at_call 4; (with_reducible refine (HAL.out).mono ?_); rintro e1 w1 ⟨rfl, hb1⟩; have HB1 := Lib.hid hb1; clear hb1)
      | fail)
    go_ret
    exact ⟨rfl, HB1.out⟩
  by_cases zs : s.size ≤ 100
  case neg =>
    have gs : (100 : Int) < (s.size : Int) := by omega
    have gp : ¬ (100 : Int) < (p.size : Int) := by omega
    have gq : ¬ (100 : Int) < (q.size : Int) := by omega
    clear hE hT
    go_enter Tryz.func3, Tryz.ntmps3
    go_wp2_with (first
      | (go_at_call 4; (with_reducible refine (HAL.out).mono ?_); rintro e1 w1 ⟨rfl, hb1⟩; have HB1 := Lib.hid hb1; clear hb1)
      | fail)
    go_ret
    exact ⟨rfl, HB1.out⟩
  by_cases za : a.size ≤ 100
  case neg =>
    have ga : (100 : Int) < (a.size : Int) := by omega
    have gp : ¬ (100 : Int) < (p.size : Int) := by omega
    have gq : ¬ (100 : Int) < (q.size : Int) := by omega
    have gs : ¬ (100 : Int) < (s.size : Int) := by omega
    clear hE hT
    go_enter Tryz.func3, Tryz.ntmps3
    go_wp2_with (first
      | (go_at_call 4; (with_reducible refine (HAL.out).mono ?_); rintro e1 w1 ⟨rfl, hb1⟩; have HB1 := Lib.hid hb1; clear hb1)
      | fail)
    go_ret
    exact ⟨rfl, HB1.out⟩
  by_cases zb : b.size ≤ 100
  case neg =>
    have gb : (100 : Int) < (b.size : Int) := by omega
    have gp : ¬ (100 : Int) < (p.size : Int) := by omega
    have gq : ¬ (100 : Int) < (q.size : Int) := by omega
    have gs : ¬ (100 : Int) < (s.size : Int) := by omega
    have ga : ¬ (100 : Int) < (a.size : Int) := by omega
    clear hE hT
    go_enter Tryz.func3, Tryz.ntmps3
    go_wp2_with (first
      | (go_at_call 4; (with_reducible refine (HAL.out).mono ?_); rintro e1 w1 ⟨rfl, hb1⟩; have HB1 := Lib.hid hb1; clear hb1)
      | fail)
    go_ret
    exact ⟨rfl, HB1.out⟩
  have gp : ¬ (100 : Int) < (p.size : Int) := by omega
  have gq : ¬ (100 : Int) < (q.size : Int) := by omega
  have gs : ¬ (100 : Int) < (s.size : Int) := by omega
  have ga : ¬ (100 : Int) < (a.size : Int) := by omega
  have gb : ¬ (100 : Int) < (b.size : Int) := by omega
  obtain ⟨np, hnp⟩ : ∃ n, nameL p.data.toList = n := ⟨_, rfl⟩
  have HNp : Hid (∀ W : World, Calls Tryz.prog 5 #[.string p] W fun e w' => e = .returned (.bool np) ∧ Below W.heap.size W w') := Lib.hid fun W => name9 p W (by omega) np hnp
  obtain ⟨nq, hnq⟩ : ∃ n, nameL q.data.toList = n := ⟨_, rfl⟩
  have HNq : Hid (∀ W : World, Calls Tryz.prog 5 #[.string q] W fun e w' => e = .returned (.bool nq) ∧ Below W.heap.size W w') := Lib.hid fun W => name9 q W (by omega) nq hnq
  obtain ⟨na, hna⟩ : ∃ n, nameL a.data.toList = n := ⟨_, rfl⟩
  have HNa : Hid (∀ W : World, Calls Tryz.prog 5 #[.string a] W fun e w' => e = .returned (.bool na) ∧ Below W.heap.size W w') := Lib.hid fun W => name9 a W (by omega) na hna
  obtain ⟨nb, hnb⟩ : ∃ n, nameL b.data.toList = n := ⟨_, rfl⟩
  have HNb : Hid (∀ W : World, Calls Tryz.prog 5 #[.string b] W fun e w' => e = .returned (.bool nb) ∧ Below W.heap.size W w') := Lib.hid fun W => name9 b W (by omega) nb hnb
  obtain ⟨xb, hxb⟩ : ∃ t, decide (b.data.toList = xmlns5) = t := ⟨_, rfl⟩
  have fb := eq_lit b xmlns5 xb hxb
  obtain ⟨xp, hxp⟩ : ∃ t, decide (p.data.toList = xml3) = t := ⟨_, rfl⟩
  have fp := eq_lit p xml3 xp hxp
  obtain ⟨yp, hyp⟩ : ∃ t, decide (p.data.toList = xmlns5) = t := ⟨_, rfl⟩
  have kp := eq_lit p xmlns5 yp hyp
  obtain ⟨xq, hxq⟩ : ∃ t, decide (q.data.toList = xml3) = t := ⟨_, rfl⟩
  have fq := eq_lit q xml3 xq hxq
  obtain ⟨yq, hyq⟩ : ∃ t, decide (q.data.toList = xmlns5) = t := ⟨_, rfl⟩
  have kq := eq_lit q xmlns5 yq hyq
  unfold xmlns5 at fb kp kq
  unfold xml3 at fp fq
  cases np with
  | false =>
    clear hE hT
    go_enter Tryz.func3, Tryz.ntmps3
    go_wp2_with (first
      | (go_at_call 4; (with_reducible refine (HAL.out).mono ?_); rintro e1 w1 ⟨rfl, hb1⟩; have HB1 := Lib.hid hb1; clear hb1)
      | (go_at_call 5; (with_reducible refine (HNp.out w1).mono ?_); rintro e2 w2 ⟨rfl, hb2⟩; have HB2 := Lib.hid (stp HB1.out hb2); clear hb2)
      | fail)
    go_ret
    exact ⟨rfl, HB2.out⟩
  | true =>
  cases nq with
  | false =>
    clear hE hT
    go_enter Tryz.func3, Tryz.ntmps3
    go_wp2_with (first
      | (go_at_call 4; (with_reducible refine (HAL.out).mono ?_); rintro e1 w1 ⟨rfl, hb1⟩; have HB1 := Lib.hid hb1; clear hb1)
      | (go_at_call 5; (with_reducible refine (HNp.out w1).mono ?_); rintro e2 w2 ⟨rfl, hb2⟩; have HB2 := Lib.hid (stp HB1.out hb2); clear hb2)
      | (go_at_call 5; (with_reducible refine (HNq.out w2).mono ?_); rintro e3 w3 ⟨rfl, hb3⟩; have HB3 := Lib.hid (stp HB2.out hb3); clear hb3)
      | fail)
    go_ret
    exact ⟨rfl, HB3.out⟩
  | true =>
  cases na with
  | false =>
    clear hE hT
    go_enter Tryz.func3, Tryz.ntmps3
    go_wp2_with (first
      | (go_at_call 4; (with_reducible refine (HAL.out).mono ?_); rintro e1 w1 ⟨rfl, hb1⟩; have HB1 := Lib.hid hb1; clear hb1)
      | (go_at_call 5; (with_reducible refine (HNp.out w1).mono ?_); rintro e2 w2 ⟨rfl, hb2⟩; have HB2 := Lib.hid (stp HB1.out hb2); clear hb2)
      | (go_at_call 5; (with_reducible refine (HNq.out w2).mono ?_); rintro e3 w3 ⟨rfl, hb3⟩; have HB3 := Lib.hid (stp HB2.out hb3); clear hb3)
      | (go_at_call 5; (with_reducible refine (HNa.out w3).mono ?_); rintro e4 w4 ⟨rfl, hb4⟩; have HB4 := Lib.hid (stp HB3.out hb4); clear hb4)
      | fail)
    go_ret
    exact ⟨rfl, HB4.out⟩
  | true =>
  cases nb with
  | false =>
    clear hE hT
    go_enter Tryz.func3, Tryz.ntmps3
    go_wp2_with (first
      | (go_at_call 4; (with_reducible refine (HAL.out).mono ?_); rintro e1 w1 ⟨rfl, hb1⟩; have HB1 := Lib.hid hb1; clear hb1)
      | (go_at_call 5; (with_reducible refine (HNp.out w1).mono ?_); rintro e2 w2 ⟨rfl, hb2⟩; have HB2 := Lib.hid (stp HB1.out hb2); clear hb2)
      | (go_at_call 5; (with_reducible refine (HNq.out w2).mono ?_); rintro e3 w3 ⟨rfl, hb3⟩; have HB3 := Lib.hid (stp HB2.out hb3); clear hb3)
      | (go_at_call 5; (with_reducible refine (HNa.out w3).mono ?_); rintro e4 w4 ⟨rfl, hb4⟩; have HB4 := Lib.hid (stp HB3.out hb4); clear hb4)
      | (go_at_call 5; (with_reducible refine (HNb.out w4).mono ?_); rintro e5 w5 ⟨rfl, hb5⟩; have HB5 := Lib.hid (stp HB4.out hb5); clear hb5)
      | fail)
    go_ret
    exact ⟨rfl, HB5.out⟩
  | true =>
  cases xb with
  | true =>
    clear hE hT
    go_enter Tryz.func3, Tryz.ntmps3
    go_wp2_with (first
      | (go_at_call 4; (with_reducible refine (HAL.out).mono ?_); rintro e1 w1 ⟨rfl, hb1⟩; have HB1 := Lib.hid hb1; clear hb1)
      | (go_at_call 5; (with_reducible refine (HNp.out w1).mono ?_); rintro e2 w2 ⟨rfl, hb2⟩; have HB2 := Lib.hid (stp HB1.out hb2); clear hb2)
      | (go_at_call 5; (with_reducible refine (HNq.out w2).mono ?_); rintro e3 w3 ⟨rfl, hb3⟩; have HB3 := Lib.hid (stp HB2.out hb3); clear hb3)
      | (go_at_call 5; (with_reducible refine (HNa.out w3).mono ?_); rintro e4 w4 ⟨rfl, hb4⟩; have HB4 := Lib.hid (stp HB3.out hb4); clear hb4)
      | (go_at_call 5; (with_reducible refine (HNb.out w4).mono ?_); rintro e5 w5 ⟨rfl, hb5⟩; have HB5 := Lib.hid (stp HB4.out hb5); clear hb5)
      | fail)
    go_ret
    exact ⟨rfl, HB5.out⟩
  | false =>
  have hbx : b.data.toList ≠ xmlns5 := of_decide_eq_false hxb
  have bE : ∀ W, Below w.heap.size w W → Ev9 W := fun W hW => hE.to hW
  have HMP : Hid (∀ W : World, Calls Tryz.prog 7 #[.string p, .string s, .string a, .string b] W fun e w' => ∃ A c, e = .returned (.slice A 2 c) ∧ RdB NdS w' A (madeV p.data.toList s.data.toList a.data.toList b.data.toList) ∧ Below W.heap.size W w') := Lib.hid fun W => made11 p s a b W zp za zb
  have HMQ : Hid (∀ W : World, Calls Tryz.prog 7 #[.string q, .string s, .string a, .string b] W fun e w' => ∃ A c, e = .returned (.slice A 2 c) ∧ RdB NdS w' A (madeV q.data.toList s.data.toList a.data.toList b.data.toList) ∧ Below W.heap.size W w') := Lib.hid fun W => made11 q s a b W zq za zb
  have smd : ∀ (P : List UInt8), P.length ≤ 100 → ∀ m ∈ madeV P s.data.toList a.data.toList b.data.toList, SmallU 1000000 m := fun P hP m hm => by
    have h1 : s.data.toList.length ≤ 100 := by rw [ba_len5]; exact zs
    have h2 : a.data.toList.length ≤ 100 := by rw [ba_len5]; exact za
    have h3 : b.data.toList.length ≤ 100 := by rw [ba_len5]; exact zb
    have h5 : xmlns5.length = 5 := rfl
    simp [madeV] at hm
    rcases hm with rfl | rfl
    · refine ⟨Nat.zero_le _, ?_, Nat.zero_le _, by show 1 ≤ 400000; decide, fun x hx => ?_⟩
      · show (P ++ 58 :: a.data.toList).length ≤ _
        rw [List.length_append, List.length_cons]; omega
      · have hx : x ∈ mdA0 P s.data.toList := hx
        simp [mdA0] at hx
        rw [hx]
        refine ⟨Nat.zero_le _, ?_, by show s.data.toList.length ≤ _; omega⟩
        show (xmlns5 ++ 58 :: P).length ≤ _
        rw [List.length_append, List.length_cons]; omega
    · refine ⟨Nat.zero_le _, ?_, Nat.zero_le _, by show 2 ≤ 400000; decide, fun x hx => ?_⟩
      · show (P ++ 58 :: b.data.toList).length ≤ _
        rw [List.length_append, List.length_cons]; omega
      · have hx : x ∈ mdA1 P a.data.toList b.data.toList := hx
        simp [mdA1] at hx
        rcases hx with rfl | rfl
        · refine ⟨Nat.zero_le _, ?_, by show 1 ≤ 1000000; decide⟩
          show (P ++ 58 :: a.data.toList).length ≤ _
          rw [List.length_append, List.length_cons]; omega
        · exact ⟨Nat.zero_le _, by show b.data.toList.length ≤ _; omega, by show 1 ≤ 1000000; decide⟩
  obtain ⟨op, zp9, hp9⟩ : ∃ l z, resolveR (madeV p.data.toList s.data.toList a.data.toList b.data.toList) = (l, z) := ⟨_, _, rfl⟩
  obtain ⟨mp9, hmp9⟩ : ∃ m, op.length = m := ⟨_, rfl⟩
  have HRp : Hid (∀ A c W, RdB NdS W A (madeV p.data.toList s.data.toList a.data.toList b.data.toList) → Calls Tryz.prog 6 #[.slice A 2 c] W fun e w' => ∃ A c, e = .returned (.tuple #[.slice A mp9 c, .int .i64 zp9]) ∧ RdB NdS w' A op ∧ Below W.heap.size W w') := Lib.hid fun A c W hW => (resolve_to A 2 c _ W hW rfl (by decide) (fun _ m hm => smd _ (by rw [ba_len5]; exact zp) m hm) op zp9 hp9).mono fun e w' hh => hh.with hmp9
  obtain ⟨oq, zq9, hq9⟩ : ∃ l z, resolveR (madeV q.data.toList s.data.toList a.data.toList b.data.toList) = (l, z) := ⟨_, _, rfl⟩
  obtain ⟨mq9, hmq9⟩ : ∃ m, oq.length = m := ⟨_, rfl⟩
  have HRq : Hid (∀ A c W, RdB NdS W A (madeV q.data.toList s.data.toList a.data.toList b.data.toList) → Calls Tryz.prog 6 #[.slice A 2 c] W fun e w' => ∃ A c, e = .returned (.tuple #[.slice A mq9 c, .int .i64 zq9]) ∧ RdB NdS w' A oq ∧ Below W.heap.size W w') := Lib.hid fun A c W hW => (resolve_to A 2 c _ W hW rfl (by decide) (fun _ m hm => smd _ (by rw [ba_len5]; exact zq) m hm) oq zq9 hq9).mono fun e w' hh => hh.with hmq9
  cases xp with
  | true =>
    clear hE hT smd bE hbx hp9 hq9
    go_enter Tryz.func3, Tryz.ntmps3
    go_wp2_with (first
      | (go_at_call 4; (with_reducible refine (HAL.out).mono ?_); rintro e1 w1 ⟨rfl, hb1⟩; have HB1 := Lib.hid hb1; clear hb1)
      | (go_at_call 5; (with_reducible refine (HNp.out w1).mono ?_); rintro e2 w2 ⟨rfl, hb2⟩; have HB2 := Lib.hid (stp HB1.out hb2); clear hb2)
      | (go_at_call 5; (with_reducible refine (HNq.out w2).mono ?_); rintro e3 w3 ⟨rfl, hb3⟩; have HB3 := Lib.hid (stp HB2.out hb3); clear hb3)
      | (go_at_call 5; (with_reducible refine (HNa.out w3).mono ?_); rintro e4 w4 ⟨rfl, hb4⟩; have HB4 := Lib.hid (stp HB3.out hb4); clear hb4)
      | (go_at_call 5; (with_reducible refine (HNb.out w4).mono ?_); rintro e5 w5 ⟨rfl, hb5⟩; have HB5 := Lib.hid (stp HB4.out hb5); clear hb5)
      | (go_at_call 7; (with_reducible refine (HMP.out w5).mono ?_); rintro e6 w6 ⟨A6, c6, rfl, hr6, hb6⟩; have HR6 := Lib.hid hr6; have HB6 := Lib.hid (stp HB5.out hb6); clear hr6 hb6)
      | (go_at_call 6; (with_reducible refine (HRp.out _ _ w6 HR6.out).mono ?_); rintro e7 w7 ⟨A7, c7, rfl, hr7, hb7⟩; have HR7 := Lib.hid hr7; have HB7 := Lib.hid (stp HB6.out hb7); clear hr7 hb7)
      | (go_at_call 7; (with_reducible refine (HMQ.out w7).mono ?_); rintro e8 w8 ⟨A8, c8, rfl, hr8, hb8⟩; have HR78 := Lib.hid (HR7.out.on hb8); have HR8 := Lib.hid hr8; have HB8 := Lib.hid (stp HB7.out hb8); clear hr8 hb8)
      | (go_at_call 6; (with_reducible refine (HRq.out _ _ w8 HR8.out).mono ?_); rintro e9 w9 ⟨A9, c9, rfl, hr9, hb9⟩; have HR79 := Lib.hid (HR78.out.on hb9); have HR9 := Lib.hid hr9; have HB9 := Lib.hid (stp HB8.out hb9); clear hr9 hb9)
      | fail)
    go_ret
    exact ⟨rfl, HB9.out⟩
  | false =>
  cases xq with
  | true =>
    clear hE hT smd bE hbx hp9 hq9
    go_enter Tryz.func3, Tryz.ntmps3
    go_wp2_with (first
      | (go_at_call 4; (with_reducible refine (HAL.out).mono ?_); rintro e1 w1 ⟨rfl, hb1⟩; have HB1 := Lib.hid hb1; clear hb1)
      | (go_at_call 5; (with_reducible refine (HNp.out w1).mono ?_); rintro e2 w2 ⟨rfl, hb2⟩; have HB2 := Lib.hid (stp HB1.out hb2); clear hb2)
      | (go_at_call 5; (with_reducible refine (HNq.out w2).mono ?_); rintro e3 w3 ⟨rfl, hb3⟩; have HB3 := Lib.hid (stp HB2.out hb3); clear hb3)
      | (go_at_call 5; (with_reducible refine (HNa.out w3).mono ?_); rintro e4 w4 ⟨rfl, hb4⟩; have HB4 := Lib.hid (stp HB3.out hb4); clear hb4)
      | (go_at_call 5; (with_reducible refine (HNb.out w4).mono ?_); rintro e5 w5 ⟨rfl, hb5⟩; have HB5 := Lib.hid (stp HB4.out hb5); clear hb5)
      | (go_at_call 7; (with_reducible refine (HMP.out w5).mono ?_); rintro e6 w6 ⟨A6, c6, rfl, hr6, hb6⟩; have HR6 := Lib.hid hr6; have HB6 := Lib.hid (stp HB5.out hb6); clear hr6 hb6)
      | (go_at_call 6; (with_reducible refine (HRp.out _ _ w6 HR6.out).mono ?_); rintro e7 w7 ⟨A7, c7, rfl, hr7, hb7⟩; have HR7 := Lib.hid hr7; have HB7 := Lib.hid (stp HB6.out hb7); clear hr7 hb7)
      | (go_at_call 7; (with_reducible refine (HMQ.out w7).mono ?_); rintro e8 w8 ⟨A8, c8, rfl, hr8, hb8⟩; have HR78 := Lib.hid (HR7.out.on hb8); have HR8 := Lib.hid hr8; have HB8 := Lib.hid (stp HB7.out hb8); clear hr8 hb8)
      | (go_at_call 6; (with_reducible refine (HRq.out _ _ w8 HR8.out).mono ?_); rintro e9 w9 ⟨A9, c9, rfl, hr9, hb9⟩; have HR79 := Lib.hid (HR78.out.on hb9); have HR9 := Lib.hid hr9; have HB9 := Lib.hid (stp HB8.out hb9); clear hr9 hb9)
      | fail)
    go_ret
    exact ⟨rfl, HB9.out⟩
  | false =>
  cases yp with
  | true =>
    clear hE hT smd bE hbx hp9 hq9
    go_enter Tryz.func3, Tryz.ntmps3
    go_wp2_with (first
      | (go_at_call 4; (with_reducible refine (HAL.out).mono ?_); rintro e1 w1 ⟨rfl, hb1⟩; have HB1 := Lib.hid hb1; clear hb1)
      | (go_at_call 5; (with_reducible refine (HNp.out w1).mono ?_); rintro e2 w2 ⟨rfl, hb2⟩; have HB2 := Lib.hid (stp HB1.out hb2); clear hb2)
      | (go_at_call 5; (with_reducible refine (HNq.out w2).mono ?_); rintro e3 w3 ⟨rfl, hb3⟩; have HB3 := Lib.hid (stp HB2.out hb3); clear hb3)
      | (go_at_call 5; (with_reducible refine (HNa.out w3).mono ?_); rintro e4 w4 ⟨rfl, hb4⟩; have HB4 := Lib.hid (stp HB3.out hb4); clear hb4)
      | (go_at_call 5; (with_reducible refine (HNb.out w4).mono ?_); rintro e5 w5 ⟨rfl, hb5⟩; have HB5 := Lib.hid (stp HB4.out hb5); clear hb5)
      | (go_at_call 7; (with_reducible refine (HMP.out w5).mono ?_); rintro e6 w6 ⟨A6, c6, rfl, hr6, hb6⟩; have HR6 := Lib.hid hr6; have HB6 := Lib.hid (stp HB5.out hb6); clear hr6 hb6)
      | (go_at_call 6; (with_reducible refine (HRp.out _ _ w6 HR6.out).mono ?_); rintro e7 w7 ⟨A7, c7, rfl, hr7, hb7⟩; have HR7 := Lib.hid hr7; have HB7 := Lib.hid (stp HB6.out hb7); clear hr7 hb7)
      | (go_at_call 7; (with_reducible refine (HMQ.out w7).mono ?_); rintro e8 w8 ⟨A8, c8, rfl, hr8, hb8⟩; have HR78 := Lib.hid (HR7.out.on hb8); have HR8 := Lib.hid hr8; have HB8 := Lib.hid (stp HB7.out hb8); clear hr8 hb8)
      | (go_at_call 6; (with_reducible refine (HRq.out _ _ w8 HR8.out).mono ?_); rintro e9 w9 ⟨A9, c9, rfl, hr9, hb9⟩; have HR79 := Lib.hid (HR78.out.on hb9); have HR9 := Lib.hid hr9; have HB9 := Lib.hid (stp HB8.out hb9); clear hr9 hb9)
      | fail)
    go_ret
    exact ⟨rfl, HB9.out⟩
  | false =>
  cases yq with
  | true =>
    clear hE hT smd bE hbx hp9 hq9
    go_enter Tryz.func3, Tryz.ntmps3
    go_wp2_with (first
      | (go_at_call 4; (with_reducible refine (HAL.out).mono ?_); rintro e1 w1 ⟨rfl, hb1⟩; have HB1 := Lib.hid hb1; clear hb1)
      | (go_at_call 5; (with_reducible refine (HNp.out w1).mono ?_); rintro e2 w2 ⟨rfl, hb2⟩; have HB2 := Lib.hid (stp HB1.out hb2); clear hb2)
      | (go_at_call 5; (with_reducible refine (HNq.out w2).mono ?_); rintro e3 w3 ⟨rfl, hb3⟩; have HB3 := Lib.hid (stp HB2.out hb3); clear hb3)
      | (go_at_call 5; (with_reducible refine (HNa.out w3).mono ?_); rintro e4 w4 ⟨rfl, hb4⟩; have HB4 := Lib.hid (stp HB3.out hb4); clear hb4)
      | (go_at_call 5; (with_reducible refine (HNb.out w4).mono ?_); rintro e5 w5 ⟨rfl, hb5⟩; have HB5 := Lib.hid (stp HB4.out hb5); clear hb5)
      | (go_at_call 7; (with_reducible refine (HMP.out w5).mono ?_); rintro e6 w6 ⟨A6, c6, rfl, hr6, hb6⟩; have HR6 := Lib.hid hr6; have HB6 := Lib.hid (stp HB5.out hb6); clear hr6 hb6)
      | (go_at_call 6; (with_reducible refine (HRp.out _ _ w6 HR6.out).mono ?_); rintro e7 w7 ⟨A7, c7, rfl, hr7, hb7⟩; have HR7 := Lib.hid hr7; have HB7 := Lib.hid (stp HB6.out hb7); clear hr7 hb7)
      | (go_at_call 7; (with_reducible refine (HMQ.out w7).mono ?_); rintro e8 w8 ⟨A8, c8, rfl, hr8, hb8⟩; have HR78 := Lib.hid (HR7.out.on hb8); have HR8 := Lib.hid hr8; have HB8 := Lib.hid (stp HB7.out hb8); clear hr8 hb8)
      | (go_at_call 6; (with_reducible refine (HRq.out _ _ w8 HR8.out).mono ?_); rintro e9 w9 ⟨A9, c9, rfl, hr9, hb9⟩; have HR79 := Lib.hid (HR78.out.on hb9); have HR9 := Lib.hid hr9; have HB9 := Lib.hid (stp HB8.out hb9); clear hr9 hb9)
      | fail)
    go_ret
    exact ⟨rfl, HB9.out⟩
  | false =>
  have hpr := md_res (s := s.data.toList) hnp hna hnb hbx (of_decide_eq_false hxp) (of_decide_eq_false hyp)
  have hqr := md_res (s := s.data.toList) hnq hna hnb hbx (of_decide_eq_false hxq) (of_decide_eq_false hyq)
  rw [hp9] at hpr
  rw [hq9] at hqr
  have hpq := hqr.trans hpr.symm
  injection hpq with hpq1 hpq2
  subst hpq1 hpq2
  rw [hmp9] at hmq9
  subst hmq9
  have sres : ∀ m ∈ oq, SmallU 1000000 m := resolveR_small (by decide) (smd _ (by rw [ba_len5]; exact zp)) hp9
  have hm512 : mp9 ≤ 512 := by
    unfold madeR at hpr
    split at hpr
    · split at hpr
      · injection hpr with hpr _; rw [← hmp9, hpr]; show 2 ≤ 512; decide
      · injection hpr with hpr _; rw [← hmp9, hpr]; show 0 ≤ 512; decide
    · injection hpr with hpr _; rw [← hmp9, hpr]; show 0 ≤ 512; decide
  have HSM : Hid (∀ A c B d W, RdB NdS W A oq → RdB NdS W B oq → Calls Tryz.prog 8 #[.slice A mp9 c, .slice B mp9 d] W fun e w' => e = .returned (.bool true) ∧ Below W.heap.size W w') := Lib.hid fun A c B d W ha hb => same10 A B mp9 c mp9 d oq oq W ha hmp9 hb hmp9 (by omega) (by omega) (fun t ht => by have := (sres t ht).attrs; omega) (fun t ht => by have := (sres t ht).attrs; omega) true (decide_eq_true rfl)
  by_cases hz : zq9 = 0
  case neg =>
    exact pfx_no p q s a b w zq9 mp9 _ _ oq (decide_eq_false gp) (decide_eq_false gq) (decide_eq_false gs) (decide_eq_false ga) (decide_eq_false gb) fb fp kp fq kq (by simp; exact hz) (by simp; exact hz) (decide_eq_false hz) HAL HNp HNq HNa HNb HMP HMQ HRp HRq HSM
  subst hz
  have HOQ : Hid (oq = [⟨1, s.data.toList, a.data.toList, [], [], 1⟩, ⟨1, s.data.toList, b.data.toList, [⟨s.data.toList, a.data.toList, [49]⟩, ⟨[], b.data.toList, [50]⟩], [], 0⟩]) := Lib.hid (by
    unfold madeR at hpr
    split at hpr
    · split at hpr
      · injection hpr with hpr _
      · injection hpr with _ hpr; cases hpr
    · injection hpr with _ hpr; cases hpr)
  obtain rfl : mp9 = 2 := by rw [← hmp9, HOQ.out]; rfl
  exact pfx_yes p q s a b w _ _ oq (decide_eq_false gp) (decide_eq_false gq) (decide_eq_false gs) (decide_eq_false ga) (decide_eq_false gb) fb fp kp fq kq HOQ HAL HNp HNq HNa HNb HMP HMQ HRp HRq HSM
end Hx
end Go.Proofs.YtlhjcdkkmloamaaGreatDoor
