/-
  HeadParts: the lines of two blocks, one behind the other, are both's, and letters' sizes in names count for nothing: for all two texts (1,500 bytes each).
-/
import Derived.Test.YtfdhogaknlabkaaHedU
import Derived.HandedShaped
import Derived.Shelf.Vars
import Derived.WalkKit
import Derived.ProofKit
import Derived.OpenShut
import Derived.ShutString
import Derived.ChangeOld
import Derived.Below
namespace Go.Proofs.Ytfdhogaknlabkaa.headParts
open Go.ChangeShapes Go.WideShapes Go.ChangeAt Go.RowKit
open Go.ChangeMaps (open_string shut_string)
open Hx Lx Hd
set_option linter.unusedVariables false

theorem own : ownKnob Try.prog.godebug = none := by kernel_rfl
theorem laidOut : laidOutB Try.prog = true := by kernel_rfl

set_option maxHeartbeats 8000000 in
set_option maxRecDepth 100000 in
theorem pt_la (a b : ByteArray) (w : World) (hX : Mx w) (h1 : 1500 < a.size) : Calls Try.prog 7 #[.string a, .string b] w fun e w' => e = .returned (.bool true) ∧ Below w.heap.size w w' := by
  have HA := Lib.hid (alive14 w hX)
  have da : decide ((1500 : Int) < (a.size : Int)) = true := decide_eq_true (by omega)
  clear hX h1
  go_enter Try.func7, Try.ntmps7
  go_wp2_with (first
    | (go_at_call 16; (with_reducible refine (HA.out).mono ?_); rintro e w1 ⟨rfl, hb1⟩; have HB1 := Lib.hid hb1; clear hb1)
    | fail)
  go_ret
  exact ⟨rfl, HB1.out⟩
set_option maxHeartbeats 8000000 in
set_option maxRecDepth 100000 in
theorem pt_lb (a b : ByteArray) (w : World) (hX : Mx w) (h0 : a.size ≤ 1500) (h1 : 1500 < b.size) : Calls Try.prog 7 #[.string a, .string b] w fun e w' => e = .returned (.bool true) ∧ Below w.heap.size w w' := by
  have HA := Lib.hid (alive14 w hX)
  have da : decide ((1500 : Int) < (a.size : Int)) = false := decide_eq_false (by omega)
  have db : decide ((1500 : Int) < (b.size : Int)) = true := decide_eq_true (by omega)
  clear hX h1 h0
  go_enter Try.func7, Try.ntmps7
  go_wp2_with (first
    | (go_at_call 16; (with_reducible refine (HA.out).mono ?_); rintro e w1 ⟨rfl, hb1⟩; have HB1 := Lib.hid hb1; clear hb1)
    | fail)
  go_ret
  exact ⟨rfl, HB1.out⟩
set_option maxHeartbeats 8000000 in
set_option maxRecDepth 100000 in
theorem pt_ea (a b : ByteArray) (w : World) (hX : Mx w) (h0 : a.size ≤ 1500) (h1 : b.size ≤ 1500) (z z2 : Int) (hz : (z != 0) = true) (ys : List Pr) (m : Nat) (lHPb : ys.length = m) (hHPa : parseH a.data.toList = ([], z)) (hHPb : parseH b.data.toList = (ys, z2)) : Calls Try.prog 7 #[.string a, .string b] w fun e w' => e = .returned (.bool true) ∧ Below w.heap.size w w' := by
  have HA := Lib.hid (alive14 w hX)
  have da : decide ((1500 : Int) < (a.size : Int)) = false := decide_eq_false (by omega)
  have db : decide ((1500 : Int) < (b.size : Int)) = false := decide_eq_false (by omega)
  have HPa : Hid (∀ W, Below w.heap.size w W → Calls Try.prog 13 #[.string a] W fun e w' => Below W.heap.size W w' ∧ ∃ A c, e = .returned (.tuple #[.slice A 0 c, .int .i64 z]) ∧ (A = none → c = 0) ∧ RdC PrC w' w'.heap.size A []) := Lib.hid fun W hW => (parse14 a [] z W (hX.below hW) (by omega) hHPa).mono fun e w' ⟨k1, A, c, k2, _, _, k3, k4⟩ => ⟨k1, A, c, k2, k3, k4⟩
  have HPb : Hid (∀ W, Below w.heap.size w W → Calls Try.prog 13 #[.string b] W fun e w' => Below W.heap.size W w' ∧ ∃ A c, e = .returned (.tuple #[.slice A m c, .int .i64 z2]) ∧ (A = none → c = 0) ∧ RdC PrC w' w'.heap.size A ys) := Lib.hid fun W hW => (parse14 b ys z2 W (hX.below hW) (by omega) hHPb).mono fun e w' ⟨k1, A, c, k2, _, _, k3, k4⟩ => ⟨k1, A, c, by rw [k2, lHPb], k3, k4⟩
  clear hX h0 h1 hHPa hHPb lHPb
  go_enter Try.func7, Try.ntmps7
  go_wp2_with (first
    | (go_at_call 16; (with_reducible refine (HA.out).mono ?_); rintro e w1 ⟨rfl, hb1⟩; have HB1 := Lib.hid hb1; clear hb1)
    | (go_at_call 13; (with_reducible refine (HPa.out w1 HB1.out).mono ?_); rintro e w2 ⟨hb2, A2, c2, rfl, hz2, hr2⟩; have HR2 := Lib.hid hr2; have HZ2 := Lib.hid hz2; have HB2 := Lib.hid (stp HB1.out hb2); clear hb2 hr2 hz2)
    | (go_at_call 13; (with_reducible refine (HPb.out w2 HB2.out).mono ?_); rintro e w3 ⟨hb3, A3, c3, rfl, hz3, hr3⟩; have HR3 := Lib.hid hr3; have HZ3 := Lib.hid hz3; have HB3 := Lib.hid (stp HB2.out hb3); clear hb3 hr3 hz3)
    | fail)
  go_ret
  exact ⟨rfl, HB3.out⟩
set_option maxHeartbeats 8000000 in
set_option maxRecDepth 100000 in
theorem pt_eb (a b : ByteArray) (w : World) (hX : Mx w) (h0 : a.size ≤ 1500) (h1 : b.size ≤ 1500) (z2 : Int) (hz : (z2 != 0) = true) (xs : List Pr) (m : Nat) (lHPa : xs.length = m) (hHPa : parseH a.data.toList = (xs, 0)) (hHPb : parseH b.data.toList = ([], z2)) : Calls Try.prog 7 #[.string a, .string b] w fun e w' => e = .returned (.bool true) ∧ Below w.heap.size w w' := by
  have HA := Lib.hid (alive14 w hX)
  have da : decide ((1500 : Int) < (a.size : Int)) = false := decide_eq_false (by omega)
  have db : decide ((1500 : Int) < (b.size : Int)) = false := decide_eq_false (by omega)
  have HPa : Hid (∀ W, Below w.heap.size w W → Calls Try.prog 13 #[.string a] W fun e w' => Below W.heap.size W w' ∧ ∃ A c, e = .returned (.tuple #[.slice A m c, .int .i64 0]) ∧ (A = none → c = 0) ∧ RdC PrC w' w'.heap.size A xs) := Lib.hid fun W hW => (parse14 a xs 0 W (hX.below hW) (by omega) hHPa).mono fun e w' ⟨k1, A, c, k2, _, _, k3, k4⟩ => ⟨k1, A, c, by rw [k2, lHPa], k3, k4⟩
  have HPb : Hid (∀ W, Below w.heap.size w W → Calls Try.prog 13 #[.string b] W fun e w' => Below W.heap.size W w' ∧ ∃ A c, e = .returned (.tuple #[.slice A 0 c, .int .i64 z2]) ∧ (A = none → c = 0) ∧ RdC PrC w' w'.heap.size A []) := Lib.hid fun W hW => (parse14 b [] z2 W (hX.below hW) (by omega) hHPb).mono fun e w' ⟨k1, A, c, k2, _, _, k3, k4⟩ => ⟨k1, A, c, k2, k3, k4⟩
  clear hX h0 h1 hHPa hHPb lHPa
  go_enter Try.func7, Try.ntmps7
  go_wp2_with (first
    | (go_at_call 16; (with_reducible refine (HA.out).mono ?_); rintro e w1 ⟨rfl, hb1⟩; have HB1 := Lib.hid hb1; clear hb1)
    | (go_at_call 13; (with_reducible refine (HPa.out w1 HB1.out).mono ?_); rintro e w2 ⟨hb2, A2, c2, rfl, hz2, hr2⟩; have HR2 := Lib.hid hr2; have HZ2 := Lib.hid hz2; have HB2 := Lib.hid (stp HB1.out hb2); clear hb2 hr2 hz2)
    | (go_at_call 13; (with_reducible refine (HPb.out w2 HB2.out).mono ?_); rintro e w3 ⟨hb3, A3, c3, rfl, hz3, hr3⟩; have HR3 := Lib.hid hr3; have HZ3 := Lib.hid hz3; have HB3 := Lib.hid (stp HB2.out hb3); clear hb3 hr3 hz3)
    | fail)
  go_ret
  exact ⟨rfl, HB3.out⟩
set_option maxHeartbeats 16000000 in
set_option maxRecDepth 100000 in
theorem pt_many (a b : ByteArray) (w : World) (hX : Mx w) (h0 : a.size ≤ 1500) (h1 : b.size ≤ 1500) (xs ys ps : List Pr) (n m q : Nat) (lHPa : xs.length = n) (lHPb : ys.length = m) (hps : xs ++ ys = ps) (hq : n + m = q) (hHPa : parseH a.data.toList = (xs, 0)) (hHPb : parseH b.data.toList = (ys, 0)) (s : ByteArray) (hs : a ++ b = s) (hm : 32 < q) (hHPs : parseH s.data.toList = ([], 4)) : Calls Try.prog 7 #[.string a, .string b] w fun e w' => e = .returned (.bool true) ∧ Below w.heap.size w w' := by
  have HA := Lib.hid (alive14 w hX)
  obtain ⟨j0, hj, hy0, hy1, hy2⟩ := info_parts infoPr
  have HI := Lib.hid hj
  have HZ0 := Lib.hid hy0
  have HZ1 := Lib.hid hy1
  have HZZ := Lib.hid hy2
  have hab : ∀ W, (Op.stringOp .add a b).run Try.prog W = .ok (.string s) W := fun W => by rw [run_string_add_sum W a b (by show a.size + b.size ≤ _; omega), hs]
  have hsz : s.size ≤ 3000 := by rw [← hs, ← ba_l, show (a ++ b).data.toList = a.data.toList ++ b.data.toList by simp, List.length_append, ba_l, ba_l]; omega
  have hN := (parse_wrap hHPa).2
  have hM := (parse_wrap hHPb).2
  rw [lHPa] at hN
  rw [lHPb] at hM
  have HNM : Hid (n ≤ 32 ∧ m ≤ 32) := Lib.hid ⟨hN, hM⟩
  have HN := Lib.hid lHPa
  have HM := Lib.hid lHPb
  have HQ := Lib.hid hq
  have HPS := Lib.hid hps
  have da : decide ((1500 : Int) < (a.size : Int)) = false := decide_eq_false (by omega)
  have db : decide ((1500 : Int) < (b.size : Int)) = false := decide_eq_false (by omega)
  have HPa : Hid (∀ W, Below w.heap.size w W → Calls Try.prog 13 #[.string a] W fun e w' => Below W.heap.size W w' ∧ ∃ A c, e = .returned (.tuple #[.slice A n c, .int .i64 0]) ∧ (A = none → c = 0) ∧ RdC PrC w' w'.heap.size A xs) := Lib.hid fun W hW => (parse14 a xs 0 W (hX.below hW) (by omega) hHPa).mono fun e w' ⟨k1, A, c, k2, _, _, k3, k4⟩ => ⟨k1, A, c, by rw [k2, lHPa], k3, k4⟩
  have HPb : Hid (∀ W, Below w.heap.size w W → Calls Try.prog 13 #[.string b] W fun e w' => Below W.heap.size W w' ∧ ∃ A c, e = .returned (.tuple #[.slice A m c, .int .i64 0]) ∧ (A = none → c = 0) ∧ RdC PrC w' w'.heap.size A ys) := Lib.hid fun W hW => (parse14 b ys 0 W (hX.below hW) (by omega) hHPb).mono fun e w' ⟨k1, A, c, k2, _, _, k3, k4⟩ => ⟨k1, A, c, by rw [k2, lHPb], k3, k4⟩
  have HPs : Hid (∀ W, Below w.heap.size w W → Calls Try.prog 13 #[.string s] W fun e w' => Below W.heap.size W w' ∧ ∃ A c, e = .returned (.tuple #[.slice A 0 c, .int .i64 4]) ∧ (A = none → c = 0) ∧ RdC PrC w' w'.heap.size A []) := Lib.hid fun W hW => (parse14 s [] 4 W (hX.below hW) (by omega) hHPs).mono fun e w' ⟨k1, A, c, k2, _, _, k3, k4⟩ => ⟨k1, A, c, k2, k3, k4⟩
  have dm : decide ((32 : Int) < (q : Int)) = true := decide_eq_true (by omega)
  clear hX h0 h1 hHPa hHPb hHPs lHPa lHPb hs hsz hN hM hj hy0 hy1 hy2 hps hq hm
  go_enter Try.func7, Try.ntmps7
  go_wp2_with (first
    | (go_at_call 16; (with_reducible refine (HA.out).mono ?_); rintro e w1 ⟨rfl, hb1⟩; have HB1 := Lib.hid hb1; clear hb1)
    | (go_at_call 13; (with_reducible refine (HPa.out w1 HB1.out).mono ?_); rintro e w2 ⟨hb2, A2, c2, rfl, hz2, hr2⟩; have HR2 := Lib.hid hr2; have HZ2 := Lib.hid hz2; have HB2 := Lib.hid (stp HB1.out hb2); clear hb2 hr2 hz2)
    | (go_at_call 13; (with_reducible refine (HPb.out w2 HB2.out).mono ?_); rintro e w3 ⟨hb3, A3, c3, rfl, hz3, hr3⟩; have HR3 := Lib.hid hr3; have HZ3 := Lib.hid hz3; have HB3 := Lib.hid (stp HB2.out hb3); have HR2b := Lib.hid (HR2.out.on hb3); clear hb3 hr3 hz3)
    | (at_builtin; refine wpList_append_prs rfl (.tmp 49) (.tmp 50) 28 rfl w3.heap.size 25 j0 (.agg #[.string ⟨#[]⟩, .string ⟨#[]⟩]) Try.underlying28 HI.out HZ0.out HZ1.out HZZ.out rfl _ 0 [] rfl (own_empty w3 25 2) _ A2 n c2 xs rfl (HR2b.out.on (stpA (Below.refl w3.heap.size w3) (.cells #[] 25))) HN.out HZ2.out (by have := HNM.out; omega) (by rw [World.size_alloc]; omega) ?_; intro v4 w4 hown4 hgr4; rw [Nat.zero_add, List.nil_append] at hown4; obtain ⟨A4, c4, rfl⟩ := own_form2 hown4; have HO4 := Lib.hid hown4; have K4 : Hid (Below w3.heap.size w3 w4) := Lib.hid (Below.grown (stpA (Below.refl w3.heap.size w3) _) hgr4 (by rw [World.size_alloc]; omega) (fun g hg => by cases hg; exact Nat.le_refl _)); clear hown4 hgr4)
    | (at_builtin; refine wpList_append_prs rfl (.tmp 51) (.tmp 52) 28 rfl w3.heap.size 25 j0 (.agg #[.string ⟨#[]⟩, .string ⟨#[]⟩]) Try.underlying28 HI.out HZ0.out HZ1.out HZZ.out rfl _ n _ rfl HO4.out _ A3 m c3 ys rfl (HR3.out.on K4.out) HM.out HZ3.out (by have := HNM.out; omega) (by have := K4.out.size; omega) ?_; intro v5 w5 hown5 hgr5; rw [HQ.out] at hown5; obtain ⟨A5, c5, rfl⟩ := own_form2 hown5; have R5 : Hid (RdC PrC w5 w5.heap.size A5 ps) := Lib.hid (by have t := row_plus hown5; rw [HPS.out] at t; exact t); have HB5 : Hid (Below w.heap.size w w5) := Lib.hid (stp HB3.out (Below.grown K4.out hgr5 (by have := K4.out.size; omega) (fun g hg => by have := (HO4.out.lt _ hg).1; omega))); clear hown5 hgr5)
    | (go_at_call 13; (with_reducible refine (HPs.out w5 HB5.out).mono ?_); rintro e w6 ⟨hb6, A6, c6, rfl, _, _⟩; have HB6 := Lib.hid (stp HB5.out hb6); clear hb6)
    | fail)
  go_ret
  exact ⟨rfl, HB6.out⟩
set_option maxHeartbeats 32000000 in
set_option maxRecDepth 100000 in
theorem pt_in (a b : ByteArray) (w : World) (hX : Mx w) (h0 : a.size ≤ 1500) (h1 : b.size ≤ 1500) (xs ys ps : List Pr) (n m q : Nat) (lHPa : xs.length = n) (lHPb : ys.length = m) (hps : xs ++ ys = ps) (hq : n + m = q) (hHPa : parseH a.data.toList = (xs, 0)) (hHPb : parseH b.data.toList = (ys, 0)) (s : ByteArray) (hs : a ++ b = s) (hm : q ≤ 32) (lHPs : ps.length = q) (hHPs : parseH s.data.toList = (ps, 0)) (hsm : SmP ps) : Calls Try.prog 7 #[.string a, .string b] w fun e w' => e = .returned (.bool true) ∧ Below w.heap.size w w' := by
  have HA := Lib.hid (alive14 w hX)
  obtain ⟨j0, hj, hy0, hy1, hy2⟩ := info_parts infoPr
  have HI := Lib.hid hj
  have HZ0 := Lib.hid hy0
  have HZ1 := Lib.hid hy1
  have HZZ := Lib.hid hy2
  have hab : ∀ W, (Op.stringOp .add a b).run Try.prog W = .ok (.string s) W := fun W => by rw [run_string_add_sum W a b (by show a.size + b.size ≤ _; omega), hs]
  have hsz : s.size ≤ 3000 := by rw [← hs, ← ba_l, show (a ++ b).data.toList = a.data.toList ++ b.data.toList by simp, List.length_append, ba_l, ba_l]; omega
  have hN := (parse_wrap hHPa).2
  have hM := (parse_wrap hHPb).2
  rw [lHPa] at hN
  rw [lHPb] at hM
  have HNM : Hid (n ≤ 32 ∧ m ≤ 32) := Lib.hid ⟨hN, hM⟩
  have HN := Lib.hid lHPa
  have HM := Lib.hid lHPb
  have HQ := Lib.hid hq
  have HPS := Lib.hid hps
  have da : decide ((1500 : Int) < (a.size : Int)) = false := decide_eq_false (by omega)
  have db : decide ((1500 : Int) < (b.size : Int)) = false := decide_eq_false (by omega)
  have HPa : Hid (∀ W, Below w.heap.size w W → Calls Try.prog 13 #[.string a] W fun e w' => Below W.heap.size W w' ∧ ∃ A c, e = .returned (.tuple #[.slice A n c, .int .i64 0]) ∧ (A = none → c = 0) ∧ RdC PrC w' w'.heap.size A xs) := Lib.hid fun W hW => (parse14 a xs 0 W (hX.below hW) (by omega) hHPa).mono fun e w' ⟨k1, A, c, k2, _, _, k3, k4⟩ => ⟨k1, A, c, by rw [k2, lHPa], k3, k4⟩
  have HPb : Hid (∀ W, Below w.heap.size w W → Calls Try.prog 13 #[.string b] W fun e w' => Below W.heap.size W w' ∧ ∃ A c, e = .returned (.tuple #[.slice A m c, .int .i64 0]) ∧ (A = none → c = 0) ∧ RdC PrC w' w'.heap.size A ys) := Lib.hid fun W hW => (parse14 b ys 0 W (hX.below hW) (by omega) hHPb).mono fun e w' ⟨k1, A, c, k2, _, _, k3, k4⟩ => ⟨k1, A, c, by rw [k2, lHPb], k3, k4⟩
  have HPs : Hid (∀ W, Below w.heap.size w W → Calls Try.prog 13 #[.string s] W fun e w' => Below W.heap.size W w' ∧ ∃ A c, e = .returned (.tuple #[.slice A q c, .int .i64 0]) ∧ (A = none → c = 0) ∧ RdC PrC w' w'.heap.size A ps) := Lib.hid fun W hW => (parse14 s ps 0 W (hX.below hW) (by omega) hHPs).mono fun e w' ⟨k1, A, c, k2, _, _, k3, k4⟩ => ⟨k1, A, c, by rw [k2, lHPs], k3, k4⟩
  have dm : decide ((32 : Int) < (q : Int)) = false := decide_eq_false (by omega)
  have HPP : Hid (∀ A1 c1 A2 c2 W, RdC PrC W W.heap.size A1 ps → RdC PrC W W.heap.size A2 ps → Calls Try.prog 19 #[.slice A1 q c1, .slice A2 q c2] W fun e w' => e = .returned (.bool true) ∧ Below W.heap.size W w') := Lib.hid fun A1 c1 A2 c2 W k1 k2 => rpairs9 A1 A2 q c1 q c2 ps ps W k1 lHPs k2 lHPs (by omega) (by omega) true (decide_eq_true rfl)
  have HFD : Hid (∀ A c nm cnt W, RdC PrC W W.heap.size A ps → nm.size ≤ 1000000 → (findH ps nm.data.toList).length = cnt → Calls Try.prog 30 #[.slice A q c, .string nm] W fun e w' => Below W.heap.size W w' ∧ ∃ A c, e = .returned (.slice A cnt c) ∧ RdG encS w' w'.heap.size A ((findH ps nm.data.toList).map mkB)) := Lib.hid fun A c nm cnt W k1 k2 k3 => (find14 A q c ps nm W k1 lHPs (by omega) hsm k2).mono fun e w' ⟨j1, A, c, j2, _, j3⟩ => ⟨j1, A, c, k3 ▸ j2, j3⟩
  have HSM := Lib.hid hsm
  have HQL := Lib.hid lHPs
  have HQ32 := Lib.hid hm
  clear hX h0 h1 hHPa hHPb hHPs lHPa lHPb hs hsz hN hM hj hy0 hy1 hy2 hps hq hm hsm lHPs
  go_enter Try.func7, Try.ntmps7
  go_wp2_with (first
    | (go_at_call 16; (with_reducible refine (HA.out).mono ?_); rintro e w1 ⟨rfl, hb1⟩; have HB1 := Lib.hid hb1; clear hb1)
    | (go_at_call 13; (with_reducible refine (HPa.out w1 HB1.out).mono ?_); rintro e w2 ⟨hb2, A2, c2, rfl, hz2, hr2⟩; have HR2 := Lib.hid hr2; have HZ2 := Lib.hid hz2; have HB2 := Lib.hid (stp HB1.out hb2); clear hb2 hr2 hz2)
    | (go_at_call 13; (with_reducible refine (HPb.out w2 HB2.out).mono ?_); rintro e w3 ⟨hb3, A3, c3, rfl, hz3, hr3⟩; have HR3 := Lib.hid hr3; have HZ3 := Lib.hid hz3; have HB3 := Lib.hid (stp HB2.out hb3); have HR2b := Lib.hid (HR2.out.on hb3); clear hb3 hr3 hz3)
    | (at_builtin; refine wpList_append_prs rfl (.tmp 49) (.tmp 50) 28 rfl w3.heap.size 25 j0 (.agg #[.string ⟨#[]⟩, .string ⟨#[]⟩]) Try.underlying28 HI.out HZ0.out HZ1.out HZZ.out rfl _ 0 [] rfl (own_empty w3 25 2) _ A2 n c2 xs rfl (HR2b.out.on (stpA (Below.refl w3.heap.size w3) (.cells #[] 25))) HN.out HZ2.out (by have := HNM.out; omega) (by rw [World.size_alloc]; omega) ?_; intro v4 w4 hown4 hgr4; rw [Nat.zero_add, List.nil_append] at hown4; obtain ⟨A4, c4, rfl⟩ := own_form2 hown4; have HO4 := Lib.hid hown4; have K4 : Hid (Below w3.heap.size w3 w4) := Lib.hid (Below.grown (stpA (Below.refl w3.heap.size w3) _) hgr4 (by rw [World.size_alloc]; omega) (fun g hg => by cases hg; exact Nat.le_refl _)); clear hown4 hgr4)
    | (at_builtin; refine wpList_append_prs rfl (.tmp 51) (.tmp 52) 28 rfl w3.heap.size 25 j0 (.agg #[.string ⟨#[]⟩, .string ⟨#[]⟩]) Try.underlying28 HI.out HZ0.out HZ1.out HZZ.out rfl _ n _ rfl HO4.out _ A3 m c3 ys rfl (HR3.out.on K4.out) HM.out HZ3.out (by have := HNM.out; omega) (by have := K4.out.size; omega) ?_; intro v5 w5 hown5 hgr5; rw [HQ.out] at hown5; obtain ⟨A5, c5, rfl⟩ := own_form2 hown5; have R5 : Hid (RdC PrC w5 w5.heap.size A5 ps) := Lib.hid (by have t := row_plus hown5; rw [HPS.out] at t; exact t); have HB5 : Hid (Below w.heap.size w w5) := Lib.hid (stp HB3.out (Below.grown K4.out hgr5 (by have := K4.out.size; omega) (fun g hg => by have := (HO4.out.lt _ hg).1; omega))); clear hown5 hgr5)
    | (go_at_call 13; (with_reducible refine (HPs.out w5 HB5.out).mono ?_); rintro e w6 ⟨hb6, A6, c6, rfl, _, hr6⟩; have HR6 := Lib.hid hr6; have HR5b := Lib.hid (R5.out.on hb6); have HB6 := Lib.hid (stp HB5.out hb6); clear hb6 hr6)
    | (go_at_call 19; (with_reducible refine (HPP.out A6 c6 A5 c5 w6 HR6.out HR5b.out).mono ?_); rintro e w7 ⟨rfl, hb7⟩; have HR7 := Lib.hid (HR5b.out.on hb7); have HB7 := Lib.hid (stp HB6.out hb7); clear hb7)
    | fail)
  go_loopg [13, 14, 15, 16, 17] q (fun gg vi x14 x15 x16 x17 wr => ∃ k : Nat, k + gg = q ∧ vi = .int .i64 k ∧ Hid (Below w.heap.size w wr) ∧ Hid (RdC PrC wr wr.heap.size A5 ps))
  case atStart => exact ⟨0, by omega, rfl, HB7, HR7⟩
  case round =>
    rename Nat => go1
    rename World => wo
    obtain ⟨k, hk, rfl, HBW, HR⟩ := hrel
    have hk32 : k ≤ 32 := by have := HQ32.out; omega
    by_cases hlt : k < q
    · have hk1 : k < ps.length := by rw [HQL.out]; exact hlt
      have bk : (0 : Int) ≤ (k : Int) ∧ (k : Int) < (q : Int) := by omega
      obtain ⟨b0, off, x, y, rfl, hbB, c0, c1, he⟩ := pr_at HR.out hk1
      have hse := HSM.out _ (List.getElem_mem hk1)
      have hmem := List.getElem_mem hk1
      rw [he] at hse hmem
      dsimp only at hse
      obtain ⟨D, hD⟩ : ∃ D, x.data.toList = D := ⟨_, rfl⟩
      have hxs : x.size ≤ 20000 := by rw [← ba_l]; exact hse.1
      obtain ⟨cnt, hcnt⟩ : ∃ cnt, (findH ps x.data.toList).length = cnt := ⟨_, rfl⟩
      have hpos : 1 ≤ cnt := by rw [← hcnt]; exact find_pos hmem
      have hcl : cnt ≤ 32 := by rw [← hcnt]; have := find_len ps x.data.toList; have := HQL.out; have := HQ32.out; omega
      have dc : decide ((cnt : Int) < 1) = false := decide_eq_false (by omega)
      obtain ⟨u, hu⟩ : ∃ u : ByteArray, u.data.toList = D.map up1 := ⟨⟨(D.map up1).toArray⟩, by simp⟩
      have hfu : findH ps u.data.toList = findH ps x.data.toList := by rw [hu, ← hD, find_up]
      have hus : u.size = x.size := by rw [← ba_l, hu, List.length_map, ← hD, ba_l]
      have HCELL : Hid (∀ W, Below wo.heap.size wo W → W.cell? ⟨b0, off + k * 2, none⟩ = some (.string x)) := Lib.hid fun W h => (h.cell (p := ⟨b0, _, none⟩) hbB).trans c0
      have HF1 : Hid (∀ c W, Below wo.heap.size wo W → Calls Try.prog 30 #[.slice (some ⟨b0, off, none⟩) q c, .string u] W fun e w' => Below W.heap.size W w' ∧ ∃ A c, e = .returned (.slice A cnt c) ∧ RdG encS w' w'.heap.size A ((findH ps x.data.toList).map mkB)) := Lib.hid fun c W h => hfu ▸ HFD.out _ c u cnt W (HR.out.on h) (by omega) (by rw [hfu]; exact hcnt)
      have HF2 : Hid (∀ c W, Below wo.heap.size wo W → Calls Try.prog 30 #[.slice (some ⟨b0, off, none⟩) q c, .string x] W fun e w' => Below W.heap.size W w' ∧ ∃ A c, e = .returned (.slice A cnt c) ∧ RdG encS w' w'.heap.size A ((findH ps x.data.toList).map mkB)) := Lib.hid fun c W h => HFD.out _ c x cnt W (HR.out.on h) (by omega) hcnt
      have HSA : Hid (∀ W, Calls Try.prog 32 #[.string u, .string x] W fun e w' => e = .returned (.bool true) ∧ Below W.heap.size W w') := Lib.hid fun W => same7 u x true W (by omega) (by omega) (by rw [lowS_dec, hu, ← hD, lows_up]; exact decide_eq_true rfl)
      have HSS : Hid (∀ A1 c1 A2 c2 W, RdG encS W W.heap.size A1 ((findH ps x.data.toList).map mkB) → RdG encS W W.heap.size A2 ((findH ps x.data.toList).map mkB) → Calls Try.prog 29 #[.slice A1 cnt c1, .slice A2 cnt c2] W fun e w' => e = .returned (.bool true) ∧ Below W.heap.size W w') := Lib.hid fun A1 c1 A2 c2 W k1 k2 => rsameS A1 A2 cnt cnt c1 c2 _ _ true W k1 k2 (by rw [List.length_map]; exact hcnt) (by rw [List.length_map]; exact hcnt) ⟨by omega, by omega⟩ (decide_eq_true rfl)
      obtain ⟨C, WB, hconv, hrow, hb4⟩ := str_row D x hD wo
      have HUZ : Hid (x.size = D.length) := Lib.hid (by rw [← ba_l, hD])
      have HU := Lib.hid hu
      have HXS := Lib.hid hxs
      have HROW := Lib.hid hrow
      have HB4 := Lib.hid hb4
      have HBB := Lib.hid hbB
      clear hrow hb4 hse hmem hcnt hpos hcl hu hfu hus he c1 hbB hD
      go_wp2_with fail
      obtain ⟨g, hg⟩ : ∃ g, wo.heap.size = g := ⟨_, rfl⟩
      rw [hg]
      have HB4g : Hid (Below g wo WB) := Lib.hid (by rw [← hg]; exact HB4.out)
      have HRWg : Hid (Rw g (upk D 0) WB) := Lib.hid (by rw [← hg]; exact HROW.out)
      have HGW := Lib.hid hg
      clear hg hconv
      go_loopg [15] x.size (fun gg vj wq => ∃ j : Nat, j + gg = x.size ∧ vj = .int .i64 j ∧ Rw g (upk D j) wq ∧ Below g wo wq)
      case atStart => exact ⟨0, by omega, rfl, HRWg.out, HB4g.out⟩
      case round =>
        rename Nat => go2
        rename World => wq
        obtain ⟨j, hj, rfl, hrw, hbw⟩ := hrel
        have HRW := Lib.hid hrw
        have HBQ := Lib.hid hbw
        have hzz := HUZ.out
        have hx20 := HXS.out
        by_cases hlt2 : j < x.size
        · obtain ⟨c, hc⟩ : ∃ c, D[j]? = some c := ⟨_, List.getElem?_eq_getElem (by omega)⟩
          have hat2 := upk_at hc
          have hcell := hrw.cell hat2.1
          have hfree := hrw.free (k := j) (by rw [upk_len]; omega)
          have bj : (0 : Int) ≤ (j : Int) ∧ (j : Int) < (x.size : Int) := by omega
          have hcl := c.toNat_lt
          have HC := Lib.hid hc
          have HAT := Lib.hid hat2
          clear hc hat2 hrw hbw
          by_cases h97 : 97 ≤ c.toNat
          · have dd : decide ((97 : Int) ≤ (c.toNat : Int)) = true := by simp; omega
            by_cases h122 : c.toNat ≤ 122
            · have de : decide ((c.toNat : Int) ≤ 122) = true := by simp; omega
              obtain ⟨z, hz⟩ : ∃ z, up1 c = z := ⟨_, rfl⟩
              have hzn : (z.toNat : Int) = (c.toNat : Int) - 32 := by
                rw [← hz]
                unfold up1
                rw [if_pos ⟨h97, h122⟩, UInt8.toNat_sub_of_le _ _ (by rw [UInt8.le_iff_toNat_le]; exact Nat.le_trans (by decide) h97)]
                show ((c.toNat - 32 : Nat) : Int) = _
                omega
              have gy : IntKind.u8.wrap ((c.toNat : Int) - 32) = (z.toNat : Int) := by rw [IntWalk.u8_in _ (by omega)]; omega
              have my : ((c.toNat : Int) - 32) % 256 = (z.toNat : Int) := by omega
              have HZ := Lib.hid hz
              clear hzn hz
              go_wp2_with fail
              go_roundg (go2 - 1)
              case rel => exact ⟨j + 1, by omega, by go_num, by rw [HAT.out.2, HZ.out]; exact HRW.out.put, HBQ.out.setCell (Nat.le_refl _) _⟩
              case measure => omega
            · have de : decide ((c.toNat : Int) ≤ 122) = false := by simp; omega
              have HNX : Hid (upk D (j + 1) = upk D j) := Lib.hid (upk_same HC.out (by unfold up1; rw [if_neg (fun h => h122 h.2)]))
              go_wp2_with fail
              go_roundg (go2 - 1)
              case rel => exact ⟨j + 1, by omega, by go_num, by rw [HNX.out]; exact HRW.out, HBQ.out⟩
              case measure => omega
          · have dd : decide ((97 : Int) ≤ (c.toNat : Int)) = false := by simp; omega
            have HNX : Hid (upk D (j + 1) = upk D j) := Lib.hid (upk_same HC.out (by unfold up1; rw [if_neg (fun h => h97 h.1)]))
            go_wp2_with fail
            go_roundg (go2 - 1)
            case rel => exact ⟨j + 1, by omega, by go_num, by rw [HNX.out]; exact HRW.out, HBQ.out⟩
            case measure => omega
        · obtain rfl : x.size = j := by omega
          have hUU : upk D x.size = u.data.toList := by rw [HUZ.out, upk_all, HU.out]
          rw [hUU] at hrw
          have hul : u.data.toList.length = x.size := by rw [HU.out, List.length_map, HUZ.out]
          have hrow : Hid (∀ W, Below wq.heap.size wq W → Rw g u.data.toList W) := Lib.hid fun W h => by
            obtain ⟨cs, fr, r1, r2, r3⟩ := hrw
            exact ⟨cs, fr, kept_heap r1 h, r2, r3⟩
          have HCV : Hid (∀ W, Below wq.heap.size wq W → (convert 58 9 (.slice (some ⟨g, 0, none⟩) x.size C)).run Try.prog W = .ok (.string u) W) := Lib.hid fun W h => by
            have t := conv_str (P := Try.prog) (w := W) (n := x.size) (c := C) (A := some ⟨g, 0, none⟩) (l := u.data.toList) (B := W.heap.size) (fun hp => (hrow.out W h).rd hp) hul Try.underlying58 Try.underlying5 Try.underlying9
            rw [show (⟨u.data.toList.toArray⟩ : ByteArray) = u from (ba_eq7 u).symm] at t
            exact t
          have HWR : Hid (∀ W, Below wq.heap.size wq W → Below wo.heap.size wo W) := Lib.hid fun W h => stp (by rw [HGW.out]; exact HBQ.out) h
          have HS : Hid (∀ W, Below wq.heap.size wq W → (convert 58 9 (.slice (some ⟨g, 0, none⟩) x.size C)).run Try.prog W = .ok (.string u) W ∧ W.cell? ⟨b0, off + k * 2, none⟩ = some (.string x)) := Lib.hid fun W h => ⟨HCV.out W h, HCELL.out W (HWR.out W h)⟩
          clear hrw hbw hUU hul hrow hzz
          go_wp2_with fail
          go_region_held3 (fun W => (convert 58 9 (.slice (some ⟨g, 0, none⟩) x.size C)).run Try.prog W = .ok (.string u) W ∧ W.cell? ⟨b0, off + k * 2, none⟩ = some (.string x))
            (first | exact HS.out _ K2.out | exact HS.out _ K1.out | exact HS.out _ (by first | exact Below.refl _ _ | exact (Below.refl _ _).drew))
            ((first
            | (go_at_call 30; (with_reducible refine (HF1.out _ _ (HWR.out _ (by first | exact Below.refl _ _ | exact (Below.refl _ _).drew))).mono ?_); rintro e v1 ⟨hb1, A1, e1, rfl, hg1⟩; have K1 : Hid (Below wq.heap.size wq v1) := Lib.hid (stp (by first | exact Below.refl _ _ | exact (Below.refl _ _).drew) hb1); have G1 := Lib.hid hg1; clear hb1 hg1)
            | (go_at_call 30; (with_reducible refine (HF2.out _ _ (HWR.out _ (by first | exact K1.out | exact K1.out.drew))).mono ?_); rintro e v2 ⟨hb2, A2b, e2, rfl, hg2⟩; have K2 : Hid (Below wq.heap.size wq v2) := Lib.hid (stp (by first | exact K1.out | exact K1.out.drew) hb2); have G1b : Hid (RdG encS v2 v2.heap.size A1 ((findH ps x.data.toList).map mkB)) := Lib.hid (G1.out.on (by first | exact hb2 | exact stp (Below.refl _ _).drew hb2)); have G2 := Lib.hid hg2; clear hb2 hg2)))
          have HS2 : Hid (∀ W, Below v2.heap.size v2 W → (convert 58 9 (.slice (some ⟨g, 0, none⟩) x.size C)).run Try.prog W = .ok (.string u) W ∧ W.cell? ⟨b0, off + k * 2, none⟩ = some (.string x)) := Lib.hid fun W h => HS.out W (stp K2.out h)
          go_wp2_with fail
          go_region_held3 (fun W => (convert 58 9 (.slice (some ⟨g, 0, none⟩) x.size C)).run Try.prog W = .ok (.string u) W ∧ W.cell? ⟨b0, off + k * 2, none⟩ = some (.string x))
            (first | exact HS2.out _ L4.out | exact HS2.out _ L3.out | exact HS2.out _ (by first | exact Below.refl _ _ | exact (Below.refl _ _).drew))
            ((first
            | (go_at_call 32; (with_reducible refine (HSA.out _).mono ?_); rintro e v3 ⟨rfl, hb3⟩; have L3 : Hid (Below v2.heap.size v2 v3) := Lib.hid (stp (by first | exact Below.refl _ _ | exact (Below.refl _ _).drew) hb3); clear hb3)
            | (go_at_call 29; (with_reducible refine (HSS.out _ _ _ _ _ (G1b.out.on (by first | exact L3.out | exact L3.out.drew)) (G2.out.on (by first | exact L3.out | exact L3.out.drew))).mono ?_); rintro e v4 ⟨rfl, hb4⟩; have L4 : Hid (Below v2.heap.size v2 v4) := Lib.hid (stp (by first | exact L3.out | exact L3.out.drew) hb4); clear hb4)))
          have HE : Hid (Below wo.heap.size wo v4) := Lib.hid (HWR.out _ (stp K2.out L4.out))
          go_wp2_with fail
          go_roundg (go1 - 1)
          case rel => exact ⟨k + 1, by omega, by go_num, Lib.hid (stp HBW.out HE.out), Lib.hid (HR.out.on HE.out)⟩
          case measure => omega
    · obtain rfl : q = k := by omega
      go_wp2_with fail
      go_ret
      exact ⟨rfl, HBW.out⟩
theorem sm_of {l : List UInt8} {ps : List Pr} (hp : parseH l = (ps, 0)) (hl : l.length ≤ 1500) : SmP ps := fun p hp2 => by
  obtain ⟨_, a4, a5, _⟩ := parse_ok hp
  have h1 := line_le ps p hp2
  have h2 : (lineP p).length = p.name.length + p.value.length + 4 := by unfold lineP; simp; omega
  omega
theorem none_of {l : List UInt8} {ps : List Pr} {z : Int} (hp : parseH l = (ps, z)) (hz : z ≠ 0) : ps = [] := by
  have t := parse_lits l
  rw [hp] at t
  rcases t with t | ⟨_, t⟩ | ⟨_, t⟩
  · exact absurd t hz
  · exact t
  · exact t
theorem walk (a b : ByteArray) (w : World) (w0 : a.size ≤ maxLen) (w1 : b.size ≤ maxLen) (hX : Mx w) : Calls Try.prog 7 #[.string a, .string b] w fun e w' => e = .returned (.bool true) ∧ Below w.heap.size w w' := by
  by_cases ha : 1500 < a.size
  · exact pt_la a b w hX ha
  by_cases hb : 1500 < b.size
  · exact pt_lb a b w hX (by omega) hb
  obtain ⟨xs, z, hpa⟩ : ∃ xs z, parseH a.data.toList = (xs, z) := ⟨_, _, rfl⟩
  obtain ⟨ys, z2, hpb⟩ : ∃ ys z, parseH b.data.toList = (ys, z) := ⟨_, _, rfl⟩
  by_cases hz : z = 0
  · subst hz
    by_cases hz2 : z2 = 0
    · subst hz2
      have h := parse_app hpa hpb (by rw [ba_l, ba_l]; omega)
      obtain ⟨s, hs⟩ : ∃ s, a ++ b = s := ⟨_, rfl⟩
      have hsl : s.data.toList = a.data.toList ++ b.data.toList := by rw [← hs]; simp
      rw [← hsl] at h
      by_cases hq : 32 < (xs ++ ys).length
      · rw [if_pos hq] at h
        rw [List.length_append] at hq
        exact pt_many a b w hX (by omega) (by omega) xs ys _ _ _ _ rfl rfl rfl rfl hpa hpb s hs hq h
      · rw [if_neg hq] at h
        rw [List.length_append] at hq
        exact pt_in a b w hX (by omega) (by omega) xs ys _ _ _ _ rfl rfl rfl rfl hpa hpb s hs (by omega) List.length_append h (fun p hp => by
          rcases List.mem_append.1 hp with hp | hp
          · exact sm_of hpa (by rw [ba_l]; omega) p hp
          · exact sm_of hpb (by rw [ba_l]; omega) p hp)
    · obtain rfl := none_of hpb hz2
      exact pt_eb a b w hX (by omega) (by omega) z2 (by simpa using hz2) xs _ rfl hpa hpb
  · obtain rfl := none_of hpa hz
    exact pt_ea a b w hX (by omega) (by omega) z z2 (by simpa using hz) ys _ rfl hpa hpb

theorem mx {W : World} (h : W.ShapedOpen Try.prog) : Mx W := Go.Proofs.cell_of_shapedOpen_int (zero := #[.int .i64 0]) (t := 3) h (of_decide_eq_true (by kernel_rfl)) (by kernel_rfl) rfl (by kernel_rfl) (by kernel_rfl) Try.underlying3
set_option maxRecDepth 100000 in
theorem lifted (os : Os) (started : os.Started) (H : Type) (enc : TypeId × Value → H) :
    ReturnsInHanded {} Try.checked os 7 .any (Rows.headPartsSpec.pre6 enc Try.prog Try.f7 Rows.headPartsRow.domain false) (Rows.headPartsSpec.post enc Try.prog Try.f7 false true false false) := by
  refine returnsInHanded_of_change_shaped (C := Try.checked) own started (by kernel_rfl) Try.func7
    (ChangeSpec.witness6 (enc := enc) (C := Try.checked) false ⟨#[], #[.string ByteArray.empty, .string ByteArray.empty], []⟩ 8 (by kernel_rfl) (by kernel_rfl) (by kernel_rfl) (by kernel_rfl)) ?_
  intro W base args ds gs before hval0 hW hcnd _ hsh _
  have hval : ∀ (j : Nat) t v, Try.f7.params[j]? = some t → args[j]? = some v → Value.okWide Try.prog W .any base t v := hval0
  have hW' := hW
  obtain ⟨p, q, hA0, hV, rfl, hfz, hnd⟩ := hW
  have hA : DataW.TrodAll enc Try.prog W 0 (fun _ => true) true Try.f7.params.toList args.toList ds p := hA0
  rw [Try.params7] at hA hval
  obtain ⟨v0, vs0, d0, ds0, p0, q0, hargs, rfl, rfl, h0, r0⟩ := trodAll_cons hA
  obtain ⟨v1, vs1, d1, ds1, p1, q1, rfl, rfl, rfl, h1, r1⟩ := trodAll_cons r0
  obtain ⟨rfl, rfl, rfl⟩ := trodAll_nil r1
  obtain rfl : args = #[v0, v1] := by cases args; simp_all
  obtain ⟨rfl, rfl⟩ := trodVars_none hV
  obtain ⟨a0, rfl, rfl, rfl, w0⟩ := open_string Try.underlying9 (hval 0 9 v0 rfl rfl) h0
  obtain ⟨a1, rfl, rfl, rfl, w1⟩ := open_string Try.underlying9 (hval 1 9 v1 rfl rfl) h1
  clear hA0 hval0
  refine (walk a0 a1 W w0 w1 (mx hsh)).mono fun e W' ⟨he, bel⟩ => ?_
  subst he
  exact ⟨_, rfl, _, _, _, [], _, [], hW', trodAll_mk1 (shut_bool Try.underlying4 _), (trodAll_cons_mk (shut_string Try.underlying9 w0) (trodAll_cons_mk (shut_string Try.underlying9 w1) trodAll_mk0)), rfl, bel.frame _, fun h => by cases h⟩

theorem over : Rows.headPartsRow.holds Try.pinned (OpenSpec.ofChange Rows.headPartsSpec) :=
  OpenClaim.holds_of_wide 7 Try.f7 rfl rfl rfl rfl rfl rfl rfl ⟨rfl, rfl, rfl, rfl, rfl⟩ rfl rfl rfl rfl rfl (by kernel_rfl) Try.func7 (by kernel_rfl)
    (of_decide_eq_true (by kernel_rfl)) (by unfold Func.isWrapper; first | (rw [if_pos (by decide +kernel)]; kernel_rfl) | (rw [if_neg (by decide +kernel)]; exact ⟨rfl, rfl⟩))
    (fun os started H enc _ => lifted os started H enc)

theorem proved : Rows.HeadPartsSaid := over
end Go.Proofs.Ytfdhogaknlabkaa.headParts
