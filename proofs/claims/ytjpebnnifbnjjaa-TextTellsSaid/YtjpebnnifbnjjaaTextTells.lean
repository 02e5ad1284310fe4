/-
  For every bytes and place the law of code points, and of what is a text, answers true, and what came in reads as before; no conditions.
-/
import Derived.Test.YtjpebnnifbnjjaaTextV
import Derived.WalkKit
import Derived.ProofKit
import Derived.OpenShut
import Derived.ShutString
import Derived.ChangeOld
import Derived.Below
namespace Go.Proofs.Ytjpebnnifbnjjaa.textTells
open Go.ChangeShapes Go.WideShapes Go.ChangeAt Go.RowKit
open Go.ChangeMaps (open_string shut_string)
open Hx Tx
set_option linter.unusedVariables false

theorem own : ownKnob Try.prog.godebug = none := by kernel_rfl
theorem laidOut : laidOutB Try.prog = true := by kernel_rfl

set_option linter.unusedVariables false
set_option maxRecDepth 100000 in
theorem walkOut (s : ByteArray) (a1 : Int) (w : World) (h : 2000 < s.size ∧ s.size ≤ 16384 ∨ 17000 < s.size) :
    Calls Try.prog 4 #[.string s, .int .i64 a1] w fun e w' => e = .returned (.bool true) ∧ Below w.heap.size w w' := by
  by_cases h1 : s.size ≤ 16384
  · have t0 : decide ((2000 : Int) < (s.size : Int)) = true := by simp; omega
    have t1 : decide ((s.size : Int) ≤ 16384) = true := by simp; omega
    clear h h1
    go_enter Try.func4, Try.ntmps4
    go_wp2
    go_ret
    exact ⟨rfl, Below.refl _ _⟩
  · have t0 : decide ((2000 : Int) < (s.size : Int)) = true := by simp; omega
    have t1 : decide ((s.size : Int) ≤ 16384) = false := by simp; omega
    have t2 : decide ((17000 : Int) < (s.size : Int)) = true := by simp; omega
    clear h h1
    go_enter Try.func4, Try.ntmps4
    go_wp2
    go_ret
    exact ⟨rfl, Below.refl _ _⟩
theorem encs_le (ns : List Nat) : ns.length ≤ (encs ns).length := by
  induction ns with
  | nil => simp
  | cons n ns ih =>
    rw [encs_cons, List.length_append]
    have := (enc_length n).1
    simp only [List.length_cons]
    omega
set_option maxHeartbeats 4000000 in
set_option maxRecDepth 100000 in
theorem walkA (s : ByteArray) (a : Nat) (w : World) (hs : s.size ≤ 2000) (ns : List Nat) (hp : pts s.data.toList = some ns) (ha : a < s.size) :
    Calls Try.prog 4 #[.string s, .int .i64 a] w fun e w' => e = .returned (.bool true) ∧ Below w.heap.size w w' := by
  have t0 : decide ((2000 : Int) < (s.size : Int)) = false := by simp; omega
  have t2 : decide ((17000 : Int) < (s.size : Int)) = false := by simp; omega
  obtain ⟨b, hb⟩ : ∃ b, may (a : Int) = b := ⟨_, rfl⟩
  have HB := Lib.hid hb
  have HM : Hid (s.size ≤ 1000000) := Lib.hid (by omega)
  have HA := Lib.hid ha
  have hc : chkE s = 0 := by unfold chkE; rw [if_neg (by omega), hp]; rfl
  have HC := Lib.hid hc
  have HP := Lib.hid hp
  have HM2 : Hid (s.size ≤ 16384) := Lib.hid (by omega)
  have hle : ns.length ≤ 1000000 := by
    have h1 := (pts_iff _ _).1 hp
    have h2 := congrArg List.length h1.1
    rw [ba_len5] at h2
    have h3 := encs_le ns
    omega
  have HLE := Lib.hid hle
  obtain ⟨p, k, e0, hnx⟩ : ∃ p k e0, nextR (s.data.toList.drop a) = (p, k, e0) := ⟨_, _, _, rfl⟩
  have HNX := Lib.hid hnx
  clear hb hs ha hc hp hle hnx
  go_enter Try.func4, Try.ntmps4
  go_wp2_with (first
    | (go_at_call 10; (with_reducible refine (next5 s a w HM.out HA.out p k e0 HNX.out).mono ?_); rintro e w1 ⟨rfl, hb1⟩)
    | (go_at_call 13; (with_reducible refine (rnext5 s a w1 HM.out HA.out p k e0 HNX.out).mono ?_); rintro e w2 ⟨rfl, hb2⟩; have hB2 := stp hb1 hb2)
    | (go_at_call 14; (with_reducible refine (points5_ok s ns w2 HM2.out HP.out).mono ?_); rintro e w3 ⟨hb3, A3, c3, rfl, hz3, hr3⟩; have hB3 := stp hB2 hb3; have HR3 := Lib.hid hr3; clear hr3 hz3)
    | (go_at_call 15; (with_reducible refine (rpoints_ok s ns w3 HM2.out HP.out).mono ?_); rintro e w4 ⟨hb4, A4, c4, rfl, hz4, hr4⟩; have hB4 := stp hB3 hb4; have HR4 := Lib.hid hr4; clear hr4 hz4)
    | (go_at_call 16; (with_reducible refine (rsame5_yes A3 A4 ns.length c3 c4 (zs ns) w4 (HR3.out.on hb4) HR4.out (zs_length ns) HLE.out).mono ?_); rintro e w5 ⟨rfl, hb5⟩; have hB5 := stp hB4 hb5)
    | (go_at_call 9; (with_reducible refine (check5 s w5 HM.out 0 HC.out).mono ?_); rintro e w6 ⟨rfl, hb6⟩; have hB6 := stp hB5 hb6)
    | (go_at_call 17; (with_reducible refine (rcheck_any s w6 HM.out 0 HC.out).mono ?_); rintro e w7 ⟨rfl, hb7⟩; have hB7 := stp hB6 hb7)
    | (go_at_call 18; (with_reducible refine (may5 a b w7 HB.out).mono ?_); rintro e w8 ⟨rfl, hb8⟩; have hB8 := stp hB7 hb8)
    | (go_at_call 19; (with_reducible refine (rmay_any a b w8 HB.out).mono ?_); rintro e w9 ⟨rfl, rfl⟩)
    | fail)
  go_ret
  exact ⟨rfl, hB8⟩

set_option maxHeartbeats 4000000 in
set_option maxRecDepth 100000 in
theorem walkB (s : ByteArray) (a1 : Int) (w : World) (hs : s.size ≤ 2000) (ns : List Nat) (hp : pts s.data.toList = some ns) (ha : a1 < 0 ∨ (s.size : Int) ≤ a1) :
    Calls Try.prog 4 #[.string s, .int .i64 a1] w fun e w' => e = .returned (.bool true) ∧ Below w.heap.size w w' := by
  have t0 : decide ((2000 : Int) < (s.size : Int)) = false := by simp; omega
  have t2 : decide ((17000 : Int) < (s.size : Int)) = false := by simp; omega
  obtain ⟨b, hb⟩ : ∃ b, may (a1 : Int) = b := ⟨_, rfl⟩
  have HB := Lib.hid hb
  have HM : Hid (s.size ≤ 1000000) := Lib.hid (by omega)
  have HA := Lib.hid ha
  have hc : chkE s = 0 := by unfold chkE; rw [if_neg (by omega), hp]; rfl
  have HC := Lib.hid hc
  have HP := Lib.hid hp
  have HM2 : Hid (s.size ≤ 16384) := Lib.hid (by omega)
  have hle : ns.length ≤ 1000000 := by
    have h1 := (pts_iff _ _).1 hp
    have h2 := congrArg List.length h1.1
    rw [ba_len5] at h2
    have h3 := encs_le ns
    omega
  have HLE := Lib.hid hle
  clear hb hs ha hc hp hle
  go_enter Try.func4, Try.ntmps4
  go_wp2_with (first
    | (go_at_call 10; (with_reducible refine (next5_arg s a1 w HA.out).mono ?_); rintro e w1 ⟨rfl, hb1⟩)
    | (go_at_call 13; (with_reducible refine (rnext5_arg s a1 w1 HA.out).mono ?_); rintro e w2 ⟨rfl, hb2⟩; have hB2 := stp hb1 hb2)
    | (go_at_call 14; (with_reducible refine (points5_ok s ns w2 HM2.out HP.out).mono ?_); rintro e w3 ⟨hb3, A3, c3, rfl, hz3, hr3⟩; have hB3 := stp hB2 hb3; have HR3 := Lib.hid hr3; clear hr3 hz3)
    | (go_at_call 15; (with_reducible refine (rpoints_ok s ns w3 HM2.out HP.out).mono ?_); rintro e w4 ⟨hb4, A4, c4, rfl, hz4, hr4⟩; have hB4 := stp hB3 hb4; have HR4 := Lib.hid hr4; clear hr4 hz4)
    | (go_at_call 16; (with_reducible refine (rsame5_yes A3 A4 ns.length c3 c4 (zs ns) w4 (HR3.out.on hb4) HR4.out (zs_length ns) HLE.out).mono ?_); rintro e w5 ⟨rfl, hb5⟩; have hB5 := stp hB4 hb5)
    | (go_at_call 9; (with_reducible refine (check5 s w5 HM.out 0 HC.out).mono ?_); rintro e w6 ⟨rfl, hb6⟩; have hB6 := stp hB5 hb6)
    | (go_at_call 17; (with_reducible refine (rcheck_any s w6 HM.out 0 HC.out).mono ?_); rintro e w7 ⟨rfl, hb7⟩; have hB7 := stp hB6 hb7)
    | (go_at_call 18; (with_reducible refine (may5 a1 b w7 HB.out).mono ?_); rintro e w8 ⟨rfl, hb8⟩; have hB8 := stp hB7 hb8)
    | (go_at_call 19; (with_reducible refine (rmay_any a1 b w8 HB.out).mono ?_); rintro e w9 ⟨rfl, rfl⟩)
    | fail)
  go_ret
  exact ⟨rfl, hB8⟩

set_option maxHeartbeats 4000000 in
set_option maxRecDepth 100000 in
theorem walkC (s : ByteArray) (a : Nat) (w : World) (hs : s.size ≤ 2000) (q : Int) (hq : chkE s = q) (hq0 : q ≠ 0) (ha : a < s.size) :
    Calls Try.prog 4 #[.string s, .int .i64 a] w fun e w' => e = .returned (.bool true) ∧ Below w.heap.size w w' := by
  have t0 : decide ((2000 : Int) < (s.size : Int)) = false := by simp; omega
  have t2 : decide ((17000 : Int) < (s.size : Int)) = false := by simp; omega
  obtain ⟨b, hb⟩ : ∃ b, may (a : Int) = b := ⟨_, rfl⟩
  have HB := Lib.hid hb
  have HM : Hid (s.size ≤ 1000000) := Lib.hid (by omega)
  have HA := Lib.hid ha
  have HC := Lib.hid hq
  have HQ0 := Lib.hid hq0
  obtain ⟨p, k, e0, hnx⟩ : ∃ p k e0, nextR (s.data.toList.drop a) = (p, k, e0) := ⟨_, _, _, rfl⟩
  have HNX := Lib.hid hnx
  clear hb hs ha hq hq0 hnx
  go_enter Try.func4, Try.ntmps4
  go_wp2_with (first
    | (go_at_call 10; (with_reducible refine (next5 s a w HM.out HA.out p k e0 HNX.out).mono ?_); rintro e w1 ⟨rfl, hb1⟩)
    | (go_at_call 13; (with_reducible refine (rnext5 s a w1 HM.out HA.out p k e0 HNX.out).mono ?_); rintro e w2 ⟨rfl, hb2⟩; have hB2 := stp hb1 hb2)
    | (go_at_call 14; (with_reducible refine (points5_no s q w2 HM.out HC.out HQ0.out).mono ?_); rintro e w3 ⟨rfl, hb3⟩; have hB3 := stp hB2 hb3)
    | (go_at_call 15; (with_reducible refine (rpoints_no s q w3 HM.out HC.out HQ0.out).mono ?_); rintro e w4 ⟨rfl, hb4⟩; have hB4 := stp hB3 hb4)
    | (go_at_call 16; (with_reducible refine (rsame5_yes none none 0 0 0 [] w4 (RdG.nil _ _ _) (RdG.nil _ _ _) rfl (by decide)).mono ?_); rintro e w5 ⟨rfl, hb5⟩; have hB5 := stp hB4 hb5)
    | (go_at_call 9; (with_reducible refine (check5 s w5 HM.out q HC.out).mono ?_); rintro e w6 ⟨rfl, hb6⟩; have hB6 := stp hB5 hb6)
    | (go_at_call 17; (with_reducible refine (rcheck_any s w6 HM.out q HC.out).mono ?_); rintro e w7 ⟨rfl, hb7⟩; have hB7 := stp hB6 hb7)
    | (go_at_call 18; (with_reducible refine (may5 a b w7 HB.out).mono ?_); rintro e w8 ⟨rfl, hb8⟩; have hB8 := stp hB7 hb8)
    | (go_at_call 19; (with_reducible refine (rmay_any a b w8 HB.out).mono ?_); rintro e w9 ⟨rfl, rfl⟩)
    | fail)
  go_ret
  exact ⟨rfl, hB8⟩

set_option maxHeartbeats 4000000 in
set_option maxRecDepth 100000 in
theorem walkD (s : ByteArray) (a1 : Int) (w : World) (hs : s.size ≤ 2000) (q : Int) (hq : chkE s = q) (hq0 : q ≠ 0) (ha : a1 < 0 ∨ (s.size : Int) ≤ a1) :
    Calls Try.prog 4 #[.string s, .int .i64 a1] w fun e w' => e = .returned (.bool true) ∧ Below w.heap.size w w' := by
  have t0 : decide ((2000 : Int) < (s.size : Int)) = false := by simp; omega
  have t2 : decide ((17000 : Int) < (s.size : Int)) = false := by simp; omega
  obtain ⟨b, hb⟩ : ∃ b, may (a1 : Int) = b := ⟨_, rfl⟩
  have HB := Lib.hid hb
  have HM : Hid (s.size ≤ 1000000) := Lib.hid (by omega)
  have HA := Lib.hid ha
  have HC := Lib.hid hq
  have HQ0 := Lib.hid hq0
  clear hb hs ha hq hq0
  go_enter Try.func4, Try.ntmps4
  go_wp2_with (first
    | (go_at_call 10; (with_reducible refine (next5_arg s a1 w HA.out).mono ?_); rintro e w1 ⟨rfl, hb1⟩)
    | (go_at_call 13; (with_reducible refine (rnext5_arg s a1 w1 HA.out).mono ?_); rintro e w2 ⟨rfl, hb2⟩; have hB2 := stp hb1 hb2)
    | (go_at_call 14; (with_reducible refine (points5_no s q w2 HM.out HC.out HQ0.out).mono ?_); rintro e w3 ⟨rfl, hb3⟩; have hB3 := stp hB2 hb3)
    | (go_at_call 15; (with_reducible refine (rpoints_no s q w3 HM.out HC.out HQ0.out).mono ?_); rintro e w4 ⟨rfl, hb4⟩; have hB4 := stp hB3 hb4)
    | (go_at_call 16; (with_reducible refine (rsame5_yes none none 0 0 0 [] w4 (RdG.nil _ _ _) (RdG.nil _ _ _) rfl (by decide)).mono ?_); rintro e w5 ⟨rfl, hb5⟩; have hB5 := stp hB4 hb5)
    | (go_at_call 9; (with_reducible refine (check5 s w5 HM.out q HC.out).mono ?_); rintro e w6 ⟨rfl, hb6⟩; have hB6 := stp hB5 hb6)
    | (go_at_call 17; (with_reducible refine (rcheck_any s w6 HM.out q HC.out).mono ?_); rintro e w7 ⟨rfl, hb7⟩; have hB7 := stp hB6 hb7)
    | (go_at_call 18; (with_reducible refine (may5 a1 b w7 HB.out).mono ?_); rintro e w8 ⟨rfl, hb8⟩; have hB8 := stp hB7 hb8)
    | (go_at_call 19; (with_reducible refine (rmay_any a1 b w8 HB.out).mono ?_); rintro e w9 ⟨rfl, rfl⟩)
    | fail)
  go_ret
  exact ⟨rfl, hB8⟩

set_option maxHeartbeats 4000000 in
set_option maxRecDepth 100000 in
theorem walkE (s : ByteArray) (a : Nat) (w : World) (hs : 16384 < s.size) (hs2 : s.size ≤ 17000) (q : Int) (hq : chkE s = q) (hq0 : q ≠ 0) (ha : a < s.size) :
    Calls Try.prog 4 #[.string s, .int .i64 a] w fun e w' => e = .returned (.bool true) ∧ Below w.heap.size w w' := by
  have t0 : decide ((2000 : Int) < (s.size : Int)) = true := by simp; omega
  have t1 : decide ((s.size : Int) ≤ 16384) = false := by simp; omega
  have t2 : decide ((17000 : Int) < (s.size : Int)) = false := by simp; omega
  obtain ⟨b, hb⟩ : ∃ b, may (a : Int) = b := ⟨_, rfl⟩
  have HB := Lib.hid hb
  have HM : Hid (s.size ≤ 1000000) := Lib.hid (by omega)
  have HA := Lib.hid ha
  have HC := Lib.hid hq
  have HQ0 := Lib.hid hq0
  obtain ⟨p, k, e0, hnx⟩ : ∃ p k e0, nextR (s.data.toList.drop a) = (p, k, e0) := ⟨_, _, _, rfl⟩
  have HNX := Lib.hid hnx
  clear hb hs hs2 ha hq hq0 hnx
  go_enter Try.func4, Try.ntmps4
  go_wp2_with (first
    | (go_at_call 10; (with_reducible refine (next5 s a w HM.out HA.out p k e0 HNX.out).mono ?_); rintro e w1 ⟨rfl, hb1⟩)
    | (go_at_call 13; (with_reducible refine (rnext5 s a w1 HM.out HA.out p k e0 HNX.out).mono ?_); rintro e w2 ⟨rfl, hb2⟩; have hB2 := stp hb1 hb2)
    | (go_at_call 14; (with_reducible refine (points5_no s q w2 HM.out HC.out HQ0.out).mono ?_); rintro e w3 ⟨rfl, hb3⟩; have hB3 := stp hB2 hb3)
    | (go_at_call 15; (with_reducible refine (rpoints_no s q w3 HM.out HC.out HQ0.out).mono ?_); rintro e w4 ⟨rfl, hb4⟩; have hB4 := stp hB3 hb4)
    | (go_at_call 16; (with_reducible refine (rsame5_yes none none 0 0 0 [] w4 (RdG.nil _ _ _) (RdG.nil _ _ _) rfl (by decide)).mono ?_); rintro e w5 ⟨rfl, hb5⟩; have hB5 := stp hB4 hb5)
    | (go_at_call 9; (with_reducible refine (check5 s w5 HM.out q HC.out).mono ?_); rintro e w6 ⟨rfl, hb6⟩; have hB6 := stp hB5 hb6)
    | (go_at_call 17; (with_reducible refine (rcheck_any s w6 HM.out q HC.out).mono ?_); rintro e w7 ⟨rfl, hb7⟩; have hB7 := stp hB6 hb7)
    | (go_at_call 18; (with_reducible refine (may5 a b w7 HB.out).mono ?_); rintro e w8 ⟨rfl, hb8⟩; have hB8 := stp hB7 hb8)
    | (go_at_call 19; (with_reducible refine (rmay_any a b w8 HB.out).mono ?_); rintro e w9 ⟨rfl, rfl⟩)
    | fail)
  go_ret
  exact ⟨rfl, hB8⟩

set_option maxHeartbeats 4000000 in
set_option maxRecDepth 100000 in
theorem walkF (s : ByteArray) (a1 : Int) (w : World) (hs : 16384 < s.size) (hs2 : s.size ≤ 17000) (q : Int) (hq : chkE s = q) (hq0 : q ≠ 0) (ha : a1 < 0 ∨ (s.size : Int) ≤ a1) :
    Calls Try.prog 4 #[.string s, .int .i64 a1] w fun e w' => e = .returned (.bool true) ∧ Below w.heap.size w w' := by
  have t0 : decide ((2000 : Int) < (s.size : Int)) = true := by simp; omega
  have t1 : decide ((s.size : Int) ≤ 16384) = false := by simp; omega
  have t2 : decide ((17000 : Int) < (s.size : Int)) = false := by simp; omega
  obtain ⟨b, hb⟩ : ∃ b, may (a1 : Int) = b := ⟨_, rfl⟩
  have HB := Lib.hid hb
  have HM : Hid (s.size ≤ 1000000) := Lib.hid (by omega)
  have HA := Lib.hid ha
  have HC := Lib.hid hq
  have HQ0 := Lib.hid hq0
  clear hb hs hs2 ha hq hq0
  go_enter Try.func4, Try.ntmps4
  go_wp2_with (first
    | (go_at_call 10; (with_reducible refine (next5_arg s a1 w HA.out).mono ?_); rintro e w1 ⟨rfl, hb1⟩)
    | (go_at_call 13; (with_reducible refine (rnext5_arg s a1 w1 HA.out).mono ?_); rintro e w2 ⟨rfl, hb2⟩; have hB2 := stp hb1 hb2)
    | (go_at_call 14; (with_reducible refine (points5_no s q w2 HM.out HC.out HQ0.out).mono ?_); rintro e w3 ⟨rfl, hb3⟩; have hB3 := stp hB2 hb3)
    | (go_at_call 15; (with_reducible refine (rpoints_no s q w3 HM.out HC.out HQ0.out).mono ?_); rintro e w4 ⟨rfl, hb4⟩; have hB4 := stp hB3 hb4)
    | (go_at_call 16; (with_reducible refine (rsame5_yes none none 0 0 0 [] w4 (RdG.nil _ _ _) (RdG.nil _ _ _) rfl (by decide)).mono ?_); rintro e w5 ⟨rfl, hb5⟩; have hB5 := stp hB4 hb5)
    | (go_at_call 9; (with_reducible refine (check5 s w5 HM.out q HC.out).mono ?_); rintro e w6 ⟨rfl, hb6⟩; have hB6 := stp hB5 hb6)
    | (go_at_call 17; (with_reducible refine (rcheck_any s w6 HM.out q HC.out).mono ?_); rintro e w7 ⟨rfl, hb7⟩; have hB7 := stp hB6 hb7)
    | (go_at_call 18; (with_reducible refine (may5 a1 b w7 HB.out).mono ?_); rintro e w8 ⟨rfl, hb8⟩; have hB8 := stp hB7 hb8)
    | (go_at_call 19; (with_reducible refine (rmay_any a1 b w8 HB.out).mono ?_); rintro e w9 ⟨rfl, rfl⟩)
    | fail)
  go_ret
  exact ⟨rfl, hB8⟩

theorem walk (s : ByteArray) (a1 : Int) (w : World) (w0 : s.size ≤ maxLen) (w1 : (Lit.int .i64 a1).wf = true) :
    Calls Try.prog 4 #[.string s, .int .i64 a1] w fun e w' => e = .returned (.bool true) ∧ Below w.heap.size w w' := by
  by_cases h : 2000 < s.size ∧ s.size ≤ 16384 ∨ 17000 < s.size
  · exact walkOut s a1 w h
  · by_cases ha : a1 < 0 ∨ (s.size : Int) ≤ a1
    · by_cases hs : s.size ≤ 2000
      · by_cases hq : chkE s = 0
        · obtain ⟨ns, hp, _⟩ := chk_ok hq
          exact walkB s a1 w hs ns hp ha
        · exact walkD s a1 w hs _ rfl hq ha
      · exact walkF s a1 w (by omega) (by omega) _ rfl (by unfold chkE; rw [if_pos (by omega)]; decide) ha
    · obtain ⟨a, rfl⟩ : ∃ a : Nat, a1 = a := ⟨a1.toNat, by omega⟩
      by_cases hs : s.size ≤ 2000
      · by_cases hq : chkE s = 0
        · obtain ⟨ns, hp, _⟩ := chk_ok hq
          exact walkA s a w hs ns hp (by omega)
        · exact walkC s a w hs _ rfl hq (by omega)
      · exact walkE s a w (by omega) (by omega) _ rfl (by unfold chkE; rw [if_pos (by omega)]; decide) (by omega)

set_option maxRecDepth 100000 in
theorem lifted (os : Os) (started : os.Started) (H : Type) (enc : TypeId × Value → H) :
    ReturnsInHanded {} Try.checked os 4 .any (Rows.textTellsSpec.pre6 enc Try.prog Try.f4 Rows.textTellsRow.domain false) (Rows.textTellsSpec.post enc Try.prog Try.f4 false true false false) := by
  refine returnsInHanded_of_change (C := Try.checked) own started (by kernel_rfl) Try.func4
    (ChangeSpec.witness6 (enc := enc) (C := Try.checked) false ⟨#[], #[.string ByteArray.empty, .int .i64 0], []⟩ 8 (by kernel_rfl) (by kernel_rfl) (by kernel_rfl) (by kernel_rfl)) ?_
  intro W base args ds gs before hval0 hW hcnd _
  have hval : ∀ (j : Nat) t v, Try.f4.params[j]? = some t → args[j]? = some v → Value.okWide Try.prog W .any base t v := hval0
  have hW' := hW
  obtain ⟨p, q, hA0, hV, rfl, hfz, hnd⟩ := hW
  have hA : DataW.TrodAll enc Try.prog W 0 (fun _ => true) true Try.f4.params.toList args.toList ds p := hA0
  rw [Try.params4] at hA hval
  obtain ⟨v0, vs0, d0, ds0, p0, q0, hargs, rfl, rfl, h0, r0⟩ := trodAll_cons hA
  obtain ⟨v1, vs1, d1, ds1, p1, q1, rfl, rfl, rfl, h1, r1⟩ := trodAll_cons r0
  obtain ⟨rfl, rfl, rfl⟩ := trodAll_nil r1
  obtain rfl : args = #[v0, v1] := by cases args; simp_all
  obtain ⟨rfl, rfl⟩ := trodVars_none hV
  obtain ⟨a0, rfl, rfl, rfl, w0⟩ := open_string Try.underlying9 (hval 0 9 v0 rfl rfl) h0
  obtain ⟨a1, rfl, rfl, rfl, w1⟩ := open_int Try.underlying3 (hval 1 3 v1 rfl rfl) h1
  clear hA0 hval0
  refine (walk a0 a1 W w0 w1).mono fun e W' ⟨he, bel⟩ => ?_
  subst he
  exact ⟨_, rfl, _, _, _, [], _, [], hW', trodAll_mk1 (shut_bool Try.underlying4 _), (trodAll_cons_mk (shut_string Try.underlying9 w0) (trodAll_cons_mk (shut_int Try.underlying3 w1) trodAll_mk0)), rfl, bel.frame _, fun h => by cases h⟩

theorem over : Rows.textTellsRow.holds Try.pinned (OpenSpec.ofChange Rows.textTellsSpec) :=
  OpenClaim.holds_of_wide 4 Try.f4 rfl rfl rfl rfl rfl rfl rfl ⟨rfl, rfl, rfl, rfl, rfl⟩ rfl rfl rfl rfl rfl (by kernel_rfl) Try.func4 (by kernel_rfl)
    (of_decide_eq_true (by kernel_rfl)) (by unfold Func.isWrapper; first | (rw [if_pos (by decide +kernel)]; kernel_rfl) | (rw [if_neg (by decide +kernel)]; exact ⟨rfl, rfl⟩))
    (fun os started H enc _ => lifted os started H enc)

theorem proved : Rows.TextTellsSaid := over
end Go.Proofs.Ytjpebnnifbnjjaa.textTells
