/-
  For every texts, flag and number the law of a text's key, a seed's keys, what fits and what is stored answers true, and what came in reads as before; no conditions.
-/
import Derived.Test.YtmjcmlaeajglmaaChnR
import Derived.WalkKit
import Derived.ProofKit
import Derived.OpenShut
import Derived.ShutString
import Derived.ChangeOld
import Derived.Below
namespace Go.Proofs.Ytmjcmlaeajglmaa.chainTells
open Go.ChangeShapes Go.WideShapes Go.ChangeAt Go.RowKit
open Go.ChangeMaps (open_string shut_string)
open Hx Wd Sh
set_option linter.unusedVariables false

theorem own : ownKnob Try.prog.godebug = none := by kernel_rfl
theorem laidOut : laidOutB Try.prog = true := by kernel_rfl

set_option linter.unusedVariables false
set_option maxHeartbeats 2000000 in
set_option maxRecDepth 100000 in
theorem outA (a0 a1 a2 : ByteArray) (a3 : Bool) (n : Int) (w : World) (h : 300 < a1.size) (h2 : a1.size ≤ 16384) :
    Calls Try.prog 6 #[.string a0, .string a1, .string a2, .bool a3, .int .i64 n] w fun e w' => e = .returned (.bool true) ∧ Below w.heap.size w w' := by
  have t1 : decide ((300 : Int) < (a1.size : Int)) = true := by simp; omega
  have t2 : decide ((a1.size : Int) ≤ 16384) = true := by simp; omega
  go_enter Try.func6, Try.ntmps6
  go_wp2
  go_ret
  exact ⟨rfl, Below.refl _ _⟩

set_option maxHeartbeats 2000000 in
set_option maxRecDepth 100000 in
theorem outB (a0 a1 a2 : ByteArray) (a3 : Bool) (n : Int) (w : World) (h : 17000 < a1.size) :
    Calls Try.prog 6 #[.string a0, .string a1, .string a2, .bool a3, .int .i64 n] w fun e w' => e = .returned (.bool true) ∧ Below w.heap.size w w' := by
  have t1 : decide ((300 : Int) < (a1.size : Int)) = true := by simp; omega
  have t2 : decide ((a1.size : Int) ≤ 16384) = false := by simp; omega
  have t3 : decide ((17000 : Int) < (a1.size : Int)) = true := by simp; omega
  go_enter Try.func6, Try.ntmps6
  go_wp2
  go_ret
  exact ⟨rfl, Below.refl _ _⟩

set_option maxHeartbeats 2000000 in
set_option maxRecDepth 100000 in
theorem outC1 (a0 a1 a2 : ByteArray) (a3 : Bool) (n : Int) (w : World) (hk : a1.size ≤ 300) (h : 300 < a0.size) :
    Calls Try.prog 6 #[.string a0, .string a1, .string a2, .bool a3, .int .i64 n] w fun e w' => e = .returned (.bool true) ∧ Below w.heap.size w w' := by
  have t1 : decide ((300 : Int) < (a1.size : Int)) = false := by simp; omega
  have t3 : decide ((17000 : Int) < (a1.size : Int)) = false := by simp; omega
  have t4 : decide ((300 : Int) < (a0.size : Int)) = true := by simp; omega
  go_enter Try.func6, Try.ntmps6
  go_wp2
  go_ret
  exact ⟨rfl, Below.refl _ _⟩

set_option maxHeartbeats 2000000 in
set_option maxRecDepth 100000 in
theorem outD1 (a0 a1 a2 : ByteArray) (a3 : Bool) (n : Int) (w : World) (hk : a1.size ≤ 300) (h0 : a0.size ≤ 300) (h : 300 < a2.size) :
    Calls Try.prog 6 #[.string a0, .string a1, .string a2, .bool a3, .int .i64 n] w fun e w' => e = .returned (.bool true) ∧ Below w.heap.size w w' := by
  have t1 : decide ((300 : Int) < (a1.size : Int)) = false := by simp; omega
  have t3 : decide ((17000 : Int) < (a1.size : Int)) = false := by simp; omega
  have t4 : decide ((300 : Int) < (a0.size : Int)) = false := by simp; omega
  have t5 : decide ((300 : Int) < (a2.size : Int)) = true := by simp; omega
  go_enter Try.func6, Try.ntmps6
  go_wp2
  go_ret
  exact ⟨rfl, Below.refl _ _⟩

set_option maxHeartbeats 2000000 in
set_option maxRecDepth 100000 in
theorem outE1 (a0 a1 a2 : ByteArray) (a3 : Bool) (n : Int) (w : World) (hk : a1.size ≤ 300) (h0 : a0.size ≤ 300) (h2 : a2.size ≤ 300) (h : 8 < n) (h8 : n ≤ 256) :
    Calls Try.prog 6 #[.string a0, .string a1, .string a2, .bool a3, .int .i64 n] w fun e w' => e = .returned (.bool true) ∧ Below w.heap.size w w' := by
  have t1 : decide ((300 : Int) < (a1.size : Int)) = false := by simp; omega
  have t3 : decide ((17000 : Int) < (a1.size : Int)) = false := by simp; omega
  have t4 : decide ((300 : Int) < (a0.size : Int)) = false := by simp; omega
  have t5 : decide ((300 : Int) < (a2.size : Int)) = false := by simp; omega
  have t6 : decide ((8 : Int) < n) = true := by simp; omega
  have t7 : decide (n ≤ 256) = true := by simp; omega
  go_enter Try.func6, Try.ntmps6
  go_wp2
  go_ret
  exact ⟨rfl, Below.refl _ _⟩

set_option maxHeartbeats 2000000 in
set_option maxRecDepth 100000 in
theorem outC2 (a0 a1 a2 : ByteArray) (a3 : Bool) (n : Int) (w : World) (hk : 16384 < a1.size) (hk2 : a1.size ≤ 17000) (h : 300 < a0.size) :
    Calls Try.prog 6 #[.string a0, .string a1, .string a2, .bool a3, .int .i64 n] w fun e w' => e = .returned (.bool true) ∧ Below w.heap.size w w' := by
  have t1 : decide ((300 : Int) < (a1.size : Int)) = true := by simp; omega
  have t2 : decide ((a1.size : Int) ≤ 16384) = false := by simp; omega
  have t3 : decide ((17000 : Int) < (a1.size : Int)) = false := by simp; omega
  have t4 : decide ((300 : Int) < (a0.size : Int)) = true := by simp; omega
  go_enter Try.func6, Try.ntmps6
  go_wp2
  go_ret
  exact ⟨rfl, Below.refl _ _⟩

set_option maxHeartbeats 2000000 in
set_option maxRecDepth 100000 in
theorem outD2 (a0 a1 a2 : ByteArray) (a3 : Bool) (n : Int) (w : World) (hk : 16384 < a1.size) (hk2 : a1.size ≤ 17000) (h0 : a0.size ≤ 300) (h : 300 < a2.size) :
    Calls Try.prog 6 #[.string a0, .string a1, .string a2, .bool a3, .int .i64 n] w fun e w' => e = .returned (.bool true) ∧ Below w.heap.size w w' := by
  have t1 : decide ((300 : Int) < (a1.size : Int)) = true := by simp; omega
  have t2 : decide ((a1.size : Int) ≤ 16384) = false := by simp; omega
  have t3 : decide ((17000 : Int) < (a1.size : Int)) = false := by simp; omega
  have t4 : decide ((300 : Int) < (a0.size : Int)) = false := by simp; omega
  have t5 : decide ((300 : Int) < (a2.size : Int)) = true := by simp; omega
  go_enter Try.func6, Try.ntmps6
  go_wp2
  go_ret
  exact ⟨rfl, Below.refl _ _⟩

set_option maxHeartbeats 2000000 in
set_option maxRecDepth 100000 in
theorem outE2 (a0 a1 a2 : ByteArray) (a3 : Bool) (n : Int) (w : World) (hk : 16384 < a1.size) (hk2 : a1.size ≤ 17000) (h0 : a0.size ≤ 300) (h2 : a2.size ≤ 300) (h : 8 < n) (h8 : n ≤ 256) :
    Calls Try.prog 6 #[.string a0, .string a1, .string a2, .bool a3, .int .i64 n] w fun e w' => e = .returned (.bool true) ∧ Below w.heap.size w w' := by
  have t1 : decide ((300 : Int) < (a1.size : Int)) = true := by simp; omega
  have t2 : decide ((a1.size : Int) ≤ 16384) = false := by simp; omega
  have t3 : decide ((17000 : Int) < (a1.size : Int)) = false := by simp; omega
  have t4 : decide ((300 : Int) < (a0.size : Int)) = false := by simp; omega
  have t5 : decide ((300 : Int) < (a2.size : Int)) = false := by simp; omega
  have t6 : decide ((8 : Int) < n) = true := by simp; omega
  have t7 : decide (n ≤ 256) = true := by simp; omega
  go_enter Try.func6, Try.ntmps6
  go_wp2
  go_ret
  exact ⟨rfl, Below.refl _ _⟩

set_option maxHeartbeats 6000000 in
set_option maxRecDepth 100000 in
theorem walkA (a0 a1 a2 : ByteArray) (a3 : Bool) (k : Nat) (w : World) (hk : a1.size ≤ 300) (h0 : a0.size ≤ 300) (h2 : a2.size ≤ 300) (hn : k ≤ 8) :
    Calls Try.prog 6 #[.string a0, .string a1, .string a2, .bool a3, .int .i64 k] w fun e w' => e = .returned (.bool true) ∧ Below w.heap.size w w' := by
  have t1 : decide ((300 : Int) < (a1.size : Int)) = false := by simp; omega
  have t3 : decide ((17000 : Int) < (a1.size : Int)) = false := by simp; omega
  have t4 : decide ((300 : Int) < (a0.size : Int)) = false := by simp; omega
  have t5 : decide ((300 : Int) < (a2.size : Int)) = false := by simp; omega
  have t6 : decide ((8 : Int) < (k : Int)) = false := by simp; omega
  obtain ⟨S, hS⟩ : ∃ S, takeS a0 a1 a2 a3 = S := ⟨_, rfl⟩
  obtain ⟨E, hE⟩ : ∃ E, takeE a0 a1 a2 a3 = E := ⟨_, rfl⟩
  obtain ⟨f, hf⟩ : ∃ f, fitB a0 a1 = f := ⟨_, rfl⟩
  obtain ⟨ks, hks⟩ : ∃ ks, keyB a1 = ks := ⟨_, rfl⟩
  have HKS := Lib.hid hks
  have HS := Lib.hid hS
  have HE := Lib.hid hE
  have HF := Lib.hid hf
  have HK := Lib.hid hk
  have HN := Lib.hid hn
  have HZ : Hid (a0.size ≤ 1000000 ∧ a1.size ≤ 1000000 ∧ a2.size ≤ 1000000) := ⟨by omega, by omega, by omega⟩
  have HK1 : Hid (a1.size ≤ 16384) := Lib.hid (by omega)
  have HN1 : Hid (k ≤ 256 ∧ k ≤ 1000) := ⟨by omega, by omega⟩
  clear hS hE hf hk hn h0 h2 hks
  go_enter Try.func6, Try.ntmps6
  go_wp2_with (first
    | (go_at_call 21; (with_reducible refine (next_ok a1 w HK1.out ks HKS.out).mono ?_); rintro e w1 ⟨rfl, hb1⟩)
    | (go_at_call 22; (with_reducible refine (rnext_ok a1 w1 HK1.out ks HKS.out).mono ?_); rintro e w2 ⟨rfl, hb2⟩; have hB2 := stp hb1 hb2)
    | (go_at_call 19; (with_reducible refine (make_ok a1 k w2 HK1.out HN1.out.1).mono ?_); rintro e w3 ⟨hb3, A3, c3, rfl, hc3, hz3, hr3⟩; have hB3 := stp hB2 hb3; have HR3 := Lib.hid hr3; clear hr3 hz3)
    | (go_at_call 23; (with_reducible refine (rmake_ok a1 k w3 HK1.out HN1.out.1).mono ?_); rintro e w4 ⟨hb4, A4, c4, rfl, hr4⟩; have hB4 := stp hB3 hb4; have HR4 := Lib.hid hr4; clear hr4)
    | (go_at_call 20; (with_reducible refine (take_any a0 a1 a2 a3 w4 S E HS.out HE.out).mono ?_); rintro e w5 ⟨rfl, hb5⟩; have hB5 := stp hB4 hb5)
    | (go_at_call 24; (with_reducible refine (rtake_any a0 a1 a2 a3 w5 HZ.out.1 HZ.out.2.1 HZ.out.2.2 S E HS.out HE.out).mono ?_); rintro e w6 ⟨rfl, hb6⟩; have hB6 := stp hB5 hb6)
    | (go_at_call 25; (with_reducible refine (rsame_yes A3 A4 k c3 c4 (ksL a1 k) w6 (HR3.out.on (stp (stp hb4 hb5) hb6)) (HR4.out.on (stp hb5 hb6)) (ksL_length a1 k) HN1.out.2).mono ?_); rintro e w7 ⟨rfl, hb7⟩; have hB7 := stp hB6 hb7)
    | (go_at_call 26; (with_reducible refine (fits_b a0 a1 w7 f HF.out).mono ?_); rintro e w8 ⟨rfl, hb8⟩; have hB8 := stp hB7 hb8)
    | (go_at_call 27; (with_reducible refine (rfits_b a0 a1 w8 f HZ.out.1 HZ.out.2.1 HF.out).mono ?_); rintro e w9 ⟨rfl, hb9⟩; have hB9 := stp hB8 hb9)
    | fail)
  go_ret
  exact ⟨rfl, hB9⟩

set_option maxHeartbeats 6000000 in
set_option maxRecDepth 100000 in
theorem walkB (a0 a1 a2 : ByteArray) (a3 : Bool) (n : Int) (w : World) (hk : a1.size ≤ 300) (h0 : a0.size ≤ 300) (h2 : a2.size ≤ 300) (hn : n < 0) :
    Calls Try.prog 6 #[.string a0, .string a1, .string a2, .bool a3, .int .i64 n] w fun e w' => e = .returned (.bool true) ∧ Below w.heap.size w w' := by
  have t1 : decide ((300 : Int) < (a1.size : Int)) = false := by simp; omega
  have t3 : decide ((17000 : Int) < (a1.size : Int)) = false := by simp; omega
  have t4 : decide ((300 : Int) < (a0.size : Int)) = false := by simp; omega
  have t5 : decide ((300 : Int) < (a2.size : Int)) = false := by simp; omega
  have t6 : decide ((8 : Int) < n) = false := by simp; omega
  obtain ⟨S, hS⟩ : ∃ S, takeS a0 a1 a2 a3 = S := ⟨_, rfl⟩
  obtain ⟨E, hE⟩ : ∃ E, takeE a0 a1 a2 a3 = E := ⟨_, rfl⟩
  obtain ⟨f, hf⟩ : ∃ f, fitB a0 a1 = f := ⟨_, rfl⟩
  obtain ⟨ks, hks⟩ : ∃ ks, keyB a1 = ks := ⟨_, rfl⟩
  have HKS := Lib.hid hks
  have HS := Lib.hid hS
  have HE := Lib.hid hE
  have HF := Lib.hid hf
  have HK := Lib.hid hk
  have HN := Lib.hid hn
  have HZ : Hid (a0.size ≤ 1000000 ∧ a1.size ≤ 1000000 ∧ a2.size ≤ 1000000) := ⟨by omega, by omega, by omega⟩
  have HK1 : Hid (a1.size ≤ 16384) := Lib.hid (by omega)
  clear hS hE hf hk hn h0 h2 hks
  go_enter Try.func6, Try.ntmps6
  go_wp2_with (first
    | (go_at_call 21; (with_reducible refine (next_ok a1 w HK1.out ks HKS.out).mono ?_); rintro e w1 ⟨rfl, hb1⟩)
    | (go_at_call 22; (with_reducible refine (rnext_ok a1 w1 HK1.out ks HKS.out).mono ?_); rintro e w2 ⟨rfl, hb2⟩; have hB2 := stp hb1 hb2)
    | (go_at_call 19; (with_reducible refine (make_arg a1 n w2 (.inl HN.out)).mono ?_); rintro e w3 ⟨rfl, hb3⟩; have hB3 := stp hB2 hb3)
    | (go_at_call 23; (with_reducible refine (rmake_arg a1 n w3 (.inl HN.out)).mono ?_); rintro e w4 ⟨rfl, rfl⟩; have hB4 := hB3)
    | (go_at_call 20; (with_reducible refine (take_any a0 a1 a2 a3 w3 S E HS.out HE.out).mono ?_); rintro e w5 ⟨rfl, hb5⟩; have hB5 := stp hB4 hb5)
    | (go_at_call 24; (with_reducible refine (rtake_any a0 a1 a2 a3 w5 HZ.out.1 HZ.out.2.1 HZ.out.2.2 S E HS.out HE.out).mono ?_); rintro e w6 ⟨rfl, hb6⟩; have hB6 := stp hB5 hb6)
    | (go_at_call 25; (with_reducible refine (rsame_yes none none 0 0 0 [] w6 (RdG.nil _ _ _) (RdG.nil _ _ _) rfl (by decide)).mono ?_); rintro e w7 ⟨rfl, hb7⟩; have hB7 := stp hB6 hb7)
    | (go_at_call 26; (with_reducible refine (fits_b a0 a1 w7 f HF.out).mono ?_); rintro e w8 ⟨rfl, hb8⟩; have hB8 := stp hB7 hb8)
    | (go_at_call 27; (with_reducible refine (rfits_b a0 a1 w8 f HZ.out.1 HZ.out.2.1 HF.out).mono ?_); rintro e w9 ⟨rfl, hb9⟩; have hB9 := stp hB8 hb9)
    | fail)
  go_ret
  exact ⟨rfl, hB9⟩

set_option maxHeartbeats 6000000 in
set_option maxRecDepth 100000 in
theorem walkC (a0 a1 a2 : ByteArray) (a3 : Bool) (n : Int) (w : World) (hk : a1.size ≤ 300) (h0 : a0.size ≤ 300) (h2 : a2.size ≤ 300) (hn : 256 < n) :
    Calls Try.prog 6 #[.string a0, .string a1, .string a2, .bool a3, .int .i64 n] w fun e w' => e = .returned (.bool true) ∧ Below w.heap.size w w' := by
  have t1 : decide ((300 : Int) < (a1.size : Int)) = false := by simp; omega
  have t3 : decide ((17000 : Int) < (a1.size : Int)) = false := by simp; omega
  have t4 : decide ((300 : Int) < (a0.size : Int)) = false := by simp; omega
  have t5 : decide ((300 : Int) < (a2.size : Int)) = false := by simp; omega
  have t6 : decide ((8 : Int) < n) = true := by simp; omega
  have t7 : decide (n ≤ 256) = false := by simp; omega
  obtain ⟨S, hS⟩ : ∃ S, takeS a0 a1 a2 a3 = S := ⟨_, rfl⟩
  obtain ⟨E, hE⟩ : ∃ E, takeE a0 a1 a2 a3 = E := ⟨_, rfl⟩
  obtain ⟨f, hf⟩ : ∃ f, fitB a0 a1 = f := ⟨_, rfl⟩
  obtain ⟨ks, hks⟩ : ∃ ks, keyB a1 = ks := ⟨_, rfl⟩
  have HKS := Lib.hid hks
  have HS := Lib.hid hS
  have HE := Lib.hid hE
  have HF := Lib.hid hf
  have HK := Lib.hid hk
  have HN := Lib.hid hn
  have HZ : Hid (a0.size ≤ 1000000 ∧ a1.size ≤ 1000000 ∧ a2.size ≤ 1000000) := ⟨by omega, by omega, by omega⟩
  have HK1 : Hid (a1.size ≤ 16384) := Lib.hid (by omega)
  clear hS hE hf hk hn h0 h2 hks
  go_enter Try.func6, Try.ntmps6
  go_wp2_with (first
    | (go_at_call 21; (with_reducible refine (next_ok a1 w HK1.out ks HKS.out).mono ?_); rintro e w1 ⟨rfl, hb1⟩)
    | (go_at_call 22; (with_reducible refine (rnext_ok a1 w1 HK1.out ks HKS.out).mono ?_); rintro e w2 ⟨rfl, hb2⟩; have hB2 := stp hb1 hb2)
    | (go_at_call 19; (with_reducible refine (make_arg a1 n w2 (.inr HN.out)).mono ?_); rintro e w3 ⟨rfl, hb3⟩; have hB3 := stp hB2 hb3)
    | (go_at_call 23; (with_reducible refine (rmake_arg a1 n w3 (.inr HN.out)).mono ?_); rintro e w4 ⟨rfl, rfl⟩; have hB4 := hB3)
    | (go_at_call 20; (with_reducible refine (take_any a0 a1 a2 a3 w3 S E HS.out HE.out).mono ?_); rintro e w5 ⟨rfl, hb5⟩; have hB5 := stp hB4 hb5)
    | (go_at_call 24; (with_reducible refine (rtake_any a0 a1 a2 a3 w5 HZ.out.1 HZ.out.2.1 HZ.out.2.2 S E HS.out HE.out).mono ?_); rintro e w6 ⟨rfl, hb6⟩; have hB6 := stp hB5 hb6)
    | (go_at_call 25; (with_reducible refine (rsame_yes none none 0 0 0 [] w6 (RdG.nil _ _ _) (RdG.nil _ _ _) rfl (by decide)).mono ?_); rintro e w7 ⟨rfl, hb7⟩; have hB7 := stp hB6 hb7)
    | (go_at_call 26; (with_reducible refine (fits_b a0 a1 w7 f HF.out).mono ?_); rintro e w8 ⟨rfl, hb8⟩; have hB8 := stp hB7 hb8)
    | (go_at_call 27; (with_reducible refine (rfits_b a0 a1 w8 f HZ.out.1 HZ.out.2.1 HF.out).mono ?_); rintro e w9 ⟨rfl, hb9⟩; have hB9 := stp hB8 hb9)
    | fail)
  go_ret
  exact ⟨rfl, hB9⟩

set_option maxHeartbeats 6000000 in
set_option maxRecDepth 100000 in
theorem walkD (a0 a1 a2 : ByteArray) (a3 : Bool) (k : Nat) (w : World) (hk : 16384 < a1.size) (hk2 : a1.size ≤ 17000) (h0 : a0.size ≤ 300) (h2 : a2.size ≤ 300) (hn : k ≤ 8) :
    Calls Try.prog 6 #[.string a0, .string a1, .string a2, .bool a3, .int .i64 k] w fun e w' => e = .returned (.bool true) ∧ Below w.heap.size w w' := by
  have t1 : decide ((300 : Int) < (a1.size : Int)) = true := by simp; omega
  have t2 : decide ((a1.size : Int) ≤ 16384) = false := by simp; omega
  have t3 : decide ((17000 : Int) < (a1.size : Int)) = false := by simp; omega
  have t4 : decide ((300 : Int) < (a0.size : Int)) = false := by simp; omega
  have t5 : decide ((300 : Int) < (a2.size : Int)) = false := by simp; omega
  have t6 : decide ((8 : Int) < (k : Int)) = false := by simp; omega
  obtain ⟨S, hS⟩ : ∃ S, takeS a0 a1 a2 a3 = S := ⟨_, rfl⟩
  obtain ⟨E, hE⟩ : ∃ E, takeE a0 a1 a2 a3 = E := ⟨_, rfl⟩
  obtain ⟨f, hf⟩ : ∃ f, fitB a0 a1 = f := ⟨_, rfl⟩
  have HS := Lib.hid hS
  have HE := Lib.hid hE
  have HF := Lib.hid hf
  have HK := Lib.hid hk
  have HN := Lib.hid hn
  have HZ : Hid (a0.size ≤ 1000000 ∧ a1.size ≤ 1000000 ∧ a2.size ≤ 1000000) := ⟨by omega, by omega, by omega⟩
  have HN1 : Hid (k ≤ 256 ∧ k ≤ 1000) := ⟨by omega, by omega⟩
  clear hS hE hf hk hn h0 h2 hk2
  go_enter Try.func6, Try.ntmps6
  go_wp2_with (first
    | (go_at_call 21; (with_reducible refine (next_many a1 w HK.out).mono ?_); rintro e w1 ⟨rfl, hb1⟩)
    | (go_at_call 22; (with_reducible refine (rnext_many a1 w1 HK.out).mono ?_); rintro e w2 ⟨rfl, rfl⟩; have hB2 := hb1)
    | (go_at_call 19; (with_reducible refine (make_many a1 k w1 HK.out HN1.out.1).mono ?_); rintro e w3 ⟨rfl, hb3⟩; have hB3 := stp hB2 hb3)
    | (go_at_call 23; (with_reducible refine (rmake_many a1 k w3 HK.out HN1.out.1).mono ?_); rintro e w4 ⟨rfl, rfl⟩; have hB4 := hB3)
    | (go_at_call 20; (with_reducible refine (take_any a0 a1 a2 a3 w3 S E HS.out HE.out).mono ?_); rintro e w5 ⟨rfl, hb5⟩; have hB5 := stp hB4 hb5)
    | (go_at_call 24; (with_reducible refine (rtake_any a0 a1 a2 a3 w5 HZ.out.1 HZ.out.2.1 HZ.out.2.2 S E HS.out HE.out).mono ?_); rintro e w6 ⟨rfl, hb6⟩; have hB6 := stp hB5 hb6)
    | (go_at_call 25; (with_reducible refine (rsame_yes none none 0 0 0 [] w6 (RdG.nil _ _ _) (RdG.nil _ _ _) rfl (by decide)).mono ?_); rintro e w7 ⟨rfl, hb7⟩; have hB7 := stp hB6 hb7)
    | (go_at_call 26; (with_reducible refine (fits_b a0 a1 w7 f HF.out).mono ?_); rintro e w8 ⟨rfl, hb8⟩; have hB8 := stp hB7 hb8)
    | (go_at_call 27; (with_reducible refine (rfits_b a0 a1 w8 f HZ.out.1 HZ.out.2.1 HF.out).mono ?_); rintro e w9 ⟨rfl, hb9⟩; have hB9 := stp hB8 hb9)
    | fail)
  go_ret
  exact ⟨rfl, hB9⟩

set_option maxHeartbeats 6000000 in
set_option maxRecDepth 100000 in
theorem walkE (a0 a1 a2 : ByteArray) (a3 : Bool) (n : Int) (w : World) (hk : 16384 < a1.size) (hk2 : a1.size ≤ 17000) (h0 : a0.size ≤ 300) (h2 : a2.size ≤ 300) (hn : n < 0) :
    Calls Try.prog 6 #[.string a0, .string a1, .string a2, .bool a3, .int .i64 n] w fun e w' => e = .returned (.bool true) ∧ Below w.heap.size w w' := by
  have t1 : decide ((300 : Int) < (a1.size : Int)) = true := by simp; omega
  have t2 : decide ((a1.size : Int) ≤ 16384) = false := by simp; omega
  have t3 : decide ((17000 : Int) < (a1.size : Int)) = false := by simp; omega
  have t4 : decide ((300 : Int) < (a0.size : Int)) = false := by simp; omega
  have t5 : decide ((300 : Int) < (a2.size : Int)) = false := by simp; omega
  have t6 : decide ((8 : Int) < n) = false := by simp; omega
  obtain ⟨S, hS⟩ : ∃ S, takeS a0 a1 a2 a3 = S := ⟨_, rfl⟩
  obtain ⟨E, hE⟩ : ∃ E, takeE a0 a1 a2 a3 = E := ⟨_, rfl⟩
  obtain ⟨f, hf⟩ : ∃ f, fitB a0 a1 = f := ⟨_, rfl⟩
  have HS := Lib.hid hS
  have HE := Lib.hid hE
  have HF := Lib.hid hf
  have HK := Lib.hid hk
  have HN := Lib.hid hn
  have HZ : Hid (a0.size ≤ 1000000 ∧ a1.size ≤ 1000000 ∧ a2.size ≤ 1000000) := ⟨by omega, by omega, by omega⟩
  clear hS hE hf hk hn h0 h2 hk2
  go_enter Try.func6, Try.ntmps6
  go_wp2_with (first
    | (go_at_call 21; (with_reducible refine (next_many a1 w HK.out).mono ?_); rintro e w1 ⟨rfl, hb1⟩)
    | (go_at_call 22; (with_reducible refine (rnext_many a1 w1 HK.out).mono ?_); rintro e w2 ⟨rfl, rfl⟩; have hB2 := hb1)
    | (go_at_call 19; (with_reducible refine (make_arg a1 n w1 (.inl HN.out)).mono ?_); rintro e w3 ⟨rfl, hb3⟩; have hB3 := stp hB2 hb3)
    | (go_at_call 23; (with_reducible refine (rmake_arg a1 n w3 (.inl HN.out)).mono ?_); rintro e w4 ⟨rfl, rfl⟩; have hB4 := hB3)
    | (go_at_call 20; (with_reducible refine (take_any a0 a1 a2 a3 w3 S E HS.out HE.out).mono ?_); rintro e w5 ⟨rfl, hb5⟩; have hB5 := stp hB4 hb5)
    | (go_at_call 24; (with_reducible refine (rtake_any a0 a1 a2 a3 w5 HZ.out.1 HZ.out.2.1 HZ.out.2.2 S E HS.out HE.out).mono ?_); rintro e w6 ⟨rfl, hb6⟩; have hB6 := stp hB5 hb6)
    | (go_at_call 25; (with_reducible refine (rsame_yes none none 0 0 0 [] w6 (RdG.nil _ _ _) (RdG.nil _ _ _) rfl (by decide)).mono ?_); rintro e w7 ⟨rfl, hb7⟩; have hB7 := stp hB6 hb7)
    | (go_at_call 26; (with_reducible refine (fits_b a0 a1 w7 f HF.out).mono ?_); rintro e w8 ⟨rfl, hb8⟩; have hB8 := stp hB7 hb8)
    | (go_at_call 27; (with_reducible refine (rfits_b a0 a1 w8 f HZ.out.1 HZ.out.2.1 HF.out).mono ?_); rintro e w9 ⟨rfl, hb9⟩; have hB9 := stp hB8 hb9)
    | fail)
  go_ret
  exact ⟨rfl, hB9⟩

set_option maxHeartbeats 6000000 in
set_option maxRecDepth 100000 in
theorem walkF (a0 a1 a2 : ByteArray) (a3 : Bool) (n : Int) (w : World) (hk : 16384 < a1.size) (hk2 : a1.size ≤ 17000) (h0 : a0.size ≤ 300) (h2 : a2.size ≤ 300) (hn : 256 < n) :
    Calls Try.prog 6 #[.string a0, .string a1, .string a2, .bool a3, .int .i64 n] w fun e w' => e = .returned (.bool true) ∧ Below w.heap.size w w' := by
  have t1 : decide ((300 : Int) < (a1.size : Int)) = true := by simp; omega
  have t2 : decide ((a1.size : Int) ≤ 16384) = false := by simp; omega
  have t3 : decide ((17000 : Int) < (a1.size : Int)) = false := by simp; omega
  have t4 : decide ((300 : Int) < (a0.size : Int)) = false := by simp; omega
  have t5 : decide ((300 : Int) < (a2.size : Int)) = false := by simp; omega
  have t6 : decide ((8 : Int) < n) = true := by simp; omega
  have t7 : decide (n ≤ 256) = false := by simp; omega
  obtain ⟨S, hS⟩ : ∃ S, takeS a0 a1 a2 a3 = S := ⟨_, rfl⟩
  obtain ⟨E, hE⟩ : ∃ E, takeE a0 a1 a2 a3 = E := ⟨_, rfl⟩
  obtain ⟨f, hf⟩ : ∃ f, fitB a0 a1 = f := ⟨_, rfl⟩
  have HS := Lib.hid hS
  have HE := Lib.hid hE
  have HF := Lib.hid hf
  have HK := Lib.hid hk
  have HN := Lib.hid hn
  have HZ : Hid (a0.size ≤ 1000000 ∧ a1.size ≤ 1000000 ∧ a2.size ≤ 1000000) := ⟨by omega, by omega, by omega⟩
  clear hS hE hf hk hn h0 h2 hk2
  go_enter Try.func6, Try.ntmps6
  go_wp2_with (first
    | (go_at_call 21; (with_reducible refine (next_many a1 w HK.out).mono ?_); rintro e w1 ⟨rfl, hb1⟩)
    | (go_at_call 22; (with_reducible refine (rnext_many a1 w1 HK.out).mono ?_); rintro e w2 ⟨rfl, rfl⟩; have hB2 := hb1)
    | (go_at_call 19; (with_reducible refine (make_arg a1 n w1 (.inr HN.out)).mono ?_); rintro e w3 ⟨rfl, hb3⟩; have hB3 := stp hB2 hb3)
    | (go_at_call 23; (with_reducible refine (rmake_arg a1 n w3 (.inr HN.out)).mono ?_); rintro e w4 ⟨rfl, rfl⟩; have hB4 := hB3)
    | (go_at_call 20; (with_reducible refine (take_any a0 a1 a2 a3 w3 S E HS.out HE.out).mono ?_); rintro e w5 ⟨rfl, hb5⟩; have hB5 := stp hB4 hb5)
    | (go_at_call 24; (with_reducible refine (rtake_any a0 a1 a2 a3 w5 HZ.out.1 HZ.out.2.1 HZ.out.2.2 S E HS.out HE.out).mono ?_); rintro e w6 ⟨rfl, hb6⟩; have hB6 := stp hB5 hb6)
    | (go_at_call 25; (with_reducible refine (rsame_yes none none 0 0 0 [] w6 (RdG.nil _ _ _) (RdG.nil _ _ _) rfl (by decide)).mono ?_); rintro e w7 ⟨rfl, hb7⟩; have hB7 := stp hB6 hb7)
    | (go_at_call 26; (with_reducible refine (fits_b a0 a1 w7 f HF.out).mono ?_); rintro e w8 ⟨rfl, hb8⟩; have hB8 := stp hB7 hb8)
    | (go_at_call 27; (with_reducible refine (rfits_b a0 a1 w8 f HZ.out.1 HZ.out.2.1 HF.out).mono ?_); rintro e w9 ⟨rfl, hb9⟩; have hB9 := stp hB8 hb9)
    | fail)
  go_ret
  exact ⟨rfl, hB9⟩

theorem walk (a0 a1 a2 : ByteArray) (a3 : Bool) (a4 : Int) (w : World) (w0 : a0.size ≤ maxLen) (w1 : a1.size ≤ maxLen) (w2 : a2.size ≤ maxLen) (w4 : (Lit.int .i64 a4).wf = true) :
    Calls Try.prog 6 #[.string a0, .string a1, .string a2, .bool a3, .int .i64 a4] w fun e w' => e = .returned (.bool true) ∧ Below w.heap.size w w' := by
  by_cases hA : 300 < a1.size ∧ a1.size ≤ 16384
  · exact outA a0 a1 a2 a3 a4 w hA.1 hA.2
  · by_cases hB : 17000 < a1.size
    · exact outB a0 a1 a2 a3 a4 w hB
    · by_cases hk : a1.size ≤ 300
      · by_cases h0 : 300 < a0.size
        · exact outC1 a0 a1 a2 a3 a4 w hk h0
        · by_cases h2 : 300 < a2.size
          · exact outD1 a0 a1 a2 a3 a4 w hk (by omega) h2
          · by_cases h8 : 8 < a4 ∧ a4 ≤ 256
            · exact outE1 a0 a1 a2 a3 a4 w hk (by omega) (by omega) h8.1 h8.2
            · by_cases hn : a4 < 0
              · exact walkB a0 a1 a2 a3 a4 w hk (by omega) (by omega) hn
              · by_cases hg : 256 < a4
                · exact walkC a0 a1 a2 a3 a4 w hk (by omega) (by omega) hg
                · obtain ⟨k, rfl⟩ : ∃ k : Nat, a4 = k := ⟨a4.toNat, by omega⟩
                  exact walkA a0 a1 a2 a3 k w hk (by omega) (by omega) (by omega)
      · by_cases h0 : 300 < a0.size
        · exact outC2 a0 a1 a2 a3 a4 w (by omega) (by omega) h0
        · by_cases h2 : 300 < a2.size
          · exact outD2 a0 a1 a2 a3 a4 w (by omega) (by omega) (by omega) h2
          · by_cases h8 : 8 < a4 ∧ a4 ≤ 256
            · exact outE2 a0 a1 a2 a3 a4 w (by omega) (by omega) (by omega) (by omega) h8.1 h8.2
            · by_cases hn : a4 < 0
              · exact walkE a0 a1 a2 a3 a4 w (by omega) (by omega) (by omega) (by omega) hn
              · by_cases hg : 256 < a4
                · exact walkF a0 a1 a2 a3 a4 w (by omega) (by omega) (by omega) (by omega) hg
                · obtain ⟨k, rfl⟩ : ∃ k : Nat, a4 = k := ⟨a4.toNat, by omega⟩
                  exact walkD a0 a1 a2 a3 k w (by omega) (by omega) (by omega) (by omega) (by omega)

set_option maxRecDepth 100000 in
theorem lifted (os : Os) (started : os.Started) (H : Type) (enc : TypeId × Value → H) :
    ReturnsInHanded {} Try.checked os 6 .any (Rows.chainTellsSpec.pre6 enc Try.prog Try.f6 Rows.chainTellsRow.domain false) (Rows.chainTellsSpec.post enc Try.prog Try.f6 false true false false) := by
  refine returnsInHanded_of_change (C := Try.checked) own started (by kernel_rfl) Try.func6
    (ChangeSpec.witness6 (enc := enc) (C := Try.checked) false ⟨#[], #[.string ByteArray.empty, .string ByteArray.empty, .string ByteArray.empty, .bool false, .int .i64 0], []⟩ 8 (by kernel_rfl) (by kernel_rfl) (by kernel_rfl) (by kernel_rfl)) ?_
  intro W base args ds gs before hval0 hW hcnd _
  have hval : ∀ (j : Nat) t v, Try.f6.params[j]? = some t → args[j]? = some v → Value.okWide Try.prog W .any base t v := hval0
  have hW' := hW
  obtain ⟨p, q, hA0, hV, rfl, hfz, hnd⟩ := hW
  have hA : DataW.TrodAll enc Try.prog W 0 (fun _ => true) true Try.f6.params.toList args.toList ds p := hA0
  rw [Try.params6] at hA hval
  obtain ⟨v0, vs0, d0, ds0, p0, q0, hargs, rfl, rfl, h0, r0⟩ := trodAll_cons hA
  obtain ⟨v1, vs1, d1, ds1, p1, q1, rfl, rfl, rfl, h1, r1⟩ := trodAll_cons r0
  obtain ⟨v2, vs2, d2, ds2, p2, q2, rfl, rfl, rfl, h2, r2⟩ := trodAll_cons r1
  obtain ⟨v3, vs3, d3, ds3, p3, q3, rfl, rfl, rfl, h3, r3⟩ := trodAll_cons r2
  obtain ⟨v4, vs4, d4, ds4, p4, q4, rfl, rfl, rfl, h4, r4⟩ := trodAll_cons r3
  obtain ⟨rfl, rfl, rfl⟩ := trodAll_nil r4
  obtain rfl : args = #[v0, v1, v2, v3, v4] := by cases args; simp_all
  obtain ⟨rfl, rfl⟩ := trodVars_none hV
  obtain ⟨a0, rfl, rfl, rfl, w0⟩ := open_string Try.underlying9 (hval 0 9 v0 rfl rfl) h0
  obtain ⟨a1, rfl, rfl, rfl, w1⟩ := open_string Try.underlying9 (hval 1 9 v1 rfl rfl) h1
  obtain ⟨a2, rfl, rfl, rfl, w2⟩ := open_string Try.underlying9 (hval 2 9 v2 rfl rfl) h2
  obtain ⟨a3, rfl, rfl, rfl⟩ := open_bool Try.underlying4 (hval 3 4 v3 rfl rfl) h3
  obtain ⟨a4, rfl, rfl, rfl, w4⟩ := open_int Try.underlying3 (hval 4 3 v4 rfl rfl) h4
  clear hA0 hval0
  refine (walk a0 a1 a2 a3 a4 W w0 w1 w2 w4).mono fun e W' ⟨he, bel⟩ => ?_
  subst he
  exact ⟨_, rfl, _, _, _, [], _, [], hW', trodAll_mk1 (shut_bool Try.underlying4 _), (trodAll_cons_mk (shut_string Try.underlying9 w0) (trodAll_cons_mk (shut_string Try.underlying9 w1) (trodAll_cons_mk (shut_string Try.underlying9 w2) (trodAll_cons_mk (shut_bool Try.underlying4 _) (trodAll_cons_mk (shut_int Try.underlying3 w4) trodAll_mk0))))), rfl, bel.frame _, fun h => by cases h⟩

theorem over : Rows.chainTellsRow.holds Try.pinned (OpenSpec.ofChange Rows.chainTellsSpec) :=
  OpenClaim.holds_of_wide 6 Try.f6 rfl rfl rfl rfl rfl rfl rfl ⟨rfl, rfl, rfl, rfl, rfl⟩ rfl rfl rfl rfl rfl (by kernel_rfl) Try.func6 (by kernel_rfl)
    (of_decide_eq_true (by kernel_rfl)) (by unfold Func.isWrapper; first | (rw [if_pos (by decide +kernel)]; kernel_rfl) | (rw [if_neg (by decide +kernel)]; exact ⟨rfl, rfl⟩))
    (fun os started H enc _ => lifted os started H enc)

theorem proved : Rows.ChainTellsSaid := over
end Go.Proofs.Ytmjcmlaeajglmaa.chainTells
