/-
  Contracts of the document's own answers for layer 5 (tidewaiterref05): May, six, Bytes, head.
-/
import Derived.Test.YtichboamakgabaaMem
import Derived.Test.YtichboamakgabaaTextN
import Derived.ChangeAlike
import Derived.RegionTactic
import Derived.IntWalk
import Derived.Deep.RegionHeld3
namespace Go.Proofs.Ytichboamakgabaa
open Go.RowKit
namespace Hx
open Tx
set_option linter.unusedVariables false

theorem may_low {n : Int} (h : n < 32) : may n = (decide (n = 9) || decide (n = 10) || decide (n = 13)) := by unfold may; rw [if_pos h]
theorem may_high {n : Int} (h : ¬ n < 32) : may n = (decide (n ≤ 1114111) && (decide (n < 55296) || decide (57343 < n)) && decide (n ≠ 65534) && decide (n ≠ 65535)) := by unfold may; rw [if_neg h]
set_option maxHeartbeats 1000000 in
set_option maxRecDepth 100000 in
/-- ref.May. -/
theorem rmay_any (n : Int) (b : Bool) (w : World) (hb : may n = b) :
    Calls Try.prog 55 #[.int .i64 n] w fun e w' => e = .returned (.bool b) ∧ w = w' := by
  by_cases h1 : n < 32
  · rw [may_low h1] at hb
    by_cases a : n = 9
    · subst a
      obtain rfl : true = b := hb
      go_enter Try.func55, Try.ntmps55
      go_wp2
      go_ret
      exact ⟨rfl, rfl⟩
    · by_cases a2 : n = 10
      · subst a2
        obtain rfl : true = b := hb
        go_enter Try.func55, Try.ntmps55
        go_wp2
        go_ret
        exact ⟨rfl, rfl⟩
      · have q1 : (n == 9) = false := by simpa using a
        have q2 : (n == 10) = false := by simpa using a2
        by_cases a3 : n = 13
        · subst a3
          obtain rfl : true = b := hb
          go_enter Try.func55, Try.ntmps55
          go_wp2
          go_ret
          exact ⟨rfl, rfl⟩
        · have q3 : (n == 13) = false := by simpa using a3
          obtain rfl : false = b := by rw [← hb]; simp [a, a2, a3]
          have d1 : decide (n < 32) = true := by simpa using h1
          clear hb
          go_enter Try.func55, Try.ntmps55
          go_wp2
          go_ret
          exact ⟨rfl, rfl⟩
  · rw [may_high h1] at hb
    have d1 : decide (n < 32) = false := by simpa using h1
    by_cases a1 : n ≤ 1114111
    · have d2 : decide (n ≤ 1114111) = true := by simpa using a1
      by_cases a2 : 55296 ≤ n ∧ n ≤ 57343
      · have d3 : decide (n < 55296) = false := by simp; omega
        have d4 : decide (57343 < n) = false := by simp; omega
        obtain rfl : false = b := by rw [← hb, d2, d3, d4]; rfl
        clear hb a2 h1 a1
        go_enter Try.func55, Try.ntmps55
        go_wp2
        go_ret
        exact ⟨rfl, rfl⟩
      · by_cases a3 : n = 65534
        · subst a3
          obtain rfl : false = b := hb
          go_enter Try.func55, Try.ntmps55
          go_wp2
          go_ret
          exact ⟨rfl, rfl⟩
        · have q1 : (n == 65534) = false := by simpa using a3
          have q1' : (n != 65534) = true := by simpa using a3
          by_cases a4 : n = 65535
          · subst a4
            obtain rfl : false = b := hb
            go_enter Try.func55, Try.ntmps55
            go_wp2
            go_ret
            exact ⟨rfl, rfl⟩
          · have q2 : (n == 65535) = false := by simpa using a4
            have q2' : (n != 65535) = true := by simpa using a4
            by_cases a5 : n < 55296
            · have d3 : decide (n < 55296) = true := by simpa using a5
              obtain rfl : true = b := by rw [← hb, d2, d3]; simp [a3, a4]
              clear hb a2 h1 a1 a3 a4 a5
              go_enter Try.func55, Try.ntmps55
              go_wp2
              go_ret
              exact ⟨rfl, rfl⟩
            · have d3 : decide (n < 55296) = false := by simpa using a5
              have d4 : decide (57343 < n) = true := by simp; omega
              obtain rfl : true = b := by rw [← hb, d2, d3, d4]; simp [a3, a4]
              clear hb a2 h1 a1 a3 a4 a5
              go_enter Try.func55, Try.ntmps55
              go_wp2
              go_ret
              exact ⟨rfl, rfl⟩
    · have d2 : decide (n ≤ 1114111) = false := by simpa using a1
      obtain rfl : false = b := by rw [← hb, d2]; rfl
      clear hb
      go_enter Try.func55, Try.ntmps55
      go_wp2
      go_ret
      exact ⟨rfl, rfl⟩

set_option maxHeartbeats 1000000 in
set_option maxRecDepth 100000 in
/-- ref.six. -/
theorem six_any (n up : Nat) (b : UInt8) (w : World) (hn : n ≤ 1114111) (hu : up ≤ 2) (hb : bt (128 + n / 64 ^ up % 64) = b) :
    Calls Try.prog 59 #[.int .i64 n, .int .i64 up] w fun e w' => e = .returned (.int .u8 b.toNat) ∧ w = w' := by
  have hbn : b.toNat = 128 + n / 64 ^ up % 64 := by rw [← hb, bt_nat _ (by omega)]
  have HB := Lib.hid hbn
  have HN := Lib.hid hn
  have HU := Lib.hid hu
  clear hb hbn hn hu
  go_enter Try.func59, Try.ntmps59
  go_wp2
  go_loop [0, 5] (fun v i => ∃ k m : Nat, k ≤ up ∧ i = .int .i64 k ∧ m = n / 64 ^ k ∧ v = .int .i64 m) (fun _ i => up - (intOf i).toNat)
  case atStart => exact ⟨0, n, Nat.zero_le _, rfl, by simp, rfl⟩
  case round =>
    obtain ⟨k, m, hk, rfl, hm, rfl⟩ := hrel
    have hm2 : m ≤ 1114111 := by rw [hm]; exact Nat.le_trans (Nat.div_le_self _ _) HN.out
    have hu2 := HU.out
    have HM := Lib.hid hm
    clear hm
    by_cases hlt : k < up
    · obtain ⟨q, hq⟩ : ∃ q, m / 64 = q := ⟨_, rfl⟩
      have g1 : (m : Int).tdiv 64 = (q : Int) := by rw [Int.tdiv_eq_ediv_of_nonneg (by omega)]; omega
      have g2 : IntKind.i64.wrap (q : Int) = (q : Int) := IntWalk.i64_in _ (by omega)
      have HQ := Lib.hid hq
      clear hq
      go_wp2
      go_round
      case rel => exact ⟨k + 1, q, hlt, by go_num, by rw [← HQ.out, HM.out, Nat.pow_succ, Nat.div_div_eq_div_mul], rfl⟩
      case measure => simp [intOf]; omega
    · obtain rfl : k = up := by omega
      obtain ⟨q, hq⟩ : ∃ q, m % 64 = q := ⟨_, rfl⟩
      have g1 : (m : Int).tmod 64 = (q : Int) := by rw [Int.tmod_eq_emod_of_nonneg (by omega)]; omega
      have g2 : IntKind.i64.wrap (q : Int) = (q : Int) := IntWalk.i64_in _ (by omega)
      have g3 : IntKind.i64.wrap (128 + (q : Int)) = 128 + (q : Int) := IntWalk.i64_in _ (by omega)
      have g4 : IntKind.u8.wrap (128 + (q : Int)) = 128 + (q : Int) := IntWalk.u8_in _ (by omega)
      have HE : Hid ((128 + (q : Int)) = (b.toNat : Int)) := by show _ = _; rw [HB.out, ← HM.out, hq]; omega
      clear hq
      go_wp2
      go_ret
      exact ⟨by rw [← HE.out]; rfl, rfl⟩
theorem six_0 (n : Nat) (b : UInt8) (w : World) (hn : n ≤ 1114111) (hb : bt (128 + n % 64) = b) :
    Calls Try.prog 59 #[.int .i64 n, .int .i64 0] w fun e w' => e = .returned (.int .u8 b.toNat) ∧ w = w' := six_any n 0 b w hn (by decide) (by simpa using hb)
theorem six_1 (n : Nat) (b : UInt8) (w : World) (hn : n ≤ 1114111) (hb : bt (128 + n / 64 % 64) = b) :
    Calls Try.prog 59 #[.int .i64 n, .int .i64 1] w fun e w' => e = .returned (.int .u8 b.toNat) ∧ w = w' := six_any n 1 b w hn (by decide) (by simpa using hb)
theorem six_2 (n : Nat) (b : UInt8) (w : World) (hn : n ≤ 1114111) (hb : bt (128 + n / 4096 % 64) = b) :
    Calls Try.prog 59 #[.int .i64 n, .int .i64 2] w fun e w' => e = .returned (.int .u8 b.toNat) ∧ w = w' := six_any n 2 b w hn (by decide) (by simpa using hb)
/-- What Bytes answers. -/
def BytesTo (l : List UInt8) (w : World) (e : Ending) (w' : World) : Prop := Below w.heap.size w w' ∧ ∃ g c, e = .returned (.slice (some ⟨g, 0, none⟩) l.length c) ∧ w.heap.size ≤ g ∧ RdA w' w'.heap.size (some ⟨g, 0, none⟩) l
set_option maxHeartbeats 2000000 in
set_option maxRecDepth 100000 in
/-- ref.Bytes. -/
theorem rbytes5_any (n : Nat) (w : World) (hn : n ≤ 1114111) : Calls Try.prog 56 #[.int .i64 n] w (BytesTo (enc n) w) := by
  by_cases h1 : n < 128
  · obtain ⟨b0, hb0⟩ : ∃ b0, bt n = b0 := ⟨_, rfl⟩
    have k0 : (b0.toNat : Int) = (n : Int) := by rw [← hb0, bt_nat _ (by omega)]
    have e0 : enc n = [b0] := by unfold enc; rw [if_pos h1, hb0]
    rw [e0]
    have d1 : decide ((n : Int) < 128) = true := by simp; omega
    have g0 : IntKind.u8.wrap (n : Int) = (b0.toNat : Int) := by rw [k0]; exact IntWalk.u8_in _ (by omega)
    clear k0 e0 hb0
    go_enter Try.func56, Try.ntmps56
    go_wp2
    go_ret
    exact ⟨stpA (Below.refl _ _) _, w.heap.size, 1, rfl, Nat.le_refl _, RdA.newS w 5 [b0]⟩
  · have d1 : decide ((n : Int) < 128) = false := by simp; omega
    by_cases h2 : n < 2048
    · have d2 : decide ((n : Int) < 2048) = true := by simp; omega
      obtain ⟨b0, hb0⟩ : ∃ b0, bt (192 + n / 64) = b0 := ⟨_, rfl⟩
      obtain ⟨b1, hb1⟩ : ∃ b1, bt (128 + n % 64) = b1 := ⟨_, rfl⟩
      obtain ⟨q, hq⟩ : ∃ q, n / 64 = q := ⟨_, rfl⟩
      have e0 : enc n = [b0, b1] := by unfold enc; rw [if_neg h1, if_pos h2, hb0, hb1]
      rw [e0]
      have k0 : (b0.toNat : Int) = 192 + (q : Int) := by rw [← hb0, bt_nat _ (by omega)]; omega
      have g1 : (n : Int).tdiv 64 = (q : Int) := by rw [Int.tdiv_eq_ediv_of_nonneg (by omega)]; omega
      have g2 : IntKind.i64.wrap (q : Int) = (q : Int) := IntWalk.i64_in _ (by omega)
      have g3 : IntKind.i64.wrap (192 + (q : Int)) = (b0.toNat : Int) := by rw [IntWalk.i64_in _ (by omega)]; omega
      have a0 := b0.toNat_lt
      have g4 : IntKind.u8.wrap (b0.toNat : Int) = (b0.toNat : Int) := IntWalk.u8_in _ (by omega)
      have H0 := Lib.hid hb1
      have HN := Lib.hid hn
      clear k0 e0 hb0 hb1 hq h1 h2 hn
      go_enter Try.func56, Try.ntmps56
      go_wp2_with (first
        | (go_at_call 59; (with_reducible refine (six_0 n b1 w HN.out H0.out).mono ?_); rintro e w1 ⟨rfl, rfl⟩)
        | fail)
      go_ret
      exact ⟨stpA (Below.refl _ _) _, w.heap.size, 2, rfl, Nat.le_refl _, RdA.newS w 5 [b0, b1]⟩
    · have d2 : decide ((n : Int) < 2048) = false := by simp; omega
      by_cases h3 : n < 65536
      · have d3 : decide ((n : Int) < 65536) = true := by simp; omega
        obtain ⟨b0, hb0⟩ : ∃ b0, bt (224 + n / 4096) = b0 := ⟨_, rfl⟩
        obtain ⟨b1, hb1⟩ : ∃ b1, bt (128 + n / 64 % 64) = b1 := ⟨_, rfl⟩
        obtain ⟨b2, hb2⟩ : ∃ b2, bt (128 + n % 64) = b2 := ⟨_, rfl⟩
        obtain ⟨q, hq⟩ : ∃ q, n / 4096 = q := ⟨_, rfl⟩
        have e0 : enc n = [b0, b1, b2] := by unfold enc; rw [if_neg h1, if_neg h2, if_pos h3, hb0, hb1, hb2]
        rw [e0]
        have k0 : (b0.toNat : Int) = 224 + (q : Int) := by rw [← hb0, bt_nat _ (by omega)]; omega
        have g1 : (n : Int).tdiv 4096 = (q : Int) := by rw [Int.tdiv_eq_ediv_of_nonneg (by omega)]; omega
        have g2 : IntKind.i64.wrap (q : Int) = (q : Int) := IntWalk.i64_in _ (by omega)
        have g3 : IntKind.i64.wrap (224 + (q : Int)) = (b0.toNat : Int) := by rw [IntWalk.i64_in _ (by omega)]; omega
        have a0 := b0.toNat_lt
        have g4 : IntKind.u8.wrap (b0.toNat : Int) = (b0.toNat : Int) := IntWalk.u8_in _ (by omega)
        have H0 := Lib.hid hb1
        have H1 := Lib.hid hb2
        have HN := Lib.hid hn
        clear k0 e0 hb0 hb1 hb2 hq h1 h2 h3 hn
        go_enter Try.func56, Try.ntmps56
        go_wp2_with (first
          | (go_at_call 59; (with_reducible refine (six_1 n b1 w HN.out H0.out).mono ?_); rintro e w1 ⟨rfl, rfl⟩)
          | (go_at_call 59; (with_reducible refine (six_0 n b2 w HN.out H1.out).mono ?_); rintro e w1 ⟨rfl, rfl⟩)
          | fail)
        go_ret
        exact ⟨stpA (Below.refl _ _) _, w.heap.size, 3, rfl, Nat.le_refl _, RdA.newS w 5 [b0, b1, b2]⟩
      · have d3 : decide ((n : Int) < 65536) = false := by simp; omega
        obtain ⟨b0, hb0⟩ : ∃ b0, bt (240 + n / 262144) = b0 := ⟨_, rfl⟩
        obtain ⟨b1, hb1⟩ : ∃ b1, bt (128 + n / 4096 % 64) = b1 := ⟨_, rfl⟩
        obtain ⟨b2, hb2⟩ : ∃ b2, bt (128 + n / 64 % 64) = b2 := ⟨_, rfl⟩
        obtain ⟨b3, hb3⟩ : ∃ b3, bt (128 + n % 64) = b3 := ⟨_, rfl⟩
        obtain ⟨q, hq⟩ : ∃ q, n / 262144 = q := ⟨_, rfl⟩
        have e0 : enc n = [b0, b1, b2, b3] := by unfold enc; rw [if_neg h1, if_neg h2, if_neg h3, hb0, hb1, hb2, hb3]
        rw [e0]
        have k0 : (b0.toNat : Int) = 240 + (q : Int) := by rw [← hb0, bt_nat _ (by omega)]; omega
        have g1 : (n : Int).tdiv 262144 = (q : Int) := by rw [Int.tdiv_eq_ediv_of_nonneg (by omega)]; omega
        have g2 : IntKind.i64.wrap (q : Int) = (q : Int) := IntWalk.i64_in _ (by omega)
        have g3 : IntKind.i64.wrap (240 + (q : Int)) = (b0.toNat : Int) := by rw [IntWalk.i64_in _ (by omega)]; omega
        have a0 := b0.toNat_lt
        have g4 : IntKind.u8.wrap (b0.toNat : Int) = (b0.toNat : Int) := IntWalk.u8_in _ (by omega)
        have H0 := Lib.hid hb1
        have H1 := Lib.hid hb2
        have H2 := Lib.hid hb3
        have HN := Lib.hid hn
        clear k0 e0 hb0 hb1 hb2 hb3 hq h1 h2 h3 hn
        go_enter Try.func56, Try.ntmps56
        go_wp2_with (first
          | (go_at_call 59; (with_reducible refine (six_2 n b1 w HN.out H0.out).mono ?_); rintro e w1 ⟨rfl, rfl⟩)
          | (go_at_call 59; (with_reducible refine (six_1 n b2 w HN.out H1.out).mono ?_); rintro e w1 ⟨rfl, rfl⟩)
          | (go_at_call 59; (with_reducible refine (six_0 n b3 w HN.out H2.out).mono ?_); rintro e w1 ⟨rfl, rfl⟩)
          | fail)
        go_ret
        exact ⟨stpA (Below.refl _ _) _, w.heap.size, 4, rfl, Nat.le_refl _, RdA.newS w 5 [b0, b1, b2, b3]⟩
/-- How many bytes the first one tells, and its bits. -/
def hd (c : Nat) : Nat × Nat := if c < 128 then (1, c) else if 192 ≤ c ∧ c < 224 then (2, c - 192) else if 224 ≤ c ∧ c < 240 then (3, c - 224) else if 240 ≤ c ∧ c < 248 then (4, c - 240) else (0, 0)
set_option maxHeartbeats 1000000 in
set_option maxRecDepth 100000 in
/-- ref.head. -/
theorem head_any (c : Nat) (w : World) (s b : Nat) (hc : c < 256) (h : hd c = (s, b)) :
    Calls Try.prog 54 #[.int .i64 c] w fun e w' => e = .returned (.tuple #[.int .i64 s, .int .i64 b]) ∧ w = w' := by
  unfold hd at h
  by_cases h1 : c < 128
  · rw [if_pos h1] at h
    cases h
    have d1 : decide ((c : Int) < 128) = true := by simp; omega
    go_enter Try.func54, Try.ntmps54
    go_wp2
    go_ret2
    exact ⟨rfl, rfl⟩
  · rw [if_neg h1] at h
    have d1 : decide ((c : Int) < 128) = false := by simp; omega
    by_cases h2 : 192 ≤ c ∧ c < 224
    · rw [if_pos h2] at h
      have d2 : decide ((192 : Int) ≤ (c : Int)) = true := by simp; omega
      have d3 : decide ((c : Int) < 224) = true := by simp; omega
      have g1 : IntKind.i64.wrap ((c : Int) - 192) = (b : Int) := by rw [IntWalk.i64_in _ (by omega)]; cases h; omega
      obtain rfl : 2 = s := by cases h; rfl
      clear h h1 h2
      go_enter Try.func54, Try.ntmps54
      go_wp2
      go_ret2
      exact ⟨rfl, rfl⟩
    · rw [if_neg h2] at h
      by_cases h3 : 224 ≤ c ∧ c < 240
      · rw [if_pos h3] at h
        have d2 : decide ((192 : Int) ≤ (c : Int)) = true := by simp; omega
        have d3 : decide ((c : Int) < 224) = false := by simp; omega
        have d4 : decide ((224 : Int) ≤ (c : Int)) = true := by simp; omega
        have d5 : decide ((c : Int) < 240) = true := by simp; omega
        have g1 : IntKind.i64.wrap ((c : Int) - 224) = (b : Int) := by rw [IntWalk.i64_in _ (by omega)]; cases h; omega
        obtain rfl : 3 = s := by cases h; rfl
        clear h h1 h2 h3
        go_enter Try.func54, Try.ntmps54
        go_wp2
        go_ret2
        exact ⟨rfl, rfl⟩
      · rw [if_neg h3] at h
        by_cases h4 : 240 ≤ c ∧ c < 248
        · rw [if_pos h4] at h
          have d2 : decide ((192 : Int) ≤ (c : Int)) = true := by simp; omega
          have d3 : decide ((c : Int) < 224) = false := by simp; omega
          have d4 : decide ((224 : Int) ≤ (c : Int)) = true := by simp; omega
          have d5 : decide ((c : Int) < 240) = false := by simp; omega
          have d6 : decide ((240 : Int) ≤ (c : Int)) = true := by simp; omega
          have d7 : decide ((c : Int) < 248) = true := by simp; omega
          have g1 : IntKind.i64.wrap ((c : Int) - 240) = (b : Int) := by rw [IntWalk.i64_in _ (by omega)]; cases h; omega
          obtain rfl : 4 = s := by cases h; rfl
          clear h h1 h2 h3 h4
          go_enter Try.func54, Try.ntmps54
          go_wp2
          go_ret2
          exact ⟨rfl, rfl⟩
        · rw [if_neg h4] at h
          obtain ⟨rfl, rfl⟩ : 0 = s ∧ 0 = b := by cases h; exact ⟨rfl, rfl⟩
          by_cases h5 : c < 192
          · have d2 : decide ((192 : Int) ≤ (c : Int)) = false := by simp; omega
            have d4 : decide ((224 : Int) ≤ (c : Int)) = false := by simp; omega
            have d6 : decide ((240 : Int) ≤ (c : Int)) = false := by simp; omega
            clear h h1 h2 h3 h4 h5
            go_enter Try.func54, Try.ntmps54
            go_wp2
            go_ret2
            exact ⟨rfl, rfl⟩
          · have d2 : decide ((192 : Int) ≤ (c : Int)) = true := by simp; omega
            have d3 : decide ((c : Int) < 224) = false := by simp; omega
            have d4 : decide ((224 : Int) ≤ (c : Int)) = true := by simp; omega
            have d5 : decide ((c : Int) < 240) = false := by simp; omega
            have d6 : decide ((240 : Int) ≤ (c : Int)) = true := by simp; omega
            have d7 : decide ((c : Int) < 248) = false := by simp; omega
            clear h h1 h2 h3 h4 h5
            go_enter Try.func54, Try.ntmps54
            go_wp2
            go_ret2
            exact ⟨rfl, rfl⟩
end Hx
end Go.Proofs.Ytichboamakgabaa
