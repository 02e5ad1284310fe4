/-
  Texts of one seat, put together: TextN, TextR, TextO, TextS.
-/
import Derived.Test.YteobcohjikjalaaGreatDoorSp00
import Derived.ChangeAlike
import Derived.RegionTactic
import Derived.IntWalk
import Derived.Deep.RegionHeld3
import Derived.BigQuiet
import Derived.Deep.RegionWith
set_option linter.unusedSimpArgs false
namespace Go.Proofs.YteobcohjikjalaaGreatDoor
namespace Tx
open Go

theorem get_drop (s : ByteArray) (i k : Nat) : s.get! (i + k) = (s.data.toList.drop i).getD k default := by
  rw [List.getD_eq_getElem?_getD, List.getElem?_drop]
  show s.data[i + k]! = _
  rw [getElem!_def, Array.getElem?_toList]
  cases s.data[i + k]? <;> rfl
theorem size_drop (s : ByteArray) (i k : Nat) : (i + k < s.size) = (k < (s.data.toList.drop i).length) := by
  have e : s.data.toList.length = s.size := by rw [Array.length_toList]; rfl
  rw [List.length_drop, e]
  apply propext
  omega
set_option linter.unusedSimpArgs false in
set_option maxRecDepth 100000 in
theorem decode_eq (s : ByteArray) (i : Nat) (h : i < s.size) : Utf8.decode s i = match decL (s.data.toList.drop i) with | some p => p | none => (65533, 1) := by
  have hp : 0 < (s.data.toList.drop i).length := by rw [← size_drop]; exact h
  unfold Utf8.decode
  simp only [get_drop, size_drop]
  generalize s.data.toList.drop i = l at hp
  have hv : ∀ c : Nat, Utf8.valid (c : Int) = sv c := by
    intro c
    unfold Utf8.valid sv
    rw [Bool.eq_iff_iff]
    simp
    omega
  have hh : ∀ a : UInt8, (a.toNat / 64 == 2) = cont a := by
    intro a
    unfold cont
    rw [Bool.eq_iff_iff]
    simp
  have hre : Utf8.runeError = 65533 := rfl
  cases l with
  | nil => simp at hp
  | cons a r =>
    have ha := a.toNat_lt
    simp only [List.getD_cons_zero, List.length_cons]
    unfold decL
    dsimp only
    by_cases h1 : a.toNat < 128
    · rw [if_pos h1, if_pos h1]
    · rw [if_neg h1, if_neg h1]
      by_cases h2 : a.toNat / 32 = 6
      · rw [if_pos h2]
        cases r with
        | nil => simp [h2, hre]
        | cons b r =>
          simp only [h2, List.getD_cons_succ, List.getD_cons_zero, hh, List.length_cons, beq_self_eq_true, Bool.true_and]
          obtain ⟨x, hx⟩ : ∃ x, a.toNat % 32 * 64 + b.toNat % 64 = x := ⟨_, rfl⟩
          simp only [hx]
          cases hc : cont b
          · simp [hre]
          · by_cases hq : 128 ≤ x
            · simp [hq]
            · simp [hq, hre]
      · rw [if_neg h2]
        by_cases h3 : a.toNat / 16 = 14
        · rw [if_pos h3]
          match r with
          | [] => simp [h2, h3, hre]
          | [b] => simp [h2, h3, hre]
          | b :: c :: r =>
            simp only [h3, List.getD_cons_succ, List.getD_cons_zero, hh, List.length_cons, beq_self_eq_true, Bool.true_and]
            obtain ⟨x, hx⟩ : ∃ x, a.toNat % 16 * 4096 + b.toNat % 64 * 64 + c.toNat % 64 = x := ⟨_, rfl⟩
            simp only [hx]
            cases hb : cont b <;> cases hc : cont c
            · simp [h2, hre]
            · simp [h2, hre]
            · simp [h2, hre]
            · by_cases hq : 2048 ≤ x
              · cases hs : sv x <;> simp [h2, hv, hq, hs, hre]
              · simp [h2, hq, hre]
        · rw [if_neg h3]
          by_cases h4 : a.toNat / 8 = 30
          · rw [if_pos h4]
            match r with
            | [] => simp [h2, h3, h4, hre]
            | [b] => simp [h2, h3, h4, hre]
            | [b, c] => simp [h2, h3, h4, hre]
            | b :: c :: d :: r =>
              simp only [h4, List.getD_cons_succ, List.getD_cons_zero, hh, List.length_cons, beq_self_eq_true, Bool.true_and]
              obtain ⟨x, hx⟩ : ∃ x, a.toNat % 8 * 262144 + b.toNat % 64 * 4096 + c.toNat % 64 * 64 + d.toNat % 64 = x := ⟨_, rfl⟩
              simp only [hx]
              cases hb : cont b <;> cases hc : cont c <;> cases hd : cont d
              · simp [h2, h3, hre]
              · simp [h2, h3, hre]
              · simp [h2, h3, hre]
              · simp [h2, h3, hre]
              · simp [h2, h3, hre]
              · simp [h2, h3, hre]
              · simp [h2, h3, hre]
              · by_cases hq : 65536 ≤ x
                · cases hs : sv x <;> simp [h2, h3, hv, hq, hs, hre]
                · simp [h2, h3, hq, hre]
          · rw [if_neg h4]
            simp [h2, h3, h4, hre]
end Tx
end Go.Proofs.YteobcohjikjalaaGreatDoor
set_option linter.unusedSimpArgs false
namespace Go.Proofs.YteobcohjikjalaaGreatDoor
open Go.RowKit
namespace Hx
open Tx
set_option maxRecDepth 100000
set_option maxHeartbeats 16000000
set_option linter.unusedVariables false

theorem may_low {n : Int} (h : n < 32) : may n = (decide (n = 9) || decide (n = 10) || decide (n = 13)) := by unfold may; rw [if_pos h]
theorem may_high {n : Int} (h : ¬ n < 32) : may n = (decide (n ≤ 1114111) && (decide (n < 55296) || decide (57343 < n)) && decide (n ≠ 65534) && decide (n ≠ 65535)) := by unfold may; rw [if_neg h]
theorem rmay_any (n : Int) (b : Bool) (w : World) (hb : may n = b) :
    Calls Tryz.prog 95 #[.int .i64 n] w fun e w' => e = .returned (.bool b) ∧ w = w' := by
  by_cases h1 : n < 32
  · rw [may_low h1] at hb
    by_cases a : n = 9
    · subst a
      obtain rfl : true = b := hb
      go_enter Tryz.func95, Tryz.ntmps95
      go_wp2
      go_ret
      exact ⟨rfl, rfl⟩
    · by_cases a2 : n = 10
      · subst a2
        obtain rfl : true = b := hb
        go_enter Tryz.func95, Tryz.ntmps95
        go_wp2
        go_ret
        exact ⟨rfl, rfl⟩
      · have q1 : (n == 9) = false := by simpa using a
        have q2 : (n == 10) = false := by simpa using a2
        by_cases a3 : n = 13
        · subst a3
          obtain rfl : true = b := hb
          go_enter Tryz.func95, Tryz.ntmps95
          go_wp2
          go_ret
          exact ⟨rfl, rfl⟩
        · have q3 : (n == 13) = false := by simpa using a3
          obtain rfl : false = b := by rw [← hb]; simp [a, a2, a3]
          have d1 : decide (n < 32) = true := by simpa using h1
          clear hb
          go_enter Tryz.func95, Tryz.ntmps95
          go_wp2
          go_ret
          exact ⟨rfl, rfl⟩
  · rw [may_high h1] at hb
    have d1 : decide (n < 32) = false := by simpa using h1
    by_cases a1 : n ≤ 1114111
    · have d2 : decide (n ≤ 1114111) = true := by simpa using a1
      by_cases a2 : 55296 ≤ n ∧ n ≤ 57343
      · have d3 : decide (n < 55296) = false := by simp; omega
        have d4 : decide (57343 < n) = false := by simp; omega
        obtain rfl : false = b := by rw [← hb, d2, d3, d4]; rfl
        clear hb a2 h1 a1
        go_enter Tryz.func95, Tryz.ntmps95
        go_wp2
        go_ret
        exact ⟨rfl, rfl⟩
      · by_cases a3 : n = 65534
        · subst a3
          obtain rfl : false = b := hb
          go_enter Tryz.func95, Tryz.ntmps95
          go_wp2
          go_ret
          exact ⟨rfl, rfl⟩
        · have q1 : (n == 65534) = false := by simpa using a3
          have q1' : (n != 65534) = true := by simpa using a3
          by_cases a4 : n = 65535
          · subst a4
            obtain rfl : false = b := hb
            go_enter Tryz.func95, Tryz.ntmps95
            go_wp2
            go_ret
            exact ⟨rfl, rfl⟩
          · have q2 : (n == 65535) = false := by simpa using a4
            have q2' : (n != 65535) = true := by simpa using a4
            by_cases a5 : n < 55296
            · have d3 : decide (n < 55296) = true := by simpa using a5
              obtain rfl : true = b := by rw [← hb, d2, d3]; simp [a3, a4]
              clear hb a2 h1 a1 a3 a4 a5
              go_enter Tryz.func95, Tryz.ntmps95
              go_wp2
              go_ret
              exact ⟨rfl, rfl⟩
            · have d3 : decide (n < 55296) = false := by simpa using a5
              have d4 : decide (57343 < n) = true := by simp; omega
              obtain rfl : true = b := by rw [← hb, d2, d3, d4]; simp [a3, a4]
              clear hb a2 h1 a1 a3 a4 a5
              go_enter Tryz.func95, Tryz.ntmps95
              go_wp2
              go_ret
              exact ⟨rfl, rfl⟩
    · have d2 : decide (n ≤ 1114111) = false := by simpa using a1
      obtain rfl : false = b := by rw [← hb, d2]; rfl
      clear hb
      go_enter Tryz.func95, Tryz.ntmps95
      go_wp2
      go_ret
      exact ⟨rfl, rfl⟩

theorem six_any (n up : Nat) (b : UInt8) (w : World) (hn : n ≤ 1114111) (hu : up ≤ 2) (hb : bt (128 + n / 64 ^ up % 64) = b) :
    Calls Tryz.prog 103 #[.int .i64 n, .int .i64 up] w fun e w' => e = .returned (.int .u8 b.toNat) ∧ w = w' := by
  have hbn : b.toNat = 128 + n / 64 ^ up % 64 := by rw [← hb, bt_nat _ (by omega)]
  have HB := Lib.hid hbn
  have HN := Lib.hid hn
  have HU := Lib.hid hu
  clear hb hbn hn hu
  go_enter Tryz.func103, Tryz.ntmps103
  go_wp2
  go_loop [0, 5] (fun v i => ∃ k m : Nat, k ≤ up ∧ i = .int .i64 k ∧ m = n / 64 ^ k ∧ v = .int .i64 m) (fun _ i => up - (intOf i).toNat)
  case atStart => exact ⟨0, n, Nat.zero_le _, rfl, by simp, rfl⟩
  case round =>
    obtain ⟨k, m, hk, rfl, hm, rfl⟩ := hrel
    have hm2 : m ≤ 1114111 := by rw [hm]; exact Nat.le_trans (Nat.div_le_self _ _) HN.out
    have hu2 := HU.out
    have HM := Lib.hid hm
    clear hm
    by_cases hlt : k < up
    · obtain ⟨q, hq⟩ : ∃ q, m / 64 = q := ⟨_, rfl⟩
      have g1 : (m : Int).tdiv 64 = (q : Int) := by rw [Int.tdiv_eq_ediv_of_nonneg (by omega)]; omega
      have g2 : IntKind.i64.wrap (q : Int) = (q : Int) := IntWalk.i64_in _ (by omega)
      have HQ := Lib.hid hq
      clear hq
      go_wp2
      go_round
      case rel => exact ⟨k + 1, q, hlt, by go_num, by rw [← HQ.out, HM.out, Nat.pow_succ, Nat.div_div_eq_div_mul], rfl⟩
      case measure => simp [intOf]; omega
    · obtain rfl : k = up := by omega
      obtain ⟨q, hq⟩ : ∃ q, m % 64 = q := ⟨_, rfl⟩
      have g1 : (m : Int).tmod 64 = (q : Int) := by rw [Int.tmod_eq_emod_of_nonneg (by omega)]; omega
      have g2 : IntKind.i64.wrap (q : Int) = (q : Int) := IntWalk.i64_in _ (by omega)
      have g3 : IntKind.i64.wrap (128 + (q : Int)) = 128 + (q : Int) := IntWalk.i64_in _ (by omega)
      have g4 : IntKind.u8.wrap (128 + (q : Int)) = 128 + (q : Int) := IntWalk.u8_in _ (by omega)
      have HE : Hid ((128 + (q : Int)) = (b.toNat : Int)) := by show _ = _; rw [HB.out, ← HM.out, hq]; omega
      clear hq
      go_wp2
      go_ret
      exact ⟨by rw [← HE.out]; rfl, rfl⟩
theorem six_0 (n : Nat) (b : UInt8) (w : World) (hn : n ≤ 1114111) (hb : bt (128 + n % 64) = b) :
    Calls Tryz.prog 103 #[.int .i64 n, .int .i64 0] w fun e w' => e = .returned (.int .u8 b.toNat) ∧ w = w' := six_any n 0 b w hn (by decide) (by simpa using hb)
theorem six_1 (n : Nat) (b : UInt8) (w : World) (hn : n ≤ 1114111) (hb : bt (128 + n / 64 % 64) = b) :
    Calls Tryz.prog 103 #[.int .i64 n, .int .i64 1] w fun e w' => e = .returned (.int .u8 b.toNat) ∧ w = w' := six_any n 1 b w hn (by decide) (by simpa using hb)
theorem six_2 (n : Nat) (b : UInt8) (w : World) (hn : n ≤ 1114111) (hb : bt (128 + n / 4096 % 64) = b) :
    Calls Tryz.prog 103 #[.int .i64 n, .int .i64 2] w fun e w' => e = .returned (.int .u8 b.toNat) ∧ w = w' := six_any n 2 b w hn (by decide) (by simpa using hb)
def BytesTo (l : List UInt8) (w : World) (e : Ending) (w' : World) : Prop := Below w.heap.size w w' ∧ ∃ g c, e = .returned (.slice (some ⟨g, 0, none⟩) l.length c) ∧ w.heap.size ≤ g ∧ RdA w' w'.heap.size (some ⟨g, 0, none⟩) l
theorem rbytes5_any (n : Nat) (w : World) (hn : n ≤ 1114111) : Calls Tryz.prog 96 #[.int .i64 n] w (BytesTo (enc n) w) := by
  by_cases h1 : n < 128
  · obtain ⟨b0, hb0⟩ : ∃ b0, bt n = b0 := ⟨_, rfl⟩
    have k0 : (b0.toNat : Int) = (n : Int) := by rw [← hb0, bt_nat _ (by omega)]
    have e0 : enc n = [b0] := by unfold enc; rw [if_pos h1, hb0]
    rw [e0]
    have d1 : decide ((n : Int) < 128) = true := by simp; omega
    have g0 : IntKind.u8.wrap (n : Int) = (b0.toNat : Int) := by rw [k0]; exact IntWalk.u8_in _ (by omega)
    clear k0 e0 hb0
    go_enter Tryz.func96, Tryz.ntmps96
    go_wp2
    go_ret
    exact ⟨stpA (Below.refl _ _) _, w.heap.size, 1, rfl, Nat.le_refl _, RdA.newS w 5 [b0]⟩
  · have d1 : decide ((n : Int) < 128) = false := by simp; omega
    by_cases h2 : n < 2048
    · have d2 : decide ((n : Int) < 2048) = true := by simp; omega
      obtain ⟨b0, hb0⟩ : ∃ b0, bt (192 + n / 64) = b0 := ⟨_, rfl⟩
      obtain ⟨b1, hb1⟩ : ∃ b1, bt (128 + n % 64) = b1 := ⟨_, rfl⟩
      obtain ⟨q, hq⟩ : ∃ q, n / 64 = q := ⟨_, rfl⟩
      have e0 : enc n = [b0, b1] := by unfold enc; rw [if_neg h1, if_pos h2, hb0, hb1]
      rw [e0]
      have k0 : (b0.toNat : Int) = 192 + (q : Int) := by rw [← hb0, bt_nat _ (by omega)]; omega
      have g1 : (n : Int).tdiv 64 = (q : Int) := by rw [Int.tdiv_eq_ediv_of_nonneg (by omega)]; omega
      have g2 : IntKind.i64.wrap (q : Int) = (q : Int) := IntWalk.i64_in _ (by omega)
      have g3 : IntKind.i64.wrap (192 + (q : Int)) = (b0.toNat : Int) := by rw [IntWalk.i64_in _ (by omega)]; omega
      have a0 := b0.toNat_lt
      have g4 : IntKind.u8.wrap (b0.toNat : Int) = (b0.toNat : Int) := IntWalk.u8_in _ (by omega)
      have H0 := Lib.hid hb1
      have HN := Lib.hid hn
      clear k0 e0 hb0 hb1 hq h1 h2 hn
      go_enter Tryz.func96, Tryz.ntmps96
      go_wp2_with (first
        | (go_at_call 103; (with_reducible refine (six_0 n b1 w HN.out H0.out).mono ?_); rintro e w1 ⟨rfl, rfl⟩)
        | fail)
      go_ret
      exact ⟨stpA (Below.refl _ _) _, w.heap.size, 2, rfl, Nat.le_refl _, RdA.newS w 5 [b0, b1]⟩
    · have d2 : decide ((n : Int) < 2048) = false := by simp; omega
      by_cases h3 : n < 65536
      · have d3 : decide ((n : Int) < 65536) = true := by simp; omega
        obtain ⟨b0, hb0⟩ : ∃ b0, bt (224 + n / 4096) = b0 := ⟨_, rfl⟩
        obtain ⟨b1, hb1⟩ : ∃ b1, bt (128 + n / 64 % 64) = b1 := ⟨_, rfl⟩
        obtain ⟨b2, hb2⟩ : ∃ b2, bt (128 + n % 64) = b2 := ⟨_, rfl⟩
        obtain ⟨q, hq⟩ : ∃ q, n / 4096 = q := ⟨_, rfl⟩
        have e0 : enc n = [b0, b1, b2] := by unfold enc; rw [if_neg h1, if_neg h2, if_pos h3, hb0, hb1, hb2]
        rw [e0]
        have k0 : (b0.toNat : Int) = 224 + (q : Int) := by rw [← hb0, bt_nat _ (by omega)]; omega
        have g1 : (n : Int).tdiv 4096 = (q : Int) := by rw [Int.tdiv_eq_ediv_of_nonneg (by omega)]; omega
        have g2 : IntKind.i64.wrap (q : Int) = (q : Int) := IntWalk.i64_in _ (by omega)
        have g3 : IntKind.i64.wrap (224 + (q : Int)) = (b0.toNat : Int) := by rw [IntWalk.i64_in _ (by omega)]; omega
        have a0 := b0.toNat_lt
        have g4 : IntKind.u8.wrap (b0.toNat : Int) = (b0.toNat : Int) := IntWalk.u8_in _ (by omega)
        have H0 := Lib.hid hb1
        have H1 := Lib.hid hb2
        have HN := Lib.hid hn
        clear k0 e0 hb0 hb1 hb2 hq h1 h2 h3 hn
        go_enter Tryz.func96, Tryz.ntmps96
        go_wp2_with (first
          | (go_at_call 103; (with_reducible refine (six_1 n b1 w HN.out H0.out).mono ?_); rintro e w1 ⟨rfl, rfl⟩)
          | (go_at_call 103; (with_reducible refine (six_0 n b2 w HN.out H1.out).mono ?_); rintro e w1 ⟨rfl, rfl⟩)
          | fail)
        go_ret
        exact ⟨stpA (Below.refl _ _) _, w.heap.size, 3, rfl, Nat.le_refl _, RdA.newS w 5 [b0, b1, b2]⟩
      · have d3 : decide ((n : Int) < 65536) = false := by simp; omega
        obtain ⟨b0, hb0⟩ : ∃ b0, bt (240 + n / 262144) = b0 := ⟨_, rfl⟩
        obtain ⟨b1, hb1⟩ : ∃ b1, bt (128 + n / 4096 % 64) = b1 := ⟨_, rfl⟩
        obtain ⟨b2, hb2⟩ : ∃ b2, bt (128 + n / 64 % 64) = b2 := ⟨_, rfl⟩
        obtain ⟨b3, hb3⟩ : ∃ b3, bt (128 + n % 64) = b3 := ⟨_, rfl⟩
        obtain ⟨q, hq⟩ : ∃ q, n / 262144 = q := ⟨_, rfl⟩
        have e0 : enc n = [b0, b1, b2, b3] := by unfold enc; rw [if_neg h1, if_neg h2, if_neg h3, hb0, hb1, hb2, hb3]
        rw [e0]
        have k0 : (b0.toNat : Int) = 240 + (q : Int) := by rw [← hb0, bt_nat _ (by omega)]; omega
        have g1 : (n : Int).tdiv 262144 = (q : Int) := by rw [Int.tdiv_eq_ediv_of_nonneg (by omega)]; omega
        have g2 : IntKind.i64.wrap (q : Int) = (q : Int) := IntWalk.i64_in _ (by omega)
        have g3 : IntKind.i64.wrap (240 + (q : Int)) = (b0.toNat : Int) := by rw [IntWalk.i64_in _ (by omega)]; omega
        have a0 := b0.toNat_lt
        have g4 : IntKind.u8.wrap (b0.toNat : Int) = (b0.toNat : Int) := IntWalk.u8_in _ (by omega)
        have H0 := Lib.hid hb1
        have H1 := Lib.hid hb2
        have H2 := Lib.hid hb3
        have HN := Lib.hid hn
        clear k0 e0 hb0 hb1 hb2 hb3 hq h1 h2 h3 hn
        go_enter Tryz.func96, Tryz.ntmps96
        go_wp2_with (first
          | (go_at_call 103; (with_reducible refine (six_2 n b1 w HN.out H0.out).mono ?_); rintro e w1 ⟨rfl, rfl⟩)
          | (go_at_call 103; (with_reducible refine (six_1 n b2 w HN.out H1.out).mono ?_); rintro e w1 ⟨rfl, rfl⟩)
          | (go_at_call 103; (with_reducible refine (six_0 n b3 w HN.out H2.out).mono ?_); rintro e w1 ⟨rfl, rfl⟩)
          | fail)
        go_ret
        exact ⟨stpA (Below.refl _ _) _, w.heap.size, 4, rfl, Nat.le_refl _, RdA.newS w 5 [b0, b1, b2, b3]⟩
def hd (c : Nat) : Nat × Nat := if c < 128 then (1, c) else if 192 ≤ c ∧ c < 224 then (2, c - 192) else if 224 ≤ c ∧ c < 240 then (3, c - 224) else if 240 ≤ c ∧ c < 248 then (4, c - 240) else (0, 0)
theorem head_any (c : Nat) (w : World) (s b : Nat) (hc : c < 256) (h : hd c = (s, b)) :
    Calls Tryz.prog 94 #[.int .i64 c] w fun e w' => e = .returned (.tuple #[.int .i64 s, .int .i64 b]) ∧ w = w' := by
  unfold hd at h
  by_cases h1 : c < 128
  · rw [if_pos h1] at h
    cases h
    have d1 : decide ((c : Int) < 128) = true := by simp; omega
    go_enter Tryz.func94, Tryz.ntmps94
    go_wp2
    go_ret2
    exact ⟨rfl, rfl⟩
  · rw [if_neg h1] at h
    have d1 : decide ((c : Int) < 128) = false := by simp; omega
    by_cases h2 : 192 ≤ c ∧ c < 224
    · rw [if_pos h2] at h
      have d2 : decide ((192 : Int) ≤ (c : Int)) = true := by simp; omega
      have d3 : decide ((c : Int) < 224) = true := by simp; omega
      have g1 : IntKind.i64.wrap ((c : Int) - 192) = (b : Int) := by rw [IntWalk.i64_in _ (by omega)]; cases h; omega
      obtain rfl : 2 = s := by cases h; rfl
      clear h h1 h2
      go_enter Tryz.func94, Tryz.ntmps94
      go_wp2
      go_ret2
      exact ⟨rfl, rfl⟩
    · rw [if_neg h2] at h
      by_cases h3 : 224 ≤ c ∧ c < 240
      · rw [if_pos h3] at h
        have d2 : decide ((192 : Int) ≤ (c : Int)) = true := by simp; omega
        have d3 : decide ((c : Int) < 224) = false := by simp; omega
        have d4 : decide ((224 : Int) ≤ (c : Int)) = true := by simp; omega
        have d5 : decide ((c : Int) < 240) = true := by simp; omega
        have g1 : IntKind.i64.wrap ((c : Int) - 224) = (b : Int) := by rw [IntWalk.i64_in _ (by omega)]; cases h; omega
        obtain rfl : 3 = s := by cases h; rfl
        clear h h1 h2 h3
        go_enter Tryz.func94, Tryz.ntmps94
        go_wp2
        go_ret2
        exact ⟨rfl, rfl⟩
      · rw [if_neg h3] at h
        by_cases h4 : 240 ≤ c ∧ c < 248
        · rw [if_pos h4] at h
          have d2 : decide ((192 : Int) ≤ (c : Int)) = true := by simp; omega
          have d3 : decide ((c : Int) < 224) = false := by simp; omega
          have d4 : decide ((224 : Int) ≤ (c : Int)) = true := by simp; omega
          have d5 : decide ((c : Int) < 240) = false := by simp; omega
          have d6 : decide ((240 : Int) ≤ (c : Int)) = true := by simp; omega
          have d7 : decide ((c : Int) < 248) = true := by simp; omega
          have g1 : IntKind.i64.wrap ((c : Int) - 240) = (b : Int) := by rw [IntWalk.i64_in _ (by omega)]; cases h; omega
          obtain rfl : 4 = s := by cases h; rfl
          clear h h1 h2 h3 h4
          go_enter Tryz.func94, Tryz.ntmps94
          go_wp2
          go_ret2
          exact ⟨rfl, rfl⟩
        · rw [if_neg h4] at h
          obtain ⟨rfl, rfl⟩ : 0 = s ∧ 0 = b := by cases h; exact ⟨rfl, rfl⟩
          by_cases h5 : c < 192
          · have d2 : decide ((192 : Int) ≤ (c : Int)) = false := by simp; omega
            have d4 : decide ((224 : Int) ≤ (c : Int)) = false := by simp; omega
            have d6 : decide ((240 : Int) ≤ (c : Int)) = false := by simp; omega
            clear h h1 h2 h3 h4 h5
            go_enter Tryz.func94, Tryz.ntmps94
            go_wp2
            go_ret2
            exact ⟨rfl, rfl⟩
          · have d2 : decide ((192 : Int) ≤ (c : Int)) = true := by simp; omega
            have d3 : decide ((c : Int) < 224) = false := by simp; omega
            have d4 : decide ((224 : Int) ≤ (c : Int)) = true := by simp; omega
            have d5 : decide ((c : Int) < 240) = false := by simp; omega
            have d6 : decide ((240 : Int) ≤ (c : Int)) = true := by simp; omega
            have d7 : decide ((c : Int) < 248) = false := by simp; omega
            clear h h1 h2 h3 h4 h5
            go_enter Tryz.func94, Tryz.ntmps94
            go_wp2
            go_ret2
            exact ⟨rfl, rfl⟩
end Hx
end Go.Proofs.YteobcohjikjalaaGreatDoor
set_option linter.unusedSimpArgs false
namespace Go.Proofs.YteobcohjikjalaaGreatDoor
open Go.RowKit
namespace Tx
open Go Hx
def fd (b : Nat) (l : List UInt8) : Nat := l.foldl (fun n c => 64 * n + c.toNat % 64) b
theorem fd_snoc (b : Nat) (l : List UInt8) (c : UInt8) : fd b (l ++ [c]) = 64 * fd b l + c.toNat % 64 := by simp [fd]
theorem hd_le (c : Nat) : (hd c).1 ≤ 4 ∧ (hd c).2 ≤ 127 := by
  unfold hd
  split
  · simp; omega
  · split
    · simp; omega
    · split
      · simp; omega
      · split <;> simp; omega
theorem one_ref {l : List UInt8} {n k : Nat} (h : one l = some (n, k)) : ∃ a r b, l = a :: r ∧ hd a.toNat = (k, b) ∧ k ≠ 0 ∧ k ≤ l.length ∧ fd b (r.take (k - 1)) = n ∧ may n = true ∧ enc n = l.take k := by
  obtain ⟨hm, hs, rfl, r, rfl⟩ := one_sound h
  have hb := sv_le hs
  rw [List.take_left]
  unfold enc
  by_cases h1 : n < 128
  · simp only [if_pos h1]
    refine ⟨bt n, r, n, rfl, ?_, by simp, by simp, rfl, hm, trivial⟩
    rw [bt_nat _ (by omega), hd, if_pos h1]
    rfl
  · simp only [if_neg h1]
    by_cases h2 : n < 2048
    · simp only [if_pos h2]
      refine ⟨_, _, n / 64, rfl, ?_, by simp, by simp, ?_, hm, trivial⟩
      · rw [bt_nat _ (by omega), hd, if_neg (by omega), if_pos (by omega)]
        exact Prod.ext rfl (by show _ - _ = _; omega)
      · simp [fd, bt_nat (128 + n % 64) (by omega)]
        omega
    · simp only [if_neg h2]
      by_cases h3 : n < 65536
      · simp only [if_pos h3]
        refine ⟨_, _, n / 4096, rfl, ?_, by simp, by simp, ?_, hm, trivial⟩
        · rw [bt_nat _ (by omega), hd, if_neg (by omega), if_neg (by omega), if_pos (by omega)]
          exact Prod.ext rfl (by show _ - _ = _; omega)
        · simp [fd, bt_nat (128 + n % 64) (by omega), bt_nat (128 + n / 64 % 64) (by omega)]
          omega
      · simp only [if_neg h3]
        refine ⟨_, _, n / 262144, rfl, ?_, by simp, by simp, ?_, hm, trivial⟩
        · rw [bt_nat _ (by omega), hd, if_neg (by omega), if_neg (by omega), if_neg (by omega), if_pos (by omega)]
          exact Prod.ext rfl (by show _ - _ = _; omega)
        · simp [fd, bt_nat (128 + n % 64) (by omega), bt_nat (128 + n / 64 % 64) (by omega), bt_nat (128 + n / 4096 % 64) (by omega)]
          omega
theorem one_ref2 {l : List UInt8} {n k : Nat} (hm : may n = true) (hk : k ≤ l.length) (he : enc n = l.take k) : one l = some (n, k) := by
  have e : l = enc n ++ l.drop k := by rw [he, List.take_append_drop]
  have hl : k = (enc n).length := by rw [he, List.length_take]; omega
  rw [e, one_enc n hm, ← hl]
end Tx
namespace Hx
open Go
theorem takeD {P : Program} {ops : Array Oper} {Q : Exit → Act → World → Prop} {md : Region.Mode} {S : World → Prop} {i : Nat} {oi : Oper} {rest : List Oper} {v : Value} {fuel : Nat} {listed : Array Bool} {a : Act} {w : World} (hd : ops.toList.drop i = oi :: rest)
    (hs : Region.noSelect ops = true) (hf : Region.free md ops listed i = true) (hr : (Region.ready md ops listed).contains i = true)
    (hQ : ∀ c a w, Q (.panic c) (a.put oi.dst v) w → Q (.panic c) a w) (hy : YieldsIf P ops S oi v a) (hS : S w)
    (h : wpAnyH P md ops Q S fuel (listed.setIfInBounds i true) (a.put oi.dst v) w) : wpAnyH P md ops Q S (fuel + 1) listed a w := by
  refine wpAnyH_take (i := i) ?_ hs hf hr hQ hy hS h
  have e : (ops.toList.drop i)[0]? = some oi := by rw [hd]; rfl
  rw [List.getElem?_drop, Nat.add_zero] at e
  simpa using e
end Hx
end Go.Proofs.YteobcohjikjalaaGreatDoor
set_option linter.unusedSimpArgs false
namespace Go.Proofs.YteobcohjikjalaaGreatDoor
open Go.RowKit
namespace Hx
open Tx
set_option maxRecDepth 100000
set_option maxHeartbeats 16000000
set_option linter.unusedVariables false
theorem ba_eq5 (s : ByteArray) : s = ⟨s.data.toList.toArray⟩ := by cases s; simp
theorem ba_len5 (s : ByteArray) : s.data.toList.length = s.size := by rw [Array.length_toList]; rfl
theorem seq_b5 (a b : ByteArray) : (a.toList == b.toList) = decide (a = b) := by
  rw [Bool.eq_iff_iff]
  simp only [beq_iff_eq, decide_eq_true_eq, ByteArray.toList_eq]
  constructor
  · intro h
    cases a; cases b
    simpa using h
  · intro h; rw [h]
theorem extract_list (s : ByteArray) (k : Nat) : s.extract 0 k = ⟨(s.data.toList.take k).toArray⟩ := by
  have := ByteArray.extract_mk s.data.toList 0 k
  rw [← ba_eq5] at this
  rw [this]
  simp
theorem pow_le (j : Nat) (h : j ≤ 3) : 64 ^ j ≤ 262144 := by
  have : j = 0 ∨ j = 1 ∨ j = 2 ∨ j = 3 := by omega
  rcases this with rfl | rfl | rfl | rfl <;> decide

theorem below_dn5 {B : Nat} {a w : World} (h : Below B a w) (q : Nat) : Below B a (w.drewN q) := ⟨h.os, h.tape, h.output, h.size, h.block⟩
theorem below_of_drew5 {W w : World} (h : Below W.drew.heap.size W.drew w) : Below W.heap.size W w := ⟨h.os, h.tape, h.output, h.size, h.block⟩
theorem one_core (s : ByteArray) (a : UInt8) (r : List UInt8) (k b v : Nat) (w : World) (hs : s.data.toList = a :: r) (hh : hd a.toNat = (k, b)) (h0 : 0 < k) (hk : k ≤ s.size) (hv : fd b (r.take (k - 1)) = v) (hm : s.size ≤ 1000000) (n m : Nat)
    (hres : (may v = true ∧ enc v = s.data.toList.take k ∧ n = v ∧ m = k) ∨ (¬ (may v = true ∧ enc v = s.data.toList.take k) ∧ n = 0 ∧ m = 0)) :
    Calls Tryz.prog 85 #[.string s] w fun e w' => e = .returned (.tuple #[.int .i64 n, .int .i64 m]) ∧ Below w.heap.size w w' := by
  have hle := hd_le a.toNat
  rw [hh] at hle
  have hk4 : k ≤ 4 := hle.1
  have hb7 : b ≤ 127 := hle.2
  have hsz : 0 < s.size := by omega
  have hlen : r.length + 1 = s.size := by rw [← ba_len5, hs]; rfl
  have hat : ∀ (h : 0 < s.size), s[0]'h = a := by
    intro h
    have e : s.data.toList[0]? = some a := by rw [hs]; rfl
    have e2 : s.data.toList[0]? = some (s[0]'h) := by
      rw [List.getElem?_eq_getElem (by rw [ba_len5]; exact h)]
      simp [ByteArray.getElem_eq_getElem_data]
    rw [e] at e2
    cases e2
    rfl
  have hgo : ∀ j (h : j < s.size), 0 < j → r[j - 1]? = some (s[j]'h) := by
    intro j h hj
    have e2 : s.data.toList[j]? = some (s[j]'h) := by
      rw [List.getElem?_eq_getElem (by rw [ba_len5]; exact h)]
      simp [ByteArray.getElem_eq_getElem_data]
    rw [hs] at e2
    obtain ⟨i, rfl⟩ : ∃ i, j = i + 1 := ⟨j - 1, by omega⟩
    simpa using e2
  have ha := a.toNat_lt
  have HAT := hat
  have HGO := Lib.hid hgo
  have HH := Lib.hid hh
  have HV := Lib.hid hv
  have HRES := Lib.hid hres
  have HS := Lib.hid hs
  have HLEN := Lib.hid hlen
  have HK := Lib.hid (And.intro h0 (And.intro hk (And.intro hk4 hb7)))
  have hne : (s.toList == (⟨#[]⟩ : ByteArray).toList) = false := by
    rw [seq_b5]
    simp only [decide_eq_false_iff_not]
    rintro rfl
    exact absurd hsz (by decide)
  have hne2 : (s.toList == []) = false := by
    rw [ByteArray.toList_eq, hs]
    rfl
  have g0 : IntKind.i64.wrap (a.toNat : Int) = (a.toNat : Int) := IntWalk.i64_in _ (by omega)
  have c0 : ((k : Int) == 0) = false := by simp; omega
  have c1 : decide ((s.size : Int) < (k : Int)) = false := by simp; omega
  have c2 : ¬ (s.size < k) := by omega
  clear hgo hh hv hres hs hlen hle hat
  go_enter Tryz.func85, Tryz.ntmps85
  go_wp2_with (first
    | (go_at_call 94; (with_reducible refine (head_any a.toNat w k b ha HH.out).mono ?_); rintro e w1 ⟨rfl, rfl⟩)
    | fail)
  clear g0 c0 c1 c2 hne hne2 HAT
  go_loop [5, 6] (fun v i => ∃ j m p : Nat, 1 ≤ j ∧ j ≤ k ∧ i = .int .i64 j ∧ v = .int .i64 m ∧ fd b (r.take (j - 1)) = m ∧ 64 ^ (j - 1) = p ∧ m + 1 ≤ 128 * p) (fun _ i => k - (intOf i).toNat)
  case atStart => exact ⟨1, b, 1, Nat.le_refl _, h0, rfl, rfl, rfl, rfl, by omega⟩
  case round =>
    obtain ⟨j, x, p, hj1, hjk, rfl, rfl, hx, hp, hxp⟩ := hrel
    have hp3 : p ≤ 262144 := by rw [← hp]; exact pow_le _ (by omega)
    by_cases hlt : j < k
    · obtain ⟨c, hc⟩ : ∃ c, s[j]'(by omega) = c := ⟨_, rfl⟩
      have hcj : ∀ (h : j < s.size), s[j]'h = c := fun h => hc
      have hrc : r[j - 1]? = some c := by rw [← hc]; exact HGO.out j (by omega) (by omega)
      have hcl := c.toNat_lt
      obtain ⟨q, hq⟩ : ∃ q, c.toNat % 64 = q := ⟨_, rfl⟩
      obtain ⟨y, hy⟩ : ∃ y, 64 * x + q = y := ⟨_, rfl⟩
      have g0 : IntKind.i64.wrap (c.toNat : Int) = (c.toNat : Int) := IntWalk.i64_in _ (by omega)
      have g1 : (c.toNat : Int).tmod 64 = (q : Int) := by rw [Int.tmod_eq_emod_of_nonneg (by omega)]; omega
      have g2 : IntKind.i64.wrap (64 * (x : Int)) = 64 * (x : Int) := IntWalk.i64_in _ (by omega)
      have g3 : IntKind.i64.wrap (64 * (x : Int) + (q : Int)) = (y : Int) := by rw [IntWalk.i64_in _ (by omega)]; omega
      have g4 : IntKind.i64.wrap (q : Int) = (q : Int) := IntWalk.i64_in _ (by omega)
      have bj : (0 : Int) ≤ (j : Int) ∧ (j : Int) < (s.size : Int) := by omega
      have bj' : j < s.size := by omega
      have hnx : fd b (r.take (j + 1 - 1)) = y := by
        have e : j + 1 - 1 = (j - 1) + 1 := by omega
        rw [e, List.take_add_one, hrc, Option.toList_some, fd_snoc, hx, hq, hy]
      have hnp : 64 ^ (j + 1 - 1) = p * 64 := by
        have e : j + 1 - 1 = (j - 1) + 1 := by omega
        rw [e, Nat.pow_succ, hp]
      have HNX := Lib.hid hnx
      have HNP := Lib.hid hnp
      have HYB : Hid (y + 1 ≤ 128 * (p * 64)) := Lib.hid (by omega)
      clear hc hrc hq hy hnx hnp hx hp
      go_wp2
      go_round
      case rel => exact ⟨j + 1, y, p * 64, by omega, by omega, by go_num, rfl, HNX.out, HNP.out, HYB.out⟩
      case measure => simp [intOf]; omega
    · obtain rfl : j = k := by omega
      rw [HV.out] at hx
      subst hx
      have hvb : v ≤ 1114111 ∨ ¬ v ≤ 1114111 := by omega
      clear hp hlt hjk
      cases hmv : may v
      · as_aux_lemma =>
        have HMV := Lib.hid hmv
        have hr2 : n = 0 ∧ m = 0 := by
          rcases HRES.out with ⟨h1, _⟩ | ⟨_, h2⟩
          · rw [hmv] at h1; cases h1
          · exact h2
        obtain ⟨rfl, rfl⟩ := hr2
        clear hmv HRES
        go_wp2_with fail
        go_quiet ((go_at_call 95; exact Calls.quiet_of_same ((rmay_any v false _ HMV.out).mono fun e w' h => ⟨h.1, h.2.symm⟩)))
        go_wp2_with fail
        go_ret2
        exact ⟨rfl, below_dn5 (Below.refl _ _) _⟩
      · as_aux_lemma =>
        have hv1 := (may_sv hmv).2.1
        have HMV := Lib.hid hmv
        have HV1 : Hid (v ≤ 1114111) := Lib.hid (by omega)
        obtain ⟨t, ht⟩ : ∃ t, s.extract 0 j = t := ⟨_, rfl⟩
        have htl : t = ⟨(s.data.toList.take j).toArray⟩ := by rw [← ht]; exact extract_list s j
        have hbk : (0 : Int) ≤ (j : Int) ∧ (j : Int) ≤ (s.size : Int) := by have := HK.out; omega
        have hbk' : j ≤ s.size := by have := HK.out; omega
        obtain ⟨E, hE⟩ : ∃ E, enc v = E := ⟨_, rfl⟩
        have HB : Hid (∀ W : World, Calls Tryz.prog 96 #[.int .i64 v] W (BytesTo E W)) := fun W => by rw [← hE]; exact rbytes5_any v W HV1.out
        obtain ⟨lE, hlE⟩ : ∃ lE, E.length = lE := ⟨_, rfl⟩
        have HLE := Lib.hid hlE
        obtain ⟨TS, hTS⟩ : ∃ TS, (⟨E.toArray⟩ : ByteArray) = TS := ⟨_, rfl⟩
        have hqb : enc v = s.data.toList.take j ↔ TS = t := by
          rw [htl, hE, ← hTS]
          constructor
          · intro h; rw [h]
          · intro h
            have := congrArg (fun b : ByteArray => b.data.toList) h
            simpa using this
        have HTS := Lib.hid hTS
        by_cases hqt : TS ≠ t
        · have hr2 : n = 0 ∧ m = 0 := by
            rcases HRES.out with ⟨_, h1, _⟩ | ⟨_, h2⟩
            · exact absurd (hqb.1 h1) hqt
            · exact h2
          have hq : (TS.toList == t.toList) = false := by rw [seq_b5]; simpa using hqt
          obtain ⟨rfl, rfl⟩ := hr2
          clear hmv HRES hv1 htl hE hlE hqb hTS hqt
          go_wp2_with fail
          refine wp_region_noPanic ?_
          refine wp_region_held_drew (S := fun _ => True) (by kernel_rfl) trivial (fun hHeld => ?_)
          refine takeD (i := 0) (v := .int .i64 v) rfl (by kernel_rfl) (by kernel_rfl) (by kernel_rfl) (fun _ _ _ h => h) (Or.inl ⟨by rfl, ?_⟩) hHeld ?_
          · intro w' hSw; go_simp
          try simp only [Act.put, List.setIfInBounds_toArray, List.set_cons_zero, List.set_cons_succ]
          refine wpAnyH_ready (rs := [1]) (by kernel_rfl) (by simp) ?_
          refine AllReadyH.cons rfl (fun K hK => ?_) AllReadyH.nil
          go_simp
          go_at_call 95; (with_reducible refine (rmay_any v true _ HMV.out).mono ?_); rintro e w2 ⟨rfl, rfl⟩
          go_wp2_with fail
          refine hK.out _ _ trivial (fun hHeld => ?_)
          clear hK K
          try simp only [Act.put, List.setIfInBounds_toArray, List.set_cons_zero, List.set_cons_succ]
          refine takeD (i := 2) (v := .bool false) rfl (by kernel_rfl) (by kernel_rfl) (by kernel_rfl) (fun _ _ _ h => h) (Or.inl ⟨by rfl, ?_⟩) hHeld ?_
          · intro w' hSw; go_simp
          try simp only [Act.put, List.setIfInBounds_toArray, List.set_cons_zero, List.set_cons_succ]
          refine takeD (i := 3) (v := .bool false) rfl (by kernel_rfl) (by kernel_rfl) (by kernel_rfl) (fun _ _ _ h => h) (Or.inl ⟨by rfl, ?_⟩) hHeld ?_
          · intro w' hSw; go_simp
          try simp only [Act.put, List.setIfInBounds_toArray, List.set_cons_zero, List.set_cons_succ]
          refine takeD (i := 4) (v := .int .i64 v) rfl (by kernel_rfl) (by kernel_rfl) (by kernel_rfl) (fun _ _ _ h => h) (Or.inl ⟨by rfl, ?_⟩) hHeld ?_
          · intro w' hSw; go_simp
          try simp only [Act.put, List.setIfInBounds_toArray, List.set_cons_zero, List.set_cons_succ]
          refine takeD (i := 7) (v := .string s) rfl (by kernel_rfl) (by kernel_rfl) (by kernel_rfl) (fun _ _ _ h => h) (Or.inl ⟨by rfl, ?_⟩) hHeld ?_
          · intro w' hSw; go_simp
          try simp only [Act.put, List.setIfInBounds_toArray, List.set_cons_zero, List.set_cons_succ]
          refine takeD (i := 8) (v := .int .i64 j) rfl (by kernel_rfl) (by kernel_rfl) (by kernel_rfl) (fun _ _ _ h => h) (Or.inl ⟨by rfl, ?_⟩) hHeld ?_
          · intro w' hSw; go_simp
          try simp only [Act.put, List.setIfInBounds_toArray, List.set_cons_zero, List.set_cons_succ]
          refine takeD (i := 9) (v := .string t) rfl (by kernel_rfl) (by kernel_rfl) (by kernel_rfl) (fun _ _ _ h => h) (Or.inl ⟨by rfl, ?_⟩) hHeld ?_
          · intro w' hSw; go_simp
          try simp only [Act.put, List.setIfInBounds_toArray, List.set_cons_zero, List.set_cons_succ]
          refine wpAnyH_ready (rs := [5]) (by kernel_rfl) (by simp) ?_
          refine AllReadyH.cons rfl (fun K hK => ?_) AllReadyH.nil
          go_simp
          go_at_call 96; (with_reducible refine (HB.out _).mono ?_); rintro e w3 ⟨hb3, g3, c3, rfl, hg3, hr3⟩; have hb3' := below_of_drew5 hb3; have cv := conv_str (P := Tryz.prog) (n := E.length) (c := c3) hr3 rfl Tryz.underlying92 Tryz.underlying5 Tryz.underlying9; rw [HTS.out] at cv
          go_wp2_with fail
          refine hK.out _ _ trivial (fun hHeld => ?_)
          clear hK K
          try simp only [Act.put, List.setIfInBounds_toArray, List.set_cons_zero, List.set_cons_succ]
          refine wpAnyH_ready (rs := [6]) (by kernel_rfl) (by simp) ?_
          refine AllReadyH.cons rfl (fun K hK => ?_) AllReadyH.nil
          go_simp
          refine hK.out _ _ trivial (fun hHeld => ?_)
          clear hK K
          try simp only [Act.put, List.setIfInBounds_toArray, List.set_cons_zero, List.set_cons_succ]
          refine takeD (i := 10) (v := .bool true) rfl (by kernel_rfl) (by kernel_rfl) (by kernel_rfl) (fun _ _ _ h => h) (Or.inl ⟨by rfl, ?_⟩) hHeld ?_
          · intro w' hSw; go_simp
          try simp only [Act.put, List.setIfInBounds_toArray, List.set_cons_zero, List.set_cons_succ]
          refine takeD (i := 11) (v := .bool true) rfl (by kernel_rfl) (by kernel_rfl) (by kernel_rfl) (fun _ _ _ h => h) (Or.inl ⟨by rfl, ?_⟩) hHeld ?_
          · intro w' hSw; go_simp
          try simp only [Act.put, List.setIfInBounds_toArray, List.set_cons_zero, List.set_cons_succ]
          refine wpAnyH_done (by kernel_rfl) ?_ _
          refine NoPanic.normal ?_
          go_wp2_with fail
          go_ret2
          exact ⟨rfl, hb3'⟩
        · have hr2 : n = v ∧ m = j := by
            rcases HRES.out with ⟨_, _, h1⟩ | ⟨h2, _⟩
            · exact h1
            · exact absurd ⟨hmv, hqb.2 (Classical.not_not.1 hqt)⟩ h2
          obtain rfl : TS = t := Classical.not_not.1 hqt
          obtain ⟨rfl, rfl⟩ := hr2
          clear hmv HRES hv1 htl hE hlE hqb hTS hqt
          go_wp2_with fail
          refine wp_region_noPanic ?_
          refine wp_region_held_drew (S := fun _ => True) (by kernel_rfl) trivial (fun hHeld => ?_)
          refine takeD (i := 0) (v := .int .i64 n) rfl (by kernel_rfl) (by kernel_rfl) (by kernel_rfl) (fun _ _ _ h => h) (Or.inl ⟨by rfl, ?_⟩) hHeld ?_
          · intro w' hSw; go_simp
          try simp only [Act.put, List.setIfInBounds_toArray, List.set_cons_zero, List.set_cons_succ]
          refine wpAnyH_ready (rs := [1]) (by kernel_rfl) (by simp) ?_
          refine AllReadyH.cons rfl (fun K hK => ?_) AllReadyH.nil
          go_simp
          go_at_call 95; (with_reducible refine (rmay_any n true _ HMV.out).mono ?_); rintro e w2 ⟨rfl, rfl⟩
          go_wp2_with fail
          refine hK.out _ _ trivial (fun hHeld => ?_)
          clear hK K
          try simp only [Act.put, List.setIfInBounds_toArray, List.set_cons_zero, List.set_cons_succ]
          refine takeD (i := 2) (v := .bool false) rfl (by kernel_rfl) (by kernel_rfl) (by kernel_rfl) (fun _ _ _ h => h) (Or.inl ⟨by rfl, ?_⟩) hHeld ?_
          · intro w' hSw; go_simp
          try simp only [Act.put, List.setIfInBounds_toArray, List.set_cons_zero, List.set_cons_succ]
          refine takeD (i := 3) (v := .bool false) rfl (by kernel_rfl) (by kernel_rfl) (by kernel_rfl) (fun _ _ _ h => h) (Or.inl ⟨by rfl, ?_⟩) hHeld ?_
          · intro w' hSw; go_simp
          try simp only [Act.put, List.setIfInBounds_toArray, List.set_cons_zero, List.set_cons_succ]
          refine takeD (i := 4) (v := .int .i64 n) rfl (by kernel_rfl) (by kernel_rfl) (by kernel_rfl) (fun _ _ _ h => h) (Or.inl ⟨by rfl, ?_⟩) hHeld ?_
          · intro w' hSw; go_simp
          try simp only [Act.put, List.setIfInBounds_toArray, List.set_cons_zero, List.set_cons_succ]
          refine takeD (i := 7) (v := .string s) rfl (by kernel_rfl) (by kernel_rfl) (by kernel_rfl) (fun _ _ _ h => h) (Or.inl ⟨by rfl, ?_⟩) hHeld ?_
          · intro w' hSw; go_simp
          try simp only [Act.put, List.setIfInBounds_toArray, List.set_cons_zero, List.set_cons_succ]
          refine takeD (i := 8) (v := .int .i64 m) rfl (by kernel_rfl) (by kernel_rfl) (by kernel_rfl) (fun _ _ _ h => h) (Or.inl ⟨by rfl, ?_⟩) hHeld ?_
          · intro w' hSw; go_simp
          try simp only [Act.put, List.setIfInBounds_toArray, List.set_cons_zero, List.set_cons_succ]
          refine takeD (i := 9) (v := .string TS) rfl (by kernel_rfl) (by kernel_rfl) (by kernel_rfl) (fun _ _ _ h => h) (Or.inl ⟨by rfl, ?_⟩) hHeld ?_
          · intro w' hSw; go_simp
          try simp only [Act.put, List.setIfInBounds_toArray, List.set_cons_zero, List.set_cons_succ]
          refine wpAnyH_ready (rs := [5]) (by kernel_rfl) (by simp) ?_
          refine AllReadyH.cons rfl (fun K hK => ?_) AllReadyH.nil
          go_simp
          go_at_call 96; (with_reducible refine (HB.out _).mono ?_); rintro e w3 ⟨hb3, g3, c3, rfl, hg3, hr3⟩; have hb3' := below_of_drew5 hb3; have cv := conv_str (P := Tryz.prog) (n := E.length) (c := c3) hr3 rfl Tryz.underlying92 Tryz.underlying5 Tryz.underlying9; rw [HTS.out] at cv
          go_wp2_with fail
          refine hK.out _ _ trivial (fun hHeld => ?_)
          clear hK K
          try simp only [Act.put, List.setIfInBounds_toArray, List.set_cons_zero, List.set_cons_succ]
          refine wpAnyH_ready (rs := [6]) (by kernel_rfl) (by simp) ?_
          refine AllReadyH.cons rfl (fun K hK => ?_) AllReadyH.nil
          go_simp
          refine hK.out _ _ trivial (fun hHeld => ?_)
          clear hK K
          try simp only [Act.put, List.setIfInBounds_toArray, List.set_cons_zero, List.set_cons_succ]
          refine takeD (i := 10) (v := .bool false) rfl (by kernel_rfl) (by kernel_rfl) (by kernel_rfl) (fun _ _ _ h => h) (Or.inl ⟨by rfl, ?_⟩) hHeld ?_
          · intro w' hSw; go_simp
          try simp only [Act.put, List.setIfInBounds_toArray, List.set_cons_zero, List.set_cons_succ]
          refine takeD (i := 11) (v := .bool false) rfl (by kernel_rfl) (by kernel_rfl) (by kernel_rfl) (fun _ _ _ h => h) (Or.inl ⟨by rfl, ?_⟩) hHeld ?_
          · intro w' hSw; go_simp
          try simp only [Act.put, List.setIfInBounds_toArray, List.set_cons_zero, List.set_cons_succ]
          refine wpAnyH_done (by kernel_rfl) ?_ _
          refine NoPanic.normal ?_
          go_wp2_with fail
          go_ret2
          exact ⟨rfl, hb3'⟩

theorem one_empty (w : World) : Calls Tryz.prog 85 #[.string ⟨#[]⟩] w fun e w' => e = .returned (.tuple #[.int .i64 0, .int .i64 0]) ∧ Below w.heap.size w w' := by
  go_enter Tryz.func85, Tryz.ntmps85
  go_wp2
  go_ret2
  exact ⟨rfl, Below.refl _ _⟩
theorem one_refuse (s : ByteArray) (a : UInt8) (r : List UInt8) (k b : Nat) (w : World) (hs : s.data.toList = a :: r) (hh : hd a.toNat = (k, b)) (h0 : k = 0 ∨ s.size < k) :
    Calls Tryz.prog 85 #[.string s] w fun e w' => e = .returned (.tuple #[.int .i64 0, .int .i64 0]) ∧ Below w.heap.size w w' := by
  have hlen : r.length + 1 = s.size := by rw [← ba_len5, hs]; rfl
  have hsz : 0 < s.size := by omega
  have hat : ∀ (h : 0 < s.size), s[0]'h = a := by
    intro h
    have e : s.data.toList[0]? = some a := by rw [hs]; rfl
    have e2 : s.data.toList[0]? = some (s[0]'h) := by
      rw [List.getElem?_eq_getElem (by rw [ba_len5]; exact h)]
      simp [ByteArray.getElem_eq_getElem_data]
    rw [e] at e2
    cases e2
    rfl
  have ha := a.toNat_lt
  have hne : (s.toList == (⟨#[]⟩ : ByteArray).toList) = false := by
    rw [seq_b5]
    simp only [decide_eq_false_iff_not]
    rintro rfl
    exact absurd hsz (by decide)
  have hne2 : (s.toList == []) = false := by
    rw [ByteArray.toList_eq, hs]
    rfl
  have g0 : IntKind.i64.wrap (a.toNat : Int) = (a.toNat : Int) := IntWalk.i64_in _ (by omega)
  have HAT := hat
  have HH := Lib.hid hh
  rcases h0 with rfl | h0
  · clear hh hs hlen hat
    go_enter Tryz.func85, Tryz.ntmps85
    go_wp2_with (first
      | (go_at_call 94; (with_reducible refine (head_any a.toNat w 0 b ha HH.out).mono ?_); rintro e w1 ⟨rfl, rfl⟩)
      | fail)
    go_ret2
    exact ⟨rfl, Below.refl _ _⟩
  · have c0 : ((k : Int) == 0) = false := by simp; omega
    have c1 : decide ((s.size : Int) < (k : Int)) = true := by simp; omega
    clear hh hs hlen hat
    go_enter Tryz.func85, Tryz.ntmps85
    go_wp2_with (first
      | (go_at_call 94; (with_reducible refine (head_any a.toNat w k b ha HH.out).mono ?_); rintro e w1 ⟨rfl, rfl⟩)
      | fail)
    go_ret2
    exact ⟨rfl, Below.refl _ _⟩
theorem one_any (s : ByteArray) (w : World) (hm : s.size ≤ 1000000) (n m : Nat) (h : (one s.data.toList).getD (0, 0) = (n, m)) :
    Calls Tryz.prog 85 #[.string s] w fun e w' => e = .returned (.tuple #[.int .i64 n, .int .i64 m]) ∧ Below w.heap.size w w' := by
  cases hs : s.data.toList with
  | nil =>
    obtain rfl : s = ⟨#[]⟩ := by rw [ba_eq5 s, hs]
    obtain ⟨rfl, rfl⟩ : 0 = n ∧ 0 = m := by
      rw [hs] at h
      cases h
      exact ⟨rfl, rfl⟩
    exact one_empty w
  | cons a r =>
    obtain ⟨k, b, hh⟩ : ∃ k b, hd a.toNat = (k, b) := ⟨_, _, rfl⟩
    have hlen : r.length + 1 = s.size := by rw [← ba_len5, hs]; rfl
    by_cases h0 : k = 0 ∨ s.size < k
    · have hno : one s.data.toList = none := by
        cases ho : one s.data.toList with
        | none => rfl
        | some q =>
          obtain ⟨n', k'⟩ := q
          obtain ⟨a', r', b', e1, e2, h1, h2, _⟩ := one_ref ho
          rw [hs] at e1
          cases e1
          rw [hh] at e2
          cases e2
          rw [ba_len5] at h2
          omega
      rw [hno] at h
      obtain ⟨rfl, rfl⟩ : 0 = n ∧ 0 = m := by cases h; exact ⟨rfl, rfl⟩
      exact one_refuse s a r k b w hs hh h0
    · refine one_core s a r k b _ w hs hh (by omega) (by omega) rfl hm n m ?_
      by_cases hq : may (fd b (r.take (k - 1)) : Nat) = true ∧ enc (fd b (r.take (k - 1))) = s.data.toList.take k
      · have ho := one_ref2 (k := k) hq.1 (by rw [ba_len5]; omega) hq.2
        rw [ho] at h
        cases h
        exact .inl ⟨hq.1, hq.2, rfl, rfl⟩
      · have hno : one s.data.toList = none := by
          cases ho : one s.data.toList with
          | none => rfl
          | some q =>
            obtain ⟨n', k'⟩ := q
            obtain ⟨a', r', b', e1, e2, h1, h2, h3, h4, h5⟩ := one_ref ho
            rw [hs] at e1
            cases e1
            rw [hh] at e2
            cases e2
            rw [← h3] at h4 h5
            exact absurd ⟨h4, h5⟩ hq
        rw [hno] at h
        cases h
        exact .inr ⟨hq, rfl, rfl⟩
end Hx
end Go.Proofs.YteobcohjikjalaaGreatDoor
