/-
  Texts of one seat, put together: LexH, BldA, BldK, EscA, TextP.
-/
import Derived.Test.YteobcohjikjalaaGreatDoorSp08
import Derived.Deep.QuietTactic
import Derived.Test.YteobcohjikjalaaGreatDoorSp00
import Derived.Test.YteobcohjikjalaaGreatDoorShelf
import Derived.Lib.OthersKept
import Derived.Lib.FrozenHead2
import Derived.Laws.Externs
import Derived.Test.YteobcohjikjalaaGreatDoorSp01
import Derived.Test.YteobcohjikjalaaGreatDoorSp06
set_option linter.unusedSimpArgs false
namespace Go.Proofs.YteobcohjikjalaaGreatDoor
open Go.RowKit
namespace Hx
open Lx Tx Nmb Es
set_option linter.unusedVariables false
end Hx
end Go.Proofs.YteobcohjikjalaaGreatDoor
set_option linter.unusedSimpArgs false
namespace Go.Proofs.YteobcohjikjalaaGreatDoor
open Go.RowKit
namespace Hx
set_option linter.unusedVariables false
end Hx
end Go.Proofs.YteobcohjikjalaaGreatDoor
set_option linter.unusedSimpArgs false
namespace Go.Proofs.YteobcohjikjalaaGreatDoor
open Go.RowKit
namespace Hx
open Tx Nmb Es
set_option linter.unusedVariables false
end Hx
end Go.Proofs.YteobcohjikjalaaGreatDoor
set_option linter.unusedSimpArgs false
namespace Go.Proofs.YteobcohjikjalaaGreatDoor
open Go.RowKit
namespace Hx
open Tx
set_option maxRecDepth 100000
set_option maxHeartbeats 16000000
set_option linter.unusedVariables false
theorem may5w (n : Int) (b : Bool) (w : World) (hb : may n = b) :
    Calls Tryz.prog 70 #[.int .i64 n] w fun e w' => e = .returned (.bool b) ∧ w = w' := by
  by_cases a : n = 9
  · subst a
    obtain rfl : true = b := hb
    go_enter Tryz.func70, Tryz.ntmps70
    go_wp2
    go_ret
    exact ⟨rfl, rfl⟩
  have q1 : (n == 9) = false := by simpa using a
  by_cases a2 : n = 10
  · subst a2
    obtain rfl : true = b := hb
    go_enter Tryz.func70, Tryz.ntmps70
    go_wp2
    go_ret
    exact ⟨rfl, rfl⟩
  have q2 : (n == 10) = false := by simpa using a2
  by_cases a3 : n = 13
  · subst a3
    obtain rfl : true = b := hb
    go_enter Tryz.func70, Tryz.ntmps70
    go_wp2
    go_ret
    exact ⟨rfl, rfl⟩
  have q3 : (n == 13) = false := by simpa using a3
  by_cases a6 : n = 65534
  · subst a6
    obtain rfl : false = b := hb
    go_enter Tryz.func70, Tryz.ntmps70
    go_wp2
    go_ret
    exact ⟨rfl, rfl⟩
  have q6 : (n == 65534) = false := by simpa using a6
  by_cases a7 : n = 65535
  · subst a7
    obtain rfl : false = b := hb
    go_enter Tryz.func70, Tryz.ntmps70
    go_wp2
    go_ret
    exact ⟨rfl, rfl⟩
  have q7 : (n == 65535) = false := by simpa using a7
  by_cases a4 : 55296 ≤ n
  · have d4 : decide (55296 ≤ n) = true := by simpa using a4
    have d8 : decide (32 ≤ n) = true := by simp; omega
    by_cases a5 : n ≤ 57343
    · have d5 : decide (n ≤ 57343) = true := by simpa using a5
      obtain rfl : false = b := by
        rw [← hb, may_high (by omega)]
        have e1 : decide (n < 55296) = false := by simp; omega
        have e2 : decide (57343 < n) = false := by simp; omega
        rw [e1, e2]; simp
      clear hb a4 a5
      go_enter Tryz.func70, Tryz.ntmps70
      go_wp2
      go_ret
      exact ⟨rfl, rfl⟩
    · have d5 : decide (n ≤ 57343) = false := by simpa using a5
      have hb2 : decide (n ≤ 1114111) = b := by
        rw [← hb, may_high (by omega)]
        have e1 : decide (n < 55296) = false := by simp; omega
        have e2 : decide (57343 < n) = true := by simp; omega
        rw [e1, e2]; simp [a6, a7]
      clear hb a4 a5 a a2 a3 a6 a7
      go_enter Tryz.func70, Tryz.ntmps70
      go_wp2
      go_ret
      exact ⟨rfl, rfl⟩
  · have d4 : decide (55296 ≤ n) = false := by simpa using a4
    by_cases a8 : 32 ≤ n
    · have d8 : decide (32 ≤ n) = true := by simpa using a8
      have d9 : decide (n ≤ 1114111) = true := by simp; omega
      obtain rfl : true = b := by
        rw [← hb, may_high (by omega), d9]
        have e1 : decide (n < 55296) = true := by simp; omega
        rw [e1]; simp [a6, a7]
      clear hb a4 a8 a a2 a3 a6 a7
      go_enter Tryz.func70, Tryz.ntmps70
      go_wp2
      go_ret
      exact ⟨rfl, rfl⟩
    · have d8 : decide (32 ≤ n) = false := by simpa using a8
      obtain rfl : false = b := by
        rw [← hb, may_low (by omega)]
        simp [a, a2, a3]
      clear hb a4 a8 a a2 a3 a6 a7
      go_enter Tryz.func70, Tryz.ntmps70
      go_wp2
      go_ret
      exact ⟨rfl, rfl⟩
theorem slpre (s p : ByteArray) (q : Bool) (w : World) (hq : (decide (p.size ≤ s.size) && decide ((s.extract 0 p.size) = p)) = q) :
    Calls Tryz.prog 80 #[.string s, .string p] w fun e w' => e = .returned (.bool q) ∧ w = w' := by
  by_cases h : p.size ≤ s.size
  · have d0 : decide ((p.size : Int) ≤ (s.size : Int)) = true := by simp; omega
    have e : ((s.extract 0 p.size).toList == p.toList) = q := by rw [seq_b5, ← hq]; simp [h]
    clear hq
    go_enter Tryz.func80, Tryz.ntmps80
    go_wp2
    go_ret
    exact ⟨rfl, rfl⟩
  · have d0 : decide ((p.size : Int) ≤ (s.size : Int)) = false := by simp; omega
    obtain rfl : false = q := by rw [← hq]; simp [h]
    clear hq
    go_enter Tryz.func80, Tryz.ntmps80
    go_wp2
    go_ret
    exact ⟨rfl, rfl⟩
theorem pre5 (s p : ByteArray) (q : Bool) (w : World) (hq : (decide (p.size ≤ s.size) && decide ((s.extract 0 p.size) = p)) = q) :
    Calls Tryz.prog 59 #[.string s, .string p] w fun e w' => e = .returned (.bool q) ∧ w = w' := by
  have HQ := Lib.hid hq
  clear hq
  go_enter Tryz.func59, Tryz.ntmps59
  go_wp2_with (go_at_call 80; (with_reducible refine (slpre s p q w HQ.out).mono ?_); rintro e w1 ⟨rfl, rfl⟩)
  go_ret
  exact ⟨rfl, rfl⟩
def stnd : ByteArray := ⟨#[239, 191, 189]⟩
theorem enc_stnd : enc 65533 = [239, 191, 189] := by decide +kernel
theorem extract_take (s : ByteArray) (n : Nat) : s.extract 0 n = ⟨(s.data.toList.take n).toArray⟩ := by
  have := ByteArray.extract_mk s.data.toList 0 n
  rw [← ba_eq5] at this
  rw [this]
  simp
theorem stnd_pre (l : List UInt8) : (decide (stnd.size ≤ (⟨l.toArray⟩ : ByteArray).size) && decide (((⟨l.toArray⟩ : ByteArray).extract 0 stnd.size) = stnd)) = decide (l.take 3 = [239, 191, 189]) := by
  rw [extract_take]
  show (decide (3 ≤ l.length) && decide ((⟨(l.take 3).toArray⟩ : ByteArray) = ⟨#[239, 191, 189]⟩)) = _
  rw [Bool.eq_iff_iff]
  simp only [Bool.and_eq_true, decide_eq_true_eq]
  constructor
  · rintro ⟨_, h⟩
    have := congrArg (fun x : ByteArray => x.data.toList) h
    simpa using this
  · intro h
    refine ⟨?_, by rw [h]⟩
    have := congrArg List.length h
    rw [List.length_take] at this
    simp at this
    omega
def runeL (l : List UInt8) : Nat := match decL l with | some p => p.1 | none => 65533
theorem dec_stnd (l : List UInt8) : l.take 3 = [239, 191, 189] ↔ decL l = some (65533, 3) := by
  constructor
  · intro h
    have e : l = enc 65533 ++ l.drop 3 := by rw [enc_stnd, ← h, List.take_append_drop]
    rw [e, dec_enc 65533 (by decide), enc_stnd]
    rfl
  · intro h
    obtain ⟨_, _, r, e⟩ := dec_sound l _ _ h
    rw [e, enc_stnd]
    rfl
theorem runeL_le (l : List UInt8) : runeL l ≤ 1114111 := by
  unfold runeL
  cases h : decL l with
  | none => simp
  | some p =>
    obtain ⟨p, k⟩ := p
    exact sv_le (dec_sound l _ _ h).1
theorem one_rune (l : List UInt8) : (one l).isSome = if runeL l = 65533 then decide (l.take 3 = [239, 191, 189]) else may (runeL l) := by
  unfold runeL one
  cases h : decL l with
  | none =>
    have : ¬ l.take 3 = [239, 191, 189] := by rw [dec_stnd, h]; simp
    simp [this]
  | some p =>
    obtain ⟨p, k⟩ := p
    simp only
    by_cases hp : p = 65533
    · subst hp
      have hs := (dec_sound l _ _ h).2.1
      rw [enc_stnd] at hs
      obtain rfl : k = 3 := hs
      rw [if_pos rfl, decide_eq_true ((dec_stnd l).2 h)]
      decide
    · rw [if_neg hp]
      cases hm : may p <;> simp [hm]
theorem begins5 (l : List UInt8) (s : ByteArray) (c : Nat) (b : Bool) (w : World) (hs : s = ⟨l.toArray⟩) (hc : runeL l = c) (hb : (one l).isSome = b) :
    Calls Tryz.prog 48 #[.string s, .int .i32 c] w fun e w' => e = .returned (.bool b) ∧ w = w' := by
  have hle := runeL_le l
  rw [one_rune, hc] at hb
  rw [hc] at hle
  have g1 : IntKind.i64.wrap (c : Int) = (c : Int) := IntWalk.i64_in _ (by omega)
  have hpre := stnd_pre l
  rw [← hs] at hpre
  by_cases h : c = 65533
  · rw [if_pos h] at hb
    rw [hb] at hpre
    have HP : Hid (∀ W : World, Calls Tryz.prog 59 #[.string s, .string ⟨#[239, 191, 189]⟩] W fun e w' => e = .returned (.bool b) ∧ W = w') := fun W => pre5 s stnd b W hpre
    subst h
    clear hle hc hb hs hpre
    cases b
    · go_enter Tryz.func48, Tryz.ntmps48
      go_wp2_with (go_at_call 59; (with_reducible refine (HP.out _).mono ?_); rintro e w1 ⟨rfl, rfl⟩)
      go_ret
      exact ⟨rfl, rfl⟩
    · go_enter Tryz.func48, Tryz.ntmps48
      go_wp2_with (first
        | (go_at_call 59; (with_reducible refine (HP.out _).mono ?_); rintro e w1 ⟨rfl, rfl⟩)
        | (go_at_call 70; (with_reducible refine (may5w 65533 true w rfl).mono ?_); rintro e w1 ⟨rfl, rfl⟩)
        | fail)
      go_ret
      exact ⟨rfl, rfl⟩
  · rw [if_neg h] at hb
    have d0 : ((c : Int) == 65533) = false := by simp; omega
    have HB := Lib.hid hb
    clear hle hc hb hs hpre h
    go_enter Tryz.func48, Tryz.ntmps48
    go_wp2_with (first
      | (go_at_call 70; (with_reducible refine (may5w c b w HB.out).mono ?_); rintro e w1 ⟨rfl, rfl⟩)
      | fail)
    go_ret
    exact ⟨rfl, rfl⟩
end Hx
end Go.Proofs.YteobcohjikjalaaGreatDoor
