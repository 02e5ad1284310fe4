/-
  Texts of one seat, put together: LexR, LexS, TextN, TextR, TextO.
-/
import Derived.Test.YtbjgfaflikgobaaGreatDoorH01
import Derived.Lib.Strings
import Derived.Deep.LoopGhost
import Derived.Test.YtbjgfaflikgobaaGreatDoorH00
import Derived.ChangeAlike
import Derived.RegionTactic
import Derived.IntWalk
import Derived.Deep.RegionHeld3
namespace Go.Proofs.YtbjgfaflikgobaaGreatDoor
open Go.RowKit
namespace Hx
open Lx
set_option linter.unusedVariables false
theorem ba_l (s : ByteArray) : s.data.toList.length = s.size := by cases s; simp [ByteArray.size]
theorem at_l (s : ByteArray) (k : Nat) (h : k < s.size) : s.data.toList[k]'(by rw [ba_l]; exact h) = s[k]'h := by cases s; rfl
theorem ba_x {s t : ByteArray} (h : s.data.toList = t.data.toList) : s = t := by
  cases s; cases t
  simpa using h
theorem empty_l (s : ByteArray) : s.toList.isEmpty = decide (s.size = 0) := by
  rw [ByteArray.toList_eq, Bool.eq_iff_iff, List.isEmpty_iff, decide_eq_true_eq, ← ba_l]
  constructor
  · intro e; rw [e]; rfl
  · exact List.eq_nil_of_length_eq_zero
theorem extract_l (s : ByteArray) (a b : Nat) (h : b ≤ s.size) : (s.extract a b).data.toList = (s.data.toList.drop a).take (b - a) := Lib.extract_data s a b
/-- So far a name. -/
def nameP (l : List UInt8) : Prop := l = [] ∨ nameL l = true
end Hx
end Go.Proofs.YtbjgfaflikgobaaGreatDoor
namespace Go.Proofs.YtbjgfaflikgobaaGreatDoor
open Go.RowKit
namespace Hx
open Lx
set_option linter.unusedVariables false
/-- What Parts answers. -/
def PartsTo (s : ByteArray) (w : World) (e : Ending) (w' : World) : Prop := (∃ n, w' = w.drewN n) ∧
  ((∃ x y : ByteArray, cutC s.data.toList = some (x.data.toList, y.data.toList) ∧ e = .returned (.tuple #[.string x, .string y, .bool true])) ∨ (cutC s.data.toList = none ∧ e = .returned (.tuple #[.string ⟨#[]⟩, .string s, .bool false])))
end Hx
end Go.Proofs.YtbjgfaflikgobaaGreatDoor
namespace Go.Proofs.YtbjgfaflikgobaaGreatDoor
namespace Tx
open Go

theorem get_drop (s : ByteArray) (i k : Nat) : s.get! (i + k) = (s.data.toList.drop i).getD k default := by
  rw [List.getD_eq_getElem?_getD, List.getElem?_drop]
  show s.data[i + k]! = _
  rw [getElem!_def, Array.getElem?_toList]
  cases s.data[i + k]? <;> rfl
theorem size_drop (s : ByteArray) (i k : Nat) : (i + k < s.size) = (k < (s.data.toList.drop i).length) := by
  have e : s.data.toList.length = s.size := by rw [Array.length_toList]; rfl
  rw [List.length_drop, e]
  apply propext
  omega
set_option linter.unusedSimpArgs false in
set_option maxRecDepth 100000 in
/-- What the model reads at a place: a scalar value and how many bytes; or the rune that stands for none, one byte. -/
theorem decode_eq (s : ByteArray) (i : Nat) (h : i < s.size) : Utf8.decode s i = match decL (s.data.toList.drop i) with | some p => p | none => (65533, 1) := by
  have hp : 0 < (s.data.toList.drop i).length := by rw [← size_drop]; exact h
  unfold Utf8.decode
  simp only [get_drop, size_drop]
  generalize s.data.toList.drop i = l at hp
  have hv : ∀ c : Nat, Utf8.valid (c : Int) = sv c := by
    intro c
    unfold Utf8.valid sv
    rw [Bool.eq_iff_iff]
    simp
    omega
  have hh : ∀ a : UInt8, (a.toNat / 64 == 2) = cont a := by
    intro a
    unfold cont
    rw [Bool.eq_iff_iff]
    simp
  have hre : Utf8.runeError = 65533 := rfl
  cases l with
  | nil => simp at hp
  | cons a r =>
    have ha := a.toNat_lt
    simp only [List.getD_cons_zero, List.length_cons]
    unfold decL
    dsimp only
    by_cases h1 : a.toNat < 128
    · rw [if_pos h1, if_pos h1]
    · rw [if_neg h1, if_neg h1]
      by_cases h2 : a.toNat / 32 = 6
      · rw [if_pos h2]
        cases r with
        | nil => simp [h2, hre]
        | cons b r =>
          simp only [h2, List.getD_cons_succ, List.getD_cons_zero, hh, List.length_cons, beq_self_eq_true, Bool.true_and]
          obtain ⟨x, hx⟩ : ∃ x, a.toNat % 32 * 64 + b.toNat % 64 = x := ⟨_, rfl⟩
          simp only [hx]
          cases hc : cont b
          · simp [hre]
          · by_cases hq : 128 ≤ x
            · simp [hq]
            · simp [hq, hre]
      · rw [if_neg h2]
        by_cases h3 : a.toNat / 16 = 14
        · rw [if_pos h3]
          match r with
          | [] => simp [h2, h3, hre]
          | [b] => simp [h2, h3, hre]
          | b :: c :: r =>
            simp only [h3, List.getD_cons_succ, List.getD_cons_zero, hh, List.length_cons, beq_self_eq_true, Bool.true_and]
            obtain ⟨x, hx⟩ : ∃ x, a.toNat % 16 * 4096 + b.toNat % 64 * 64 + c.toNat % 64 = x := ⟨_, rfl⟩
            simp only [hx]
            cases hb : cont b <;> cases hc : cont c
            · simp [h2, hre]
            · simp [h2, hre]
            · simp [h2, hre]
            · by_cases hq : 2048 ≤ x
              · cases hs : sv x <;> simp [h2, hv, hq, hs, hre]
              · simp [h2, hq, hre]
        · rw [if_neg h3]
          by_cases h4 : a.toNat / 8 = 30
          · rw [if_pos h4]
            match r with
            | [] => simp [h2, h3, h4, hre]
            | [b] => simp [h2, h3, h4, hre]
            | [b, c] => simp [h2, h3, h4, hre]
            | b :: c :: d :: r =>
              simp only [h4, List.getD_cons_succ, List.getD_cons_zero, hh, List.length_cons, beq_self_eq_true, Bool.true_and]
              obtain ⟨x, hx⟩ : ∃ x, a.toNat % 8 * 262144 + b.toNat % 64 * 4096 + c.toNat % 64 * 64 + d.toNat % 64 = x := ⟨_, rfl⟩
              simp only [hx]
              cases hb : cont b <;> cases hc : cont c <;> cases hd : cont d
              · simp [h2, h3, hre]
              · simp [h2, h3, hre]
              · simp [h2, h3, hre]
              · simp [h2, h3, hre]
              · simp [h2, h3, hre]
              · simp [h2, h3, hre]
              · simp [h2, h3, hre]
              · by_cases hq : 65536 ≤ x
                · cases hs : sv x <;> simp [h2, h3, hv, hq, hs, hre]
                · simp [h2, h3, hq, hre]
          · rw [if_neg h4]
            simp [h2, h3, h4, hre]
/-- What the model writes of a scalar value. -/
theorem encode_eq (n : Nat) (h : sv n = true) : Utf8.encode (n : Int) = ⟨(enc n).toArray⟩ := by
  have hv : Utf8.valid (n : Int) = true := by
    simp [sv] at h
    simp [Utf8.valid]
    omega
  unfold Utf8.encode enc
  simp only [hv, if_true, Int.toNat_natCast]
  by_cases h1 : n < 128
  · rw [if_pos h1, if_pos h1]; rfl
  · rw [if_neg h1, if_neg h1]
    by_cases h2 : n < 2048
    · rw [if_pos h2, if_pos h2]; rfl
    · rw [if_neg h2, if_neg h2]
      by_cases h3 : n < 65536
      · rw [if_pos h3, if_pos h3]; rfl
      · rw [if_neg h3, if_neg h3]; rfl
end Tx
end Go.Proofs.YtbjgfaflikgobaaGreatDoor
namespace Go.Proofs.YtbjgfaflikgobaaGreatDoor
open Go.RowKit
namespace Hx
open Tx
set_option linter.unusedVariables false

theorem may_low {n : Int} (h : n < 32) : may n = (decide (n = 9) || decide (n = 10) || decide (n = 13)) := by unfold may; rw [if_pos h]
theorem may_high {n : Int} (h : ¬ n < 32) : may n = (decide (n ≤ 1114111) && (decide (n < 55296) || decide (57343 < n)) && decide (n ≠ 65534) && decide (n ≠ 65535)) := by unfold may; rw [if_neg h]

/-- What Bytes answers. -/
def BytesTo (l : List UInt8) (w : World) (e : Ending) (w' : World) : Prop := Below w.heap.size w w' ∧ ∃ g c, e = .returned (.slice (some ⟨g, 0, none⟩) l.length c) ∧ w.heap.size ≤ g ∧ RdA w' w'.heap.size (some ⟨g, 0, none⟩) l
/-- How many bytes the first one tells, and its bits. -/
def hd (c : Nat) : Nat × Nat := if c < 128 then (1, c) else if 192 ≤ c ∧ c < 224 then (2, c - 192) else if 224 ≤ c ∧ c < 240 then (3, c - 224) else if 240 ≤ c ∧ c < 248 then (4, c - 240) else (0, 0)
end Hx
end Go.Proofs.YtbjgfaflikgobaaGreatDoor
namespace Go.Proofs.YtbjgfaflikgobaaGreatDoor
open Go.RowKit
namespace Tx
open Go Hx
/-- Bits put behind bits. -/
def fd (b : Nat) (l : List UInt8) : Nat := l.foldl (fun n c => 64 * n + c.toNat % 64) b
end Tx
namespace Hx
open Go
end Hx
end Go.Proofs.YtbjgfaflikgobaaGreatDoor
