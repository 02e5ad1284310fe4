/-
  The map of how bytes are written, of package esc.
-/
import Derived.Test.YtichboamakgabaaMapA
import Derived.Test.YtichboamakgabaaEscM
namespace Go.Proofs.Ytichboamakgabaa
open Go.RowKit
namespace Hx
open Tx Nmb Es
set_option linter.unusedVariables false
/-- What is written for a byte: the reference; whether just where it is quoted. -/
def sgV (l : List UInt8) (q : Bool) : Value := .agg #[.string ⟨l.toArray⟩, .bool q]
def sgK (c : Int) : Value := .int .u8 c
def SG : Array MapEntry := #[⟨sgK 38, sgV [38, 97, 109, 112, 59] false, 0⟩, ⟨sgK 60, sgV [38, 108, 116, 59] false, 1⟩, ⟨sgK 62, sgV [38, 103, 116, 59] false, 2⟩, ⟨sgK 13, sgV [38, 35, 49, 51, 59] false, 3⟩,
  ⟨sgK 34, sgV [38, 113, 117, 111, 116, 59] true, 4⟩, ⟨sgK 9, sgV [38, 35, 57, 59] true, 5⟩, ⟨sgK 10, sgV [38, 35, 49, 48, 59] true, 6⟩]
theorem u8_key (c : Int) : MapKept.IsKey (.int .u8) (.int .u8 c) := by simp [MapKept.IsKey]
set_option maxRecDepth 100000 in
theorem signs8 (w : World) :
    Calls Try.prog 44 #[] w fun e w' => e = .returned (.map (some w.heap.size)) ∧ w' = w.alloc (.map SG 7) := by
  have hmm := @run_makeMap Try.prog
  go_enter Try.func44, Try.ntmps44
  go_wp2_with (refine wpList_ins rfl _ _ _ _ rfl rfl rfl rfl (run_ins (w := w) Try.underlying73 Try.underlying5 (u8_key _) rfl) ?_)
  go_ret
  exact ⟨rfl, rfl⟩
/-- What the map tells of a byte: which reference, whether just where it is quoted, whether any. -/
def sgT (c : UInt8) : ByteArray × Bool × Bool :=
  if c = 38 then (⟨#[38, 97, 109, 112, 59]⟩, false, true) else if c = 60 then (⟨#[38, 108, 116, 59]⟩, false, true) else if c = 62 then (⟨#[38, 103, 116, 59]⟩, false, true) else if c = 13 then (⟨#[38, 35, 49, 51, 59]⟩, false, true)
  else if c = 34 then (⟨#[38, 113, 117, 111, 116, 59]⟩, true, true) else if c = 9 then (⟨#[38, 35, 57, 59]⟩, true, true) else if c = 10 then (⟨#[38, 35, 49, 48, 59]⟩, true, true) else (⟨#[]⟩, false, false)
theorem sgT_escb (c : UInt8) (q : Bool) : escb q c = if (sgT c).2.2 && (q || !(sgT c).2.1) then (sgT c).1.data.toList else [c] := by
  cases q
  · exact u8_every (fun c => escb false c = if (sgT c).2.2 && (false || !(sgT c).2.1) then (sgT c).1.data.toList else [c]) (by decide +kernel) c
  · exact u8_every (fun c => escb true c = if (sgT c).2.2 && (true || !(sgT c).2.1) then (sgT c).1.data.toList else [c]) (by decide +kernel) c
def sgF (c : UInt8) : Option (Nat × Value) :=
  if c = 38 then some (0, sgV [38, 97, 109, 112, 59] false) else if c = 60 then some (1, sgV [38, 108, 116, 59] false) else if c = 62 then some (2, sgV [38, 103, 116, 59] false) else if c = 13 then some (3, sgV [38, 35, 49, 51, 59] false)
  else if c = 34 then some (4, sgV [38, 113, 117, 111, 116, 59] true) else if c = 9 then some (5, sgV [38, 35, 57, 59] true) else if c = 10 then some (6, sgV [38, 35, 49, 48, 59] true) else none
theorem int_beq (c : UInt8) (n : Nat) (hn : n < 256) : ((c.toNat : Int) == (n : Int)) = decide (c = UInt8.ofNat n) := by
  rw [Bool.eq_iff_iff, beq_iff_eq, decide_eq_true_eq]
  constructor
  · intro h
    have h : c.toNat = n := by omega
    apply UInt8.toNat_inj.1
    rw [h]
    simp
    omega
  · intro h
    rw [h]
    simp
    omega
theorem sg_one (c : UInt8) (n : Nat) (hn : n < 256) (v : Value) (b : Nat) (l : List MapEntry) (i : Nat) :
    Instr.findNow (.int .u8) (.int .u8 (c.toNat : Int)) (⟨sgK n, v, b⟩ :: l) i = if c = UInt8.ofNat n then some (some (i, v)) else Instr.findNow (.int .u8) (.int .u8 (c.toNat : Int)) l (i + 1) := by
  rw [Instr.findNow]
  show (match (if IntKind.u8 = IntKind.u8 then some ((c.toNat : Int) == (n : Int)) else none) with | some true => _ | some false => _ | none => _) = _
  rw [if_pos rfl, int_beq c n hn]
  by_cases h : c = UInt8.ofNat n
  · rw [if_pos h, decide_eq_true h]
  · rw [if_neg h, decide_eq_false h]
theorem sg_find (c : UInt8) : Instr.findNow (.int .u8) (.int .u8 (c.toNat : Int)) SG.toList 0 = some (sgF c) := by
  show Instr.findNow (.int .u8) (.int .u8 (c.toNat : Int)) [⟨sgK (38 : Nat), _, 0⟩, ⟨sgK (60 : Nat), _, 1⟩, ⟨sgK (62 : Nat), _, 2⟩, ⟨sgK (13 : Nat), _, 3⟩, ⟨sgK (34 : Nat), _, 4⟩, ⟨sgK (9 : Nat), _, 5⟩, ⟨sgK (10 : Nat), _, 6⟩] 0 = _
  rw [sg_one c 38 (by decide), sg_one c 60 (by decide), sg_one c 62 (by decide), sg_one c 13 (by decide), sg_one c 34 (by decide), sg_one c 9 (by decide), sg_one c 10 (by decide)]
  unfold sgF
  show (if c = 38 then _ else if c = 60 then _ else if c = 62 then _ else if c = 13 then _ else if c = 34 then _ else if c = 9 then _ else if c = 10 then _ else _) = _
  split
  · rfl
  split
  · rfl
  split
  · rfl
  split
  · rfl
  split
  · rfl
  split
  · rfl
  split
  · rfl
  · rfl
theorem sgF_T (c : UInt8) : lookV (sgV [] false) (sgF c) = .tuple #[.agg #[.string (sgT c).1, .bool (sgT c).2.1], .bool (sgT c).2.2] := by
  unfold sgF sgT
  split
  · rfl
  split
  · rfl
  split
  · rfl
  split
  · rfl
  split
  · rfl
  split
  · rfl
  split
  · rfl
  · rfl
theorem zero_sign (w : World) : (zeroValue 76).run Try.prog w = .ok (sgV [] false) w := by kernel_rfl
theorem look8 (c : UInt8) (w : World) (b : Nat) (hb : w.heap[b]? = some (.map SG 7)) :
    (Instr.lookup 73 (.map (some b)) (.int .u8 (c.toNat : Int)) true).run Try.prog w = .ok (.tuple #[.agg #[.string (sgT c).1, .bool (sgT c).2.1], .bool (sgT c).2.2]) w := by
  rw [run_look Try.underlying73 Try.underlying5 (u8_key _) hb rfl (zero_sign w) (sg_find c), sgF_T]
end Hx
end Go.Proofs.Ytichboamakgabaa
