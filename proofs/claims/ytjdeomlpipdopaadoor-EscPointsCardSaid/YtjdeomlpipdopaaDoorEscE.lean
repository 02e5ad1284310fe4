/-
  The readers of references, of package esc.
-/
import Derived.Test.YtjdeomlpipdopaaDoorEscD
import Derived.Test.YtjdeomlpipdopaaDoorEscA
import Derived.Test.YtjdeomlpipdopaaDoorNumX
import Derived.Test.YtjdeomlpipdopaaDoorTextV
namespace Go.Proofs.YtjdeomlpipdopaaDoor
open Go.RowKit
namespace Hx
open Tx Nmb Es
set_option linter.unusedVariables false
def wdK (l : List UInt8) : Value := .string ⟨l.toArray⟩
def WD : Array MapEntry := #[⟨wdK [97, 109, 112], .int .i64 38, 0⟩, ⟨wdK [108, 116], .int .i64 60, 1⟩, ⟨wdK [103, 116], .int .i64 62, 2⟩, ⟨wdK [113, 117, 111, 116], .int .i64 34, 3⟩, ⟨wdK [97, 112, 111, 115], .int .i64 39, 4⟩]
theorem str_key (s : ByteArray) : MapKept.IsKey .string (.string s) := by simp [MapKept.IsKey]
/-- The reader's value; what its blocks hold. -/
def RdV (M G : Nat) : Value := .agg #[.map (some M), .slice (some ⟨G, 0, none⟩) 2 2]
def BS : Array Value := #[.string ⟨#[35, 120]⟩, .func (.func 42) #[] #[], .string ⟨#[35]⟩, .func (.func 43) #[] #[]]
def Rdr (M G : Nat) (w : World) : Prop := w.heap[M]? = some (.map WD 5) ∧ w.heap[G]? = some (.cells BS 81)
theorem heap_lt {w : World} {k : Nat} {o : Obj} (h : w.heap[k]? = some o) : k < w.heap.size := by
  rcases Nat.lt_or_ge k w.heap.size with h' | h'
  · exact h'
  · rw [Array.getElem?_eq_none h'] at h; cases h
theorem Rdr.to {M G : Nat} {w w' : World} (h : Rdr M G w) (hb : Below w.heap.size w w') : Rdr M G w' :=
  ⟨kept_at h.1 hb (heap_lt h.1), kept_at h.2 hb (heap_lt h.2)⟩
set_option maxRecDepth 100000 in
theorem reader8 (w : World) :
    Calls Tryd.prog 28 #[] w fun e w' => ∃ M G, e = .returned (RdV M G) ∧ Rdr M G w' ∧ Below w.heap.size w w' := by
  have hmm := @run_makeMap Tryd.prog
  go_enter Tryd.func28, Tryd.ntmps28
  go_wp2_with (refine wpList_ins rfl _ _ _ _ rfl rfl rfl rfl (run_ins_at (w := w.alloc _) (by simp) Tryd.underlying60 Tryd.underlying9 (str_key _) rfl) ?_)
  refine bodyPost_ret (v := RdV (w.heap.size + 1) (w.heap.size + 1 + 1)) ?_ rfl ⟨w.heap.size + 1, w.heap.size + 1 + 1, rfl, ⟨?_, ?_⟩, ?_⟩
  · simp [results, Tryd.results28, go_sem, RdV]
  · rw [heap_alloc_old]
    · have := heap_alloc_new (w.alloc (.cells #[.map (some (w.heap.size + 1)), .slice (some ⟨w.heap.size + 1 + 1, 0, none⟩) 2 2] 63)) (.map WD 5)
      rw [show (w.alloc (.cells #[.map (some (w.heap.size + 1)), .slice (some ⟨w.heap.size + 1 + 1, 0, none⟩) 2 2] 63)).heap.size = w.heap.size + 1 by simp] at this
      exact this
    · simp
  · have := heap_alloc_new ((w.alloc (.cells #[.map (some (w.heap.size + 1)), .slice (some ⟨w.heap.size + 1 + 1, 0, none⟩) 2 2] 63)).alloc (.map WD 5)) (.cells BS 81)
    rw [show ((w.alloc (.cells #[.map (some (w.heap.size + 1)), .slice (some ⟨w.heap.size + 1 + 1, 0, none⟩) 2 2] 63)).alloc (.map WD 5)).heap.size = w.heap.size + 1 + 1 by simp] at this
    exact this
  · exact (((Below.refl _ _).alloc (Nat.le_refl _) _).alloc (by simp) _).alloc (by simp; omega) _
/-- A word's code point. -/
def wdO (l : List UInt8) : Option Int := if l = [97, 109, 112] then some 38 else if l = [108, 116] then some 60 else if l = [103, 116] then some 62 else if l = [113, 117, 111, 116] then some 34 else if l = [97, 112, 111, 115] then some 39 else none
def wdF (l : List UInt8) : Option (Nat × Value) := if l = [97, 109, 112] then some (0, .int .i64 38) else if l = [108, 116] then some (1, .int .i64 60) else if l = [103, 116] then some (2, .int .i64 62) else if l = [113, 117, 111, 116] then some (3, .int .i64 34) else if l = [97, 112, 111, 115] then some (4, .int .i64 39) else none
theorem bytes_same (s : ByteArray) (l : List UInt8) : (s == (⟨l.toArray⟩ : ByteArray)) = decide (s.data.toList = l) := by
  rw [Bool.eq_iff_iff, MapKept.bytes_beq, decide_eq_true_eq]
  constructor
  · intro h; rw [h]
  · intro h; rw [← h]
theorem wd_one (s : ByteArray) (k : List UInt8) (v : Value) (b : Nat) (l : List MapEntry) (i : Nat) :
    Instr.findNow .string (.string s) (⟨wdK k, v, b⟩ :: l) i = if s.data.toList = k then some (some (i, v)) else Instr.findNow .string (.string s) l (i + 1) := by
  rw [Instr.findNow]
  show (match some (s == (⟨k.toArray⟩ : ByteArray)) with | some true => _ | some false => _ | none => _) = _
  rw [bytes_same]
  by_cases h : s.data.toList = k
  · rw [if_pos h, decide_eq_true h]
  · rw [if_neg h, decide_eq_false h]
theorem wd_find (s : ByteArray) : Instr.findNow .string (.string s) WD.toList 0 = some (wdF s.data.toList) := by
  show Instr.findNow .string (.string s) [⟨wdK [97, 109, 112], _, 0⟩, ⟨wdK [108, 116], _, 1⟩, ⟨wdK [103, 116], _, 2⟩, ⟨wdK [113, 117, 111, 116], _, 3⟩, ⟨wdK [97, 112, 111, 115], _, 4⟩] 0 = _
  rw [wd_one, wd_one, wd_one, wd_one, wd_one]
  unfold wdF
  split
  · rfl
  split
  · rfl
  split
  · rfl
  split
  · rfl
  split
  · rfl
  · rfl
def wdV (o : Option Int) : Value := match o with | some n => .tuple #[.int .i64 n, .bool true] | none => .tuple #[.int .i64 0, .bool false]
theorem wdF_O (l : List UInt8) : lookV (.int .i64 0) (wdF l) = wdV (wdO l) := by
  unfold wdF wdO
  split
  · rfl
  split
  · rfl
  split
  · rfl
  split
  · rfl
  split
  · rfl
  · rfl
theorem zero_int (w : World) : (zeroValue 3).run Tryd.prog w = .ok (.int .i64 0) w := by kernel_rfl
theorem lookw (s : ByteArray) (w : World) (M : Nat) (hb : w.heap[M]? = some (.map WD 5)) :
    (Instr.lookup 60 (.map (some M)) (.string s) true).run Tryd.prog w = .ok (wdV (wdO s.data.toList)) w := by
  rw [run_look Tryd.underlying60 Tryd.underlying9 (str_key _) hb rfl (zero_int w) (wd_find s), wdF_O]
end Hx
end Go.Proofs.YtjdeomlpipdopaaDoor
