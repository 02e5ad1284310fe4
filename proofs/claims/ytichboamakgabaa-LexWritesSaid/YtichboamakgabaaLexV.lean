/-
  The document's own lex: shut.
-/
import Derived.Test.YtichboamakgabaaLexU
namespace Go.Proofs.Ytichboamakgabaa
open Go.RowKit
namespace Hx
open Lx Tx Nmb Es
set_option linter.unusedVariables false
def zTk : Array Value := #[.int .u8 0, .string ⟨#[]⟩, .slice none 0 0, .string ⟨#[]⟩]
theorem oneTk (k : Int) (x : ByteArray) (v : Value) (y : ByteArray) (hv : v.oneCell' = true := by rfl) : (#[Value.int .u8 k, Value.string x, v, Value.string y] : Array Value).all (·.oneCell') = true := by simp [Value.oneCell'] at hv ⊢; exact hv
theorem sizeTk : (Try.prog.info? 26).map (·.size) = some 4 := by kernel_rfl
/-- Where a closing tag's sign > is looked for. -/
theorem shutL_none0 {l : List UInt8} (h : wordL l = []) : shutL l = none := by unfold shutL; rw [if_pos h]
theorem shutL_at {l : List UInt8} {a : Nat} (h : wordL (l.drop a) ≠ []) : shutL (l.drop a) = match l.drop (eqAt l a) with
    | [] => none
    | c :: r => if c = 62 then some (⟨2, wordL (l.drop a), [], []⟩, r) else none := by
  unfold shutL
  rw [if_neg h, List.drop_drop, dw_drop]
  rfl
theorem shutL_end {l : List UInt8} {a : Nat} (h : wordL (l.drop a) ≠ []) (h1 : l.length ≤ eqAt l a) : shutL (l.drop a) = none := by rw [shutL_at h, List.drop_of_length_le h1]
theorem shutL_other {l : List UInt8} {a : Nat} (h : wordL (l.drop a) ≠ []) (h1 : eqAt l a < l.length) (h2 : l[eqAt l a]'h1 ≠ 62) : shutL (l.drop a) = none := by
  rw [shutL_at h, List.drop_eq_getElem_cons h1]
  dsimp only
  rw [if_neg h2]
theorem shutL_yes {l : List UInt8} {a : Nat} (h : wordL (l.drop a) ≠ []) (h1 : eqAt l a < l.length) (h2 : l[eqAt l a]'h1 = 62) : shutL (l.drop a) = some (⟨2, wordL (l.drop a), [], []⟩, l.drop (eqAt l a + 1)) := by
  rw [shutL_at h, List.drop_eq_getElem_cons h1]
  dsimp only
  rw [if_pos h2]
/-- What shut answers. -/
def ShutTo (s : ByteArray) (a : Nat) (w : World) (e : Ending) (w' : World) : Prop := Below w.heap.size w w' ∧
  ((shutL (s.data.toList.drop (a + 2)) = none ∧ e = .returned (.tuple #[.agg #[.int .u8 0, .string ⟨#[]⟩, .slice none 0 0, .string ⟨#[]⟩], .int .i64 (-1)])) ∨
   (∃ (x : ByteArray) (n : Nat), shutL (s.data.toList.drop (a + 2)) = some (⟨2, x.data.toList, [], []⟩, s.data.toList.drop n) ∧ n ≤ s.size ∧ e = .returned (.tuple #[.agg #[.int .u8 2, .string x, .slice none 0 0, .string ⟨#[]⟩], .int .i64 n])))
end Hx
end Go.Proofs.Ytichboamakgabaa
