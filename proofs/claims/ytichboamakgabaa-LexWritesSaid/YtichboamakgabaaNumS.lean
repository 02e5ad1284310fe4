/-
  The document's own value, Read, Write, Sum.
-/
import Derived.Test.YtichboamakgabaaNumR
namespace Go.Proofs.Ytichboamakgabaa
open Go.RowKit
namespace Hx
open Nmb
set_option linter.unusedVariables false
theorem ret_i6 {a b : Int} (h : a = b) : Ending.returned (.int .i64 a) = .returned (.int .i64 b) := by rw [h]
/-- What value answers. -/
def valR (l : List UInt8) : Int := if l.all isDg then (val l : Int) else -1
theorem not_all6 (l : List UInt8) (k : Nat) (h : k < l.length) (h2 : isDg (l[k]'h) = false) : l.all isDg = false := by
  rw [List.all_eq_false]
  exact ⟨l[k]'h, List.getElem_mem h, by simp [h2]⟩
theorem at6 (s : ByteArray) (k : Nat) (h : k < s.size) : s.data.toList[k]'(by rw [ba_len6]; exact h) = s[k]'h := by cases s; rfl
/-- What Read answers. -/
def readR (l : List UInt8) : Int × Int := match readN l with | some n => (n, 0) | none => (0, 60)
theorem list6 (l : List UInt8) : (⟨l.toArray⟩ : ByteArray).data.toList = l := rfl
theorem seq6 (a b : ByteArray) : (a.toList == b.toList) = decide (a.data.toList = b.data.toList) := by
  rw [Bool.eq_iff_iff]
  simp only [beq_iff_eq, decide_eq_true_eq, ByteArray.toList_eq]
end Hx
end Go.Proofs.Ytichboamakgabaa
