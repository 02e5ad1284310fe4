/-
  The document's own Digits.
-/
import Derived.Test.YtphakhklhicolaaDoorNumM
import Derived.WalkKit
import Derived.ProofKit
import Derived.Below
namespace Go.Proofs.YtphakhklhicolaaDoor
open Go.RowKit
namespace Hx
open Nmb
set_option linter.unusedVariables false
theorem ba_len6 (s : ByteArray) : s.data.toList.length = s.size := by cases s; simp [ByteArray.size]
theorem ba_ext6 {s t : ByteArray} (h : s.data.toList = t.data.toList) : s = t := by
  cases s; cases t
  simpa using h
theorem dg_le {n : Nat} (h : n ≤ 9223372036854775807) : (dg n).length ≤ 19 := dg_short 18 n (by omega)
end Hx
end Go.Proofs.YtphakhklhicolaaDoor
