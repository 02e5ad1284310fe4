/-
  Contracts of package ascii, all together.
-/
import Derived.Test.YtncklfmpnbdmcaaAscJ
namespace Go.Proofs.Ytncklfmpnbdmcaa
open Go.RowKit
namespace Hx
open As
theorem listE_lits (l : List UInt8) : listE l = 0 ∨ listE l = 4 ∨ listE l = 8 := by
  unfold listE
  split
  · exact .inr (.inl rfl)
  · split
    · exact .inl rfl
    · exact .inr (.inr rfl)
end Hx
end Go.Proofs.Ytncklfmpnbdmcaa
