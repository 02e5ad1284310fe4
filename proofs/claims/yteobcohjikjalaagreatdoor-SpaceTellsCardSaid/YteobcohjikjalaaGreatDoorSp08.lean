/-
  Texts of one seat, put together: EscT, LexT, LexU, LexV.
-/
import Derived.Test.YteobcohjikjalaaGreatDoorSp07
import Derived.Test.YteobcohjikjalaaGreatDoorSp04
import Derived.Lib.ConvBytes
import Derived.Lib.BufferMore
import Derived.Test.YteobcohjikjalaaGreatDoorSp02
set_option linter.unusedSimpArgs false
namespace Go.Proofs.YteobcohjikjalaaGreatDoor
open Go.RowKit
namespace Hx
open Tx Nmb Es
set_option linter.unusedVariables false
end Hx
end Go.Proofs.YteobcohjikjalaaGreatDoor
set_option linter.unusedSimpArgs false
namespace Go.Proofs.YteobcohjikjalaaGreatDoor
open Go.RowKit
namespace Hx
open Lx Tx Nmb Es
set_option linter.unusedVariables false
theorem seq_l (a b : ByteArray) : (a.toList == b.toList) = decide (a.data.toList = b.data.toList) := by
  rw [Bool.eq_iff_iff]
  simp only [beq_iff_eq, decide_eq_true_eq, ByteArray.toList_eq]
def sp (c : UInt8) : UInt8 := if blk c then 32 else c
end Hx
end Go.Proofs.YteobcohjikjalaaGreatDoor
