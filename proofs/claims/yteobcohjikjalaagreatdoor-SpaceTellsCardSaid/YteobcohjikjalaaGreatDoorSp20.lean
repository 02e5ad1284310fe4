/-
  Texts of one seat, put together: TextV, EscE, EscF, EscG, EscH, EscV.
-/
import Derived.Test.YteobcohjikjalaaGreatDoorSp19
import Derived.Test.YteobcohjikjalaaGreatDoorSp18
import Derived.Test.YteobcohjikjalaaGreatDoorSp11
import Derived.Laws.EntriesVeiled
import Derived.Lib.IndexLaws
import Derived.RegionTactic
import Derived.Test.YteobcohjikjalaaGreatDoorSp08
import Derived.Test.YteobcohjikjalaaGreatDoorSp12
set_option linter.unusedSimpArgs false
namespace Go.Proofs.YteobcohjikjalaaGreatDoor
open Go.RowKit
namespace Hx
open Tx
set_option linter.unusedVariables false
end Hx
end Go.Proofs.YteobcohjikjalaaGreatDoor
set_option linter.unusedSimpArgs false
namespace Go.Proofs.YteobcohjikjalaaGreatDoor
open Go.RowKit
namespace Hx
open Tx Nmb Es
set_option linter.unusedVariables false
end Hx
end Go.Proofs.YteobcohjikjalaaGreatDoor
