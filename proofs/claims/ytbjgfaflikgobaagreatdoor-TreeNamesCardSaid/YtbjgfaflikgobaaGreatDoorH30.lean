/-
  Texts of one seat, put together: TreE.
-/
import Derived.Test.YtbjgfaflikgobaaGreatDoorH02
import Derived.Test.YtbjgfaflikgobaaGreatDoorH07
import Derived.Test.YtbjgfaflikgobaaGreatDoorH06
import Derived.Deep.QuietTactic
import Derived.BigQuiet
namespace Go.Proofs.YtbjgfaflikgobaaGreatDoor
open Go.RowKit
namespace Hx
open Lx Tr Tx Nmb Es
set_option linter.unusedVariables false
end Hx
end Go.Proofs.YtbjgfaflikgobaaGreatDoor
