/-
  Texts of one seat, put together: TrhH, TrhI.
-/
import Derived.Test.YtioiifdcgdoanaaGreatDoorIn28
import Derived.Test.YtioiifdcgdoanaaGreatDoorIn26
namespace Go.Proofs.YtioiifdcgdoanaaGreatDoor
open Go.RowKit
namespace Hx
open Lx Tr Tx Nmb Es
set_option linter.unusedVariables false
end Hx
end Go.Proofs.YtioiifdcgdoanaaGreatDoor
