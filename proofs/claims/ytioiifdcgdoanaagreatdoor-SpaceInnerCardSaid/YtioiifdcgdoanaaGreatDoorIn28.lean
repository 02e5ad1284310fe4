/-
  Texts of one seat, put together: TrhF, TrhG, TrhJ, TrhK, TrhL, TrhM.
-/
import Derived.Test.YtioiifdcgdoanaaGreatDoorIn27
import Derived.Test.YtioiifdcgdoanaaGreatDoorIn07
import Derived.Test.YtioiifdcgdoanaaGreatDoorIn06
import Derived.Test.YtioiifdcgdoanaaGreatDoorIn02
import Derived.Test.YtioiifdcgdoanaaGreatDoorIn10
import Derived.Test.YtioiifdcgdoanaaGreatDoorIn19
import Derived.Deep.AppendLies
import Derived.Test.YtioiifdcgdoanaaGreatDoorIn15
import Derived.Test.YtioiifdcgdoanaaGreatDoorIn14
import Derived.Test.YtioiifdcgdoanaaGreatDoorIn05
namespace Go.Proofs.YtioiifdcgdoanaaGreatDoor
open Go.RowKit
namespace Hx
open Lx Tr Tx Nmb Es
set_option linter.unusedVariables false
section
variable {w : World} {g4 g5 : Nat} {z : Int} {t : ByteArray} {l : List At} {k : Nat} {v : Value} {wr : World}
end
section
variable {B base gv gn gl gt : Nat} {A : Option Addr} {c : Nat} {v : List Nd} {p : Nat} {L : List TB} {V : Value} {wr : World}
end
end Hx
end Go.Proofs.YtioiifdcgdoanaaGreatDoor
