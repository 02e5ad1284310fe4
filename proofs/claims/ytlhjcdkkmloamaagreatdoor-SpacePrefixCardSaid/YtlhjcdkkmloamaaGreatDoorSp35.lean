/-
  Texts of one seat, put together: TrhF, TrhG, TrhJ, TrhK, TrhL, TrhM.
-/
import Derived.Test.YtlhjcdkkmloamaaGreatDoorSp34
import Derived.Test.YtlhjcdkkmloamaaGreatDoorSp07
import Derived.Test.YtlhjcdkkmloamaaGreatDoorSp06
import Derived.Test.YtlhjcdkkmloamaaGreatDoorSp02
import Derived.Test.YtlhjcdkkmloamaaGreatDoorSp10
import Derived.Test.YtlhjcdkkmloamaaGreatDoorSp24
import Derived.Deep.AppendLies
import Derived.Test.YtlhjcdkkmloamaaGreatDoorSp18
import Derived.Test.YtlhjcdkkmloamaaGreatDoorSp15
import Derived.Test.YtlhjcdkkmloamaaGreatDoorSp05
set_option linter.unusedSimpArgs false
namespace Go.Proofs.YtlhjcdkkmloamaaGreatDoor
open Go.RowKit
namespace Hx
open Lx Tr Tx Nmb Es
set_option linter.unusedVariables false
section
variable {w : World} {g4 g5 : Nat} {z : Int} {t : ByteArray} {l : List At} {k : Nat} {v : Value} {wr : World}
end
section
variable {B base gv gn gl gt : Nat} {A : Option Addr} {c : Nat} {v : List Nd} {p : Nat} {L : List TB} {V : Value} {wr : World}
end
end Hx
end Go.Proofs.YtlhjcdkkmloamaaGreatDoor
