/- Texts put together. -/
import Derived.Test.YtlgppednjkbgiaaGreatDoorMiA
import Derived.Test.YtlgppednjkbgiaaGreatDoorMi26
import Derived.Test.YtlgppednjkbgiaaGreatDoorMi14
set_option maxRecDepth 100000
set_option maxHeartbeats 16000000
set_option linter.unusedVariables false
namespace Go.Proofs.YtlgppednjkbgiaaGreatDoor
open Go.RowKit Go.Proofs.Tryz
namespace Hx
open Lx Tr Tx Nmb Es
end Hx
end Go.Proofs.YtlgppednjkbgiaaGreatDoor
