/-
  Contracts of package text: Next.
-/
import Derived.Test.YtjdeomlpipdopaaDoorTextQ
namespace Go.Proofs.YtjdeomlpipdopaaDoor
open Go.RowKit
namespace Hx
open Tx
set_option linter.unusedVariables false
end Hx
end Go.Proofs.YtjdeomlpipdopaaDoor
