/-
  What came in reads as nodes; what the program finds laid.
-/
import Derived.Test.YtlgppednjkbgiaaGreatDoorMb26
import Derived.Lib.LaidU8T
set_option maxRecDepth 100000
set_option linter.unusedVariables false
set_option linter.unusedSimpArgs false
namespace Go.Proofs.YtlgppednjkbgiaaGreatDoor
open Go.RowKit
namespace Hx
open Lx Tx Nmb Es
def ren9:Go.Shelf.Ren:=⟨λn=>n,λ| 5=>5 | 119=>285 | 138=>287 | 139=>288 | n=>n,λ| 3=>5 | 4=>6 | n=>n⟩
theorem types9:U8Types Tryz.prog ren9:=⟨by kernel_rfl,by kernel_rfl,by kernel_rfl,by kernel_rfl⟩
theorem tabs9 {w : World} (h3 : Lib.VarReads Tryz.prog w "unicode/utf8.first" Lib.firstData) (h4 : Lib.VarReads Tryz.prog w "unicode/utf8.acceptRanges" Lib.acceptData) : Lib.Utf8Tabs 5 6 w :=
 utf8Tabs_of_readsT types9 ⟨by kernel_rfl,by kernel_rfl,by kernel_rfl,by kernel_rfl,by kernel_rfl,by kernel_rfl,by kernel_rfl⟩ h3 h4
end Hx
end Go.Proofs.YtlgppednjkbgiaaGreatDoor
