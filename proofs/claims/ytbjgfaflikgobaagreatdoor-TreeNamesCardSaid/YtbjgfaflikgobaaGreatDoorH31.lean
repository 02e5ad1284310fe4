/-
  Texts of one seat, put together: TreF.
-/
import Derived.Test.YtbjgfaflikgobaaGreatDoorH30
import Derived.Test.YtbjgfaflikgobaaGreatDoorH26
namespace Go.Proofs.YtbjgfaflikgobaaGreatDoor
open Go.RowKit
namespace Hx
open Lx Tr Tx Nmb Es
set_option linter.unusedVariables false
/-- What Behind answers. -/
def bhZ (v : List Nd) (d p : Nat) : Int := match restD d (v.drop p) with
  | some r => ((v.length - r.length : Nat) : Int)
  | none => -1
def RB (d : Nat) (A : Option Addr) (n c : Nat) (v : List Nd) : Prop := ∀ (z : Int) (p : Nat) (w : World), z + d = 13 → p ≤ n → RdB NdS w A v →
  Calls Tryz.prog 106 #[.slice A n c, .int .i64 p, .int .i64 z] w fun e w' => e = .returned (.int .i64 (bhZ v d p)) ∧ Below w.heap.size w w'
end Hx
end Go.Proofs.YtbjgfaflikgobaaGreatDoor
