/-
  Texts of one seat, put together: TextZ, TextV, EscE, EscF, EscG, EscH.
-/
import Derived.Test.YtbjgfaflikgobaaDoorH10
import Derived.OwnWalk
import Derived.OneCell
import Derived.Test.YtbjgfaflikgobaaDoorH13
import Derived.Laws.EntriesVeiled
import Derived.Lib.IndexLaws
import Derived.RegionTactic
import Derived.Test.YtbjgfaflikgobaaDoorH05
namespace Go.Proofs.YtbjgfaflikgobaaDoor
open Go.RowKit
namespace Hx
open Tx
set_option linter.unusedVariables false
end Hx
end Go.Proofs.YtbjgfaflikgobaaDoor
namespace Go.Proofs.YtbjgfaflikgobaaDoor
open Go.RowKit
namespace Hx
open Tx
set_option linter.unusedVariables false
end Hx
end Go.Proofs.YtbjgfaflikgobaaDoor
namespace Go.Proofs.YtbjgfaflikgobaaDoor
open Go.RowKit
namespace Hx
open Tx Nmb Es
set_option linter.unusedVariables false
def wdK (l : List UInt8) : Value := .string ⟨l.toArray⟩
def WD : Array MapEntry := #[⟨wdK [97, 109, 112], .int .i64 38, 0⟩, ⟨wdK [108, 116], .int .i64 60, 1⟩, ⟨wdK [103, 116], .int .i64 62, 2⟩, ⟨wdK [113, 117, 111, 116], .int .i64 34, 3⟩, ⟨wdK [97, 112, 111, 115], .int .i64 39, 4⟩]
/-- The reader's value; what its blocks hold. -/
def RdV (M G : Nat) : Value := .agg #[.map (some M), .slice (some ⟨G, 0, none⟩) 2 2]
/-- A word's code point. -/
def wdO (l : List UInt8) : Option Int := if l = [97, 109, 112] then some 38 else if l = [108, 116] then some 60 else if l = [103, 116] then some 62 else if l = [113, 117, 111, 116] then some 34 else if l = [97, 112, 111, 115] then some 39 else none
def wdF (l : List UInt8) : Option (Nat × Value) := if l = [97, 109, 112] then some (0, .int .i64 38) else if l = [108, 116] then some (1, .int .i64 60) else if l = [103, 116] then some (2, .int .i64 62) else if l = [113, 117, 111, 116] then some (3, .int .i64 34) else if l = [97, 112, 111, 115] then some (4, .int .i64 39) else none
def wdV (o : Option Int) : Value := match o with | some n => .tuple #[.int .i64 n, .bool true] | none => .tuple #[.int .i64 0, .bool false]
end Hx
end Go.Proofs.YtbjgfaflikgobaaDoor
namespace Go.Proofs.YtbjgfaflikgobaaDoor
open Go.RowKit
namespace Hx
open Tx Nmb Es
set_option linter.unusedVariables false
/-- What stands behind the mark; which mark. -/
def pxR (l p : List UInt8) : ByteArray := ⟨(Lib.trimPrefix l p).toArray⟩
/-- What point answers, by the two marks. -/
def ptR (l : List UInt8) : Int × Int :=
  match wdO l with
  | some n => (n, 0)
  | none => if Lib.hasPrefix l [35, 120] then hexI (pxR l [35, 120]).data.toList else if Lib.hasPrefix l [35] then readR (pxR l [35]).data.toList else (0, 80)
/-- What a reference tells. -/
def refR (l : List UInt8) : ByteArray × Int := match meantL l with | some y => (⟨y.toArray⟩, 0) | none => (⟨#[]⟩, 80)
def markL (l : List UInt8) : Option (List UInt8) := match l with | 35 :: r => (numL r).map enc | _ => none
def numP (k : Int) (o : Option Nat) : Int × Int := match o with | some n => ((n : Int), 0) | none => (0, k)
/-- What of a number: the reference of it, or none. -/
def numA (n : Nat) : ByteArray × Int := if may (n : Int) = true then (⟨(enc n).toArray⟩, 0) else (⟨#[]⟩, 80)
end Hx
end Go.Proofs.YtbjgfaflikgobaaDoor
namespace Go.Proofs.YtbjgfaflikgobaaDoor
open Go.RowKit
namespace Hx
open Tx Nmb Es
set_option linter.unusedVariables false
/-- What Cut answers. -/
def CutAt (p r : ByteArray) (b : Bool) (w : World) (e : Ending) (w' : World) : Prop := e = .returned (.tuple #[.string p, .string r, .bool b]) ∧ Below w.heap.size w w'
end Hx
end Go.Proofs.YtbjgfaflikgobaaDoor
namespace Go.Proofs.YtbjgfaflikgobaaDoor
open Go.RowKit
namespace Hx
open Tx Nmb Es
set_option linter.unusedVariables false
/-- What replace answers. -/
def repR (l : List UInt8) : ByteArray × Int := match rd l with | some y => (⟨y.toArray⟩, 0) | none => (⟨#[]⟩, 80)
end Hx
end Go.Proofs.YtbjgfaflikgobaaDoor
