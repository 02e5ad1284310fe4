/-
  No cell of these rows narrows 'for every input' (looked for: loops, veiled, ifaces, maps, wideKeys, modest, calm, conditions, laid).
  DERIVED. THE GIVEN ROWS OF THIS SEAT. 5 by the template 'for every input the law returns true; each argument reads behind the call as it read before'; 0 by the template 'total and deterministic' (their statements: YtmgdhkgkjimmoaaTotals.lean).
  GIVEN WITH THE SEED: the statements are not yours to turn. If you find one false, say at which input.
  Laid BY PROGRAM, IN A SANDBOX (cutbox-rows.mjs): the forced cells as the released guide's own fill.sh prints them over the translation dd5e70e0bfe9e7c3… (all of the seat's roots in one cut). By AI agents, Wed Nov 11 2026. No macro, syntax, notation, axiom, sorry.
-/
import Derived.Test.YtmgdhkgkjimmoaaChecked
import GoSem.Claim
import GoSem.ClaimJoined
import GoSem.ClaimMapViews
import Derived.JoinedTies
import Derived.KernelRfl
namespace Go.Proofs.Ytmgdhkgkjimmoaa
/- THE CELL 'sum', in the pinned program and in every row, IS THE sha256 OF THE DUMP (.gsa) THAT YtmgdhkgkjimmoaaProg.lean LOADS. Nothing in Lean hashes anything: it is a label: what it is worth is what the hold of that sum in a sandbox is worth. -/
noncomputable def Try.pinned : Pinned := { name := "ytmgdhkgkjimmoaa", sum := "dd5e70e0bfe9e7c3d1a24d0e031f661b7126b93bf285016abb18bfc83b54e784", checked := Try.checked }
namespace Rows
def none {H : Type} : Left H := { results := [], args := [] }

/-- 'tidewaiterlaw01.HexNames': WHATEVER THE INPUT: true; the input reads as it did. -/
def hexNamesSpec : ChangeSpec := { name := "hexNames", fn := fun _ => fun
  | [] => { results := [.lit (.bool true)], args := [] }
  | _ => none }
def hexNamesRow : OpenClaim := { program := "ytmgdhkgkjimmoaa", sum := "dd5e70e0bfe9e7c3d1a24d0e031f661b7126b93bf285016abb18bfc83b54e784", func := "tidewaiter/tidewaiterlaw01.HexNames", spec := "hexNames", apart := false }
def HexNamesSaid : Prop := hexNamesRow.holds Try.pinned (OpenSpec.ofChange hexNamesSpec)

/-- ITS FALSE NEIGHBOUR: 'it returns false'. Refute it at one input. -/
def hexNamesWrong : ChangeSpec := { name := "hexNames", fn := fun _ => fun
  | [] => { results := [.lit (.bool false)], args := [] }
  | _ => none }
def HexNamesWrongFalsely : Prop := hexNamesRow.holds Try.pinned (OpenSpec.ofChange hexNamesWrong)

/-- 'tidewaiterlaw01.HexTells': WHATEVER THE INPUT: true; the input reads as it did. -/
def hexTellsSpec : ChangeSpec := { name := "hexTells", fn := fun _ => fun
  | [d1, d2, d3, d4] => { results := [.lit (.bool true)], args := [d1, d2, d3, d4] }
  | _ => none }
def hexTellsRow : OpenClaim := { program := "ytmgdhkgkjimmoaa", sum := "dd5e70e0bfe9e7c3d1a24d0e031f661b7126b93bf285016abb18bfc83b54e784", func := "tidewaiter/tidewaiterlaw01.HexTells", spec := "hexTells", apart := false }
def HexTellsSaid : Prop := hexTellsRow.holds Try.pinned (OpenSpec.ofChange hexTellsSpec)

/-- ITS FALSE NEIGHBOUR: 'it returns false'. Refute it at one input. -/
def hexTellsWrong : ChangeSpec := { name := "hexTells", fn := fun _ => fun
  | [d1, d2, d3, d4] => { results := [.lit (.bool false)], args := [d1, d2, d3, d4] }
  | _ => none }
def HexTellsWrongFalsely : Prop := hexTellsRow.holds Try.pinned (OpenSpec.ofChange hexTellsWrong)

/-- 'tidewaiterlaw01.HexBack': WHATEVER THE INPUT: true; the input reads as it did. -/
def hexBackSpec : ChangeSpec := { name := "hexBack", fn := fun _ => fun
  | [d1, d2] => { results := [.lit (.bool true)], args := [d1, d2] }
  | _ => none }
def hexBackRow : OpenClaim := { program := "ytmgdhkgkjimmoaa", sum := "dd5e70e0bfe9e7c3d1a24d0e031f661b7126b93bf285016abb18bfc83b54e784", func := "tidewaiter/tidewaiterlaw01.HexBack", spec := "hexBack", apart := false }
def HexBackSaid : Prop := hexBackRow.holds Try.pinned (OpenSpec.ofChange hexBackSpec)

/-- ITS FALSE NEIGHBOUR: 'it returns false'. Refute it at one input. -/
def hexBackWrong : ChangeSpec := { name := "hexBack", fn := fun _ => fun
  | [d1, d2] => { results := [.lit (.bool false)], args := [d1, d2] }
  | _ => none }
def HexBackWrongFalsely : Prop := hexBackRow.holds Try.pinned (OpenSpec.ofChange hexBackWrong)

/-- 'tidewaiterlaw01.HexOrder': WHATEVER THE INPUT: true; the input reads as it did. -/
def hexOrderSpec : ChangeSpec := { name := "hexOrder", fn := fun _ => fun
  | [d1, d2] => { results := [.lit (.bool true)], args := [d1, d2] }
  | _ => none }
def hexOrderRow : OpenClaim := { program := "ytmgdhkgkjimmoaa", sum := "dd5e70e0bfe9e7c3d1a24d0e031f661b7126b93bf285016abb18bfc83b54e784", func := "tidewaiter/tidewaiterlaw01.HexOrder", spec := "hexOrder", apart := false }
def HexOrderSaid : Prop := hexOrderRow.holds Try.pinned (OpenSpec.ofChange hexOrderSpec)

/-- ITS FALSE NEIGHBOUR: 'it returns false'. Refute it at one input. -/
def hexOrderWrong : ChangeSpec := { name := "hexOrder", fn := fun _ => fun
  | [d1, d2] => { results := [.lit (.bool false)], args := [d1, d2] }
  | _ => none }
def HexOrderWrongFalsely : Prop := hexOrderRow.holds Try.pinned (OpenSpec.ofChange hexOrderWrong)

/-- 'tidewaiterlaw01.HexDigits': WHATEVER THE INPUT: true; the input reads as it did. -/
def hexDigitsSpec : ChangeSpec := { name := "hexDigits", fn := fun _ => fun
  | [d] => { results := [.lit (.bool true)], args := [d] }
  | _ => none }
def hexDigitsRow : OpenClaim := { program := "ytmgdhkgkjimmoaa", sum := "dd5e70e0bfe9e7c3d1a24d0e031f661b7126b93bf285016abb18bfc83b54e784", func := "tidewaiter/tidewaiterlaw01.HexDigits", spec := "hexDigits", apart := false }
def HexDigitsSaid : Prop := hexDigitsRow.holds Try.pinned (OpenSpec.ofChange hexDigitsSpec)

/-- ITS FALSE NEIGHBOUR: 'it returns false'. Refute it at one input. -/
def hexDigitsWrong : ChangeSpec := { name := "hexDigits", fn := fun _ => fun
  | [d] => { results := [.lit (.bool false)], args := [d] }
  | _ => none }
def HexDigitsWrongFalsely : Prop := hexDigitsRow.holds Try.pinned (OpenSpec.ofChange hexDigitsWrong)

/- THE SECOND FORM. 'bulk': how many values and letters a reading holds, each counted each time it is reached (what is shared counts as often as it is met; a slice's spare places count too). A statement '..UptoSaid' is the law's where the arguments, and the package variables that the reading takes, are together of bulk at most 1048576: NARROWER than '..Said'. Prove '..Said' where nothing that the law and all that it calls make is longer than what came in: it says more and counts as full. Else prove '..UptoSaid'. A law counts once. -/
mutual
def uptoBulk {H : Type} : DataW H → Nat
  | .lit (.string bytes) => bytes.length + 1
  | .lit _ => 1
  | .nil => 1
  | .ptr d => uptoBulk d + 1
  | .slice elems spare => uptoBulkAll elems + uptoBulkAll spare + 1
  | .agg parts => uptoBulkAll parts + 1
  | .iface _ d => uptoBulk d + 1
  | .map entries => uptoBulkEntries entries + 1
  | .held _ => 1
def uptoBulkAll {H : Type} : List (DataW H) → Nat
  | [] => 0
  | d :: r => uptoBulk d + uptoBulkAll r
def uptoBulkEntries {H : Type} : List (Lit × DataW H) → Nat
  | [] => 0
  | x :: r => uptoBulkEntry x + uptoBulkEntries r
def uptoBulkEntry {H : Type} : Lit × DataW H → Nat
  | (.string bytes, d) => bytes.length + uptoBulk d + 1
  | (_, d) => uptoBulk d + 1
 end
def uptoSmall : (H : Type) → List (DataW H) → Bool := fun _ ds => decide (uptoBulkAll ds ≤ 1048576)
def OpenSpec.upto (s : _root_.Go.ChangeSpec) : _root_.Go.OpenSpec := { _root_.Go.OpenSpec.ofChange s with cond := some uptoSmall }

/-- 'tidewaiterlaw01.HexNames', WHERE WHAT IT READS IS OF BULK AT MOST 1048576: true; the input reads as it did. -/
def hexNamesUptoRow : OpenClaim := { program := "ytmgdhkgkjimmoaa", sum := "dd5e70e0bfe9e7c3d1a24d0e031f661b7126b93bf285016abb18bfc83b54e784", func := "tidewaiter/tidewaiterlaw01.HexNames", spec := "hexNames", apart := false, narrowed := true }
def HexNamesUptoSaid : Prop := hexNamesUptoRow.holds Try.pinned (OpenSpec.upto hexNamesSpec)

/-- 'tidewaiterlaw01.HexTells', WHERE WHAT IT READS IS OF BULK AT MOST 1048576: true; the input reads as it did. -/
def hexTellsUptoRow : OpenClaim := { program := "ytmgdhkgkjimmoaa", sum := "dd5e70e0bfe9e7c3d1a24d0e031f661b7126b93bf285016abb18bfc83b54e784", func := "tidewaiter/tidewaiterlaw01.HexTells", spec := "hexTells", apart := false, narrowed := true }
def HexTellsUptoSaid : Prop := hexTellsUptoRow.holds Try.pinned (OpenSpec.upto hexTellsSpec)

/-- 'tidewaiterlaw01.HexBack', WHERE WHAT IT READS IS OF BULK AT MOST 1048576: true; the input reads as it did. -/
def hexBackUptoRow : OpenClaim := { program := "ytmgdhkgkjimmoaa", sum := "dd5e70e0bfe9e7c3d1a24d0e031f661b7126b93bf285016abb18bfc83b54e784", func := "tidewaiter/tidewaiterlaw01.HexBack", spec := "hexBack", apart := false, narrowed := true }
def HexBackUptoSaid : Prop := hexBackUptoRow.holds Try.pinned (OpenSpec.upto hexBackSpec)

/-- 'tidewaiterlaw01.HexOrder', WHERE WHAT IT READS IS OF BULK AT MOST 1048576: true; the input reads as it did. -/
def hexOrderUptoRow : OpenClaim := { program := "ytmgdhkgkjimmoaa", sum := "dd5e70e0bfe9e7c3d1a24d0e031f661b7126b93bf285016abb18bfc83b54e784", func := "tidewaiter/tidewaiterlaw01.HexOrder", spec := "hexOrder", apart := false, narrowed := true }
def HexOrderUptoSaid : Prop := hexOrderUptoRow.holds Try.pinned (OpenSpec.upto hexOrderSpec)

/-- 'tidewaiterlaw01.HexDigits', WHERE WHAT IT READS IS OF BULK AT MOST 1048576: true; the input reads as it did. -/
def hexDigitsUptoRow : OpenClaim := { program := "ytmgdhkgkjimmoaa", sum := "dd5e70e0bfe9e7c3d1a24d0e031f661b7126b93bf285016abb18bfc83b54e784", func := "tidewaiter/tidewaiterlaw01.HexDigits", spec := "hexDigits", apart := false, narrowed := true }
def HexDigitsUptoSaid : Prop := hexDigitsUptoRow.holds Try.pinned (OpenSpec.upto hexDigitsSpec)

end Rows
end Go.Proofs.Ytmgdhkgkjimmoaa
