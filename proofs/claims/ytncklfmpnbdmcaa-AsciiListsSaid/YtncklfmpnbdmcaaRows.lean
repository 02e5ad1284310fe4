/-
  No cell of these rows narrows 'for every input' (looked for: loops, veiled, ifaces, maps, wideKeys, modest, calm, conditions, laid).
  DERIVED. THE GIVEN ROWS OF THIS SEAT. 5 by the template 'for every input the law returns true; each argument reads behind the call as it read before'; 0 by the template 'total and deterministic' (their statements: YtncklfmpnbdmcaaTotals.lean).
  GIVEN WITH THE SEED: the statements are not yours to turn. If you find one false, say at which input.
  Laid BY PROGRAM, IN A SANDBOX (cutbox-rows.mjs): the forced cells as the released guide's own fill.sh prints them over the translation 4722e06238f2ffb1… (all of the seat's roots in one cut). By AI agents, Wed Nov 11 2026. No macro, syntax, notation, axiom, sorry.
-/
import Derived.Test.YtncklfmpnbdmcaaChecked
import GoSem.Claim
import GoSem.ClaimJoined
import GoSem.ClaimMapViews
import Derived.JoinedTies
import Derived.KernelRfl
namespace Go.Proofs.Ytncklfmpnbdmcaa
/- THE CELL 'sum', in the pinned program and in every row, IS THE sha256 OF THE DUMP (.gsa) THAT YtncklfmpnbdmcaaProg.lean LOADS. Nothing in Lean hashes anything: it is a label: what it is worth is what the hold of that sum in a sandbox is worth. -/
noncomputable def Try.pinned : Pinned := { name := "ytncklfmpnbdmcaa", sum := "4722e06238f2ffb167dea68d628a25f0cbd34e2851ab4dc12cee050cf2d4b120", checked := Try.checked }
namespace Rows
def none {H : Type} : Left H := { results := [], args := [] }

/-- 'tidewaiterlaw07.AsciiNames': WHATEVER THE INPUT: true; the input reads as it did. -/
def asciiNamesSpec : ChangeSpec := { name := "asciiNames", fn := fun _ => fun
  | [] => { results := [.lit (.bool true)], args := [] }
  | _ => none }
def asciiNamesRow : OpenClaim := { program := "ytncklfmpnbdmcaa", sum := "4722e06238f2ffb167dea68d628a25f0cbd34e2851ab4dc12cee050cf2d4b120", func := "tidewaiter/tidewaiterlaw07.AsciiNames", spec := "asciiNames", inPlace := ["internal/bytealg.IndexByteString", "internal/bytealg.IndexString"], unfollowed := true, recurses := true, named := ["internal/bytealg.MaxLen"], apart := false }
def AsciiNamesSaid : Prop := asciiNamesRow.holds Try.pinned (OpenSpec.ofChange asciiNamesSpec)

/-- ITS FALSE NEIGHBOUR: 'it returns false'. Refute it at one input. -/
def asciiNamesWrong : ChangeSpec := { name := "asciiNames", fn := fun _ => fun
  | [] => { results := [.lit (.bool false)], args := [] }
  | _ => none }
def AsciiNamesWrongFalsely : Prop := asciiNamesRow.holds Try.pinned (OpenSpec.ofChange asciiNamesWrong)

/-- 'tidewaiterlaw07.AsciiTells': WHATEVER THE INPUT: true; the input reads as it did. -/
def asciiTellsSpec : ChangeSpec := { name := "asciiTells", fn := fun _ => fun
  | [d1, d2] => { results := [.lit (.bool true)], args := [d1, d2] }
  | _ => none }
def asciiTellsRow : OpenClaim := { program := "ytncklfmpnbdmcaa", sum := "4722e06238f2ffb167dea68d628a25f0cbd34e2851ab4dc12cee050cf2d4b120", func := "tidewaiter/tidewaiterlaw07.AsciiTells", spec := "asciiTells", inPlace := ["internal/bytealg.IndexByteString", "internal/bytealg.IndexString"], unfollowed := true, recurses := true, named := ["internal/bytealg.MaxLen"], apart := false }
def AsciiTellsSaid : Prop := asciiTellsRow.holds Try.pinned (OpenSpec.ofChange asciiTellsSpec)

/-- ITS FALSE NEIGHBOUR: 'it returns false'. Refute it at one input. -/
def asciiTellsWrong : ChangeSpec := { name := "asciiTells", fn := fun _ => fun
  | [d1, d2] => { results := [.lit (.bool false)], args := [d1, d2] }
  | _ => none }
def AsciiTellsWrongFalsely : Prop := asciiTellsRow.holds Try.pinned (OpenSpec.ofChange asciiTellsWrong)

/-- 'tidewaiterlaw07.AsciiAgain': WHATEVER THE INPUT: true; the input reads as it did. -/
def asciiAgainSpec : ChangeSpec := { name := "asciiAgain", fn := fun _ => fun
  | [d] => { results := [.lit (.bool true)], args := [d] }
  | _ => none }
def asciiAgainRow : OpenClaim := { program := "ytncklfmpnbdmcaa", sum := "4722e06238f2ffb167dea68d628a25f0cbd34e2851ab4dc12cee050cf2d4b120", func := "tidewaiter/tidewaiterlaw07.AsciiAgain", spec := "asciiAgain", inPlace := ["internal/bytealg.IndexByteString", "internal/bytealg.IndexString"], unfollowed := true, recurses := true, named := ["internal/bytealg.MaxLen"], apart := false }
def AsciiAgainSaid : Prop := asciiAgainRow.holds Try.pinned (OpenSpec.ofChange asciiAgainSpec)

/-- ITS FALSE NEIGHBOUR: 'it returns false'. Refute it at one input. -/
def asciiAgainWrong : ChangeSpec := { name := "asciiAgain", fn := fun _ => fun
  | [d] => { results := [.lit (.bool false)], args := [d] }
  | _ => none }
def AsciiAgainWrongFalsely : Prop := asciiAgainRow.holds Try.pinned (OpenSpec.ofChange asciiAgainWrong)

/-- 'tidewaiterlaw07.AsciiSame': WHATEVER THE INPUT: true; the input reads as it did. -/
def asciiSameSpec : ChangeSpec := { name := "asciiSame", fn := fun _ => fun
  | [d1, d2, d3] => { results := [.lit (.bool true)], args := [d1, d2, d3] }
  | _ => none }
def asciiSameRow : OpenClaim := { program := "ytncklfmpnbdmcaa", sum := "4722e06238f2ffb167dea68d628a25f0cbd34e2851ab4dc12cee050cf2d4b120", func := "tidewaiter/tidewaiterlaw07.AsciiSame", spec := "asciiSame", inPlace := ["internal/bytealg.IndexByteString", "internal/bytealg.IndexString"], unfollowed := true, recurses := true, named := ["internal/bytealg.MaxLen"], apart := false }
def AsciiSameSaid : Prop := asciiSameRow.holds Try.pinned (OpenSpec.ofChange asciiSameSpec)

/-- ITS FALSE NEIGHBOUR: 'it returns false'. Refute it at one input. -/
def asciiSameWrong : ChangeSpec := { name := "asciiSame", fn := fun _ => fun
  | [d1, d2, d3] => { results := [.lit (.bool false)], args := [d1, d2, d3] }
  | _ => none }
def AsciiSameWrongFalsely : Prop := asciiSameRow.holds Try.pinned (OpenSpec.ofChange asciiSameWrong)

/-- 'tidewaiterlaw07.AsciiLists': WHATEVER THE INPUT: true; the input reads as it did. -/
def asciiListsSpec : ChangeSpec := { name := "asciiLists", fn := fun _ => fun
  | [d1, d2] => { results := [.lit (.bool true)], args := [d1, d2] }
  | _ => none }
def asciiListsRow : OpenClaim := { program := "ytncklfmpnbdmcaa", sum := "4722e06238f2ffb167dea68d628a25f0cbd34e2851ab4dc12cee050cf2d4b120", func := "tidewaiter/tidewaiterlaw07.AsciiLists", spec := "asciiLists", inPlace := ["internal/bytealg.IndexByteString", "internal/bytealg.IndexString"], unfollowed := true, recurses := true, named := ["internal/bytealg.MaxLen"], apart := false }
def AsciiListsSaid : Prop := asciiListsRow.holds Try.pinned (OpenSpec.ofChange asciiListsSpec)

/-- ITS FALSE NEIGHBOUR: 'it returns false'. Refute it at one input. -/
def asciiListsWrong : ChangeSpec := { name := "asciiLists", fn := fun _ => fun
  | [d1, d2] => { results := [.lit (.bool false)], args := [d1, d2] }
  | _ => none }
def AsciiListsWrongFalsely : Prop := asciiListsRow.holds Try.pinned (OpenSpec.ofChange asciiListsWrong)

/- THE SECOND FORM. 'bulk': how many values and letters a reading holds, each counted each time it is reached (what is shared counts as often as it is met; a slice's spare places count too). A statement '..UptoSaid' is the law's where the arguments, and the package variables that the reading takes, are together of bulk at most 1048576: NARROWER than '..Said'. Prove '..Said' where nothing that the law and all that it calls make is longer than what came in: it says more and counts as full. Else prove '..UptoSaid'. A law counts once. -/
mutual
def uptoBulk {H : Type} : DataW H → Nat
  | .lit (.string bytes) => bytes.length + 1
  | .lit _ => 1
  | .nil => 1
  | .ptr d => uptoBulk d + 1
  | .slice elems spare => uptoBulkAll elems + uptoBulkAll spare + 1
  | .agg parts => uptoBulkAll parts + 1
  | .iface _ d => uptoBulk d + 1
  | .map entries => uptoBulkEntries entries + 1
  | .held _ => 1
def uptoBulkAll {H : Type} : List (DataW H) → Nat
  | [] => 0
  | d :: r => uptoBulk d + uptoBulkAll r
def uptoBulkEntries {H : Type} : List (Lit × DataW H) → Nat
  | [] => 0
  | x :: r => uptoBulkEntry x + uptoBulkEntries r
def uptoBulkEntry {H : Type} : Lit × DataW H → Nat
  | (.string bytes, d) => bytes.length + uptoBulk d + 1
  | (_, d) => uptoBulk d + 1
 end
def uptoSmall : (H : Type) → List (DataW H) → Bool := fun _ ds => decide (uptoBulkAll ds ≤ 1048576)
def OpenSpec.upto (s : _root_.Go.ChangeSpec) : _root_.Go.OpenSpec := { _root_.Go.OpenSpec.ofChange s with cond := some uptoSmall }

/-- 'tidewaiterlaw07.AsciiNames', WHERE WHAT IT READS IS OF BULK AT MOST 1048576: true; the input reads as it did. -/
def asciiNamesUptoRow : OpenClaim := { program := "ytncklfmpnbdmcaa", sum := "4722e06238f2ffb167dea68d628a25f0cbd34e2851ab4dc12cee050cf2d4b120", func := "tidewaiter/tidewaiterlaw07.AsciiNames", spec := "asciiNames", inPlace := ["internal/bytealg.IndexByteString", "internal/bytealg.IndexString"], unfollowed := true, recurses := true, named := ["internal/bytealg.MaxLen"], apart := false, narrowed := true }
def AsciiNamesUptoSaid : Prop := asciiNamesUptoRow.holds Try.pinned (OpenSpec.upto asciiNamesSpec)

/-- 'tidewaiterlaw07.AsciiTells', WHERE WHAT IT READS IS OF BULK AT MOST 1048576: true; the input reads as it did. -/
def asciiTellsUptoRow : OpenClaim := { program := "ytncklfmpnbdmcaa", sum := "4722e06238f2ffb167dea68d628a25f0cbd34e2851ab4dc12cee050cf2d4b120", func := "tidewaiter/tidewaiterlaw07.AsciiTells", spec := "asciiTells", inPlace := ["internal/bytealg.IndexByteString", "internal/bytealg.IndexString"], unfollowed := true, recurses := true, named := ["internal/bytealg.MaxLen"], apart := false, narrowed := true }
def AsciiTellsUptoSaid : Prop := asciiTellsUptoRow.holds Try.pinned (OpenSpec.upto asciiTellsSpec)

/-- 'tidewaiterlaw07.AsciiAgain', WHERE WHAT IT READS IS OF BULK AT MOST 1048576: true; the input reads as it did. -/
def asciiAgainUptoRow : OpenClaim := { program := "ytncklfmpnbdmcaa", sum := "4722e06238f2ffb167dea68d628a25f0cbd34e2851ab4dc12cee050cf2d4b120", func := "tidewaiter/tidewaiterlaw07.AsciiAgain", spec := "asciiAgain", inPlace := ["internal/bytealg.IndexByteString", "internal/bytealg.IndexString"], unfollowed := true, recurses := true, named := ["internal/bytealg.MaxLen"], apart := false, narrowed := true }
def AsciiAgainUptoSaid : Prop := asciiAgainUptoRow.holds Try.pinned (OpenSpec.upto asciiAgainSpec)

/-- 'tidewaiterlaw07.AsciiSame', WHERE WHAT IT READS IS OF BULK AT MOST 1048576: true; the input reads as it did. -/
def asciiSameUptoRow : OpenClaim := { program := "ytncklfmpnbdmcaa", sum := "4722e06238f2ffb167dea68d628a25f0cbd34e2851ab4dc12cee050cf2d4b120", func := "tidewaiter/tidewaiterlaw07.AsciiSame", spec := "asciiSame", inPlace := ["internal/bytealg.IndexByteString", "internal/bytealg.IndexString"], unfollowed := true, recurses := true, named := ["internal/bytealg.MaxLen"], apart := false, narrowed := true }
def AsciiSameUptoSaid : Prop := asciiSameUptoRow.holds Try.pinned (OpenSpec.upto asciiSameSpec)

/-- 'tidewaiterlaw07.AsciiLists', WHERE WHAT IT READS IS OF BULK AT MOST 1048576: true; the input reads as it did. -/
def asciiListsUptoRow : OpenClaim := { program := "ytncklfmpnbdmcaa", sum := "4722e06238f2ffb167dea68d628a25f0cbd34e2851ab4dc12cee050cf2d4b120", func := "tidewaiter/tidewaiterlaw07.AsciiLists", spec := "asciiLists", inPlace := ["internal/bytealg.IndexByteString", "internal/bytealg.IndexString"], unfollowed := true, recurses := true, named := ["internal/bytealg.MaxLen"], apart := false, narrowed := true }
def AsciiListsUptoSaid : Prop := asciiListsUptoRow.holds Try.pinned (OpenSpec.upto asciiListsSpec)

end Rows
end Go.Proofs.Ytncklfmpnbdmcaa
