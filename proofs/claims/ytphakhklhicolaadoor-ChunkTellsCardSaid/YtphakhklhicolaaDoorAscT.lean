/-
  Contracts of the document's own answers for layer 7 (tidewaiterref07): in, Token, Plain.
-/
import Derived.Test.YtphakhklhicolaaDoorAscS
namespace Go.Proofs.YtphakhklhicolaaDoor
open Go.RowKit
namespace Hx
open As
set_option linter.unusedVariables false
theorem in_lit (c : UInt8) : ([33, 35, 36, 37, 38, 39, 42, 43, 45, 46, 94, 95, 96, 124, 126] : List UInt8).contains c = ([33, 35, 36, 37, 38, 39, 42, 43, 45, 46, 94, 95, 96, 124, 126] : List Nat).contains c.toNat :=
  u8_all (fun c => ([33, 35, 36, 37, 38, 39, 42, 43, 45, 46, 94, 95, 96, 124, 126] : List UInt8).contains c = ([33, 35, 36, 37, 38, 39, 42, 43, 45, 46, 94, 95, 96, 124, 126] : List Nat).contains c.toNat) (by decide +kernel) c
theorem all_takeT (p : UInt8 → Bool) {l : List UInt8} {k : Nat} {c : UInt8} (h : l[k]? = some c) (h1 : (l.take k).all p = true) (h2 : p c = true) : (l.take (k + 1)).all p = true := by
  rw [take_next h, List.all_append, h1]
  simp [h2]
theorem all_noT (p : UInt8 → Bool) {l : List UInt8} {k : Nat} {c : UInt8} (h : l[k]? = some c) (h2 : p c = false) : l.all p = false := by
  rw [List.all_eq_false]
  exact ⟨c, List.mem_of_getElem? h, by simp [h2]⟩
end Hx
end Go.Proofs.YtphakhklhicolaaDoor
