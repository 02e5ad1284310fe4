/-
  Contracts of the document's own answers for layer 7 (tidewaiterref07): Lower, Same, blank, Trim, in, Token, Plain.
-/
import Derived.Test.YtphakhklhicolaaDoorAscM
import Derived.Test.YtphakhklhicolaaDoorMem
import Derived.Test.YtphakhklhicolaaDoorMemG
import Derived.IntWalk
import Derived.OwnWalk
import Derived.Deep.LoopGhost
namespace Go.Proofs.YtphakhklhicolaaDoor
open Go.RowKit
namespace Hx
open As
set_option linter.unusedVariables false
theorem ba_len7 (s : ByteArray) : s.data.toList.length = s.size := by cases s; simp [ByteArray.size]
theorem ba_eq7 (s : ByteArray) : s = ⟨s.data.toList.toArray⟩ := by cases s; simp
theorem ba_ext7 {s t : ByteArray} (h : s.data.toList = t.data.toList) : s = t := by
  cases s; cases t
  simpa using h
theorem seq_b7 (a b : ByteArray) : (a.toList == b.toList) = decide (a = b) := by
  rw [Bool.eq_iff_iff, beq_iff_eq, decide_eq_true_eq, ByteArray.toList_eq, ByteArray.toList_eq]
  exact ⟨fun h => ba_ext7 h, fun h => by rw [h]⟩
theorem infoU8' : (Tryd.prog.info? 5).map (fun i => (i.zero, i.size, i.bytes)) = some (some (.int .u8 0), 1, 1) := by kernel_rfl
theorem byte_at (s : ByteArray) (k : Nat) (h : k < s.size) : ∃ c, s.data.toList[k]? = some c ∧ ∀ (h : k < s.size), s[k]'h = c := by
  refine ⟨s[k]'h, ?_, fun _ => rfl⟩
  have e : k < s.data.toList.length := by rw [ba_len7]; exact h
  rw [List.getElem?_eq_getElem e]
  rfl
theorem take_next {l : List UInt8} {k : Nat} {c : UInt8} (h : l[k]? = some c) : l.take (k + 1) = l.take k ++ [c] := by
  obtain ⟨hk, e⟩ := List.getElem?_eq_some_iff.1 h
  rw [List.take_succ_eq_append_getElem hk, e]
theorem lows_snoc (l : List UInt8) (c : UInt8) : lows (l ++ [c]) = lows l ++ [low c] := by simp [lows]
/-- A text with small letters. -/
def lowS (s : ByteArray) : ByteArray := ⟨(lows s.data.toList).toArray⟩
def trimS (s : ByteArray) : ByteArray := ⟨(trim s.data.toList).toArray⟩
end Hx
end Go.Proofs.YtphakhklhicolaaDoor
