/-
  Contracts of the document's own answers for layer 7 (tidewaiterref07): Trim, in, Token, Plain.
-/
import Derived.Test.YtphakhklhicolaaDoorAscR
namespace Go.Proofs.YtphakhklhicolaaDoor
open Go.RowKit
namespace Hx
open As
set_option linter.unusedVariables false
theorem trimL_cons {c : UInt8} {r : List UInt8} (h : blk c = true) : trimL (c :: r) = trimL r := trimL_pre [c] r (by simp [h])
theorem trimL_stop {c : UInt8} {r : List UInt8} (h : blk c = false) : trimL (c :: r) = c :: r := trimL_id _ (fun _ _ e => by cases e; exact h)
theorem trimR_stop {l : List UInt8} (h : l.getLast?.map blk ≠ some true) : trimR l = l := by
  refine trimR_id l (fun c r e => ?_)
  subst e
  rw [List.getLast?_concat] at h
  simpa using h
theorem trimR_last1 {l : List UInt8} {c : UInt8} (hc : l[l.length - 1]? = some c) (h : blk c = true) : trimR l = trimR (l.take (l.length - 1)) := by
  obtain ⟨hk, e⟩ := List.getElem?_eq_some_iff.1 hc
  have hl : l = l.take (l.length - 1) ++ [c] := by
    have := take_next hc
    rw [List.take_of_length_le (by omega)] at this
    exact this
  conv => lhs; rw [hl]
  exact trimR_suf _ [c] (by simp [h])
theorem extract_drop7 (s : ByteArray) (a : Nat) : s.extract a s.size = ⟨(s.data.toList.drop a).toArray⟩ := by
  have := ByteArray.extract_mk s.data.toList a s.size
  rw [← ba_eq7] at this
  rw [this, List.take_of_length_le (by rw [List.length_drop, ba_len7]; omega)]
theorem extract_take7 (s : ByteArray) (n : Nat) : s.extract 0 n = ⟨(s.data.toList.take n).toArray⟩ := by
  have := ByteArray.extract_mk s.data.toList 0 n
  rw [← ba_eq7] at this
  rw [this]
  simp
theorem empty_b (s : ByteArray) : (s.toList == (⟨#[]⟩ : ByteArray).toList) = decide (s.size = 0) := by
  rw [seq_b7]
  refine decide_eq_decide.2 ⟨fun h => by rw [h]; rfl, fun h => ba_ext7 ?_⟩
  have := ba_len7 s
  rw [h] at this
  exact List.eq_nil_of_length_eq_zero this
theorem empty_b2 (s : ByteArray) : (s.toList == []) = decide (s.size = 0) := by
  rw [← empty_b, show (⟨#[]⟩ : ByteArray).toList = [] from by rw [ByteArray.toList_eq]]
end Hx
end Go.Proofs.YtphakhklhicolaaDoor
