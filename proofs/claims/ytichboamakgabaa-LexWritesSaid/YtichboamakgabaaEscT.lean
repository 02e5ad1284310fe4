/-
  Contracts of the document's own answers for layer 8 (tidewaiterref08): Read, Get.
-/
import Derived.Test.YtichboamakgabaaEscS
namespace Go.Proofs.Ytichboamakgabaa
open Go.RowKit
namespace Hx
open Tx Nmb Es
set_option linter.unusedVariables false
theorem drop_step {l : List UInt8} {k : Nat} {c : UInt8} (h : l[k]? = some c) : l.drop k = c :: l.drop (k + 1) := by
  obtain ⟨hk, e⟩ := List.getElem?_eq_some_iff.1 h
  rw [List.drop_eq_getElem_cons hk, e]
theorem mid_next {l : List UInt8} {k a : Nat} {c : UInt8} (h : l[k]? = some c) (ha : a ≤ k) : (l.drop a).take (k + 1 - a) = (l.drop a).take (k - a) ++ [c] := by
  have e : (l.drop a)[k - a]? = some c := by rw [List.getElem?_drop, show a + (k - a) = k by omega]; exact h
  rw [show k + 1 - a = (k - a) + 1 by omega]
  exact take_next8 e
theorem mid_split {l : List UInt8} {k a : Nat} {c : UInt8} (h : l[k]? = some c) (ha : a ≤ k) : l.drop a = (l.drop a).take (k - a) ++ c :: l.drop (k + 1) := by
  rw [← drop_step h]
  have e : l.drop k = (l.drop a).drop (k - a) := by rw [List.drop_drop, show a + (k - a) = k by omega]
  rw [e, List.take_append_drop]
theorem meantL_len {x y : List UInt8} (h : meantL x = some y) : y.length ≤ 4 := by
  unfold meantL at h
  repeat (split at h; · (cases h; simp))
  split at h
  · rw [Option.map_eq_some_iff] at h
    obtain ⟨n, _, rfl⟩ := h
    exact (enc_length n).2
  · cases h
theorem extract_mid8 (s : ByteArray) (a b : Nat) : s.extract a b = ⟨((s.data.toList.drop a).take (b - a)).toArray⟩ := by
  have := ByteArray.extract_mk s.data.toList a b
  rw [← ba_eq5] at this
  exact this
theorem mnt_some {o : Option (List UInt8)} {t : ByteArray} (h : mntR o = (t, true)) : ∃ y, o = some y ∧ t = ⟨y.toArray⟩ := by
  unfold mntR at h
  cases o with
  | none => cases h
  | some y => cases h; exact ⟨y, rfl, rfl⟩
theorem mnt_none {o : Option (List UInt8)} {t : ByteArray} (h : mntR o = (t, false)) : o = none := by
  unfold mntR at h
  cases o with
  | none => rfl
  | some y => cases h
/-- What Get answers. -/
def getR (s : ByteArray) : ByteArray × Int := if chkE s ≠ 0 then (⟨#[]⟩, chkE s) else match rd s.data.toList with | some x => (⟨x.toArray⟩, 0) | none => (⟨#[]⟩, 80)
end Hx
end Go.Proofs.Ytichboamakgabaa
