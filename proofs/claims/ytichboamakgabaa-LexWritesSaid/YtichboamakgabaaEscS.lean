/-
  Contracts of the document's own answers for layer 8 (tidewaiterref08): hex, number, meant.
-/
import Derived.Test.YtichboamakgabaaEscR
import Derived.Test.YtichboamakgabaaNumS
namespace Go.Proofs.Ytichboamakgabaa
open Go.RowKit
namespace Hx
open Tx Nmb Es
set_option linter.unusedVariables false
/-- What hex answers. -/
def hexR (l : List UInt8) : Int := match hexV l with | some n => (n : Int) | none => -1
theorem fold_none (l : List UInt8) : l.foldl (fun a c => a.bind fun n => (hxv c).map fun d => 16 * n + d) none = none := by
  induction l with
  | nil => rfl
  | cons c l ih => rw [List.foldl_cons]; exact ih
theorem hexF_stop {l : List UInt8} {k : Nat} {c : UInt8} (h : l[k]? = some c) (hn : hxv c = none) : hexF l = none := by
  have e : l = l.take (k + 1) ++ l.drop (k + 1) := (List.take_append_drop _ _).symm
  have e2 : hexF (l.take (k + 1)) = none := by
    rw [take_next8 h, hexF_snoc, hn]
    cases hexF (l.take k) <;> rfl
  rw [e]
  unfold hexF at e2 ⊢
  rw [List.foldl_append, e2]
  exact fold_none _
theorem hexF_next {l : List UInt8} {k n d : Nat} {c : UInt8} (h : l[k]? = some c) (h1 : hexF (l.take k) = some n) (hd : hxv c = some d) : hexF (l.take (k + 1)) = some (16 * n + d) := by
  rw [take_next8 h, hexF_snoc, h1, hd]
  rfl
theorem hexV_in {l : List UInt8} (h1 : l ≠ []) (h2 : ¬ 6 < l.length) (h3 : l.head? ≠ some 48) : hexV l = hexF l := by
  unfold hexV
  rw [if_neg]
  rintro (h | h | h)
  · exact h1 h
  · exact h2 h
  · exact h3 h
theorem hexV_out {l : List UInt8} (h : l = [] ∨ 6 < l.length ∨ l.head? = some 48) : hexV l = none := by unfold hexV; rw [if_pos h]
theorem head_at {s : ByteArray} {c : UInt8} (h : s.data.toList[0]? = some c) : s.data.toList.head? = some c := by rw [List.head?_eq_getElem?]; exact h
/-- What number answers, of a code point or none. -/
def numR (o : Option Nat) : ByteArray × Bool := match o with | some n => (⟨(enc n).toArray⟩, true) | none => (⟨#[]⟩, false)
theorem numL_x (r : List UInt8) : numL (120 :: r) = (hexV r).filter fun n : Nat => may (n : Int) := rfl
theorem numL_d {l : List UInt8} (h : l.head? ≠ some 120) : numL l = (readN l).filter fun n : Nat => may (n : Int) := by
  unfold numL
  split
  · exact absurd rfl h
  · rfl
theorem hexV_le {l : List UInt8} {n : Nat} (h : hexR l = (n : Int)) : hexV l = some n := by
  unfold hexR at h
  cases hv : hexV l with
  | none => rw [hv] at h; simp only at h; omega
  | some m => rw [hv] at h; simp only at h; rw [Int.ofNat_inj.1 h]
theorem hexV_neg {l : List UInt8} (h : hexR l = -1) : hexV l = none := by
  unfold hexR at h
  cases hv : hexV l with
  | none => rfl
  | some m => rw [hv] at h; simp only at h; omega
theorem hexR_cases (l : List UInt8) : hexR l = -1 ∨ ∃ n : Nat, hexR l = n := by
  unfold hexR
  cases hexV l with
  | none => exact .inl rfl
  | some n => exact .inr ⟨n, rfl⟩
/-- What meant answers. -/
def mntR (o : Option (List UInt8)) : ByteArray × Bool := match o with | some y => (⟨y.toArray⟩, true) | none => (⟨#[]⟩, false)
theorem lit_eq (s : ByteArray) (l : List UInt8) : (s.toList == l) = decide (s.data.toList = l) := by
  rw [ByteArray.toList_eq, Bool.eq_iff_iff, beq_iff_eq, decide_eq_true_eq]
theorem lit_eq2 (s : ByteArray) (l : List UInt8) : (s.toList == (⟨l.toArray⟩ : ByteArray).toList) = decide (s.data.toList = l) := by
  rw [← lit_eq]
  congr 1
  rw [ByteArray.toList_eq]
end Hx
end Go.Proofs.Ytichboamakgabaa
