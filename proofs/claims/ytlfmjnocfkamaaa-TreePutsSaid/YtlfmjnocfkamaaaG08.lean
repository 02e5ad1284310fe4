/-
  Texts of one seat, put together: NumR, NumS, EscS, EscT.
-/
import Derived.Test.YtlfmjnocfkamaaaG00
import Derived.WalkKit
import Derived.ProofKit
import Derived.Below
import Derived.Test.YtlfmjnocfkamaaaG07
namespace Go.Proofs.Ytlfmjnocfkamaaa
open Go.RowKit
namespace Hx
open Nmb
set_option linter.unusedVariables false
theorem ba_len6 (s : ByteArray) : s.data.toList.length = s.size := by cases s; simp [ByteArray.size]
theorem ba_ext6 {s t : ByteArray} (h : s.data.toList = t.data.toList) : s = t := by
  cases s; cases t
  simpa using h
theorem dg_le {n : Nat} (h : n ≤ 9223372036854775807) : (dg n).length ≤ 19 := dg_short 18 n (by omega)
end Hx
end Go.Proofs.Ytlfmjnocfkamaaa
namespace Go.Proofs.Ytlfmjnocfkamaaa
open Go.RowKit
namespace Hx
open Nmb
set_option linter.unusedVariables false
theorem ret_i6 {a b : Int} (h : a = b) : Ending.returned (.int .i64 a) = .returned (.int .i64 b) := by rw [h]
/-- What value answers. -/
def valR (l : List UInt8) : Int := if l.all isDg then (val l : Int) else -1
theorem not_all6 (l : List UInt8) (k : Nat) (h : k < l.length) (h2 : isDg (l[k]'h) = false) : l.all isDg = false := by
  rw [List.all_eq_false]
  exact ⟨l[k]'h, List.getElem_mem h, by simp [h2]⟩
theorem at6 (s : ByteArray) (k : Nat) (h : k < s.size) : s.data.toList[k]'(by rw [ba_len6]; exact h) = s[k]'h := by cases s; rfl
/-- What Read answers. -/
def readR (l : List UInt8) : Int × Int := match readN l with | some n => (n, 0) | none => (0, 60)
theorem list6 (l : List UInt8) : (⟨l.toArray⟩ : ByteArray).data.toList = l := rfl
theorem seq6 (a b : ByteArray) : (a.toList == b.toList) = decide (a.data.toList = b.data.toList) := by
  rw [Bool.eq_iff_iff]
  simp only [beq_iff_eq, decide_eq_true_eq, ByteArray.toList_eq]
end Hx
end Go.Proofs.Ytlfmjnocfkamaaa
namespace Go.Proofs.Ytlfmjnocfkamaaa
open Go.RowKit
namespace Hx
open Tx Nmb Es
set_option linter.unusedVariables false
/-- What hex answers. -/
def hexR (l : List UInt8) : Int := match hexV l with | some n => (n : Int) | none => -1
theorem fold_none (l : List UInt8) : l.foldl (fun a c => a.bind fun n => (hxv c).map fun d => 16 * n + d) none = none := by
  induction l with
  | nil => rfl
  | cons c l ih => rw [List.foldl_cons]; exact ih
theorem hexF_stop {l : List UInt8} {k : Nat} {c : UInt8} (h : l[k]? = some c) (hn : hxv c = none) : hexF l = none := by
  have e : l = l.take (k + 1) ++ l.drop (k + 1) := (List.take_append_drop _ _).symm
  have e2 : hexF (l.take (k + 1)) = none := by
    rw [take_next8 h, hexF_snoc, hn]
    cases hexF (l.take k) <;> rfl
  rw [e]
  unfold hexF at e2 ⊢
  rw [List.foldl_append, e2]
  exact fold_none _
theorem hexF_next {l : List UInt8} {k n d : Nat} {c : UInt8} (h : l[k]? = some c) (h1 : hexF (l.take k) = some n) (hd : hxv c = some d) : hexF (l.take (k + 1)) = some (16 * n + d) := by
  rw [take_next8 h, hexF_snoc, h1, hd]
  rfl
theorem hexV_in {l : List UInt8} (h1 : l ≠ []) (h2 : ¬ 6 < l.length) (h3 : l.head? ≠ some 48) : hexV l = hexF l := by
  unfold hexV
  rw [if_neg]
  rintro (h | h | h)
  · exact h1 h
  · exact h2 h
  · exact h3 h
theorem hexV_out {l : List UInt8} (h : l = [] ∨ 6 < l.length ∨ l.head? = some 48) : hexV l = none := by unfold hexV; rw [if_pos h]
theorem head_at {s : ByteArray} {c : UInt8} (h : s.data.toList[0]? = some c) : s.data.toList.head? = some c := by rw [List.head?_eq_getElem?]; exact h
/-- What number answers, of a code point or none. -/
def numR (o : Option Nat) : ByteArray × Bool := match o with | some n => (⟨(enc n).toArray⟩, true) | none => (⟨#[]⟩, false)
theorem numL_x (r : List UInt8) : numL (120 :: r) = (hexV r).filter fun n : Nat => may (n : Int) := rfl
theorem numL_d {l : List UInt8} (h : l.head? ≠ some 120) : numL l = (readN l).filter fun n : Nat => may (n : Int) := by
  unfold numL
  split
  · exact absurd rfl h
  · rfl
theorem hexV_le {l : List UInt8} {n : Nat} (h : hexR l = (n : Int)) : hexV l = some n := by
  unfold hexR at h
  cases hv : hexV l with
  | none => rw [hv] at h; simp only at h; omega
  | some m => rw [hv] at h; simp only at h; rw [Int.ofNat_inj.1 h]
theorem hexV_neg {l : List UInt8} (h : hexR l = -1) : hexV l = none := by
  unfold hexR at h
  cases hv : hexV l with
  | none => rfl
  | some m => rw [hv] at h; simp only at h; omega
theorem hexR_cases (l : List UInt8) : hexR l = -1 ∨ ∃ n : Nat, hexR l = n := by
  unfold hexR
  cases hexV l with
  | none => exact .inl rfl
  | some n => exact .inr ⟨n, rfl⟩
/-- What meant answers. -/
def mntR (o : Option (List UInt8)) : ByteArray × Bool := match o with | some y => (⟨y.toArray⟩, true) | none => (⟨#[]⟩, false)
theorem lit_eq (s : ByteArray) (l : List UInt8) : (s.toList == l) = decide (s.data.toList = l) := by
  rw [ByteArray.toList_eq, Bool.eq_iff_iff, beq_iff_eq, decide_eq_true_eq]
theorem lit_eq2 (s : ByteArray) (l : List UInt8) : (s.toList == (⟨l.toArray⟩ : ByteArray).toList) = decide (s.data.toList = l) := by
  rw [← lit_eq]
  congr 1
  rw [ByteArray.toList_eq]
end Hx
end Go.Proofs.Ytlfmjnocfkamaaa
namespace Go.Proofs.Ytlfmjnocfkamaaa
open Go.RowKit
namespace Hx
open Tx Nmb Es
set_option linter.unusedVariables false
theorem drop_step {l : List UInt8} {k : Nat} {c : UInt8} (h : l[k]? = some c) : l.drop k = c :: l.drop (k + 1) := by
  obtain ⟨hk, e⟩ := List.getElem?_eq_some_iff.1 h
  rw [List.drop_eq_getElem_cons hk, e]
theorem mid_next {l : List UInt8} {k a : Nat} {c : UInt8} (h : l[k]? = some c) (ha : a ≤ k) : (l.drop a).take (k + 1 - a) = (l.drop a).take (k - a) ++ [c] := by
  have e : (l.drop a)[k - a]? = some c := by rw [List.getElem?_drop, show a + (k - a) = k by omega]; exact h
  rw [show k + 1 - a = (k - a) + 1 by omega]
  exact take_next8 e
theorem mid_split {l : List UInt8} {k a : Nat} {c : UInt8} (h : l[k]? = some c) (ha : a ≤ k) : l.drop a = (l.drop a).take (k - a) ++ c :: l.drop (k + 1) := by
  rw [← drop_step h]
  have e : l.drop k = (l.drop a).drop (k - a) := by rw [List.drop_drop, show a + (k - a) = k by omega]
  rw [e, List.take_append_drop]
theorem meantL_len {x y : List UInt8} (h : meantL x = some y) : y.length ≤ 4 := by
  unfold meantL at h
  repeat (split at h; · (cases h; simp))
  split at h
  · rw [Option.map_eq_some_iff] at h
    obtain ⟨n, _, rfl⟩ := h
    exact (enc_length n).2
  · cases h
theorem extract_mid8 (s : ByteArray) (a b : Nat) : s.extract a b = ⟨((s.data.toList.drop a).take (b - a)).toArray⟩ := by
  have := ByteArray.extract_mk s.data.toList a b
  rw [← ba_eq5] at this
  exact this
theorem mnt_some {o : Option (List UInt8)} {t : ByteArray} (h : mntR o = (t, true)) : ∃ y, o = some y ∧ t = ⟨y.toArray⟩ := by
  unfold mntR at h
  cases o with
  | none => cases h
  | some y => cases h; exact ⟨y, rfl, rfl⟩
theorem mnt_none {o : Option (List UInt8)} {t : ByteArray} (h : mntR o = (t, false)) : o = none := by
  unfold mntR at h
  cases o with
  | none => rfl
  | some y => cases h
/-- What Get answers. -/
def getR (s : ByteArray) : ByteArray × Int := if chkE s ≠ 0 then (⟨#[]⟩, chkE s) else match rd s.data.toList with | some x => (⟨x.toArray⟩, 0) | none => (⟨#[]⟩, 80)
end Hx
end Go.Proofs.Ytlfmjnocfkamaaa
