/-
  Texts of one seat, put together: TextT, TextU, EscR, NumR, NumS, EscS.
-/
import Derived.Test.YtlhjcdkkmloamaaGreatDoorSp03
import Derived.Test.YtlhjcdkkmloamaaGreatDoorSp00
import Derived.Lib.AppendStr
import Derived.OwnWalk
import Derived.Deep.LoopGhost
import Derived.WalkKit
import Derived.ProofKit
import Derived.Below
set_option linter.unusedSimpArgs false
namespace Go.Proofs.YtlhjcdkkmloamaaGreatDoor
open Go.RowKit
namespace Hx
open Tx
set_option linter.unusedVariables false

def encZ (z : Int) : Value := .int .i64 z
abbrev RdZ := @RdG Int encZ
def zs (l : List Nat) : List Int := l.map fun n : Nat => (n : Int)
theorem infoZ : (Tryz.prog.info? 3).map (fun i => (i.zero, i.size, i.bytes)) = some (some (.int .i64 0), 1, 8) := by kernel_rfl
theorem extract_drop (s : ByteArray) (a : Nat) : s.extract a s.size = ⟨(s.data.toList.drop a).toArray⟩ := by
  have := ByteArray.extract_mk s.data.toList a s.size
  rw [← ba_eq5] at this
  rw [this, List.take_of_length_le (by rw [List.length_drop, ba_len5]; omega)]
theorem one_le {l : List UInt8} {n k : Nat} (h : one l = some (n, k)) : 1 ≤ k ∧ k ≤ l.length ∧ n ≤ 1114111 := by
  obtain ⟨_, hs, rfl, r, rfl⟩ := one_sound h
  exact ⟨(enc_length n).1, by rw [List.length_append]; omega, sv_le hs⟩

def chkE (s : ByteArray) : Int := if 16384 < s.size then 4 else if (pts s.data.toList).isSome then 0 else 50


theorem infoU8 : (Tryz.prog.info? 5).map (fun i => (i.zero, i.size, i.bytes)) = some (some (.int .u8 0), 1, 1) := by kernel_rfl
def byL (l : List Int) : List UInt8 := encs (l.map Int.toNat)
theorem byL_snoc (l : List Int) (z : Int) : byL (l ++ [z]) = byL l ++ enc z.toNat := by
  unfold byL
  rw [List.map_append, encs_append]
  simp [encs]
def ofR (l : List Int) : ByteArray × Int := if l.all may then (if 16384 < (byL l).length then (⟨#[]⟩, 4) else (⟨(byL l).toArray⟩, 0)) else (⟨#[]⟩, 50)
theorem all_take (l : List Int) (k : Nat) (h : k < l.length) (h1 : (l.take k).all may = true) (h2 : may (l[k]'h) = true) : (l.take (k + 1)).all may = true := by
  rw [List.take_succ_eq_append_getElem h, List.all_append, h1]
  simp [h2]
theorem not_all_may (l : List Int) (k : Nat) (h : k < l.length) (h2 : may (l[k]'h) = false) : l.all may = false := by
  rw [List.all_eq_false]
  exact ⟨l[k]'h, List.getElem_mem h, by simp [h2]⟩
theorem chk_lits (s : ByteArray) : chkE s = 0 ∨ chkE s = 4 ∨ chkE s = 50 := by
  unfold chkE
  split
  · exact .inr (.inl rfl)
  · split
    · exact .inl rfl
    · exact .inr (.inr rfl)
end Hx
end Go.Proofs.YtlhjcdkkmloamaaGreatDoor
namespace Go.Proofs.YtlhjcdkkmloamaaGreatDoor
open Go.RowKit
namespace Hx
open Tx Nmb Es
set_option linter.unusedVariables false
theorem byte_at8 (s : ByteArray) (k : Nat) (h : k < s.size) : ∃ c, s.data.toList[k]? = some c ∧ ∀ (h : k < s.size), s[k]'h = c := by
  refine ⟨s[k]'h, ?_, fun _ => rfl⟩
  have e : k < s.data.toList.length := by rw [ba_len5]; exact h
  rw [List.getElem?_eq_getElem e]
  rfl
theorem take_next8 {α : Type} {l : List α} {k : Nat} {c : α} (h : l[k]? = some c) : l.take (k + 1) = l.take k ++ [c] := by
  obtain ⟨hk, e⟩ := List.getElem?_eq_some_iff.1 h
  rw [List.take_succ_eq_append_getElem hk, e]
end Hx
end Go.Proofs.YtlhjcdkkmloamaaGreatDoor
namespace Go.Proofs.YtlhjcdkkmloamaaGreatDoor
open Go.RowKit
namespace Hx
open Nmb
set_option linter.unusedVariables false
theorem ba_len6 (s : ByteArray) : s.data.toList.length = s.size := by cases s; simp [ByteArray.size]
theorem not_all6 (l : List UInt8) (k : Nat) (h : k < l.length) (h2 : isDg (l[k]'h) = false) : l.all isDg = false := by
  rw [List.all_eq_false]
  exact ⟨l[k]'h, List.getElem_mem h, by simp [h2]⟩
theorem at6 (s : ByteArray) (k : Nat) (h : k < s.size) : s.data.toList[k]'(by rw [ba_len6]; exact h) = s[k]'h := by cases s; rfl
def readR (l : List UInt8) : Int × Int := match readN l with | some n => (n, 0) | none => (0, 60)
end Hx
end Go.Proofs.YtlhjcdkkmloamaaGreatDoor
namespace Go.Proofs.YtlhjcdkkmloamaaGreatDoor
open Go.RowKit
namespace Hx
open Tx Nmb Es
set_option linter.unusedVariables false
theorem fold_none (l : List UInt8) : l.foldl (fun a c => a.bind fun n => (hxv c).map fun d => 16 * n + d) none = none := by
  induction l with
  | nil => rfl
  | cons c l ih => rw [List.foldl_cons]; exact ih
theorem hexF_stop {l : List UInt8} {k : Nat} {c : UInt8} (h : l[k]? = some c) (hn : hxv c = none) : hexF l = none := by
  have e : l = l.take (k + 1) ++ l.drop (k + 1) := (List.take_append_drop _ _).symm
  have e2 : hexF (l.take (k + 1)) = none := by
    rw [take_next8 h, hexF_snoc, hn]
    cases hexF (l.take k) <;> rfl
  rw [e]
  unfold hexF at e2 ⊢
  rw [List.foldl_append, e2]
  exact fold_none _
theorem hexF_next {l : List UInt8} {k n d : Nat} {c : UInt8} (h : l[k]? = some c) (h1 : hexF (l.take k) = some n) (hd : hxv c = some d) : hexF (l.take (k + 1)) = some (16 * n + d) := by
  rw [take_next8 h, hexF_snoc, h1, hd]
  rfl
theorem hexV_in {l : List UInt8} (h1 : l ≠ []) (h2 : ¬ 6 < l.length) (h3 : l.head? ≠ some 48) : hexV l = hexF l := by
  unfold hexV
  rw [if_neg]
  rintro (h | h | h)
  · exact h1 h
  · exact h2 h
  · exact h3 h
theorem hexV_out {l : List UInt8} (h : l = [] ∨ 6 < l.length ∨ l.head? = some 48) : hexV l = none := by unfold hexV; rw [if_pos h]
theorem numL_x (r : List UInt8) : numL (120 :: r) = (hexV r).filter fun n : Nat => may (n : Int) := rfl
theorem numL_d {l : List UInt8} (h : l.head? ≠ some 120) : numL l = (readN l).filter fun n : Nat => may (n : Int) := by
  unfold numL
  split
  · exact absurd rfl h
  · rfl
end Hx
end Go.Proofs.YtlhjcdkkmloamaaGreatDoor
