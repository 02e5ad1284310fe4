/-
  Texts of one seat, put together: EscR, NumR, NumS, EscS, EscT, LexT.
-/
import Derived.Test.YtbjgfaflikgobaaGreatDoorH00
import Derived.Test.YtbjgfaflikgobaaGreatDoorH04
import Derived.Lib.AppendStr
import Derived.OwnWalk
import Derived.Deep.LoopGhost
import Derived.WalkKit
import Derived.ProofKit
import Derived.Below
import Derived.Test.YtbjgfaflikgobaaGreatDoorH03
import Derived.Lib.ConvBytes
import Derived.Lib.BufferMore
namespace Go.Proofs.YtbjgfaflikgobaaGreatDoor
open Go.RowKit
namespace Hx
open Tx Nmb Es
set_option linter.unusedVariables false
theorem byte_at8 (s : ByteArray) (k : Nat) (h : k < s.size) : ∃ c, s.data.toList[k]? = some c ∧ ∀ (h : k < s.size), s[k]'h = c := by
  refine ⟨s[k]'h, ?_, fun _ => rfl⟩
  have e : k < s.data.toList.length := by rw [ba_len5]; exact h
  rw [List.getElem?_eq_getElem e]
  rfl
theorem take_next8 {α : Type} {l : List α} {k : Nat} {c : α} (h : l[k]? = some c) : l.take (k + 1) = l.take k ++ [c] := by
  obtain ⟨hk, e⟩ := List.getElem?_eq_some_iff.1 h
  rw [List.take_succ_eq_append_getElem hk, e]
/-- A text as it is written. -/
def escS (q : Bool) (s : ByteArray) : ByteArray := ⟨(escL q s.data.toList).toArray⟩
/-- What Put answers. -/
def putR (s : ByteArray) (q : Bool) : ByteArray × Int := if chkE s ≠ 0 then (⟨#[]⟩, chkE s) else if 16384 < (escS q s).size then (⟨#[]⟩, 4) else (escS q s, 0)
end Hx
end Go.Proofs.YtbjgfaflikgobaaGreatDoor
namespace Go.Proofs.YtbjgfaflikgobaaGreatDoor
open Go.RowKit
namespace Hx
open Nmb
set_option linter.unusedVariables false
theorem ba_len6 (s : ByteArray) : s.data.toList.length = s.size := by cases s; simp [ByteArray.size]
end Hx
end Go.Proofs.YtbjgfaflikgobaaGreatDoor
namespace Go.Proofs.YtbjgfaflikgobaaGreatDoor
open Go.RowKit
namespace Hx
open Nmb
set_option linter.unusedVariables false
/-- What value answers. -/
def valR (l : List UInt8) : Int := if l.all isDg then (val l : Int) else -1
theorem not_all6 (l : List UInt8) (k : Nat) (h : k < l.length) (h2 : isDg (l[k]'h) = false) : l.all isDg = false := by
  rw [List.all_eq_false]
  exact ⟨l[k]'h, List.getElem_mem h, by simp [h2]⟩
theorem at6 (s : ByteArray) (k : Nat) (h : k < s.size) : s.data.toList[k]'(by rw [ba_len6]; exact h) = s[k]'h := by cases s; rfl
/-- What Read answers. -/
def readR (l : List UInt8) : Int × Int := match readN l with | some n => (n, 0) | none => (0, 60)
end Hx
end Go.Proofs.YtbjgfaflikgobaaGreatDoor
namespace Go.Proofs.YtbjgfaflikgobaaGreatDoor
open Go.RowKit
namespace Hx
open Tx Nmb Es
set_option linter.unusedVariables false
/-- What hex answers. -/
def hexR (l : List UInt8) : Int := match hexV l with | some n => (n : Int) | none => -1
theorem fold_none (l : List UInt8) : l.foldl (fun a c => a.bind fun n => (hxv c).map fun d => 16 * n + d) none = none := by
  induction l with
  | nil => rfl
  | cons c l ih => rw [List.foldl_cons]; exact ih
theorem hexF_stop {l : List UInt8} {k : Nat} {c : UInt8} (h : l[k]? = some c) (hn : hxv c = none) : hexF l = none := by
  have e : l = l.take (k + 1) ++ l.drop (k + 1) := (List.take_append_drop _ _).symm
  have e2 : hexF (l.take (k + 1)) = none := by
    rw [take_next8 h, hexF_snoc, hn]
    cases hexF (l.take k) <;> rfl
  rw [e]
  unfold hexF at e2 ⊢
  rw [List.foldl_append, e2]
  exact fold_none _
theorem hexF_next {l : List UInt8} {k n d : Nat} {c : UInt8} (h : l[k]? = some c) (h1 : hexF (l.take k) = some n) (hd : hxv c = some d) : hexF (l.take (k + 1)) = some (16 * n + d) := by
  rw [take_next8 h, hexF_snoc, h1, hd]
  rfl
theorem hexV_in {l : List UInt8} (h1 : l ≠ []) (h2 : ¬ 6 < l.length) (h3 : l.head? ≠ some 48) : hexV l = hexF l := by
  unfold hexV
  rw [if_neg]
  rintro (h | h | h)
  · exact h1 h
  · exact h2 h
  · exact h3 h
theorem hexV_out {l : List UInt8} (h : l = [] ∨ 6 < l.length ∨ l.head? = some 48) : hexV l = none := by unfold hexV; rw [if_pos h]
/-- What number answers, of a code point or none. -/
def numR (o : Option Nat) : ByteArray × Bool := match o with | some n => (⟨(enc n).toArray⟩, true) | none => (⟨#[]⟩, false)
theorem numL_x (r : List UInt8) : numL (120 :: r) = (hexV r).filter fun n : Nat => may (n : Int) := rfl
theorem numL_d {l : List UInt8} (h : l.head? ≠ some 120) : numL l = (readN l).filter fun n : Nat => may (n : Int) := by
  unfold numL
  split
  · exact absurd rfl h
  · rfl
/-- What meant answers. -/
def mntR (o : Option (List UInt8)) : ByteArray × Bool := match o with | some y => (⟨y.toArray⟩, true) | none => (⟨#[]⟩, false)
end Hx
end Go.Proofs.YtbjgfaflikgobaaGreatDoor
namespace Go.Proofs.YtbjgfaflikgobaaGreatDoor
open Go.RowKit
namespace Hx
open Tx Nmb Es
set_option linter.unusedVariables false
theorem meantL_len {x y : List UInt8} (h : meantL x = some y) : y.length ≤ 4 := by
  unfold meantL at h
  repeat (split at h; · (cases h; simp))
  split at h
  · rw [Option.map_eq_some_iff] at h
    obtain ⟨n, _, rfl⟩ := h
    exact (enc_length n).2
  · cases h
theorem extract_mid8 (s : ByteArray) (a b : Nat) : s.extract a b = ⟨((s.data.toList.drop a).take (b - a)).toArray⟩ := by
  have := ByteArray.extract_mk s.data.toList a b
  rw [← ba_eq5] at this
  exact this
/-- What Get answers. -/
def getR (s : ByteArray) : ByteArray × Int := if chkE s ≠ 0 then (⟨#[]⟩, chkE s) else match rd s.data.toList with | some x => (⟨x.toArray⟩, 0) | none => (⟨#[]⟩, 80)
end Hx
end Go.Proofs.YtbjgfaflikgobaaGreatDoor
namespace Go.Proofs.YtbjgfaflikgobaaGreatDoor
open Go.RowKit
namespace Hx
open Lx Tx Nmb Es
set_option linter.unusedVariables false
theorem seq_l (a b : ByteArray) : (a.toList == b.toList) = decide (a.data.toList = b.data.toList) := by
  rw [Bool.eq_iff_iff]
  simp only [beq_iff_eq, decide_eq_true_eq, ByteArray.toList_eq]
/-- A row of bytes that came of a text. -/
def Rwb (g : Nat) (l : List UInt8) (w : World) : Prop := ∃ (cs : Array Value) (fr : Nat × Nat), w.heap[g]? = some (.cells cs 5 fr) ∧ l.length ≤ fr.1 ∧ (∀ (j : Nat) (c : UInt8), l[j]? = some c → cs[j]? = some (Value.int .u8 c.toNat))
theorem lt_of_row {w : World} {g : Nat} {o : Obj} (h : w.heap[g]? = some o) : g < w.heap.size := (Array.getElem?_eq_some_iff.1 h).1
theorem row_cell (w : World) (g k : Nat) (cs : Array Value) (t : TypeId) (fr : Nat × Nat) (h : w.heap[g]? = some (.cells cs t fr)) : w.cell? ⟨g, k, none⟩ = cs[k]? := by simp [World.cell?, h]
theorem Rwb.lt {g : Nat} {l : List UInt8} {w : World} (h : Rwb g l w) : g < w.heap.size := by
  obtain ⟨cs, fr, h1, _⟩ := h
  exact lt_of_row h1
theorem Rwb.cell {g k : Nat} {l : List UInt8} {c : UInt8} {w : World} (h : Rwb g l w) (hc : l[k]? = some c) : w.cell? ⟨g, k, none⟩ = some (.int .u8 c.toNat) := by
  obtain ⟨cs, fr, h1, _, h3⟩ := h
  rw [row_cell w g k cs _ fr h1]
  exact h3 k c hc
theorem Rwb.free {g k : Nat} {l : List UInt8} {w : World} (h : Rwb g l w) (hk : k < l.length) : w.frozen? ⟨g, k, none⟩ = false := by
  obtain ⟨cs, fr, h1, h2, _⟩ := h
  obtain ⟨lo, hi⟩ := fr
  simp only at h2
  simp [World.frozen?, h1]
  omega
theorem Rwb.rd {g : Nat} {l : List UInt8} {w : World} (h : Rwb g l w) : RdA w w.heap.size (some ⟨g, 0, none⟩) l := by
  intro hp
  refine ⟨g, 0, rfl, h.lt, fun j hj => ?_⟩
  rw [Nat.zero_add]
  exact h.cell (List.getElem?_eq_getElem hj)
theorem Rwb.put {g k : Nat} {l : List UInt8} {x : UInt8} {w : World} (h : Rwb g l w) : Rwb g (l.set k x) (w.setCell ⟨g, k, none⟩ (.int .u8 x.toNat)) := by
  obtain ⟨cs, fr, h1, h2, h3⟩ := h
  refine ⟨_, fr, Lib.heap_setCell_same h1 _, by rw [List.length_set]; exact h2, fun j c hj => ?_⟩
  rw [List.getElem?_set] at hj
  rw [Array.getElem?_setIfInBounds]
  by_cases hkj : k = j
  · subst hkj
    rw [if_pos rfl] at hj ⊢
    by_cases hk : k < l.length
    · rw [if_pos hk] at hj
      have hs := h3 k _ (List.getElem?_eq_getElem hk)
      have : k < cs.size := (Array.getElem?_eq_some_iff.1 hs).1
      rw [if_pos this]
      cases hj
      rfl
    · rw [if_neg hk] at hj
      cases hj
  · rw [if_neg hkj] at hj ⊢
    exact h3 j c hj
def sp (c : UInt8) : UInt8 := if blk c then 32 else c
/-- So many blanks turned. -/
def spk (l : List UInt8) (k : Nat) : List UInt8 := (l.take k).map sp ++ l.drop k
end Hx
end Go.Proofs.YtbjgfaflikgobaaGreatDoor
