/-
  Texts of one seat, put together: LexQ, LexK, LexJ, LexG, LexF, LexH.
-/
import Derived.Test.YtbjgfaflikgobaaGreatDoorH06
import Derived.Deep.RegionHeld3
import Derived.Test.YtbjgfaflikgobaaGreatDoorH05
import Derived.Deep.QuietTactic
import Derived.Deep.LoopGhost
namespace Go.Proofs.YtbjgfaflikgobaaGreatDoor
open Go.RowKit
namespace Hx
open Lx Tx Nmb Es
set_option linter.unusedVariables false
end Hx
end Go.Proofs.YtbjgfaflikgobaaGreatDoor
namespace Go.Proofs.YtbjgfaflikgobaaGreatDoor
open Go.RowKit
namespace Hx
open Lx Tx Nmb Es
set_option linter.unusedVariables false
theorem RdC.take {α : Type} {C : Cod α} {w : World} {B : Nat} {A : Option Addr} {l : List α} (h : RdC C w B A l) (k : Nat) : RdC C w B A (l.take k) := by
  intro hp
  have hl := List.length_take (i := k) (l := l)
  obtain ⟨b, off, e, hb, hc⟩ := h (by omega)
  refine ⟨b, off, e, hb, fun j hj => ?_⟩
  obtain ⟨cs, h1, h2⟩ := hc j (by omega)
  exact ⟨cs, by rw [List.getElem_take]; exact h1, h2⟩
theorem chk9_ok {y : ByteArray} (h : okT y.data.toList = true) : chkE y = 0 := by
  unfold okT at h
  rw [Bool.and_eq_true, decide_eq_true_eq, ba_l] at h
  unfold chkE
  rw [if_neg (by omega), if_pos (show (pts y.data.toList).isSome = true from h.2)]
theorem chk9_bad {y : ByteArray} (h : okT y.data.toList = false) : chkE y ≠ 0 := by
  unfold chkE
  by_cases h1 : 16384 < y.size
  · rw [if_pos h1]; decide
  · rw [if_neg h1]
    by_cases h2 : (pts y.data.toList).isSome = true
    · exfalso
      unfold okT at h
      rw [ba_l, decide_eq_true (by omega), show isP y.data.toList = true from h2] at h
      cases h
    · rw [if_neg h2]; decide
end Hx
end Go.Proofs.YtbjgfaflikgobaaGreatDoor
namespace Go.Proofs.YtbjgfaflikgobaaGreatDoor
open Go.RowKit
namespace Hx
open Lx Tx Nmb Es
set_option linter.unusedVariables false
/-- A token's cells, as a value. -/
def TkV (t : Tk) (x u : ByteArray) (A : Option Addr) (cp : Nat) : Value := .agg #[.int .u8 (t.kind : Int), .string x, .slice A t.attrs.length cp, .string u]
/-- What a token's cells are to be. -/
structure TkAt (t : Tk) (x u : ByteArray) (A : Option Addr) (cp : Nat) (w : World) : Prop where
  name : x.data.toList = t.name
  text : u.data.toList = t.text
  attrs : RdC PrC w w.heap.size A t.attrs
  le : t.attrs.length ≤ cp
  ns : x.size ≤ 1000000
  us : u.size ≤ 1000000
  al : t.attrs.length ≤ 1000000
  sz : ∀ p ∈ t.attrs, p.name.length ≤ 1000000 ∧ p.value.length ≤ 1000000
theorem TkAt.on {t : Tk} {x u : ByteArray} {A : Option Addr} {cp : Nat} {w w' : World} (h : TkAt t x u A cp w) (hb : Below w.heap.size w w') : TkAt t x u A cp w' := ⟨h.name, h.text, h.attrs.on hb, h.le, h.ns, h.us, h.al, h.sz⟩
theorem box_cell {w w1 : World} {cs : Array Value} {T : TypeId} (hb : Below (w.alloc (.cells cs T)).heap.size (w.alloc (.cells cs T)) w1) (i : Nat) (v : Value) (h : cs[i]? = some v) : w1.cell? ⟨w.heap.size, i, none⟩ = some v ∧ w.heap.size < w1.heap.size := by
  have hs := hb.size
  simp at hs
  refine ⟨?_, by omega⟩
  rw [hb.cell (p := ⟨w.heap.size, i, none⟩) (by simp)]
  simp [h]
theorem emp_l (s : ByteArray) : s.toList.isEmpty = s.data.toList.isEmpty := by rw [ByteArray.toList_eq]
def checkR (t : Tk) : Int := if mayT t then 0 else 8
end Hx
end Go.Proofs.YtbjgfaflikgobaaGreatDoor
namespace Go.Proofs.YtbjgfaflikgobaaGreatDoor
open Go.RowKit
namespace Hx
open Lx Tx Nmb Es
set_option linter.unusedVariables false
theorem ba_app (a b : ByteArray) : (a ++ b).data.toList = a.data.toList ++ b.data.toList := by simp
theorem bel_in9 {w w' w0 : World} (h0 : Below w0.heap.size w0 w) (h : Below w.heap.size w w') : Below w0.heap.size w0 w' := h0.trans (h.mono h0.size)
end Hx
end Go.Proofs.YtbjgfaflikgobaaGreatDoor
namespace Go.Proofs.YtbjgfaflikgobaaGreatDoor
open Go.RowKit
namespace Hx
open Lx Tx Nmb Es
set_option linter.unusedVariables false
/-- Bounds of a token. -/
def Small (t : Tk) : Prop := t.name.length ≤ 1000000 ∧ t.text.length ≤ 1000000 ∧ t.attrs.length ≤ 1000000 ∧ ∀ p ∈ t.attrs, p.name.length ≤ 1000000 ∧ p.value.length ≤ 1000000
end Hx
end Go.Proofs.YtbjgfaflikgobaaGreatDoor
namespace Go.Proofs.YtbjgfaflikgobaaGreatDoor
open Go.RowKit
namespace Hx
open Lx Tx Nmb Es
set_option linter.unusedVariables false
/-- What an attribute counts, and a token. -/
def wPr (p : Pr) : Nat := min p.name.length 20000 + min p.value.length 20000
def wPrs (l : List Pr) : Nat := (l.map wPr).sum
def wTk (t : Tk) : Nat := min t.name.length 20000 + min t.text.length 20000 + wPrs (t.attrs.take 30)
def greatF (m : Nat) : Nat → List Tk → Bool
  | _, [] => false
  | n, t :: r => decide (30 < t.attrs.length) || decide (m < n + wTk t) || greatF m (n + wTk t) r
def greatT (m : Nat) (l : List Tk) : Bool := greatF m 0 (l.take 600) || decide (600 < l.length)
end Hx
end Go.Proofs.YtbjgfaflikgobaaGreatDoor
