/-
  Texts of one seat, put together: LexK, LexJ, LexG, LexF.
-/
import Derived.Test.YteobcohjikjalaaGreatDoorSp08
import Derived.Deep.RegionHeld3
import Derived.Deep.QuietTactic
import Derived.Test.YteobcohjikjalaaGreatDoorSp07
import Derived.Deep.LoopGhost
set_option linter.unusedSimpArgs false
namespace Go.Proofs.YteobcohjikjalaaGreatDoor
open Go.RowKit
namespace Hx
open Lx Tx Nmb Es
set_option linter.unusedVariables false
theorem RdC.take {α : Type} {C : Cod α} {w : World} {B : Nat} {A : Option Addr} {l : List α} (h : RdC C w B A l) (k : Nat) : RdC C w B A (l.take k) := by
  intro hp
  have hl := List.length_take (i := k) (l := l)
  obtain ⟨b, off, e, hb, hc⟩ := h (by omega)
  refine ⟨b, off, e, hb, fun j hj => ?_⟩
  obtain ⟨cs, h1, h2⟩ := hc j (by omega)
  exact ⟨cs, by rw [List.getElem_take]; exact h1, h2⟩
theorem chk9_ok {y : ByteArray} (h : okT y.data.toList = true) : chkE y = 0 := by
  unfold okT at h
  rw [Bool.and_eq_true, decide_eq_true_eq, ba_l] at h
  unfold chkE
  rw [if_neg (by omega), if_pos (show (pts y.data.toList).isSome = true from h.2)]
theorem chk9_bad {y : ByteArray} (h : okT y.data.toList = false) : chkE y ≠ 0 := by
  unfold chkE
  by_cases h1 : 16384 < y.size
  · rw [if_pos h1]; decide
  · rw [if_neg h1]
    by_cases h2 : (pts y.data.toList).isSome = true
    · exfalso
      unfold okT at h
      rw [ba_l, decide_eq_true (by omega), show isP y.data.toList = true from h2] at h
      cases h
    · rw [if_neg h2]; decide
theorem bel_in9 {w w' w0 : World} (h0 : Below w0.heap.size w0 w) (h : Below w.heap.size w w') : Below w0.heap.size w0 w' := h0.trans (h.mono h0.size)
end Hx
end Go.Proofs.YteobcohjikjalaaGreatDoor
