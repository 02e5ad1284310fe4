/-
  Texts of one seat, put together: SrbM.
-/
import Derived.Test.YteobcohjikjalaaGreatDoorSp14
set_option linter.unusedSimpArgs false
namespace Go.Proofs.YteobcohjikjalaaGreatDoor
namespace Ns
open Lx Tr Tx Nmb Es
set_option linter.unusedVariables false
def stepN (E : List (List At)) (s : List At × Bool) (a : At) : List At × Bool := match decl a.name with
  | some p => (s.1, s.2 && rightD p a.value)
  | none => (s.1 ++ [(atE E a).1], (s.2 && (atE E a).2) && !hasK s.1 (atE E a).1)
theorem foldN_eq (E : List (List At)) : ∀ (l : List At) (L : List At) (ok : Bool), l.foldl (stepN E) (L, ok) = ((atsE E L l).1, ok && (atsE E L l).2)
  | [], L, ok => by simp [atsE]
  | a :: l, L, ok => by
    have ih := fun L ok => foldN_eq E l L ok
    rw [List.foldl_cons, atsE]
    cases hd : decl a.name with
    | some p =>
      have hs : stepN E (L, ok) a = (L, ok && rightD p a.value) := by unfold stepN; rw [hd]
      dsimp only
      rw [hs, ih, Bool.and_assoc]
    | none =>
      have hs : stepN E (L, ok) a = (L ++ [(atE E a).1], (ok && (atE E a).2) && !hasK L (atE E a).1) := by unfold stepN; rw [hd]
      dsimp only
      rw [hs, ih]
      simp only [Bool.and_assoc]
theorem stepN_len (E : List (List At)) (s : List At × Bool) (a : At) : (stepN E s a).1.length ≤ s.1.length + 1 := by
  unfold stepN
  cases decl a.name with
  | some p => exact Nat.le_succ _
  | none => simp
theorem foldN_len (E : List (List At)) : ∀ (l : List At) (s : List At × Bool), (l.foldl (stepN E) s).1.length ≤ s.1.length + l.length
  | [], s => by simp
  | a :: l, s => by
    rw [List.foldl_cons]
    have h1 := foldN_len E l (stepN E s a)
    have h2 := stepN_len E s a
    rw [List.length_cons]
    omega
theorem hasK_take {L : List At} {k : Nat} (h : k < L.length) (a : At) : hasK (L.take (k + 1)) a = (hasK (L.take k) a || decide (key (L[k]'h) = key a)) := by
  unfold hasK
  rw [List.take_succ_eq_append_getElem h, List.any_append]
  simp
end Ns
end Go.Proofs.YteobcohjikjalaaGreatDoor
