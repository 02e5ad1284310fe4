/-
  A short name.
-/
import Derived.Lib.Hide
namespace Go.Proofs.YtlgppednjkbgiaaGreatDoor
universe u
theorem sTA {α : Type u} (l : List α) (i : Nat) (a : α) : l.toArray.setIfInBounds i a = (l.set i a).toArray := by simp
theorem sTB {α : Type u} (b : α) (l : List α) (a : α) : (b :: l).set 0 a = a :: l := rfl
theorem sTC {α : Type u} (b : α) (l : List α) (n : Nat) (a : α) : (b :: l).set (n + 1) a = b :: l.set n a := rfl
theorem hI {p : Prop} (h : p) : Go.RowKit.Hid p := Go.Lib.hid h
end Go.Proofs.YtlgppednjkbgiaaGreatDoor
