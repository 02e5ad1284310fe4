/-
  The document's own Write, Sum, Signed, Level.
-/
import Derived.Test.YtjdeomlpipdopaaDoorNumS
namespace Go.Proofs.YtjdeomlpipdopaaDoor
open Go.RowKit
namespace Hx
open Nmb
set_option linter.unusedVariables false
/-- What Write answers. -/
def writeR (n : Int) : ByteArray × Int := if 0 ≤ n ∧ n ≤ 9007199254740991 then (⟨(dg n.toNat).toArray⟩, 0) else (⟨#[]⟩, 2)
/-- What Sum answers. -/
def sumR (n m : Int) : Int × Int := if 0 ≤ n ∧ n ≤ 9007199254740991 ∧ -9007199254740991 ≤ m ∧ m ≤ 9007199254740991 ∧ 0 ≤ n + m ∧ n + m ≤ 9007199254740991 then (n + m, 0) else (0, 2)
/-- What Level answers. -/
def levR (l : List UInt8) : Int × Int := match ((List.range 256).map fun k : Nat => (k : Int) - 128).find? (fun n => decide (sgn n = l)) with | some n => (n, 0) | none => (0, 60)
theorem levR_spec {l : List UInt8} {a b : Int} (h : levR l = (a, b)) : (-128 ≤ a ∧ a ≤ 127 ∧ sgn a = l ∧ b = 0) ∨ ((∀ n, -128 ≤ n → n ≤ 127 → sgn n ≠ l) ∧ a = 0 ∧ b = 60) := by
  unfold levR at h
  cases hf : ((List.range 256).map fun k : Nat => (k : Int) - 128).find? (fun n => decide (sgn n = l)) with
  | some n =>
    rw [hf] at h
    obtain ⟨rfl, rfl⟩ := (Prod.mk.injEq _ _ _ _).mp h
    have h1 := List.find?_some hf
    have h2 := List.mem_of_find?_eq_some hf
    obtain ⟨k, hk, rfl⟩ := List.mem_map.1 h2
    have := List.mem_range.1 hk
    exact .inl ⟨by omega, by omega, of_decide_eq_true h1, rfl⟩
  | none =>
    rw [hf] at h
    obtain ⟨rfl, rfl⟩ := (Prod.mk.injEq _ _ _ _).mp h
    refine .inr ⟨fun n h0 h1 => ?_, rfl, rfl⟩
    have := List.find?_eq_none.1 hf n (List.mem_map.2 ⟨(n + 128).toNat, List.mem_range.2 (by omega), by omega⟩)
    simpa using this
end Hx
end Go.Proofs.YtjdeomlpipdopaaDoor
