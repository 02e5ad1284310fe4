/-
  The document's own Version.
-/
import Derived.Test.YtjdeomlpipdopaaDoorNumT
namespace Go.Proofs.YtjdeomlpipdopaaDoor
open Go.RowKit
namespace Hx
open Nmb
set_option linter.unusedVariables false
/-- What Version answers. -/
def verR (l : List UInt8) : Int × Int × Int := match ((List.range 100).flatMap fun n => (List.range 100).map fun m => (n, m)).find? (fun p => decide (ver p.1 p.2 = l)) with | some p => (p.1, p.2, 0) | none => (0, 0, 60)
theorem verR_spec {l : List UInt8} {a b c : Int} (h : verR l = (a, b, c)) : (∃ n m : Nat, n ≤ 99 ∧ m ≤ 99 ∧ ver n m = l ∧ a = n ∧ b = m ∧ c = 0) ∨ ((∀ n m, n ≤ 99 → m ≤ 99 → ver n m ≠ l) ∧ a = 0 ∧ b = 0 ∧ c = 60) := by
  unfold verR at h
  cases hf : ((List.range 100).flatMap fun n => (List.range 100).map fun m => (n, m)).find? (fun p => decide (ver p.1 p.2 = l)) with
  | some p =>
    rw [hf] at h
    obtain ⟨rfl, rfl, rfl⟩ : _ = a ∧ _ = b ∧ _ = c := by simpa only [Prod.mk.injEq] using h
    have h1 := List.find?_some hf
    have h2 := List.mem_of_find?_eq_some hf
    obtain ⟨n, hn, h3⟩ := List.mem_flatMap.1 h2
    obtain ⟨m, hm, rfl⟩ := List.mem_map.1 h3
    have q1 := List.mem_range.1 hn
    have q2 := List.mem_range.1 hm
    exact .inl ⟨n, m, by omega, by omega, of_decide_eq_true h1, rfl, rfl, rfl⟩
  | none =>
    rw [hf] at h
    obtain ⟨rfl, rfl, rfl⟩ : _ = a ∧ _ = b ∧ _ = c := by simpa only [Prod.mk.injEq] using h
    refine .inr ⟨fun n m h0 h1 => ?_, rfl, rfl, rfl⟩
    have := List.find?_eq_none.1 hf (n, m) (List.mem_flatMap.2 ⟨n, List.mem_range.2 (by omega), List.mem_map.2 ⟨m, List.mem_range.2 (by omega), rfl⟩⟩)
    simpa using this
theorem ver_length {n m : Nat} (hn : n ≤ 99) (hm : m ≤ 99) : (ver n m).length ≤ 5 := by
  have h1 := dg_short 1 n (by omega)
  have h2 := dg_short 1 m (by omega)
  unfold ver
  rw [List.length_append, List.length_cons]
  omega
/-- The text of a version, put together. -/
theorem ver_text (n m : Nat) (hn : n ≤ 99) (hm : m ≤ 99) : ∃ u v x t : ByteArray, u = ⟨(dg n).toArray⟩ ∧ v = ⟨(dg m).toArray⟩ ∧ t = ⟨(ver n m).toArray⟩ ∧ (∀ (P : Program) W, (Op.stringOp .add u ⟨#[46]⟩).run P W = .ok (.string x) W) ∧ (∀ (P : Program) W, (Op.stringOp .add x v).run P W = .ok (.string t) W) := by
  have h1 : (dg n).length ≤ 2 := dg_short 1 n (by omega)
  have h2 : (dg m).length ≤ 2 := dg_short 1 m (by omega)
  refine ⟨⟨(dg n).toArray⟩, ⟨(dg m).toArray⟩, ⟨(dg n ++ [46]).toArray⟩, ⟨(ver n m).toArray⟩, rfl, rfl, rfl, fun P W => ?_, fun P W => ?_⟩
  · exact run_string_add_lists W (dg n) [46] (by omega) (by simp)
  · rw [run_string_add_lists W (dg n ++ [46]) (dg m) (by rw [List.length_append]; simp; omega) (by omega)]
    unfold ver
    simp
end Hx
end Go.Proofs.YtjdeomlpipdopaaDoor
