/-
  How a line is read as data.
-/
import Derived.Test.YtagngohemlkkoaaDoorMem
import Derived.Test.YtagngohemlkkoaaDoorMemG
namespace Go.Proofs.YtagngohemlkkoaaDoor
open Go.RowKit
namespace Hx
set_option linter.unusedVariables false
universe u
section
variable {H : Type} {enc : TypeId × Value → H}
theorem four_ofL {α : Type} {cs : List α} (h : cs.length = 4) : ∃ x y z u, cs = [x, y, z, u] := by
  match cs, h with
  | [x, y, z, u], _ => exact ⟨x, y, z, u, rfl⟩
theorem four_of2 {α : Type u} {cs : List α} (h : cs.length = 4) : ∃ x y z u, cs = [x, y, z, u] := by
  match cs, h with
  | [x, y, z, u], _ => exact ⟨x, y, z, u, rfl⟩
theorem cells_line15 : Tryd.prog.cellsOf 9 = 1 ∧ Tryd.prog.cellsOf 3 = 1 ∧ Tryd.prog.cellsOf 30 = 4 := ⟨by kernel_rfl, by kernel_rfl, by kernel_rfl⟩
theorem opens_line15 {W : World} {sp : Nat → Bool} {held : Bool} {fuel : Nat} {cs : List Value} {x : DataW H × List MemPlace} (h : DataW.trod enc Tryd.prog W 0 sp held fuel 30 cs = some x) :
    ∃ (m t : ByteArray) (g s : Int), cs = [.string m, .string t, .int .i64 g, .int .i64 s] ∧ ∃ u v, x.1 = .agg [.lit (.string m.data.toList), .lit (.string t.data.toList), u, v] := by
  obtain ⟨c1, c2, c3⟩ := cells_line15
  obtain ⟨xs, n, _, rfl, hl, hx, hf⟩ := DataW.trod_struct Tryd.underlying30 h
  rw [c3] at hl
  obtain ⟨a, b, c, d, rfl⟩ := four_ofL hl
  have hx2 : xs.length = 4 := hx
  clear hx
  have h0 : DataW.trod enc Tryd.prog W 0 sp held n 9 (([a, b, c, d].drop 0).take (Tryd.prog.cellsOf 9)) = xs[0]? := hf 0 _ rfl
  have h1 : DataW.trod enc Tryd.prog W 0 sp held n 9 (([a, b, c, d].drop 1).take (Tryd.prog.cellsOf 9)) = xs[1]? := hf 1 _ rfl
  have h2 : DataW.trod enc Tryd.prog W 0 sp held n 3 (([a, b, c, d].drop 2).take (Tryd.prog.cellsOf 3)) = xs[2]? := hf 2 _ rfl
  have h3 : DataW.trod enc Tryd.prog W 0 sp held n 3 (([a, b, c, d].drop 3).take (Tryd.prog.cellsOf 3)) = xs[3]? := hf 3 _ rfl
  clear hf
  simp only [c1, c2, List.drop_zero, List.drop_succ_cons, List.take_succ_cons, List.take_zero] at h0 h1 h2 h3
  have hne : ∀ (p q r o : DataW H × List MemPlace), xs = [p, q, r, o] → _ := fun p q r o e => And.intro (h0.trans (by rw [e]; rfl) : _ = some p) (And.intro (h1.trans (by rw [e]; rfl) : _ = some q) (And.intro (h2.trans (by rw [e]; rfl) : _ = some r) (h3.trans (by rw [e]; rfl) : _ = some o)))
  obtain ⟨x0, x1, x2, x3, rfl⟩ : ∃ p q r o, xs = [p, q, r, o] := four_of2 hx2
  obtain ⟨h0, h1, h2, h3⟩ := hne x0 x1 x2 x3 rfl
  obtain ⟨m, e0, w0, _⟩ := DataW.trod_string Tryd.underlying9 h0
  obtain ⟨t, e1, w1, _⟩ := DataW.trod_string Tryd.underlying9 h1
  obtain ⟨g, e2, _⟩ := DataW.trod_int Tryd.underlying3 h2
  obtain ⟨s, e3, _⟩ := DataW.trod_int Tryd.underlying3 h3
  obtain ⟨rfl, _⟩ := List.cons.inj e0
  obtain ⟨rfl, _⟩ := List.cons.inj e1
  obtain ⟨rfl, _⟩ := List.cons.inj e2
  obtain ⟨rfl, _⟩ := List.cons.inj e3
  subst w0 w1
  exact ⟨m, t, g, s, rfl, x2.1, x3.1, rfl⟩
theorem w_cons {P : Program} {t : TypeId} {ts : List TypeId} {d : DataW H} {r : List (DataW H)} {p : Nat → Bool} (h : (DataW.weightsEach P (t :: ts) (d :: r)).all p = true) : (d.weights P t).all p = true ∧ (DataW.weightsEach P ts r).all p = true := by
  rw [DataW.weightsEach, List.all_append, Bool.and_eq_true] at h
  exact h
set_option maxRecDepth 100000 in
theorem w_line {a b : List UInt8} {u v : DataW H} (h : (DataW.weights Tryd.prog 30 (.agg [.lit (.string a), .lit (.string b), u, v])).all (· ≤ reachBytes) = true) : a.length ≤ reachBytes ∧ b.length ≤ reachBytes := by
  unfold DataW.weights at h
  rw [Tryd.underlying30] at h
  have h1 := w_cons (t := 9) h
  have h2 := w_cons (t := 9) h1.2
  have a1 := h1.1
  have a2 := h2.1
  unfold DataW.weights at a1 a2
  simp at a1 a2
  exact ⟨a1, a2⟩
end
end Hx
end Go.Proofs.YtagngohemlkkoaaDoor
