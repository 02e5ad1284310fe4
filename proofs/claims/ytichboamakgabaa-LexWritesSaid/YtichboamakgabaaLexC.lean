/-
  Plain facts on memory: attributes and tokens.
-/
import Derived.Test.YtichboamakgabaaMemC
import Derived.Test.YtichboamakgabaaLexP
namespace Go.Proofs.Ytichboamakgabaa
open Go.RowKit
namespace Hx
open Lx
set_option linter.unusedVariables false
def PrC : Cod Pr where
  k := 2
  R _ _ cs p := ∃ s t : ByteArray, cs = [.string s, .string t] ∧ s.data.toList = p.name ∧ t.data.toList = p.value
  len := by rintro _ _ _ _ ⟨s, t, rfl, _⟩; rfl
  keep := fun h _ _ => h
def TkC : Cod Tk where
  k := 4
  R w B cs t := ∃ (s : ByteArray) (A : Option Addr) (c : Nat) (u : ByteArray), cs = [.int .u8 (t.kind : Int), .string s, .slice A t.attrs.length c, .string u] ∧ t.kind < 256 ∧ s.data.toList = t.name ∧ u.data.toList = t.text ∧ t.attrs.length ≤ c ∧ c ≤ maxLen ∧ (A = none → c = 0) ∧ RdC PrC w B A t.attrs
  len := by rintro _ _ _ _ ⟨s, A, c, u, rfl, _⟩; rfl
  keep := fun ⟨s, A, c, u, h1, h2, h3, h4, h5, h6, h7, h8⟩ hB hk => ⟨s, A, c, u, h1, h2, h3, h4, h5, h6, h7, h8.keep hB hk⟩
theorem two_of {cs : List Value} (h : cs.length = 2) : ∃ x y, cs = [x, y] := by
  match cs, h with
  | [x, y], _ => exact ⟨x, y, rfl⟩
theorem four_of {cs : List Value} (h : cs.length = 4) : ∃ x y z u, cs = [x, y, z, u] := by
  match cs, h with
  | [x, y, z, u], _ => exact ⟨x, y, z, u, rfl⟩
section
variable {H : Type} {enc : TypeId × Value → H}
theorem cells_one1 : Try.prog.cellsOf 9 = 1 ∧ Try.prog.cellsOf 5 = 1 ∧ Try.prog.cellsOf 24 = 1 ∧ Try.prog.cellsOf 37 = 2 ∧ Try.prog.cellsOf 26 = 4 := ⟨by kernel_rfl, by kernel_rfl, by kernel_rfl, by kernel_rfl, by kernel_rfl⟩
theorem opens_pair : Opens enc Try.prog PrC 37 := fun W sp held fuel cs x h => by
  obtain ⟨c1, _, _, c2, _⟩ := cells_one1
  obtain ⟨xs, n, _, _, hl, hx, hf⟩ := DataW.trod_struct Try.underlying37 h
  rw [c2] at hl
  obtain ⟨a, b, rfl⟩ := two_of hl
  have h0 : DataW.trod enc Try.prog W 0 sp held n 9 (([a, b].drop 0).take (Try.prog.cellsOf 9)) = xs[0]? := hf 0 _ rfl
  have h1 : DataW.trod enc Try.prog W 0 sp held n 9 (([a, b].drop 1).take (Try.prog.cellsOf 9)) = xs[1]? := hf 1 _ rfl
  have hx2 : xs.length = 2 := hx
  simp only [c1, List.drop_zero, List.drop_succ_cons, List.take_succ_cons, List.take_zero] at h0 h1
  obtain ⟨s, e1, _⟩ := DataW.trod_string Try.underlying9 (h0.trans (List.getElem?_eq_getElem (by omega)))
  obtain ⟨t, e2, _⟩ := DataW.trod_string Try.underlying9 (h1.trans (List.getElem?_eq_getElem (by omega)))
  obtain ⟨rfl, _⟩ := List.cons.inj e1
  obtain ⟨rfl, _⟩ := List.cons.inj e2
  exact ⟨⟨_, _⟩, s, t, rfl, rfl, rfl⟩
theorem opens_token : Opens enc Try.prog TkC 26 := fun W sp held fuel cs x h => by
  obtain ⟨c1, c3, c4, c2, c5⟩ := cells_one1
  obtain ⟨xs, n, _, _, hl, hx, hf⟩ := DataW.trod_struct Try.underlying26 h
  rw [c5] at hl
  obtain ⟨a, b, c, d, rfl⟩ := four_of hl
  have h0 : DataW.trod enc Try.prog W 0 sp held n 5 (([a, b, c, d].drop 0).take (Try.prog.cellsOf 5)) = xs[0]? := hf 0 _ rfl
  have h1 : DataW.trod enc Try.prog W 0 sp held n 9 (([a, b, c, d].drop 1).take (Try.prog.cellsOf 9)) = xs[1]? := hf 1 _ rfl
  have h2 : DataW.trod enc Try.prog W 0 sp held n 24 (([a, b, c, d].drop 2).take (Try.prog.cellsOf 24)) = xs[2]? := hf 2 _ rfl
  have h3 : DataW.trod enc Try.prog W 0 sp held n 9 (([a, b, c, d].drop 3).take (Try.prog.cellsOf 9)) = xs[3]? := hf 3 _ rfl
  have hx2 : xs.length = 4 := hx
  simp only [c1, c3, c4, List.drop_zero, List.drop_succ_cons, List.take_succ_cons, List.take_zero] at h0 h1 h2 h3
  obtain ⟨m, e0, _, w0⟩ := DataW.trod_int Try.underlying5 (h0.trans (List.getElem?_eq_getElem (by omega)))
  obtain ⟨s, e1, _⟩ := DataW.trod_string Try.underlying9 (h1.trans (List.getElem?_eq_getElem (by omega)))
  obtain ⟨l, A, cp, e2, k1, k2, k3, k4⟩ := (Opens.slice Try.underlying24 c2 (by decide) opens_pair) W sp held _ _ _ (h2.trans (List.getElem?_eq_getElem (by omega)))
  obtain ⟨u, e3, _⟩ := DataW.trod_string Try.underlying9 (h3.trans (List.getElem?_eq_getElem (by omega)))
  obtain ⟨rfl, _⟩ := List.cons.inj e0
  obtain ⟨rfl, _⟩ := List.cons.inj e1
  obtain ⟨rfl, _⟩ := List.cons.inj e2
  obtain ⟨rfl, _⟩ := List.cons.inj e3
  have hb := bounds_u8 w0
  obtain ⟨k, rfl⟩ : ∃ k : Nat, m = (k : Int) := ⟨m.toNat, by omega⟩
  exact ⟨⟨k, _, l, _⟩, s, A, cp, u, rfl, by show k < 256; omega, rfl, rfl, k1, k2, k3, k4⟩
theorem opens_tokens : Opens enc Try.prog (SlC TkC) 22 := Opens.slice Try.underlying22 cells_one1.2.2.2.2 (by decide) opens_token
end
end Hx
end Go.Proofs.Ytichboamakgabaa
