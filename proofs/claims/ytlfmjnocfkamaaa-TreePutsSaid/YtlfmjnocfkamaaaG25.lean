/-
  Texts of one seat, put together: TreS.
-/
import Derived.Test.YtlfmjnocfkamaaaG22
namespace Go.Proofs.Ytlfmjnocfkamaaa
open Go.RowKit
namespace Hx
open Lx Tr Tx Nmb Es
set_option linter.unusedVariables false
/-- Nodes of one's own that may be written over. -/
def Sp (w0 : World) (A : Option Addr) (v : List Nd) (w : World) : Prop := Below w0.heap.size w0 w ∧
  (0 < v.length → ∃ b off, A = some ⟨b, off, none⟩ ∧ w0.heap.size ≤ b ∧ (∀ o, w.frozen? ⟨b, o, none⟩ = false) ∧ ∀ i (h : i < v.length), ∃ A1 c1, w.cell? ⟨b, off + i * 6 + 3, none⟩ = some (.slice A1 (v[i]'h).attrs.length c1) ∧ (∃ m, w.cell? ⟨b, off + i * 6 + 5, none⟩ = some (.int .i64 m)) ∧
    (0 < (v[i]'h).attrs.length → ∃ b1 of1, A1 = some ⟨b1, of1, none⟩ ∧ w0.heap.size ≤ b1 ∧ (∀ o, w.frozen? ⟨b1, o, none⟩ = false) ∧ ∀ k, k < (v[i]'h).attrs.length → ∃ s, w.cell? ⟨b1, of1 + k * 3 + 1, none⟩ = some (.string s)))
theorem Sp.of {w0 w : World} {A : Option Addr} {v : List Nd} {c : Nat} (h : NdOut w0.heap.size w0 v A c w) (hb : Below w0.heap.size w0 w) : Sp w0 A v w := by
  refine ⟨hb, fun hp => ?_⟩
  obtain ⟨b, off, e, hS, hc⟩ := h.rd hp
  refine ⟨b, off, e, hS.1, hS.2.2.2 hS.1, fun i hi => ?_⟩
  obtain ⟨cs, ⟨x, y, z, A1, c1, rfl, hin⟩, hcell⟩ := hc i hi
  refine ⟨A1, c1, hcell 3 (by simp [ndCells]), ⟨_, hcell 5 (by simp [ndCells])⟩, fun hp2 => ?_⟩
  obtain ⟨b1, of1, e1, hS1, hc1⟩ := hin.attrs hp2
  refine ⟨b1, of1, e1, hS1.1, hS1.2.2.2 hS1.1, fun k hk => ?_⟩
  obtain ⟨cs2, ⟨x2, y2, z2, rfl, _⟩, hcell2⟩ := hc1 k hk
  exact ⟨y2, hcell2 1 (by simp)⟩
theorem Sp.set {w0 w : World} {A : Option Addr} {v : List Nd} (h : Sp w0 A v w) (a : Addr) (ha : w0.heap.size ≤ a.block) (u u' : Value) (hu : w.cell? a = some u) (hk : (∃ s s', u = .string s ∧ u' = .string s') ∨ (∃ m m', u = .int .i64 m ∧ u' = .int .i64 m')) : Sp w0 A v (w.setCell a u') := by
  refine ⟨h.1.setCell ha _, fun hp => ?_⟩
  obtain ⟨b, off, e, hB, hf, hc⟩ := h.2 hp
  refine ⟨b, off, e, hB, fun o => by rw [World.frozen?_setCell]; exact hf o, fun i hi => ?_⟩
  obtain ⟨A1, c1, h3, ⟨m, h5⟩, h6⟩ := hc i hi
  refine ⟨A1, c1, ?_, ?_, fun hp2 => ?_⟩
  · by_cases ea : a = ⟨b, off + i * 6 + 3, none⟩
    · subst ea
      rw [h3] at hu
      rcases hk with ⟨s, s', rfl, _⟩ | ⟨m, m', rfl, _⟩ <;> cases hu
    · rw [World.cell?_setCell_other _ _ _ _ ea]; exact h3
  · by_cases ea : a = ⟨b, off + i * 6 + 5, none⟩
    · subst ea
      rw [h5] at hu
      rcases hk with ⟨s, s', rfl, _⟩ | ⟨m1, m', rfl, rfl⟩
      · cases hu
      · exact ⟨m', World.cell?_setCell_same _ _ _ h5⟩
    · exact ⟨m, by rw [World.cell?_setCell_other _ _ _ _ ea]; exact h5⟩
  · obtain ⟨b1, of1, e1, hB1, hf1, hc1⟩ := h6 hp2
    refine ⟨b1, of1, e1, hB1, fun o => by rw [World.frozen?_setCell]; exact hf1 o, fun k hk2 => ?_⟩
    obtain ⟨s0, hs0⟩ := hc1 k hk2
    by_cases ea : a = ⟨b1, of1 + k * 3 + 1, none⟩
    · subst ea
      rw [hs0] at hu
      rcases hk with ⟨s, s', rfl, rfl⟩ | ⟨m1, m', rfl, _⟩
      · exact ⟨s', World.cell?_setCell_same _ _ _ hs0⟩
      · cases hu
    · exact ⟨s0, by rw [World.cell?_setCell_other _ _ _ _ ea]; exact hs0⟩
set_option maxHeartbeats 16000000 in
set_option maxRecDepth 100000 in
theorem spoil10 (w0 : World) (A : Option Addr) (n c : Nat) (v : List Nd) (w : World) (h : Sp w0 A v w) (hn : v.length = n) (hm : n ≤ 1000000) (hat : ∀ x ∈ v, x.attrs.length ≤ 1000000) :
    Calls Try.prog 22 #[.slice A n c] w fun e w' => e = .returned (.tuple #[]) ∧ Below w0.heap.size w0 w' := by
  have H0 := Lib.hid h
  have HN := Lib.hid hn
  have HM := Lib.hid hm
  have HAT := Lib.hid hat
  clear h hn hm hat
  go_enter Try.func22, Try.ntmps22
  go_wp2_with fail
  go_loopg [2, 3] n (fun gg i x3 wr => ∃ k : Nat, k + gg = n ∧ i = .int .i64 k ∧ Sp w0 A v wr)
  case atStart => exact ⟨0, by omega, rfl, H0.out⟩
  case round =>
    obtain ⟨k, hk, rfl, hsp⟩ := hrel
    obtain ⟨ww, rfl⟩ : ∃ ww : World, ww = wr := ⟨_, rfl⟩
    obtain ⟨g0, rfl⟩ : ∃ g0 : Nat, g0 = gk := ⟨_, rfl⟩
    have HSP := Lib.hid hsp
    have hmm := HM.out
    by_cases hlt : k < n
    · have hk1 : k < v.length := by rw [HN.out]; exact hlt
      obtain ⟨b, off, rfl, -, -, -⟩ := hsp.2 (by omega)
      have hal := HAT.out _ (List.getElem_mem hk1)
      have bk : (0 : Int) ≤ (k : Int) ∧ (k : Int) < (n : Int) := by omega
      have HK1 := Lib.hid hk1
      have HGK := Lib.hid hk
      obtain ⟨m, hmv⟩ : ∃ m, (v[k]'hk1).attrs.length = m := ⟨_, rfl⟩
      have bm : (m : Int) ≤ 1000000 := by omega
      have HMV : Hid ((v[k]'HK1.out).attrs.length = m) := Lib.hid hmv
      clear hsp hmv hal hk
      go_wp2_with fail
      go_loopg [3] m (fun gg i wr => ∃ j : Nat, j + gg = m ∧ i = .int .i64 j ∧ Sp w0 (some ⟨b, off, none⟩) v wr)
      case atStart => exact ⟨0, by omega, rfl, HSP.out⟩
      case round =>
        obtain ⟨j, hj, rfl, hsp⟩ := hrel
        have HS2 := Lib.hid hsp
        obtain ⟨b', off', e, hB, hf, hc⟩ := hsp.2 (by have := HK1.out; omega)
        injection e with e
        injection e with e1 e2 _
        subst e1 e2
        obtain ⟨A1, c1, h3, ⟨mm, h5⟩, h6⟩ := hc k HK1.out
        rw [HMV.out] at h3 h6
        have HBB := Lib.hid hB
        have ff := hf (off + k * 6 + 5)
        by_cases hlj : j < m
        · obtain ⟨b1, of1, rfl, hB1, hf1, hc1⟩ := h6 (by omega)
          obtain ⟨s, hs⟩ := hc1 j hlj
          have fs := hf1 (of1 + j * 3 + 1)
          have bj : (0 : Int) ≤ (j : Int) ∧ (j : Int) < (m : Int) := by omega
          have HNX : Hid (Sp w0 (some ⟨b, off, none⟩) v (wr.setCell ⟨b1, of1 + j * 3 + 1, none⟩ (.string ⟨#[115, 112, 111, 105, 108, 116]⟩))) := Lib.hid (hsp.set _ hB1 _ _ hs (.inl ⟨_, _, rfl, rfl⟩))
          clear hsp hf hc hf1 hc1 h6 hB hB1 h5
          go_wp2_with fail
          go_roundg (gk - 1)
          case rel => exact ⟨j + 1, by omega, by go_num, HNX.out⟩
          case measure => omega
        · have HNX : Hid (Sp w0 (some ⟨b, off, none⟩) v (wr.setCell ⟨b, off + k * 6 + 5, none⟩ (.int .i64 (-7)))) := Lib.hid (hsp.set _ hB _ _ h5 (.inr ⟨_, _, rfl, rfl⟩))
          clear hsp hf hc h6 hB
          go_wp2_with fail
          go_roundg (g0 - 1)
          case rel => exact ⟨k + 1, by have := HGK.out; omega, by go_num, HNX.out⟩
          case measure => have := HGK.out; omega
    · have HBB := Lib.hid hsp.1
      clear hsp
      go_wp2_with fail
      go_end0
      exact ⟨rfl, HBB.out⟩
end Hx
end Go.Proofs.Ytlfmjnocfkamaaa
