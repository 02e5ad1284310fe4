/-
  Contracts of tidewaiterref05's Points, Same, Of.
-/
import Derived.Test.YtichboamakgabaaTextT
namespace Go.Proofs.Ytichboamakgabaa
open Go.RowKit
namespace Hx
open Tx
set_option linter.unusedVariables false

/-- A slice of numbers that came in reads as a list. -/
theorem rdZ_of_row {w : World} {x : Addr} {len cap : Nat} {vs : List Int} (hl : len ≤ cap) (hz : vs.length = cap)
    (hcell : ∀ i, i < vs.length → w.cell? (x.add i) = some (.int .i64 (vs.getD i 0))) (_hwz : ∀ n ∈ vs, (Lit.int .i64 n).wf = true) :
    ∃ l : List Int, RdZ w w.heap.size (some x) l ∧ l.length = len := by
  refine ⟨vs.take len, fun hp => ?_, by simp; omega⟩
  have hp' : 0 < len := by
    simp at hp
    omega
  obtain ⟨b, off, spot⟩ := x
  have hspot : spot = none := by simpa [Addr.add] using World.cell?_spot (hcell 0 (by omega))
  subst hspot
  refine ⟨b, off, rfl, ?_, fun j hj => ?_⟩
  · have := hcell 0 (by omega)
    rw [addr_plain] at this
    exact World.block_lt_of_cell? (a := ⟨b, off + 0, none⟩) w this
  · have hj' : j < len := by
      simp at hj
      omega
    have hjz : j < vs.length := by omega
    have := hcell j hjz
    rw [addr_plain] at this
    rw [this]
    simp [List.getD, hjz, encZ]

theorem chk_ok {s : ByteArray} (h : chkE s = 0) : ∃ ns, pts s.data.toList = some ns ∧ s.size ≤ 16384 := by
  unfold chkE at h
  by_cases h1 : 16384 < s.size
  · rw [if_pos h1] at h; cases h
  · rw [if_neg h1] at h
    cases hp : pts s.data.toList with
    | none => rw [hp] at h; cases h
    | some ns => exact ⟨ns, rfl, by omega⟩
theorem all_ok (s : ByteArray) (ns : List Nat) (w : World) (hm : s.size ≤ 1000000) (h : pts s.data.toList = some ns) :
    Calls Try.prog 43 #[.string s] w fun e w' => Below w.heap.size w w' ∧ ∃ A c, e = .returned (.tuple #[.slice A ns.length c, .bool true]) ∧ (A = none → c = 0) ∧ RdZ w' w'.heap.size A (zs ns) := by
  refine (all_any s w hm).mono fun e w' ⟨hb, hh⟩ => ⟨hb, ?_⟩
  rcases hh with ⟨ms, A, c, e1, e2, e3, e4⟩ | ⟨e1, _⟩
  · rw [h] at e1
    cases e1
    exact ⟨A, c, e2, e3, e4⟩
  · rw [h] at e1
    cases e1
theorem infoU8 : (Try.prog.info? 5).map (fun i => (i.zero, i.size, i.bytes)) = some (some (.int .u8 0), 1, 1) := by kernel_rfl
/-- The bytes of numbers that may be. -/
def byL (l : List Int) : List UInt8 := encs (l.map Int.toNat)
theorem byL_length (l : List Int) : (byL l).length ≤ 4 * l.length := by
  unfold byL
  induction l with
  | nil => simp [encs]
  | cons z l ih =>
    rw [List.map_cons, encs_cons, List.length_append]
    have := (enc_length z.toNat).2
    simp only [List.length_cons]
    omega
theorem byL_snoc (l : List Int) (z : Int) : byL (l ++ [z]) = byL l ++ enc z.toNat := by
  unfold byL
  rw [List.map_append, encs_append]
  simp [encs]
/-- The text of numbers, and the error. -/
def ofR (l : List Int) : ByteArray × Int := if l.all may then (if 16384 < (byL l).length then (⟨#[]⟩, 4) else (⟨(byL l).toArray⟩, 0)) else (⟨#[]⟩, 50)
theorem all_take (l : List Int) (k : Nat) (h : k < l.length) (h1 : (l.take k).all may = true) (h2 : may (l[k]'h) = true) : (l.take (k + 1)).all may = true := by
  rw [List.take_succ_eq_append_getElem h, List.all_append, h1]
  simp [h2]
theorem not_all_may (l : List Int) (k : Nat) (h : k < l.length) (h2 : may (l[k]'h) = false) : l.all may = false := by
  rw [List.all_eq_false]
  exact ⟨l[k]'h, List.getElem_mem h, by simp [h2]⟩
theorem chk_lits (s : ByteArray) : chkE s = 0 ∨ chkE s = 4 ∨ chkE s = 50 := by
  unfold chkE
  split
  · exact .inr (.inl rfl)
  · split
    · exact .inl rfl
    · exact .inr (.inr rfl)
theorem of_lits (l : List Int) : (ofR l).2 = 0 ∨ (ofR l).2 = 4 ∨ (ofR l).2 = 50 := by
  unfold ofR
  split
  · split
    · exact .inr (.inl rfl)
    · exact .inl rfl
  · exact .inr (.inr rfl)
/-- What stands at a place. -/
def nextR (l : List UInt8) : Nat × Nat × Nat := match one l with | none => (0, 0, 50) | some (p, k) => (p, k, 0)
theorem nextR_match (l : List UInt8) (p k q : Nat) (h : nextR l = (p, k, q)) : match one l with | none => p = 0 ∧ k = 0 ∧ q = 50 | some (p', k') => p = p' ∧ k = k' ∧ q = 0 := by
  unfold nextR at h
  cases ho : one l with
  | none => rw [ho] at h; cases h; exact ⟨rfl, rfl, rfl⟩
  | some x => obtain ⟨a, b⟩ := x; rw [ho] at h; cases h; exact ⟨rfl, rfl, rfl⟩
theorem nextR_lits {l : List UInt8} {p k q : Nat} (h : nextR l = (p, k, q)) : q = 0 ∨ q = 50 := by
  unfold nextR at h
  split at h
  · cases h; exact .inr rfl
  · cases h; exact .inl rfl
end Hx
end Go.Proofs.Ytichboamakgabaa
