/-
  Texts of one seat, put together: LexK, LexJ, LexG, LexF.
-/
import Derived.Test.YtichboamakgabaaGreatDoorG06
import Derived.Deep.RegionHeld3
import Derived.Deep.QuietTactic
import Derived.Test.YtichboamakgabaaGreatDoorG05
import Derived.Deep.LoopGhost
namespace Go.Proofs.YtichboamakgabaaGreatDoor
open Go.RowKit
namespace Hx
open Lx Tx Nmb Es
set_option linter.unusedVariables false
theorem attrsF_at {l : List Pr} {k : Nat} (h : k < l.length) : attrsF (l.take k) (l.drop k) = (fullL (l[k]'h).name && !hasL (l.take k) (l[k]'h).name && okT (l[k]'h).value && attrsF (l.take (k + 1)) (l.drop (k + 1))) := by
  rw [List.drop_eq_getElem_cons h, List.take_succ_eq_append_getElem h]
  rfl
theorem RdC.take {α : Type} {C : Cod α} {w : World} {B : Nat} {A : Option Addr} {l : List α} (h : RdC C w B A l) (k : Nat) : RdC C w B A (l.take k) := by
  intro hp
  have hl := List.length_take (i := k) (l := l)
  obtain ⟨b, off, e, hb, hc⟩ := h (by omega)
  refine ⟨b, off, e, hb, fun j hj => ?_⟩
  obtain ⟨cs, h1, h2⟩ := hc j (by omega)
  exact ⟨cs, by rw [List.getElem_take]; exact h1, h2⟩
theorem chk9_ok {y : ByteArray} (h : okT y.data.toList = true) : chkE y = 0 := by
  unfold okT at h
  rw [Bool.and_eq_true, decide_eq_true_eq, ba_l] at h
  unfold chkE
  rw [if_neg (by omega), if_pos (show (pts y.data.toList).isSome = true from h.2)]
theorem chk9_bad {y : ByteArray} (h : okT y.data.toList = false) : chkE y ≠ 0 := by
  unfold chkE
  by_cases h1 : 16384 < y.size
  · rw [if_pos h1]; decide
  · rw [if_neg h1]
    by_cases h2 : (pts y.data.toList).isSome = true
    · exfalso
      unfold okT at h
      rw [ba_l, decide_eq_true (by omega), show isP y.data.toList = true from h2] at h
      cases h
    · rw [if_neg h2]; decide
end Hx
end Go.Proofs.YtichboamakgabaaGreatDoor
namespace Go.Proofs.YtichboamakgabaaGreatDoor
open Go.RowKit
namespace Hx
open Lx Tx Nmb Es
set_option linter.unusedVariables false
/-- A token's cells, as a value. -/
def TkV (t : Tk) (x u : ByteArray) (A : Option Addr) (cp : Nat) : Value := .agg #[.int .u8 (t.kind : Int), .string x, .slice A t.attrs.length cp, .string u]
/-- What a token's cells are to be. -/
structure TkAt (t : Tk) (x u : ByteArray) (A : Option Addr) (cp : Nat) (w : World) : Prop where
  name : x.data.toList = t.name
  text : u.data.toList = t.text
  attrs : RdC PrC w w.heap.size A t.attrs
  le : t.attrs.length ≤ cp
  ns : x.size ≤ 1000000
  us : u.size ≤ 1000000
  al : t.attrs.length ≤ 1000000
  sz : ∀ p ∈ t.attrs, p.name.length ≤ 1000000 ∧ p.value.length ≤ 1000000
theorem TkAt.on {t : Tk} {x u : ByteArray} {A : Option Addr} {cp : Nat} {w w' : World} (h : TkAt t x u A cp w) (hb : Below w.heap.size w w') : TkAt t x u A cp w' := ⟨h.name, h.text, h.attrs.on hb, h.le, h.ns, h.us, h.al, h.sz⟩
theorem box_cell {w w1 : World} {cs : Array Value} {T : TypeId} (hb : Below (w.alloc (.cells cs T)).heap.size (w.alloc (.cells cs T)) w1) (i : Nat) (v : Value) (h : cs[i]? = some v) : w1.cell? ⟨w.heap.size, i, none⟩ = some v ∧ w.heap.size < w1.heap.size := by
  have hs := hb.size
  simp at hs
  refine ⟨?_, by omega⟩
  rw [hb.cell (p := ⟨w.heap.size, i, none⟩) (by simp)]
  simp [h]
theorem emp_l (s : ByteArray) : s.toList.isEmpty = s.data.toList.isEmpty := by rw [ByteArray.toList_eq]
def checkR (t : Tk) : Int := if mayT t then 0 else 8
end Hx
end Go.Proofs.YtichboamakgabaaGreatDoor
namespace Go.Proofs.YtichboamakgabaaGreatDoor
open Go.RowKit
namespace Hx
open Lx Tx Nmb Es
set_option linter.unusedVariables false
theorem ba_app (a b : ByteArray) : (a ++ b).data.toList = a.data.toList ++ b.data.toList := by simp
theorem bel_in9 {w w' w0 : World} (h0 : Below w0.heap.size w0 w) (h : Below w.heap.size w w') : Below w0.heap.size w0 w' := h0.trans (h.mono h0.size)
end Hx
end Go.Proofs.YtichboamakgabaaGreatDoor
namespace Go.Proofs.YtichboamakgabaaGreatDoor
open Go.RowKit
namespace Hx
open Lx Tx Nmb Es
set_option linter.unusedVariables false
theorem apart_iff : ∀ (l : List Tk), apart l = true ↔ ∀ (i : Nat) (h : i + 1 < l.length), ¬ ((l[i]'(by omega)).kind = 4 ∧ (l[i + 1]'h).kind = 4)
  | [] => by simp [apart]
  | [a] => by simp [apart]
  | a :: b :: r => by
    rw [apart, Bool.and_eq_true, apart_iff (b :: r)]
    constructor
    · rintro ⟨h1, h2⟩ i hi
      cases i with
      | zero =>
        intro hh
        simp only [List.getElem_cons_zero, List.getElem_cons_succ] at hh
        simp [hh.1, hh.2] at h1
      | succ i => exact h2 i (by simpa using hi)
    · intro h
      refine ⟨?_, fun i hi => ?_⟩
      · have := h 0 (by simp)
        simp only [List.getElem_cons_zero, List.getElem_cons_succ] at this
        by_cases h1 : a.kind = 4
        · by_cases h2 : b.kind = 4
          · exact absurd ⟨h1, h2⟩ this
          · simp [h2]
        · simp [h1]
      · exact h (i + 1) (by simpa using hi)
theorem apart_bad {l : List Tk} {k : Nat} (h0 : 1 ≤ k) (h : k < l.length) (h1 : (l[k - 1]'(by omega)).kind = 4) (h2 : (l[k]'h).kind = 4) : apart l = false := by
  cases hb : apart l with
  | false => rfl
  | true =>
    have := (apart_iff l).1 hb (k - 1) (by omega)
    have e : k - 1 + 1 = k := by omega
    simp only [e] at this
    exact absurd ⟨h1, h2⟩ this
theorem apart_next {l : List Tk} {k : Nat} (h0 : 1 ≤ k) (h : k < l.length) (hp : apart (l.take k) = true) (hn : ¬ ((l[k - 1]'(by omega)).kind = 4 ∧ (l[k]'h).kind = 4)) : apart (l.take (k + 1)) = true := by
  rw [apart_iff] at hp ⊢
  intro i hi
  rw [List.length_take] at hi
  by_cases e : i + 1 = k
  · have e2 : i = k - 1 := by omega
    subst e2
    simp only [List.getElem_take, e]
    exact hn
  · have := hp i (by rw [List.length_take]; omega)
    simpa only [List.getElem_take] using this
/-- Bounds of a token. -/
def Small (t : Tk) : Prop := t.name.length ≤ 1000000 ∧ t.text.length ≤ 1000000 ∧ t.attrs.length ≤ 1000000 ∧ ∀ p ∈ t.attrs, p.name.length ≤ 1000000 ∧ p.value.length ≤ 1000000
theorem writeA_len (p : Pr) (h : p.name.length ≤ 1000000 ∧ p.value.length ≤ 1000000) : (writeA p).length ≤ 8000000 := by
  have := (escL_len true p.value).2
  unfold writeA
  simp only [List.length_cons, List.length_append, List.length_nil]
  omega
theorem flatA_len : ∀ (l : List Pr), (∀ p ∈ l, p.name.length ≤ 1000000 ∧ p.value.length ≤ 1000000) → (l.flatMap writeA).length ≤ l.length * 8000000
  | [], _ => by simp
  | p :: l, h => by
    have h1 := writeA_len p (h p (by simp))
    have h2 := flatA_len l (fun q hq => h q (by simp [hq]))
    rw [List.flatMap_cons, List.length_append, List.length_cons]
    omega
theorem writeT_len {t : Tk} (h : Small t) : (writeT t).length ≤ 8000009000000 := by
  obtain ⟨h1, h2, h3, h4⟩ := h
  have h5 := flatA_len t.attrs h4
  have h6 := (escL_len false t.text).2
  unfold writeT
  split
  · omega
  · split
    · simp only [List.length_cons, List.length_append, List.length_nil]
      omega
    · simp only [List.length_cons, List.length_append]
      split <;> simp only [List.length_cons, List.length_nil] <;> omega
/-- A token among some. -/
theorem tk_at {w : World} {A : Option Addr} {l : List Tk} {k : Nat} (hr : RdC TkC w w.heap.size A l) (hk : k < l.length) (hs : Small (l[k]'hk)) :
    ∃ (b off : Nat) (x u : ByteArray) (A1 : Option Addr) (p1 : Nat), A = some ⟨b, off, none⟩ ∧ b < w.heap.size ∧ w.cell? ⟨b, off + k * 4, none⟩ = some (.int .u8 ((l[k]'hk).kind : Int)) ∧ w.cell? ⟨b, off + k * 4 + 1, none⟩ = some (.string x) ∧
      w.cell? ⟨b, off + k * 4 + 2, none⟩ = some (.slice A1 (l[k]'hk).attrs.length p1) ∧ w.cell? ⟨b, off + k * 4 + 3, none⟩ = some (.string u) ∧ TkAt (l[k]'hk) x u A1 p1 w := by
  obtain ⟨b, off, e, hb, hc⟩ := hr (by omega)
  obtain ⟨cs, ⟨x, A1, p1, u, rfl, hkd, hx, hu, hle, hmx, hnl, hrd⟩, hcell⟩ := hc k hk
  obtain ⟨s1, s2, s3, s4⟩ := hs
  refine ⟨b, off, x, u, A1, p1, e, hb, hcell 0 (by simp), hcell 1 (by simp), hcell 2 (by simp), hcell 3 (by simp), ⟨hx, hu, hrd, hle, ?_, ?_, s3, s4⟩⟩
  · rw [← ba_l, hx]; exact s1
  · rw [← ba_l, hu]; exact s2
end Hx
end Go.Proofs.YtichboamakgabaaGreatDoor
