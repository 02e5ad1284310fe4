/-
  Plain facts on a schedule that is being filled, and on worlds.
-/
import Derived.Test.YtmjcmlaeajglmaaMemA
import Derived.Test.YtmjcmlaeajglmaaShaM
import Derived.Test.YtmjcmlaeajglmaaWordRa
import Derived.Laws.CopyOwn
namespace Go.Proofs.Ytmjcmlaeajglmaa
open Go.RowKit
namespace Sh
open Go Wd
/-- The schedule as it lies in its array when t words have been made. -/
def schRow (l : List W32) (t : Nat) : List W32 := sch l (t - 16) ++ List.replicate (80 - t) 0#32
theorem schRow_length (l : List W32) (hl : l.length = 16) (t : Nat) (h : 16 ≤ t) (ht : t ≤ 80) : (schRow l t).length = 80 := by
  rw [schRow, List.length_append, sch_length, List.length_replicate]; omega
theorem schRow_get (l : List W32) (hl : l.length = 16) (t j : Nat) (h : 16 ≤ t) (hj : j < t) (hj2 : j < (schRow l t).length) : (schRow l t)[j]'hj2 = (sch l (t - 16)).getD j 0 := by
  have h1 : j < (sch l (t - 16)).length := by rw [sch_length]; omega
  simp only [schRow]
  rw [List.getElem_append_left h1, List.getD_eq_getElem?_getD, List.getElem?_eq_getElem h1]
  rfl
theorem schRow_zero (l : List W32) (hl : l.length = 16) (t : Nat) (h : 16 ≤ t) (ht : t < 80) (hj2 : t < (schRow l t).length) : (schRow l t)[t]'hj2 = 0#32 := by
  have h1 : (sch l (t - 16)).length = t := by rw [sch_length]; omega
  simp only [schRow]
  rw [List.getElem_append_right (by omega), List.getElem_replicate]
theorem schRow_set (l : List W32) (hl : l.length = 16) (t : Nat) (h : 16 ≤ t) (ht : t < 80) : (schRow l t).set t (nxt (sch l (t - 16))) = schRow l (t + 1) := by
  have h1 : (sch l (t - 16)).length = t := by rw [sch_length]; omega
  obtain ⟨k, rfl⟩ : ∃ k, t = k + 16 := ⟨t - 16, by omega⟩
  obtain ⟨m, hm⟩ : ∃ m, 80 - (k + 16) = m + 1 := ⟨80 - (k + 16) - 1, by omega⟩
  have hm2 : 80 - (k + 16 + 1) = m := by omega
  unfold schRow
  rw [hm, hm2, List.set_append_right _ _ (by omega), h1, Nat.sub_self, List.replicate_succ, List.set_cons_zero]
  rw [show k + 16 + 1 - 16 = (k + 16 - 16) + 1 by omega, sch, List.append_assoc]
  rfl
theorem schRow_end (l : List W32) : schRow l 80 = sch l 64 := by simp [schRow]
theorem schRow_start (l : List W32) : schRow l 16 = l ++ List.replicate 64 0#32 := by simp [schRow, sch]
theorem nxt_odd (l : List W32) (t : Nat) (hl : l.length = t) (a b c d : W32) (ha : l.getD (t - 3) 0 = a) (hb : l.getD (t - 8) 0 = b) (hc : l.getD (t - 14) 0 = c) (hd : l.getD (t - 16) 0 = d) : nxt l = trn (odd a b c ^^^ d) 1 := by
  subst hl ha hb hc hd
  rfl
end Sh
namespace Hx
open Go Wd Sh
def encB (c : UInt8) : Value := .int .u8 (c.toNat : Int)
abbrev RdB := @RdG UInt8 encB
theorem rdA_rdB {w : World} {B : Nat} {A : Option Addr} {l : List UInt8} : RdB w B A l ↔ RdA w B A l := Iff.rfl
theorem byteCells_map (l : List UInt8) : Lib.byteCells l = l.map encB := rfl
theorem encB_one (x : UInt8) : (encB x).oneCell' = true := rfl
theorem map_one {α : Type} {enc : α → Value} (h : ∀ x, (enc x).oneCell' = true) (l : List α) : ((l.map enc).toArray).all (·.oneCell') = true := by
  simp [h]
theorem map_one' {α : Type} {enc : α → Value} (h : ∀ x, (enc x).oneCell' = true) (l : List α) : ∀ v ∈ l.map enc, v.oneCell' = true := by
  intro v hv
  obtain ⟨x, _, rfl⟩ := List.mem_map.1 hv
  exact h x
/-- The zero arrays, not to be opened. -/
def zero80 : Array Value := ((List.replicate 80 (0#32 : W32)).map encW).toArray
def zero64 : Array Value := ((List.replicate 64 (0 : UInt8)).map encB).toArray
def zero20 : Array Value := ((List.replicate 20 (0 : UInt8)).map encB).toArray
def zero5 : Array Value := #[.int .u32 0, .int .u32 0, .int .u32 0, .int .u32 0, .int .u32 0]
theorem zero5_row : zero5 = ((List.replicate 5 (0#32 : W32)).map encW).toArray := rfl
theorem heap_kept {a b : World} {k : Nat} {o : Obj} (h : a.heap[k]? = some o) (hb : Below a.heap.size a b) : b.heap[k]? = some o := (hb.block k (Array.getElem?_eq_some_iff.1 h).1).trans h
theorem heap_lt {a : World} {k : Nat} {o : Obj} (h : a.heap[k]? = some o) : k < a.heap.size := (Array.getElem?_eq_some_iff.1 h).1
theorem below_setRow0 {B g : Nat} {w0 w : World} (hb : Below B w0 w) (hBg : B ≤ g) (cs : Array Value) : Below B w0 (w.setRow g cs) :=
  hb.trans ⟨rfl, rfl, rfl, by simp [World.setRow], fun k hk => setRow_other w g k cs (by omega)⟩
theorem below_of_drew {W w : World} (h : Below W.drew.heap.size W.drew w) : Below W.heap.size W w := ⟨h.os, h.tape, h.output, h.size, h.block⟩
theorem opn2 (w : World) (A B : Obj) : ∃ W, ((w.alloc A).alloc B) = W ∧ W.heap.size = w.heap.size + 1 + 1 ∧ W.heap[w.heap.size]? = some A ∧ W.heap[w.heap.size + 1]? = some B ∧ Below w.heap.size w W := by
  refine ⟨_, rfl, by simp, ?_, ?_, stpA (stpA (Below.refl _ _) _) _⟩
  · exact (Below.heap_alloc (w.alloc A) B _ (by simp)).trans (heap_alloc_new w A)
  · have := heap_alloc_new (w.alloc A) B
    simpa using this
theorem opn3 (w : World) (A B C : Obj) (q : Nat) : ∃ W, (((w.alloc A).alloc B).alloc C).drewN q = W ∧ W.heap.size = w.heap.size + 1 + 1 + 1 ∧ W.heap[w.heap.size]? = some A ∧ W.heap[w.heap.size + 1]? = some B ∧ W.heap[w.heap.size + 1 + 1]? = some C ∧ Below w.heap.size w W := by
  refine ⟨_, rfl, by simp, ?_, ?_, ?_, below_dn (stpA (stpA (stpA (Below.refl _ _) _) _) _) q⟩
  · exact (Below.heap_alloc ((w.alloc A).alloc B) C _ (by simp; omega)).trans ((Below.heap_alloc (w.alloc A) B _ (by simp)).trans (heap_alloc_new w A))
  · exact (Below.heap_alloc ((w.alloc A).alloc B) C _ (by simp)).trans (by have := heap_alloc_new (w.alloc A) B; simpa using this)
  · have := heap_alloc_new ((w.alloc A).alloc B) C
    simpa using this
theorem opn3n (w : World) (A B C : Obj) : ∃ W, (((w.alloc A).alloc B).alloc C) = W ∧ W.heap.size = w.heap.size + 1 + 1 + 1 ∧ W.heap[w.heap.size]? = some A ∧ W.heap[w.heap.size + 1]? = some B ∧ W.heap[w.heap.size + 1 + 1]? = some C ∧ Below w.heap.size w W := by
  obtain ⟨W, h, h'⟩ := opn3 w A B C 0
  exact ⟨W, h, h'⟩
/-- A cell of a variable's block behind a stretch of the run. -/
theorem cell_kept2 {a b : World} {p : Addr} {v : Value} (h : a.cell? p = some v) (hb : Below a.heap.size a b) : b.cell? p = some v := (hb.cell (block_lt_of_cell h)).trans h
end Hx
end Go.Proofs.Ytmjcmlaeajglmaa
