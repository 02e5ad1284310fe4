/-
  Plain facts on arrays by value, of one-cell integers: an element, a whole one out of a variable, two that are the same, a piece.
-/
import Derived.Test.YtagngohemlkkoaaDoorMemG
import Derived.Laws.StructEq
namespace Go.Proofs.YtagngohemlkkoaaDoor
open Go.RowKit
namespace Hx

/-- An array's value. -/
def aggOf {α : Type} (enc : α → Value) (l : List α) : Value := .agg (l.map enc).toArray

section
variable {α : Type} {enc : α → Value} {P : Program} {t e n : Nat} {k0 : IntKind} {i0 : TypeInfo}

theorem run_isAgg_int (he : P.underlying e = some (.int k0)) (w : World) : (isAgg e).run P w = .ok false w := by
  simp [isAgg, run_underlying he]
theorem run_sizeOf_one (hi : P.info? e = some i0) (hs : i0.size = 1) (w : World) : (sizeOf e).run P w = .ok 1 w := by simp [sizeOf, typeInfo, hi, hs]
theorem run_part_int (he : P.underlying e = some (.int k0)) (l : List α) (j : Nat) (hj : j < l.length) (w : World) : (part e (l.map enc).toArray j).run P w = .ok (enc (l[j]'hj)) w := by
  simp [part, run_isAgg_int he, Sem.run_bind, hj]
/-- x[j] of an array by value. -/
theorem run_index_agg (ht : P.underlying t = some (.array n e)) (he : P.underlying e = some (.int k0)) (hi : P.info? e = some i0) (hs : i0.size = 1) (l : List α) (hl : l.length = n) (k : IntKind) (j : Nat) (hj : j < l.length) (w : World) :
    (Instr.index t (.agg (l.map enc).toArray) (.int k (j : Int))).run P w = .ok (enc (l[j]'hj)) w := by
  have h1 : (0 : Int) ≤ (j : Int) ∧ (j : Int) < (n : Int) := by omega
  simp only [Instr.index, asIntOf, Sem.run_bind, Sem.run_pure, Result.andThen_ok, run_underlying ht, Sem.run_ite, if_pos h1, run_sizeOf_one hi hs, Int.toNat_natCast, Nat.mul_one]
  exact run_part_int he l j hj w
theorem run_equal_agg (ht : P.underlying t = some (.array n e)) (he : P.underlying e = some (.int k0)) (hi : P.info? e = some i0) (hs : i0.size = 1) (henc : ∀ x, ∃ v, enc x = .int k0 v) (l : List α) (hl : l.length = n) (w : World) :
    (Op.equal t (.agg (l.map enc).toArray) (.agg (l.map enc).toArray)).run P w = .ok true w := by
  show (Op.equalIn 10000 t (.agg (l.map enc).toArray) (.agg (l.map enc).toArray)).run P w = .ok true w
  have step : ∀ j, j < n → (do
      let a ← part e (l.map enc).toArray (j * 1)
      let b ← part e (l.map enc).toArray (j * 1)
      Op.equalIn 9999 e a b : Sem Bool).run P w = .ok true w := by
    intro j hj
    obtain ⟨v, hv⟩ := henc (l[j]'(by omega))
    rw [Nat.mul_one]
    simp only [Sem.run_bind, run_part_int he l j (by omega), Result.andThen_ok, hv]
    rw [run_equalIn_int w 9998 e k0 k0 v v he]
    simp
  unfold Op.equalIn
  simp only [Sem.run_bind, run_underlying ht, Result.andThen_ok, run_sizeOf_one hi hs]
  rw [Std.Legacy.Range.forIn_eq_forIn_range']
  have key : ∀ js : List Nat, (∀ j ∈ js, j < n) → Sem.run P (forIn js ((none : Option Bool), ()) fun i __s => do
            let __do_lift ← part e (List.map enc l).toArray (i * 1)
            let __do_lift_1 ← part e (List.map enc l).toArray (i * 1)
            let __do_lift ← Op.equalIn 9999 e __do_lift __do_lift_1
            if (!__do_lift) = true then pure (ForInStep.done (some false, ())) else pure (ForInStep.yield (none, ()))) w = .ok (none, ()) w := by
    intro js
    induction js with
    | nil => intro _; rfl
    | cons j js ih =>
      intro h
      have hj := h j (List.mem_cons_self ..)
      have hs' := step j hj
      obtain ⟨v, hv⟩ := henc (l[j]'(by omega))
      simp only [List.forIn_cons, Sem.run_bind, Nat.mul_one, run_part_int he l j (by omega), Result.andThen_ok, hv]
      rw [run_equalIn_int w 9998 e k0 k0 v v he]
      simp only [beq_self_eq_true, Bool.not_true, Result.andThen_ok, Bool.false_eq_true, if_false, Sem.run_pure]
      have := ih (fun i hi => h i (List.mem_cons_of_mem _ hi))
      simp only [Nat.mul_one] at this
      exact this
  rw [key _ (fun j hj => by simpa using hj)]
  rfl
theorem run_eql_agg (ht : P.underlying t = some (.array n e)) (he : P.underlying e = some (.int k0)) (hi : P.info? e = some i0) (hs : i0.size = 1) (henc : ∀ x, ∃ v, enc x = .int k0 v) (l : List α) (hl : l.length = n) (w : World) :
    (binOp .eql t (.agg (l.map enc).toArray) (.agg (l.map enc).toArray)).run P w = .ok (.bool true) w := by
  simp only [binOp, Sem.run_bind, run_equal_agg ht he hi hs henc l hl w, Result.andThen_ok, Sem.run_pure]

/-! A variable that holds an array: its block, whole. -/
def Blk (enc : α → Value) (w : World) (B : Nat) (t : TypeId) (l : List α) : Prop := w.heap[B]? = some (.cells (l.map enc).toArray t (0, 0))
theorem Blk.new (w : World) (t : TypeId) (l : List α) : Blk enc (w.alloc (.cells (l.map enc).toArray t)) w.heap.size t l := heap_alloc_new w _
theorem Blk.lt {w : World} {B : Nat} {l : List α} (h : Blk enc w B t l) : B < w.heap.size := (Array.getElem?_eq_some_iff.1 h).1
theorem Blk.below {w w' : World} {B : Nat} {l : List α} (h : Blk enc w B t l) (hb : Below w.heap.size w w') : Blk enc w' B t l := (hb.block B h.lt).trans h
theorem Blk.cell {w : World} {B : Nat} {l : List α} (h : Blk enc w B t l) (j : Nat) (hj : j < l.length) : w.cell? ⟨B, j, none⟩ = some (enc (l[j]'hj)) := by
  rw [cell_of_row w B j _ t (0, 0) h]
  simp [hj]
theorem Blk.free {w : World} {B : Nat} {l : List α} (h : Blk enc w B t l) (j : Nat) : w.frozen? ⟨B, j, none⟩ = false := frozen_of_row w B j _ t h
theorem Blk.put {w : World} {B : Nat} {l : List α} (h : Blk enc w B t l) (j : Nat) (x : α) : Blk enc (w.setCell ⟨B, j, none⟩ (enc x)) B t (l.set j x) := by
  unfold Blk
  rw [heap_setCell_same w B j _ t _ h]
  simp [List.map_set]
theorem Blk.other {w : World} {B : Nat} {l : List α} (h : Blk enc w B t l) (a : Addr) (v : Value) (ha : B ≠ a.block) : Blk enc (w.setCell a v) B t l := (heap_setCell_other w a B v ha).trans h
/-- Its slice x[:] reads as the list. -/
theorem Blk.slice {w : World} {B : Nat} {l : List α} (h : Blk enc w B t l) : RdG enc w w.heap.size (some ⟨B, 0, none⟩) l := fun _ => ⟨B, 0, rfl, h.lt, fun j hj => by rw [Nat.zero_add]; exact h.cell j hj⟩
/-- It is loaded whole. -/
theorem Blk.load {w : World} {B : Nat} {l : List α} (h : Blk enc w B e l) (ht : P.underlying t = some (.array n e)) (hn : (P.info? t).map (·.size) = some l.length) : (loadVar t ⟨B, 0, none⟩).run P w = .ok (aggOf enc l) w :=
  run_loadVar_row w B e t _ (0, 0) (.array n e) h ht rfl (by simpa using hn)
end
end Hx
end Go.Proofs.YtagngohemlkkoaaDoor
