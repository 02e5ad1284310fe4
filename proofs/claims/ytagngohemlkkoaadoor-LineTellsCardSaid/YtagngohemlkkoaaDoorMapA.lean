/-
  Maps whose entries are written out: an entry more, a look.
-/
import Derived.Test.YtagngohemlkkoaaDoorMem
import Derived.MapKept
namespace Go.Proofs.YtagngohemlkkoaaDoor
open Go.RowKit
namespace Hx
set_option linter.unusedVariables false
theorem kept_at {w w' : World} {B M : Nat} {o : Obj} (h : w.heap[M]? = some o) (hb : Below B w w') (hM : M < B) : w'.heap[M]? = some o := (hb.block M hM).trans h
theorem bel_in {w w' w0 : World} {B n : Nat} (h0 : Below n w0 w) (h : Below B w w') (hn : n ≤ B) : Below n w0 w' := h0.trans (h.mono hn)
theorem push_set (w : World) (x y : Obj) : ({ w.alloc x with heap := (w.alloc x).heap.setIfInBounds w.heap.size y } : World) = w.alloc y := by
  have h : (w.heap.push x).setIfInBounds w.heap.size y = w.heap.push y := by
    apply Array.ext_getElem?
    intro i
    rw [Array.getElem?_setIfInBounds, Array.getElem?_push, Array.getElem?_push]
    by_cases e : i = w.heap.size
    · subst e; simp
    · rw [if_neg (fun h => e h.symm), if_neg e, if_neg e]
  show ({ w with heap := (w.heap.push x).setIfInBounds w.heap.size y } : World) = { w with heap := w.heap.push y }
  rw [h]
/-- A new entry in a map that lies in the last block. -/
theorem run_ins {P : Program} {w : World} {t k e : TypeId} {kd : TypeDesc} {es : Array MapEntry} {n : Nat} {key val : Value}
    (ht : P.underlying t = some (.map k e)) (hk : P.underlying k = some kd) (hkd : MapKept.IsKey kd key) (hf : Instr.findNow kd key es.toList 0 = some none) :
    (Instr.mapUpdate t (.map (some w.heap.size)) key val).run P (w.alloc (.map es n)) = .ok () (w.alloc (.map (es.push ⟨key, val, n⟩) (n + 1))) := by
  have hb : (w.alloc (.map es n)).heap[w.heap.size]? = some (.map es n) := heap_alloc_new w _
  have hc := MapKept.run_checkKey (w := w.alloc (.map es n)) hk hkd false 9999
  have hfk : (Instr.findKey k key es.toList).run P (w.alloc (.map es n)) = .ok none (w.alloc (.map es n)) := by
    simp [Instr.findKey, run_underlying hk, hf, Result.andThen]
  simp [Instr.mapUpdate, run_underlying ht, MapKept.run_getObj_map hb, hc, hfk, MapKept.run_setObj_map _ hb, Result.andThen]
  exact push_set w _ _
theorem run_ins_at {P : Program} {w : World} {t k e : TypeId} {kd : TypeDesc} {es : Array MapEntry} {n b : Nat} {key val : Value} (hb : w.heap.size = b)
    (ht : P.underlying t = some (.map k e)) (hk : P.underlying k = some kd) (hkd : MapKept.IsKey kd key) (hf : Instr.findNow kd key es.toList 0 = some none) :
    (Instr.mapUpdate t (.map (some b)) key val).run P (w.alloc (.map es n)) = .ok () (w.alloc (.map (es.push ⟨key, val, n⟩) (n + 1))) := by
  subst hb
  exact run_ins ht hk hkd hf
/-- What a look answers. -/
def lookV (z : Value) : Option (Nat × Value) → Value
  | some (_, v) => .tuple #[v, .bool true]
  | none => .tuple #[z, .bool false]
theorem run_look {P : Program} {w : World} {t k e : TypeId} {kd : TypeDesc} {b : Nat} {es : Array MapEntry} {n : Nat} {key z : Value} {r : Option (Nat × Value)}
    (ht : P.underlying t = some (.map k e)) (hk : P.underlying k = some kd) (hkd : MapKept.IsKey kd key) (hb : w.heap[b]? = some (.map es n)) (he : es.isEmpty = false)
    (hz : (zeroValue e).run P w = .ok z w) (hf : Instr.findNow kd key es.toList 0 = some r) :
    (Instr.lookup t (.map (some b)) key true).run P w = .ok (lookV z r) w := by
  have hc := MapKept.run_checkKey (w := w) hk hkd es.isEmpty 9999
  have hfk : (Instr.findKey k key es.toList).run P w = .ok r w := by
    simp [Instr.findKey, run_underlying hk, hf, Result.andThen]
  cases r with
  | none => simp [Instr.lookup, run_underlying ht, MapKept.run_getObj_map hb, hc, hfk, hz, Result.andThen, lookV]
  | some p => simp [Instr.lookup, run_underlying ht, MapKept.run_getObj_map hb, hc, hfk, Result.andThen, lookV]
/-- .. at the operation. -/
theorem wpList_ins {P : Program} {w : World} {ops : Array Oper} {rest : List Oper} {o : Oper} {a : Act} {Q : Exit → Act → World → Prop}
    (hg : o.guard = none) (m x v : Operand) (t : TypeId) (hop : o.op = Op.insert t m x v) {w' : World} {mv kv vv : Value} (hm : a.eval m = mv) (hx : a.eval x = kv) (hv : a.eval v = vv)
    (hrun : (Instr.mapUpdate t mv kv vv).run P w = .ok () w') (hK : wpList P ops Q rest (a.put o.dst undef) w') : wpList P ops Q (o :: rest) a w := by
  refine wpList_plain hg fun K' hK' => ?_
  unfold Oper.wp
  simp [execOp, hop, hm, hx, hv, hrun, Result.andThen]
  exact hK' _ _ hK
theorem wpList_look {P : Program} {w : World} {ops : Array Oper} {rest : List Oper} {o : Oper} {a : Act} {Q : Exit → Act → World → Prop}
    (hg : o.guard = none) (m x : Operand) (t : TypeId) (hop : o.op = Op.lookup t m x true) {mv kv v : Value} (hm : a.eval m = mv) (hx : a.eval x = kv)
    (hrun : (Instr.lookup t mv kv true).run P w = .ok v w) (hK : wpList P ops Q rest (a.put o.dst v) w) : wpList P ops Q (o :: rest) a w := by
  refine wpList_plain hg fun K' hK' => ?_
  unfold Oper.wp
  simp [execOp, hop, hm, hx, hrun, Result.andThen]
  exact hK' _ _ hK
end Hx
end Go.Proofs.YtagngohemlkkoaaDoor
