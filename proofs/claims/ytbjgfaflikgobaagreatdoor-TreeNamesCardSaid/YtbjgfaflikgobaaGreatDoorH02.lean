/-
  Texts of one seat, put together: MapA, TreM, TreP, TreQ, MemD.
-/
import Derived.Test.YtbjgfaflikgobaaGreatDoorH00
import Derived.MapKept
import Derived.Test.YtbjgfaflikgobaaGreatDoorH01
namespace Go.Proofs.YtbjgfaflikgobaaGreatDoor
open Go.RowKit
namespace Hx
set_option linter.unusedVariables false
theorem kept_at {w w' : World} {B M : Nat} {o : Obj} (h : w.heap[M]? = some o) (hb : Below B w w') (hM : M < B) : w'.heap[M]? = some o := (hb.block M hM).trans h
theorem bel_in {w w' w0 : World} {B n : Nat} (h0 : Below n w0 w) (h : Below B w w') (hn : n ≤ B) : Below n w0 w' := h0.trans (h.mono hn)
theorem push_set (w : World) (x y : Obj) : ({ w.alloc x with heap := (w.alloc x).heap.setIfInBounds w.heap.size y } : World) = w.alloc y := by
  have h : (w.heap.push x).setIfInBounds w.heap.size y = w.heap.push y := by
    apply Array.ext_getElem?
    intro i
    rw [Array.getElem?_setIfInBounds, Array.getElem?_push, Array.getElem?_push]
    by_cases e : i = w.heap.size
    · subst e; simp
    · rw [if_neg (fun h => e h.symm), if_neg e, if_neg e]
  show ({ w with heap := (w.heap.push x).setIfInBounds w.heap.size y } : World) = { w with heap := w.heap.push y }
  rw [h]
/-- A new entry in a map that lies in the last block. -/
theorem run_ins {P : Program} {w : World} {t k e : TypeId} {kd : TypeDesc} {es : Array MapEntry} {n : Nat} {key val : Value}
    (ht : P.underlying t = some (.map k e)) (hk : P.underlying k = some kd) (hkd : MapKept.IsKey kd key) (hf : Instr.findNow kd key es.toList 0 = some none) :
    (Instr.mapUpdate t (.map (some w.heap.size)) key val).run P (w.alloc (.map es n)) = .ok () (w.alloc (.map (es.push ⟨key, val, n⟩) (n + 1))) := by
  have hb : (w.alloc (.map es n)).heap[w.heap.size]? = some (.map es n) := heap_alloc_new w _
  have hc := MapKept.run_checkKey (w := w.alloc (.map es n)) hk hkd false 9999
  have hfk : (Instr.findKey k key es.toList).run P (w.alloc (.map es n)) = .ok none (w.alloc (.map es n)) := by
    simp [Instr.findKey, run_underlying hk, hf, Result.andThen]
  simp [Instr.mapUpdate, run_underlying ht, MapKept.run_getObj_map hb, hc, hfk, MapKept.run_setObj_map _ hb, Result.andThen]
  exact push_set w _ _
theorem run_ins_at {P : Program} {w : World} {t k e : TypeId} {kd : TypeDesc} {es : Array MapEntry} {n b : Nat} {key val : Value} (hb : w.heap.size = b)
    (ht : P.underlying t = some (.map k e)) (hk : P.underlying k = some kd) (hkd : MapKept.IsKey kd key) (hf : Instr.findNow kd key es.toList 0 = some none) :
    (Instr.mapUpdate t (.map (some b)) key val).run P (w.alloc (.map es n)) = .ok () (w.alloc (.map (es.push ⟨key, val, n⟩) (n + 1))) := by
  subst hb
  exact run_ins ht hk hkd hf
/-- What a look answers. -/
def lookV (z : Value) : Option (Nat × Value) → Value
  | some (_, v) => .tuple #[v, .bool true]
  | none => .tuple #[z, .bool false]
theorem run_look {P : Program} {w : World} {t k e : TypeId} {kd : TypeDesc} {b : Nat} {es : Array MapEntry} {n : Nat} {key z : Value} {r : Option (Nat × Value)}
    (ht : P.underlying t = some (.map k e)) (hk : P.underlying k = some kd) (hkd : MapKept.IsKey kd key) (hb : w.heap[b]? = some (.map es n)) (he : es.isEmpty = false)
    (hz : (zeroValue e).run P w = .ok z w) (hf : Instr.findNow kd key es.toList 0 = some r) :
    (Instr.lookup t (.map (some b)) key true).run P w = .ok (lookV z r) w := by
  have hc := MapKept.run_checkKey (w := w) hk hkd es.isEmpty 9999
  have hfk : (Instr.findKey k key es.toList).run P w = .ok r w := by
    simp [Instr.findKey, run_underlying hk, hf, Result.andThen]
  cases r with
  | none => simp [Instr.lookup, run_underlying ht, MapKept.run_getObj_map hb, hc, hfk, hz, Result.andThen, lookV]
  | some p => simp [Instr.lookup, run_underlying ht, MapKept.run_getObj_map hb, hc, hfk, Result.andThen, lookV]
/-- .. at the operation. -/
theorem wpList_ins {P : Program} {w : World} {ops : Array Oper} {rest : List Oper} {o : Oper} {a : Act} {Q : Exit → Act → World → Prop}
    (hg : o.guard = none) (m x v : Operand) (t : TypeId) (hop : o.op = Op.insert t m x v) {w' : World} {mv kv vv : Value} (hm : a.eval m = mv) (hx : a.eval x = kv) (hv : a.eval v = vv)
    (hrun : (Instr.mapUpdate t mv kv vv).run P w = .ok () w') (hK : wpList P ops Q rest (a.put o.dst undef) w') : wpList P ops Q (o :: rest) a w := by
  refine wpList_plain hg fun K' hK' => ?_
  unfold Oper.wp
  simp [execOp, hop, hm, hx, hv, hrun, Result.andThen]
  exact hK' _ _ hK
theorem wpList_look {P : Program} {w : World} {ops : Array Oper} {rest : List Oper} {o : Oper} {a : Act} {Q : Exit → Act → World → Prop}
    (hg : o.guard = none) (m x : Operand) (t : TypeId) (hop : o.op = Op.lookup t m x true) {mv kv v : Value} (hm : a.eval m = mv) (hx : a.eval x = kv)
    (hrun : (Instr.lookup t mv kv true).run P w = .ok v w) (hK : wpList P ops Q rest (a.put o.dst v) w) : wpList P ops Q (o :: rest) a w := by
  refine wpList_plain hg fun K' hK' => ?_
  unfold Oper.wp
  simp [execOp, hop, hm, hx, hrun, Result.andThen]
  exact hK' _ _ hK
end Hx
end Go.Proofs.YtbjgfaflikgobaaGreatDoor
namespace Go.Proofs.YtbjgfaflikgobaaGreatDoor
namespace Tr
open Lx Tx Nmb Es
set_option linter.unusedVariables false
/-- An attribute; a node. -/
structure At where
  space : List UInt8
  name : List UInt8
  value : List UInt8
deriving instance DecidableEq for At
structure Nd where
  kind : Nat
  space : List UInt8
  name : List UInt8
  attrs : List At
  text : List UInt8
  many : Int
deriving instance DecidableEq for Nd
/-- May attributes, may a node be? -/
def atOk (a : At) : Bool := fullL a.name && okT a.value && okT a.space
def key (a : At) : List UInt8 × List UInt8 := (a.space, a.name)
def atsOk (l : List At) : Bool := l.all atOk && decide ((l.map key).Nodup) && decide (l.length ≤ 16)
def ndOk (n : Nd) : Bool :=
  if n.kind = 1 then fullL n.name && n.text.isEmpty && okT n.space && atsOk n.attrs
  else if n.kind = 2 then n.name.isEmpty && n.space.isEmpty && n.attrs.isEmpty && decide (n.many = 0) && !n.text.isEmpty && okT n.text
  else false
/-- So many nodes with all that is within them, what stands behind, and whether the last one was a text. -/
def kidsD (g : List Nd → Option (List Nd)) : Nat → Bool → List Nd → Option (Bool × List Nd)
  | 0, b, l => some (b, l)
  | _ + 1, _, [] => none
  | k + 1, b, n :: l => if b = true ∧ n.kind = 2 then none else match g (n :: l) with
    | none => none
    | some r => kidsD g k (decide (n.kind = 2)) r
/-- What stands behind a node and all within it, elements being no more than so deep. -/
def restD : Nat → List Nd → Option (List Nd)
  | _, [] => none
  | 0, n :: l => if ndOk n = true ∧ n.kind = 2 then some l else none
  | d + 1, n :: l => if ndOk n = true ∧ 0 ≤ n.many then (kidsD (restD d) n.many.toNat false l).map (·.2) else none
/-- May a tree be? -/
def mayV (v : List Nd) : Bool := decide (v.length ≤ 512) && (v.head?.map fun n => decide (n.kind = 1)) == some true && decide (restD 12 v = some [])
theorem mayV_iff {v : List Nd} : mayV v = true ↔ v.length ≤ 512 ∧ (∃ n l, v = n :: l ∧ n.kind = 1) ∧ restD 12 v = some [] := by
  unfold mayV
  rw [Bool.and_eq_true, Bool.and_eq_true, decide_eq_true_eq, decide_eq_true_eq, beq_iff_eq, and_assoc]
  cases v with
  | nil => simp
  | cons n l => simp
/-- What a reader of nodes keeps to: it takes some, and looks at no more. -/
def Loc (g : List Nd → Option (List Nd)) : Prop := ∀ l r, g l = some r → ∃ p, p ≠ [] ∧ l = p ++ r ∧ ∀ x, g (p ++ x) = some x
theorem kidsD_loc {g : List Nd → Option (List Nd)} (hg : Loc g) : ∀ (k : Nat) (b : Bool) (l : List Nd) (b' : Bool) (r : List Nd), kidsD g k b l = some (b', r) → ∃ p, l = p ++ r ∧ k ≤ p.length ∧ ∀ x, kidsD g k b (p ++ x) = some (b', x) := by
  intro k
  induction k with
  | zero =>
    intro b l b' r h
    rw [kidsD] at h
    obtain ⟨rfl, rfl⟩ := (Prod.mk.injEq _ _ _ _).mp (Option.some.inj h)
    exact ⟨[], rfl, Nat.le_refl _, fun x => by rw [List.nil_append, kidsD]⟩
  | succ k ih =>
    intro b l b' r h
    cases l with
    | nil => rw [kidsD] at h; cases h
    | cons n l =>
      rw [kidsD] at h
      by_cases hb : b = true ∧ n.kind = 2
      · rw [if_pos hb] at h; cases h
      · rw [if_neg hb] at h
        cases hn : g (n :: l) with
        | none => rw [hn] at h; cases h
        | some y =>
          rw [hn] at h
          obtain ⟨q, hq, e1, h1⟩ := hg _ _ hn
          obtain ⟨p, e2, h2, h3⟩ := ih _ _ _ _ h
          cases q with
          | nil => exact absurd rfl hq
          | cons n' q =>
            injection e1 with e1 e3
            subst e1 e3
            refine ⟨n :: q ++ p, by rw [e2]; simp, by simp; omega, fun x => ?_⟩
            have := h1 (p ++ x)
            rw [List.append_assoc, List.cons_append, kidsD, if_neg hb, ← List.cons_append, this]
            exact h3 x
theorem restD_loc : ∀ d, Loc (restD d) := by
  intro d
  induction d with
  | zero =>
    intro l r h
    cases l with
    | nil => rw [restD] at h; cases h
    | cons n l =>
      rw [restD] at h
      by_cases hn : ndOk n = true ∧ n.kind = 2
      · rw [if_pos hn] at h
        injection h with h
        subst h
        exact ⟨[n], by simp, rfl, fun x => by rw [List.singleton_append, restD, if_pos hn]⟩
      · rw [if_neg hn] at h; cases h
  | succ d ih =>
    intro l r h
    cases l with
    | nil => rw [restD] at h; cases h
    | cons n l =>
      rw [restD] at h
      by_cases hn : ndOk n = true ∧ 0 ≤ n.many
      · rw [if_pos hn] at h
        cases hk : kidsD (restD d) n.many.toNat false l with
        | none => rw [hk] at h; cases h
        | some y =>
          rw [hk] at h
          obtain ⟨b', y⟩ := y
          have h : y = r := Option.some.inj h
          subst h
          obtain ⟨p, e, _, h3⟩ := kidsD_loc ih _ _ _ _ _ hk
          exact ⟨n :: p, by simp, by rw [e]; rfl, fun x => by rw [List.cons_append, restD, if_pos hn, h3]; rfl⟩
      · rw [if_neg hn] at h; cases h
theorem restD_len {d : Nat} {l r : List Nd} (h : restD d l = some r) : r.length < l.length := by
  obtain ⟨p, h1, rfl, _⟩ := restD_loc d l r h
  have := List.length_pos_iff.2 h1
  simp
  omega
theorem restD_drop {d : Nat} {l r : List Nd} (h : restD d l = some r) : r = l.drop (l.length - r.length) := by
  obtain ⟨p, h1, rfl, _⟩ := restD_loc d l r h
  rw [List.length_append, Nat.add_sub_cancel, List.drop_left]
theorem kidsD_len {d k : Nat} {b b' : Bool} {l r : List Nd} (h : kidsD (restD d) k b l = some (b', r)) : r.length + k ≤ l.length := by
  obtain ⟨p, rfl, h2, _⟩ := kidsD_loc (restD_loc d) k b l b' r h
  simp
  omega
theorem kidsD_mono {g g' : List Nd → Option (List Nd)} (hg : ∀ l r, g l = some r → g' l = some r) : ∀ (k : Nat) (b : Bool) (l : List Nd) (y : Bool × List Nd), kidsD g k b l = some y → kidsD g' k b l = some y := by
  intro k
  induction k with
  | zero => intro b l y h; rw [kidsD] at h ⊢; exact h
  | succ k ih =>
    intro b l y h
    cases l with
    | nil => rw [kidsD] at h; cases h
    | cons n l =>
      rw [kidsD] at h ⊢
      by_cases hb : b = true ∧ n.kind = 2
      · rw [if_pos hb] at h; cases h
      · rw [if_neg hb] at h ⊢
        cases hn : g (n :: l) with
        | none => rw [hn] at h; cases h
        | some z =>
          rw [hn] at h
          rw [hg _ _ hn]
          exact ih _ _ _ h
theorem ndOk_two {n : Nd} (h : ndOk n = true) (hk : n.kind = 2) : n.many = 0 ∧ n.name = [] ∧ n.space = [] ∧ n.attrs = [] ∧ n.text ≠ [] ∧ okT n.text = true := by
  unfold ndOk at h
  rw [if_neg (by omega), if_pos hk] at h
  simp only [Bool.and_eq_true, decide_eq_true_eq, List.isEmpty_iff, Bool.not_eq_true', List.isEmpty_eq_false_iff] at h
  obtain ⟨⟨⟨⟨⟨h1, h2⟩, h3⟩, h4⟩, h5⟩, h6⟩ := h
  exact ⟨h4, h1, h2, h3, h5, h6⟩
theorem ndOk_one {n : Nd} (h : ndOk n = true) (hk : n.kind = 1) : fullL n.name = true ∧ n.text = [] ∧ okT n.space = true ∧ atsOk n.attrs = true := by
  unfold ndOk at h
  rw [if_pos hk] at h
  simp only [Bool.and_eq_true, List.isEmpty_iff] at h
  obtain ⟨⟨⟨h1, h2⟩, h3⟩, h4⟩ := h
  exact ⟨h1, h2, h3, h4⟩
theorem ndOk_kind {n : Nd} (h : ndOk n = true) : n.kind = 1 ∨ n.kind = 2 := by
  unfold ndOk at h
  by_cases h1 : n.kind = 1
  · exact .inl h1
  · by_cases h2 : n.kind = 2
    · exact .inr h2
    · rw [if_neg h1, if_neg h2] at h; cases h
theorem restD_text {d : Nat} {n : Nd} {l : List Nd} (h : ndOk n = true) (hk : n.kind = 2) : restD d (n :: l) = some l := by
  cases d with
  | zero => rw [restD, if_pos ⟨h, hk⟩]
  | succ d =>
    have h0 := (ndOk_two h hk).1
    rw [restD, if_pos ⟨h, by omega⟩, h0]
    rfl
theorem restD_mono : ∀ d l r, restD d l = some r → restD (d + 1) l = some r := by
  intro d
  induction d with
  | zero =>
    intro l r h
    cases l with
    | nil => rw [restD] at h; cases h
    | cons n l =>
      rw [restD] at h
      by_cases hn : ndOk n = true ∧ n.kind = 2
      · rw [if_pos hn] at h
        rw [restD_text hn.1 hn.2]
        exact h
      · rw [if_neg hn] at h; cases h
  | succ d ih =>
    intro l r h
    cases l with
    | nil => rw [restD] at h; cases h
    | cons n l =>
      rw [restD] at h ⊢
      by_cases hn : ndOk n = true ∧ 0 ≤ n.many
      · rw [if_pos hn] at h ⊢
        cases hk : kidsD (restD d) n.many.toNat false l with
        | none => rw [hk] at h; cases h
        | some y =>
          rw [hk] at h
          rw [kidsD_mono ih _ _ _ _ hk]
          exact h
      · rw [if_neg hn] at h; cases h
theorem restD_le {d e : Nat} (hde : d ≤ e) {l r : List Nd} (h : restD d l = some r) : restD e l = some r := by
  induction hde with
  | refl => exact h
  | step _ ih => exact restD_mono _ _ _ ih
theorem kidsD_le {d e : Nat} (hde : d ≤ e) {k : Nat} {b : Bool} {l : List Nd} {y : Bool × List Nd} (h : kidsD (restD d) k b l = some y) : kidsD (restD e) k b l = some y := kidsD_mono (fun _ _ h => restD_le hde h) k b l y h
/-- A node that is read. -/
theorem restD_ok {d : Nat} {n : Nd} {l r : List Nd} (h : restD d (n :: l) = some r) : ndOk n = true ∧ 0 ≤ n.many ∧ ∃ b, kidsD (restD (d - 1)) n.many.toNat false l = some (b, r) := by
  cases d with
  | zero =>
    rw [restD] at h
    by_cases hn : ndOk n = true ∧ n.kind = 2
    · rw [if_pos hn] at h
      injection h with h
      have h0 := (ndOk_two hn.1 hn.2).1
      exact ⟨hn.1, by omega, false, by rw [h0, ← h]; rfl⟩
    · rw [if_neg hn] at h; cases h
  | succ d =>
    rw [restD] at h
    by_cases hn : ndOk n = true ∧ 0 ≤ n.many
    · rw [if_pos hn] at h
      cases hk : kidsD (restD d) n.many.toNat false l with
      | none => rw [hk] at h; cases h
      | some y =>
        rw [hk] at h
        obtain ⟨b, y⟩ := y
        have h : y = r := Option.some.inj h
        subst h
        exact ⟨hn.1, hn.2, b, by rw [Nat.add_sub_cancel, hk]⟩
    · rw [if_neg hn] at h; cases h
/-- Within what is read each node is read. -/
theorem kidsD_at {d : Nat} (hd : ∀ l r, restD d l = some r → ∀ i, i < l.length - r.length → ∃ r', restD d (l.drop i) = some r') : ∀ (k : Nat) (b b' : Bool) (l r : List Nd), kidsD (restD d) k b l = some (b', r) → ∀ i, i < l.length - r.length → ∃ r', restD d (l.drop i) = some r' := by
  intro k
  induction k with
  | zero =>
    intro b b' l r h i hi
    rw [kidsD] at h
    obtain ⟨rfl, rfl⟩ := (Prod.mk.injEq _ _ _ _).mp (Option.some.inj h)
    omega
  | succ k ih =>
    intro b b' l r h i hi
    cases l with
    | nil => rw [kidsD] at h; cases h
    | cons n l =>
      rw [kidsD] at h
      by_cases hb : b = true ∧ n.kind = 2
      · rw [if_pos hb] at h; cases h
      · rw [if_neg hb] at h
        cases hn : restD d (n :: l) with
        | none => rw [hn] at h; cases h
        | some y =>
          rw [hn] at h
          have h : kidsD (restD d) k (decide (n.kind = 2)) y = some (b', r) := h
          by_cases h1 : i < (n :: l).length - y.length
          · exact hd _ _ hn i h1
          · have hy := restD_drop hn
            have hyl := restD_len hn
            have hrl := kidsD_len h
            obtain ⟨r', hr'⟩ := ih _ _ _ _ h (i - ((n :: l).length - y.length)) (by omega)
            refine ⟨r', ?_⟩
            rw [hy, List.drop_drop] at hr'
            rw [← hy, show (n :: l).length - y.length + (i - ((n :: l).length - y.length)) = i by omega] at hr'
            exact hr'
theorem restD_at : ∀ (d : Nat) (l r : List Nd), restD d l = some r → ∀ i, i < l.length - r.length → ∃ r', restD d (l.drop i) = some r' := by
  intro d
  induction d with
  | zero =>
    intro l r h i hi
    cases l with
    | nil => rw [restD] at h; cases h
    | cons n l =>
      have h' := h
      rw [restD] at h
      by_cases hn : ndOk n = true ∧ n.kind = 2
      · rw [if_pos hn] at h
        injection h with h
        subst h
        simp at hi
        obtain rfl : i = 0 := by omega
        exact ⟨l, h'⟩
      · rw [if_neg hn] at h; cases h
  | succ d ih =>
    intro l r h i hi
    cases l with
    | nil => rw [restD] at h; cases h
    | cons n l =>
      cases i with
      | zero => exact ⟨r, h⟩
      | succ i =>
        obtain ⟨_, _, b, hk⟩ := restD_ok h
        rw [Nat.add_sub_cancel] at hk
        have hl := kidsD_len hk
        obtain ⟨r', h1⟩ := kidsD_at ih _ _ _ _ _ hk i (by simp at hi; omega)
        exact ⟨r', restD_mono _ _ _ h1⟩
/-- The places right within a node. -/
def places (g : List Nd → Option (List Nd)) : Nat → Nat → List Nd → List Nat
  | 0, _, _ => []
  | k + 1, p, l => p :: match g l with
    | none => []
    | some r => places g k (p + (l.length - r.length)) r
def under (v : List Nd) (i : Nat) : List Nat := match v[i]? with
  | none => []
  | some n => places (restD 12) n.many.toNat (i + 1) (v.drop (i + 1))
/-- What Kids, Sub, Words say no to. -/
def askedR (v : List Nd) (i : Int) : Int := if mayV v then (if i < 0 ∨ (v.length : Int) ≤ i then 2 else 0) else 8
/-- The tree at a place. -/
def partV (v : List Nd) (i : Nat) : List Nd := match restD 12 (v.drop i) with
  | none => []
  | some r => (v.drop i).take ((v.drop i).length - r.length)
theorem mayV_at {v : List Nd} (h : mayV v = true) {i : Nat} (hi : i < v.length) : ∃ r, restD 12 (v.drop i) = some r := by
  obtain ⟨_, _, h3⟩ := mayV_iff.1 h
  exact restD_at 12 v [] h3 i (by simpa using hi)
/-- The place behind a node of a tree that may be. -/
def behindV (v : List Nd) (i : Nat) : Nat := match restD 12 (v.drop i) with
  | none => 0
  | some r => v.length - r.length
theorem partV_eq {v : List Nd} {i : Nat} {r : List Nd} (h : restD 12 (v.drop i) = some r) : partV v i = (v.drop i).take ((v.drop i).length - r.length) ∧ v.drop i = partV v i ++ r := by
  have e : partV v i = (v.drop i).take ((v.drop i).length - r.length) := by unfold partV; rw [h]
  obtain ⟨p, _, h2, _⟩ := restD_loc 12 _ _ h
  refine ⟨e, ?_⟩
  rw [e, h2, List.length_append, Nat.add_sub_cancel, List.take_left]
/-- The first node of a tree alone; the whole tree. -/
theorem partV_may {v : List Nd} (h : mayV v = true) {i : Nat} (hi : i < v.length) (hk : (v[i]'hi).kind = 1) : mayV (partV v i) = true := by
  obtain ⟨r, hr⟩ := mayV_at h hi
  obtain ⟨h1, h2⟩ := partV_eq hr
  obtain ⟨p, hp, h4, h5⟩ := restD_loc 12 _ _ hr
  have h6 : partV v i = p := by rw [h1, h4, List.length_append, Nat.add_sub_cancel, List.take_left]
  have hl := (mayV_iff.1 h).1
  rw [h6]
  refine mayV_iff.2 ⟨?_, ?_, ?_⟩
  · have : (v.drop i).length = v.length - i := List.length_drop
    rw [h4, List.length_append] at this
    omega
  · cases p with
    | nil => exact absurd rfl hp
    | cons n p =>
      rw [List.drop_eq_getElem_cons hi] at h4
      injection h4 with h4 _
      exact ⟨n, p, rfl, h4 ▸ hk⟩
  · have := h5 []
    rwa [List.append_nil] at this
end Tr
end Go.Proofs.YtbjgfaflikgobaaGreatDoor
namespace Go.Proofs.YtbjgfaflikgobaaGreatDoor
namespace Tr
open Lx Tx Nmb Es
set_option linter.unusedVariables false
def pairsN (l : List At) : List Pr := l.map fun a => ⟨a.name, a.value⟩
def givenN (l : List Pr) : List At := l.map fun p => ⟨[], p.name, p.value⟩
/-- The tokens of so many nodes; of a node. -/
def toldK (g : List Nd → List Tk × List Nd) : Nat → List Nd → List Tk × List Nd
  | 0, l => ([], l)
  | k + 1, l => ((g l).1 ++ (toldK g k (g l).2).1, (toldK g k (g l).2).2)
def toldD : Nat → List Nd → List Tk × List Nd
  | _, [] => ([], [])
  | 0, n :: l => ([⟨4, [], [], n.text⟩], l)
  | d + 1, n :: l => if n.kind = 2 then ([⟨4, [], [], n.text⟩], l) else if n.many = 0 then ([⟨3, n.name, pairsN n.attrs, []⟩], l)
    else (⟨1, n.name, pairsN n.attrs, []⟩ :: ((toldK (toldD d) n.many.toNat l).1 ++ [⟨2, n.name, [], []⟩]), (toldK (toldD d) n.many.toNat l).2)
theorem toldK_rest {g : List Nd → Option (List Nd)} {t : List Nd → List Tk × List Nd} (ht : ∀ l r, g l = some r → (t l).2 = r) : ∀ (k : Nat) (b : Bool) (l : List Nd) (b' : Bool) (r : List Nd), kidsD g k b l = some (b', r) → (toldK t k l).2 = r := by
  intro k
  induction k with
  | zero =>
    intro b l b' r h
    rw [kidsD] at h
    obtain ⟨rfl, rfl⟩ := (Prod.mk.injEq _ _ _ _).mp (Option.some.inj h)
    rfl
  | succ k ih =>
    intro b l b' r h
    cases l with
    | nil => rw [kidsD] at h; cases h
    | cons n l =>
      rw [kidsD] at h
      by_cases hb : b = true ∧ n.kind = 2
      · rw [if_pos hb] at h; cases h
      · rw [if_neg hb] at h
        cases hn : g (n :: l) with
        | none => rw [hn] at h; cases h
        | some y =>
          rw [hn] at h
          rw [toldK, ht _ _ hn]
          exact ih _ _ _ _ h
theorem toldD_rest : ∀ (d : Nat) (l r : List Nd), restD d l = some r → (toldD d l).2 = r := by
  intro d
  induction d with
  | zero =>
    intro l r h
    cases l with
    | nil => rw [restD] at h; cases h
    | cons n l =>
      rw [restD] at h
      by_cases hn : ndOk n = true ∧ n.kind = 2
      · rw [if_pos hn] at h
        injection h with h
      · rw [if_neg hn] at h; cases h
  | succ d ih =>
    intro l r h
    cases l with
    | nil => rw [restD] at h; cases h
    | cons n l =>
      obtain ⟨h1, h2, b, h3⟩ := restD_ok h
      rw [Nat.add_sub_cancel] at h3
      rw [toldD]
      by_cases hk : n.kind = 2
      · rw [if_pos hk]
        rw [(ndOk_two h1 hk).1, show (0 : Int).toNat = 0 from rfl, kidsD] at h3
        exact (congrArg Prod.snd (Option.some.inj h3))
      · rw [if_neg hk]
        by_cases hm : n.many = 0
        · rw [if_pos hm]
          rw [hm, show (0 : Int).toNat = 0 from rfl, kidsD] at h3
          exact (congrArg Prod.snd (Option.some.inj h3))
        · rw [if_neg hm]
          exact toldK_rest ih _ _ _ _ _ h3
/-- How many tokens nodes have. -/
def cnt (v : List Nd) : Nat := v.length + v.countP fun n => decide (0 < n.many)
theorem cnt_app (a b : List Nd) : cnt (a ++ b) = cnt a + cnt b := by unfold cnt; rw [List.length_append, List.countP_append]; omega
theorem toldK_cnt {d : Nat} (ht : ∀ l r, restD d l = some r → (toldD d l).1.length + cnt r = cnt l) : ∀ (k : Nat) (b : Bool) (l : List Nd) (b' : Bool) (r : List Nd), kidsD (restD d) k b l = some (b', r) → (toldK (toldD d) k l).1.length + cnt r = cnt l := by
  intro k
  induction k with
  | zero =>
    intro b l b' r h
    rw [kidsD] at h
    obtain ⟨rfl, rfl⟩ := (Prod.mk.injEq _ _ _ _).mp (Option.some.inj h)
    simp [toldK]
  | succ k ih =>
    intro b l b' r h
    cases l with
    | nil => rw [kidsD] at h; cases h
    | cons n l =>
      rw [kidsD] at h
      by_cases hb : b = true ∧ n.kind = 2
      · rw [if_pos hb] at h; cases h
      · rw [if_neg hb] at h
        cases hn : restD d (n :: l) with
        | none => rw [hn] at h; cases h
        | some y =>
          rw [hn] at h
          have h1 := ht _ _ hn
          have h2 := ih _ _ _ _ h
          rw [toldK, toldD_rest _ _ _ hn, List.length_append]
          omega
theorem toldD_cnt : ∀ (d : Nat) (l r : List Nd), restD d l = some r → (toldD d l).1.length + cnt r = cnt l := by
  intro d
  induction d with
  | zero =>
    intro l r h
    cases l with
    | nil => rw [restD] at h; cases h
    | cons n l =>
      rw [restD] at h
      by_cases hn : ndOk n = true ∧ n.kind = 2
      · rw [if_pos hn] at h
        injection h with h
        subst h
        have := (ndOk_two hn.1 hn.2).1
        rw [toldD]
        unfold cnt
        rw [List.countP_cons, if_neg (by simp; omega)]
        simp
        omega
      · rw [if_neg hn] at h; cases h
  | succ d ih =>
    intro l r h
    cases l with
    | nil => rw [restD] at h; cases h
    | cons n l =>
      obtain ⟨h1, h2, b, h3⟩ := restD_ok h
      rw [Nat.add_sub_cancel] at h3
      rw [toldD]
      have hc : cnt (n :: l) = 1 + (if 0 < n.many then 1 else 0) + cnt l := by
        unfold cnt
        rw [List.countP_cons]
        simp
        split <;> omega
      by_cases hk : n.kind = 2
      · have h0 := (ndOk_two h1 hk).1
        rw [if_pos hk]
        rw [h0, show (0 : Int).toNat = 0 from rfl, kidsD] at h3
        obtain ⟨_, rfl⟩ := (Prod.mk.injEq _ _ _ _).mp (Option.some.inj h3)
        rw [hc, if_neg (by omega)]
        simp
      · rw [if_neg hk]
        by_cases hm : n.many = 0
        · rw [if_pos hm]
          rw [hm, show (0 : Int).toNat = 0 from rfl, kidsD] at h3
          obtain ⟨_, rfl⟩ := (Prod.mk.injEq _ _ _ _).mp (Option.some.inj h3)
          rw [hc, if_neg (by omega)]
          simp
        · rw [if_neg hm]
          have := toldK_cnt ih _ _ _ _ _ h3
          rw [hc, if_pos (by omega)]
          simp
          omega
/-- Has a tree no Space? -/
def rawN (n : Nd) : Bool := n.space.isEmpty && n.attrs.all fun a => a.space.isEmpty
def rawV (v : List Nd) : Bool := v.all rawN
theorem rawV_iff {v : List Nd} : rawV v = true ↔ ∀ n ∈ v, n.space = [] ∧ ∀ a ∈ n.attrs, a.space = [] := by
  unfold rawV rawN
  simp [List.all_eq_true]
/-- What Tokens answers. -/
def tokensR (v : List Nd) : List Tk × Int := if mayV v = true ∧ rawV v = true then (if 512 < (toldD 12 v).1.length then ([], 4) else ((toldD 12 v).1, 0)) else ([], 8)
/-- A tree under way: its nodes, the places of the open elements. -/
structure PS where
  V : List Nd
  O : List Nat
def bumpN (n : Nd) : Nd := { n with many := n.many + 1 }
def bump (O : List Nat) (V : List Nd) : List Nd := match O.getLast? with
  | none => V
  | some i => V.modify i bumpN
def nodeT (t : Tk) : Nd := if t.kind = 4 then ⟨2, [], [], [], t.text, 0⟩ else ⟨1, [], t.name, givenN t.attrs, [], 0⟩
def stepP (s : PS) (b : Bool) (t : Tk) : Except Int PS :=
  if t.kind = 4 then (if b = true then .error 80 else if s.O = [] then (if t.text.all blk = true then .ok s else .error 80) else .ok ⟨bump s.O s.V ++ [nodeT t], s.O⟩)
  else if t.kind = 2 then match s.O.getLast? with
    | none => .error 80
    | some i => if (s.V[i]?.map (·.name)) = some t.name then .ok ⟨s.V, s.O.dropLast⟩ else .error 80
  else if s.O = [] ∧ s.V ≠ [] then .error 80 else if s.O.length = 12 then .error 100
  else .ok ⟨bump s.O s.V ++ [nodeT t], if t.kind = 3 then s.O else s.O ++ [s.V.length]⟩
def runP : PS → Bool → List Tk → Except Int PS
  | s, _, [] => .ok s
  | s, b, t :: r => match stepP s b t with
    | .error e => .error e
    | .ok s' => runP s' (decide (t.kind = 4)) r
def endP (x : Except Int PS) : List Nd × Int := match x with
  | .error e => ([], e)
  | .ok s => if s.V = [] ∨ s.O ≠ [] then ([], 80) else (s.V, 0)
def parseR (l : List Tk) : List Nd × Int :=
  if 512 < l.length then ([], 4) else if l.all mayT = true then endP (runP ⟨[], []⟩ false l) else ([], 8)
theorem runP_ok {s s' : PS} {b : Bool} {t : Tk} {r : List Tk} (h : stepP s b t = .ok s') : runP s b (t :: r) = runP s' (decide (t.kind = 4)) r := by rw [runP, h]
theorem given_pairs {l : List At} (h : ∀ a ∈ l, a.space = []) : givenN (pairsN l) = l := by
  unfold givenN pairsN
  rw [List.map_map]
  refine (List.map_congr_left (g := id) fun a ha => ?_).trans (List.map_id _)
  have := h a ha
  cases a
  subst this
  rfl
theorem bump_snoc (O : List Nat) (i : Nat) (V : List Nd) : bump (O ++ [i]) V = V.modify i bumpN := by unfold bump; rw [List.getLast?_concat]
theorem modify_mid (A : List Nd) (n : Nd) (B : List Nd) : (A ++ n :: B).modify A.length bumpN = A ++ bumpN n :: B := by
  induction A with
  | nil => rfl
  | cons a A ih => rw [List.cons_append, List.length_cons, List.modify_succ_cons, ih]; rfl
/-- A node's tokens make that node. -/
def Runs (d : Nat) : Prop := ∀ (l r p : List Nd) (V : List Nd) (O : List Nat) (b : Bool) (n : Nd) (l' : List Nd) (T : List Tk), restD d l = some r → l = p ++ r → rawV p = true → l = n :: l' → O.length = 12 - d → d ≤ 12 → (O ≠ [] ∨ (V = [] ∧ n.kind = 1)) → ¬ (b = true ∧ n.kind = 2) →
    runP ⟨V, O⟩ b ((toldD d l).1 ++ T) = runP ⟨bump O V ++ p, O⟩ (decide (n.kind = 2)) T
theorem kids_run {d : Nat} (hR : Runs d) (hd : d ≤ 12) : ∀ (k : Nat) (l r p A B : List Nd) (n : Nd) (O : List Nat) (b b' : Bool) (T : List Tk), kidsD (restD d) k b l = some (b', r) → l = p ++ r → rawV p = true → O.length + 1 = 12 - d →
    ∃ b2, runP ⟨A ++ n :: B, O ++ [A.length]⟩ b ((toldK (toldD d) k l).1 ++ T) = runP ⟨A ++ { n with many := n.many + k } :: (B ++ p), O ++ [A.length]⟩ b2 T := by
  intro k
  induction k with
  | zero =>
    intro l r p A B n O b b' T h hl hp hO
    rw [kidsD] at h
    obtain ⟨rfl, rfl⟩ := (Prod.mk.injEq _ _ _ _).mp (Option.some.inj h)
    have : p = [] := by simpa using hl
    subst this
    exact ⟨b, by simp [toldK]⟩
  | succ k ih =>
    intro l r p A B n O b b' T h hl hp hO
    cases l with
    | nil => rw [kidsD] at h; cases h
    | cons m l =>
      rw [kidsD] at h
      by_cases hb : b = true ∧ m.kind = 2
      · rw [if_pos hb] at h; cases h
      · rw [if_neg hb] at h
        cases hn : restD d (m :: l) with
        | none => rw [hn] at h; cases h
        | some y =>
          rw [hn] at h
          have h : kidsD (restD d) k (decide (m.kind = 2)) y = some (b', r) := h
          obtain ⟨q, hq, e1, _⟩ := restD_loc d _ _ hn
          obtain ⟨p2, e2, _⟩ := kidsD_loc (restD_loc d) _ _ _ _ _ h
          have e3 : p = q ++ p2 := by
            have : p ++ r = (q ++ p2) ++ r := by rw [← hl, e1, e2, List.append_assoc]
            exact List.append_cancel_right this
          have hq2 : rawV q = true ∧ rawV p2 = true := by
            rw [e3] at hp
            unfold rawV at hp ⊢
            rw [List.all_append, Bool.and_eq_true] at hp
            exact hp
          obtain ⟨b2, h2⟩ := ih y r p2 A (B ++ q) (bumpN n) O (decide (m.kind = 2)) b' T h e2 hq2.2 hO
          refine ⟨b2, ?_⟩
          rw [toldK, toldD_rest _ _ _ hn, List.append_assoc, hR _ _ q _ _ b m l _ hn e1 hq2.1 rfl (by rw [List.length_append]; simpa using hO) hd (.inl (by simp)) hb, bump_snoc, modify_mid, List.append_assoc, List.cons_append]
          rw [h2, e3]
          show runP ⟨A ++ { n with many := n.many + 1 + (k : Int) } :: (B ++ q ++ p2), _⟩ b2 T = _
          rw [show n.many + 1 + (k : Int) = n.many + ((k + 1 : Nat) : Int) by omega, List.append_assoc]
theorem runs_all : ∀ d, Runs d := by
  intro d
  have text : ∀ (n : Nd) (V : List Nd) (O : List Nat) (b : Bool) (T : List Tk), ndOk n = true → n.kind = 2 → O ≠ [] → b ≠ true → runP ⟨V, O⟩ b (⟨4, [], [], n.text⟩ :: T) = runP ⟨bump O V ++ [n], O⟩ (decide (n.kind = 2)) T := by
    intro n V O b T h1 h2 h3 h4
    obtain ⟨k1, k2, k3, k4, _, _⟩ := ndOk_two h1 h2
    have e : stepP ⟨V, O⟩ b ⟨4, [], [], n.text⟩ = .ok ⟨bump O V ++ [n], O⟩ := by
      unfold stepP
      rw [if_pos rfl, if_neg h4, if_neg h3]
      have : nodeT ⟨4, [], [], n.text⟩ = n := by
        unfold nodeT
        rw [if_pos rfl]
        cases n
        dsimp only at h2 k1 k2 k3 k4
        subst h2 k1 k2 k3 k4
        rfl
      rw [this]
    rw [runP_ok e, h2]
    rfl
  induction d with
  | zero =>
    intro l r p V O b n l' T h hl hp hn hO hd hOV hb
    subst hn
    rw [restD] at h
    by_cases hk : ndOk n = true ∧ n.kind = 2
    · rw [if_pos hk] at h
      injection h with h
      subst h
      have e : p = [n] := by
        have : [n] ++ l' = p ++ l' := hl
        exact (List.append_cancel_right this).symm
      subst e
      rw [toldD]
      rcases hOV with h3 | ⟨_, h3⟩
      · exact text n V O b T hk.1 hk.2 h3 (fun h4 => hb ⟨h4, hk.2⟩)
      · omega
    · rw [if_neg hk] at h; cases h
  | succ d ih =>
    intro l r p V O b n l' T h hl hp hn hO hd hOV hb
    subst hn
    obtain ⟨h1, h2, bb, h3⟩ := restD_ok h
    rw [Nat.add_sub_cancel] at h3
    obtain ⟨p', e', _⟩ := kidsD_loc (restD_loc d) _ _ _ _ _ h3
    have ep : p = n :: p' := by
      have : (n :: p') ++ r = p ++ r := by rw [← hl, List.cons_append, ← e']
      exact (List.append_cancel_right this).symm
    subst ep
    have hraw : rawV p' = true ∧ n.space = [] ∧ ∀ a ∈ n.attrs, a.space = [] := by
      have hr := rawV_iff.1 hp
      exact ⟨rawV_iff.2 fun m hm => hr m (List.mem_cons_of_mem _ hm), hr n List.mem_cons_self⟩
    rw [toldD]
    by_cases hk : n.kind = 2
    · rw [if_pos hk]
      have h0 := (ndOk_two h1 hk).1
      rw [h0, show (0 : Int).toNat = 0 from rfl, kidsD] at h3
      obtain ⟨_, e3⟩ := (Prod.mk.injEq _ _ _ _).mp (Option.some.inj h3)
      have ep : p' = [] := by rw [e'] at e3; simpa using e3
      subst ep
      rcases hOV with h4 | ⟨_, h4⟩
      · exact text n V O b T h1 hk h4 (fun h5 => hb ⟨h5, hk⟩)
      · omega
    · rw [if_neg hk]
      have hk1 : n.kind = 1 := (ndOk_kind h1).resolve_right hk
      obtain ⟨f1, f2, f3, f4⟩ := ndOk_one h1 hk1
      have en : ∀ (k : Nat), k ≠ 4 → nodeT ⟨k, n.name, pairsN n.attrs, []⟩ = { n with many := 0 } := by
        intro k hk4
        unfold nodeT
        rw [if_neg hk4]
        show (⟨1, [], n.name, givenN (pairsN n.attrs), [], 0⟩ : Nd) = _
        rw [given_pairs hraw.2.2]
        have := hraw.2.1
        cases n
        dsimp only at this hk1 f2 ⊢
        subst this hk1 f2
        rfl
      have g1 : ¬ (O = [] ∧ V ≠ []) := by
        rintro ⟨a1, a2⟩
        rcases hOV with h4 | ⟨h4, _⟩
        · exact h4 a1
        · exact a2 h4
      have g2 : O.length ≠ 12 := by omega
      have hd2 : decide (n.kind = 2) = false := decide_eq_false hk
      by_cases hm : n.many = 0
      · rw [if_pos hm]
        rw [hm, show (0 : Int).toNat = 0 from rfl, kidsD] at h3
        obtain ⟨_, e3⟩ := (Prod.mk.injEq _ _ _ _).mp (Option.some.inj h3)
        have ep : p' = [] := by rw [e'] at e3; simpa using e3
        subst ep
        have e : stepP ⟨V, O⟩ b ⟨3, n.name, pairsN n.attrs, []⟩ = .ok ⟨bump O V ++ [n], O⟩ := by
          unfold stepP
          rw [if_neg (show ¬ (3 : Nat) = 4 by decide), if_neg (show ¬ (3 : Nat) = 2 by decide), if_neg g1, if_neg g2, en 3 (by decide), if_pos rfl]
          rw [← hm]
        rw [List.singleton_append, runP_ok e, hd2]
        rfl
      · rw [if_neg hm]
        have e : stepP ⟨V, O⟩ b ⟨1, n.name, pairsN n.attrs, []⟩ = .ok ⟨bump O V ++ [{ n with many := 0 }], O ++ [V.length]⟩ := by
          unfold stepP
          rw [if_neg (show ¬ (1 : Nat) = 4 by decide), if_neg (show ¬ (1 : Nat) = 2 by decide), if_neg g1, if_neg g2, en 1 (by decide), if_neg (show ¬ (1 : Nat) = 3 by decide)]
        have hbl : (bump O V).length = V.length := by
          unfold bump
          cases O.getLast? with
          | none => rfl
          | some i => exact List.length_modify ..
        rw [List.cons_append, runP_ok e, List.append_assoc]
        obtain ⟨b2, h5⟩ := kids_run ih (by omega) n.many.toNat l' r p' (bump O V) [] { n with many := 0 } O false bb ([⟨2, n.name, [], []⟩] ++ T) h3 e' hraw.1 (by omega)
        rw [hbl] at h5
        have h6 : decide ((1 : Nat) = 4) = false := rfl
        rw [show decide ((⟨1, n.name, pairsN n.attrs, []⟩ : Tk).kind = 4) = false from rfl, h5]
        have en2 : ({ n with many := (0 : Int) + (n.many.toNat : Int) } : Nd) = n := by
          rw [show (0 : Int) + (n.many.toNat : Int) = n.many by omega]
        show runP ⟨bump O V ++ { n with many := (0 : Int) + (n.many.toNat : Int) } :: ([] ++ p'), O ++ [V.length]⟩ b2 (⟨2, n.name, [], []⟩ :: T) = _
        rw [en2, List.nil_append]
        have e7 : stepP ⟨bump O V ++ n :: p', O ++ [V.length]⟩ b2 ⟨2, n.name, [], []⟩ = .ok ⟨bump O V ++ n :: p', O⟩ := by
          unfold stepP
          rw [if_neg (show ¬ (2 : Nat) = 4 by decide), if_pos rfl]
          dsimp only
          rw [List.getLast?_concat]
          dsimp only
          rw [if_pos (by rw [← hbl, List.getElem?_append_right (Nat.le_refl _)]; simp), List.dropLast_concat]
        rw [runP_ok e7, hd2]
        rfl
/-- A tree's tokens make that tree. -/
theorem parse_told {v : List Nd} (h1 : mayV v = true) (h2 : rawV v = true) : runP ⟨[], []⟩ false (toldD 12 v).1 = .ok ⟨v, []⟩ := by
  obtain ⟨_, ⟨n, l, rfl, hk⟩, h3⟩ := mayV_iff.1 h1
  have := runs_all 12 (n :: l) [] (n :: l) [] [] false n l [] h3 (by simp) h2 rfl rfl (Nat.le_refl _) (.inr ⟨rfl, hk⟩) (by simp)
  rw [List.append_nil] at this
  rw [this]
  rfl
end Tr
end Go.Proofs.YtbjgfaflikgobaaGreatDoor
namespace Go.Proofs.YtbjgfaflikgobaaGreatDoor
namespace Tr
open Lx Tx Nmb Es
set_option linter.unusedVariables false
theorem attrsF_iff : ∀ (l acc : List Pr), attrsF acc l = true ↔ ((l.map (·.name)).Nodup ∧ (∀ p ∈ l, fullL p.name = true ∧ okT p.value = true ∧ hasL acc p.name = false)) := by
  intro l
  induction l with
  | nil => intro acc; simp [attrsF]
  | cons p r ih =>
    intro acc
    rw [attrsF]
    simp only [Bool.and_eq_true, Bool.not_eq_true', ih, List.map_cons, List.nodup_cons, List.mem_cons, forall_eq_or_imp]
    have hh : ∀ x : Pr, hasL (acc ++ [p]) x.name = false ↔ hasL acc x.name = false ∧ p.name ≠ x.name := by
      intro x
      unfold hasL
      rw [List.any_append, Bool.or_eq_false_iff]
      simp
    constructor
    · rintro ⟨⟨⟨h1, h2⟩, h3⟩, h4, h5⟩
      refine ⟨⟨fun hm => ?_, h4⟩, ⟨h1, h3, h2⟩, fun x hx => ?_⟩
      · obtain ⟨x, hx, e⟩ := List.mem_map.1 hm
        exact ((hh x).1 (h5 x hx).2.2).2 e.symm
      · obtain ⟨k1, k2, k3⟩ := h5 x hx
        exact ⟨k1, k2, ((hh x).1 k3).1⟩
    · rintro ⟨⟨h1, h2⟩, ⟨h3, h4, h5⟩, h6⟩
      refine ⟨⟨⟨h3, h5⟩, h4⟩, h2, fun x hx => ?_⟩
      obtain ⟨k1, k2, k3⟩ := h6 x hx
      exact ⟨k1, k2, (hh x).2 ⟨k3, fun e => h1 (List.mem_map.2 ⟨x, hx, e.symm⟩)⟩⟩
theorem atsOk_given {l : List Pr} (h : attrsOk l = true) : atsOk (givenN l) = true := by
  unfold attrsOk at h
  rw [Bool.and_eq_true, decide_eq_true_eq, attrsF_iff] at h
  obtain ⟨⟨h1, h2⟩, h3⟩ := h
  unfold atsOk
  simp only [Bool.and_eq_true, decide_eq_true_eq]
  refine ⟨⟨List.all_eq_true.2 fun a ha => ?_, ?_⟩, by unfold givenN; rwa [List.length_map]⟩
  · obtain ⟨p, hp, rfl⟩ := List.mem_map.1 ha
    obtain ⟨k1, k2, _⟩ := h2 p hp
    unfold atOk
    rw [show fullL p.name = true from k1, show okT p.value = true from k2]
    rfl
  · have : (givenN l).map key = (l.map (·.name)).map fun x => (([] : List UInt8), x) := by
      unfold givenN
      rw [List.map_map, List.map_map]
      rfl
    rw [this]
    exact List.Pairwise.map _ (fun a b hab e => hab ((Prod.mk.injEq _ _ _ _).mp e).2) h1
theorem atsOk_pairs {l : List At} (h : atsOk l = true) (hr : ∀ a ∈ l, a.space = []) : attrsOk (pairsN l) = true := by
  unfold atsOk at h
  simp only [Bool.and_eq_true, decide_eq_true_eq] at h
  obtain ⟨⟨h1, h2⟩, h3⟩ := h
  unfold attrsOk
  rw [Bool.and_eq_true, decide_eq_true_eq, attrsF_iff]
  refine ⟨⟨?_, fun p hp => ?_⟩, by unfold pairsN; rwa [List.length_map]⟩
  · have e : (pairsN l).map (·.name) = l.map (·.name) := by
      unfold pairsN
      rw [List.map_map]
      rfl
    have e2 : l.map key = (l.map (·.name)).map fun x => (([] : List UInt8), x) := by
      rw [List.map_map]
      exact List.map_congr_left fun a ha => by show (a.space, a.name) = ([], a.name); rw [hr a ha]
    rw [e2] at h2
    rw [e]
    exact List.Pairwise.of_map _ (fun a b hab e => hab (by rw [e])) h2
  · obtain ⟨a, ha, rfl⟩ := List.mem_map.1 hp
    have := List.all_eq_true.1 h1 a ha
    unfold atOk at this
    simp only [Bool.and_eq_true] at this
    exact ⟨this.1.1, this.1.2, rfl⟩
theorem nodeT_ok {t : Tk} (h : mayT t = true) (h2 : t.kind ≠ 2) : ndOk (nodeT t) = true ∧ rawN (nodeT t) = true ∧ (nodeT t).many = 0 ∧ (nodeT t).kind = (if t.kind = 4 then 2 else 1) := by
  rcases mayT_cases h with ⟨b, hk, k1, k3, k4⟩ | ⟨hk, _⟩ | ⟨hk, k1, k2, k3, k4⟩
  · have hk4 : t.kind ≠ 4 := by rw [hk]; cases b <;> decide
    have e : nodeT t = ⟨1, [], t.name, givenN t.attrs, [], 0⟩ := by unfold nodeT; rw [if_neg hk4]
    refine ⟨?_, ?_, by rw [e], by rw [e, if_neg hk4]⟩
    · rw [e]
      unfold ndOk
      rw [if_pos rfl]
      simp only [k1, atsOk_given k3]
      rfl
    · rw [e]
      unfold rawN givenN
      simp
  · exact absurd hk h2
  · have e : nodeT t = ⟨2, [], [], [], t.text, 0⟩ := by unfold nodeT; rw [if_pos hk]
    refine ⟨?_, by rw [e]; rfl, by rw [e], by rw [e, if_pos hk]⟩
    rw [e]
    unfold ndOk
    rw [if_neg (show ¬ (2 : Nat) = 1 by decide), if_pos rfl]
    simp [k3, k4]
theorem kidsD_snoc {g : List Nd → Option (List Nd)} : ∀ (k : Nat) (b b1 : Bool) (l : List Nd) (n : Nd) (m r : List Nd), kidsD g k b l = some (b1, n :: m) → ¬ (b1 = true ∧ n.kind = 2) → g (n :: m) = some r → kidsD g (k + 1) b l = some (decide (n.kind = 2), r) := by
  intro k
  induction k with
  | zero =>
    intro b b1 l n m r h hb hg
    rw [kidsD] at h
    obtain ⟨rfl, rfl⟩ := (Prod.mk.injEq _ _ _ _).mp (Option.some.inj h)
    rw [kidsD, if_neg hb, hg]
    rfl
  | succ k ih =>
    intro b b1 l n m r h hb hg
    cases l with
    | nil => rw [kidsD] at h; cases h
    | cons x l =>
      rw [kidsD] at h
      by_cases hx : b = true ∧ x.kind = 2
      · rw [if_pos hx] at h; cases h
      · rw [if_neg hx] at h
        cases hn : g (x :: l) with
        | none => rw [hn] at h; cases h
        | some y =>
          rw [hn] at h
          rw [kidsD, if_neg hx, hn]
          exact ih _ _ _ _ _ _ h hb hg
theorem kidsD_more {d k : Nat} {b b1 : Bool} {l : List Nd} {n : Nd} {m : List Nd} (h : kidsD (restD d) k b l = some (b1, [])) (hb : ¬ (b1 = true ∧ n.kind = 2)) (hg : restD d (n :: m) = some []) : kidsD (restD d) (k + 1) b (l ++ n :: m) = some (decide (n.kind = 2), []) := by
  obtain ⟨p, e, _, h3⟩ := kidsD_loc (restD_loc d) _ _ _ _ _ h
  rw [List.append_nil] at e
  subst e
  exact kidsD_snoc k b b1 _ n m [] (h3 _) hb hg
/-- An open element, and what lies within it so far. -/
structure Fr where
  n : Nd
  ks : List Nd
def flatF : List Fr → List Nd
  | [] => []
  | f :: fs => f.n :: (f.ks ++ flatF fs)
def posF : Nat → List Fr → List Nat
  | _, [] => []
  | p, f :: fs => p :: posF (p + 1 + f.ks.length) fs
theorem flatF_snoc (gs : List Fr) (f : Fr) : flatF (gs ++ [f]) = flatF gs ++ f.n :: f.ks := by
  induction gs with
  | nil => simp [flatF]
  | cons g gs ih => simp [flatF, ih]
theorem posF_snoc : ∀ (gs : List Fr) (f : Fr) (p : Nat), posF p (gs ++ [f]) = posF p gs ++ [p + (flatF gs).length] := by
  intro gs
  induction gs with
  | nil => intro f p; simp [posF, flatF]
  | cons g gs ih =>
    intro f p
    rw [List.cons_append, posF, posF, ih, List.cons_append, flatF, List.length_cons, List.length_append]
    rw [show p + 1 + g.ks.length + (flatF gs).length = p + (g.ks.length + (flatF gs).length + 1) by omega]
/-- So many nodes may be within it. -/
def frOk (d : Nat) (f : Fr) (m : Nat) (b : Bool) : Prop := ndOk f.n = true ∧ f.n.kind = 1 ∧ rawN f.n = true ∧ rawV f.ks = true ∧ 1 ≤ d ∧ kidsD (restD (d - 1)) m false f.ks = some (b, [])
def okG : Nat → List Fr → Prop
  | _, [] => True
  | d, f :: gs => (1 ≤ f.n.many ∧ ∃ b, frOk d f (f.n.many.toNat - 1) b) ∧ okG (d - 1) gs
theorem okG_snoc : ∀ (gs : List Fr) (f : Fr) (d : Nat), okG d (gs ++ [f]) ↔ okG d gs ∧ (1 ≤ f.n.many ∧ ∃ b, frOk (d - gs.length) f (f.n.many.toNat - 1) b) := by
  intro gs
  induction gs with
  | nil => intro f d; simp [okG]
  | cons g gs ih =>
    intro f d
    rw [List.cons_append, okG, okG, ih, List.length_cons, show d - 1 - gs.length = d - (gs.length + 1) by omega, and_assoc, and_assoc, and_assoc]
def cntF (fs : List Fr) : Nat := (fs.map fun f => 1 + cnt f.ks).sum
/-- Where a run over tokens stands. -/
def InvP (s : PS) (b : Bool) (i : Nat) : Prop :=
  (∃ gs f b1, s.V = flatF gs ++ f.n :: f.ks ∧ s.O = posF 0 gs ++ [(flatF gs).length] ∧ okG 12 gs ∧ 0 ≤ f.n.many ∧ frOk (12 - gs.length) f f.n.many.toNat b1 ∧ (b1 = true → b = true) ∧ cntF gs + 1 + cnt f.ks ≤ i) ∨
  (s.O = [] ∧ (s.V = [] ∨ ((∃ n l, s.V = n :: l ∧ n.kind = 1) ∧ restD 12 s.V = some [] ∧ rawV s.V = true ∧ cnt s.V ≤ i)))
theorem bump_at (A : List Nd) (n : Nd) (B : List Nd) (O : List Nat) : bump (O ++ [A.length]) (A ++ n :: B) = A ++ bumpN n :: B := by rw [bump_snoc, modify_mid]
theorem cnt_one {n : Nd} (h : n.many = 0) : cnt [n] = 1 := by
  unfold cnt
  rw [List.countP_cons, if_neg (by simp; omega)]
  simp
theorem frOk_more {d : Nat} {f : Fr} {b1 : Bool} {m : Nd} {ks : List Nd} (h0 : 0 ≤ f.n.many) (h : frOk d f f.n.many.toNat b1) (hb : ¬ (b1 = true ∧ m.kind = 2)) (hm : restD (d - 1) (m :: ks) = some []) (hr : rawV (m :: ks) = true) :
    frOk d ⟨bumpN f.n, f.ks ++ m :: ks⟩ (bumpN f.n).many.toNat (decide (m.kind = 2)) := by
  obtain ⟨k1, k2, k3, k4, k5, k6⟩ := h
  refine ⟨?_, k2, k3, ?_, k5, ?_⟩
  · unfold ndOk at k1 ⊢
    rw [if_pos k2] at k1
    rw [if_pos (show (bumpN f.n).kind = 1 from k2)]
    exact k1
  · show rawV (f.ks ++ m :: ks) = true
    unfold rawV at k4 hr ⊢
    rw [List.all_append, Bool.and_eq_true]
    exact ⟨k4, hr⟩
  · have e : (bumpN f.n).many.toNat = f.n.many.toNat + 1 := by show (f.n.many + 1).toNat = _; omega
    rw [e]
    exact kidsD_more k6 hb hm
theorem InvP.step {s s' : PS} {b : Bool} {t : Tk} {i : Nat} (h : InvP s b i) (ht : mayT t = true) (hs : stepP s b t = .ok s') : InvP s' (decide (t.kind = 4)) (i + 1) := by
  unfold stepP at hs
  by_cases h4 : t.kind = 4
  · rw [if_pos h4] at hs
    by_cases hb : b = true
    · rw [if_pos hb] at hs; cases hs
    · rw [if_neg hb] at hs
      by_cases hO : s.O = []
      · rw [if_pos hO] at hs
        by_cases hw : t.text.all blk = true
        · rw [if_pos hw] at hs
          injection hs with hs
          subst hs
          rcases h with ⟨gs, f, _, _, e, _⟩ | ⟨e, h⟩
          · rw [hO] at e; simp at e
          · refine .inr ⟨e, ?_⟩
            rcases h with h | ⟨h1, h2, h3, h4⟩
            · exact .inl h
            · exact .inr ⟨h1, h2, h3, by omega⟩
        · rw [if_neg hw] at hs; cases hs
      · rw [if_neg hO] at hs
        injection hs with hs
        subst hs
        obtain ⟨n1, n2, n3, n4⟩ := nodeT_ok ht (by omega)
        rw [if_pos h4] at n4
        rcases h with ⟨gs, f, b1, eV, eO, hG, h0, hF, hb1, hc⟩ | ⟨e, _⟩
        · refine .inl ⟨gs, ⟨bumpN f.n, f.ks ++ [nodeT t]⟩, _, ?_, eO, hG, ?_, frOk_more h0 hF (fun hh => hb (hb1 hh.1)) (restD_text n1 n4) ?_, fun _ => by rw [h4]; rfl, ?_⟩
          · show bump s.O s.V ++ [nodeT t] = _
            rw [eO, eV, bump_at, List.append_assoc]
            rfl
          · show 0 ≤ f.n.many + 1
            omega
          · unfold rawV
            simp [n2]
          · show cntF gs + 1 + cnt (f.ks ++ [nodeT t]) ≤ i + 1
            rw [cnt_app, cnt_one n3]
            omega
        · exact absurd e hO
  · rw [if_neg h4] at hs
    rw [decide_eq_false h4]
    by_cases h2 : t.kind = 2
    · rw [if_pos h2] at hs
      rcases h with ⟨gs, f, b1, eV, eO, hG, h0, hF, hb1, hc⟩ | ⟨e, _⟩
      · rw [eO, List.getLast?_concat] at hs
        dsimp only at hs
        by_cases hn : (s.V[(flatF gs).length]?.map (·.name)) = some t.name
        · rw [if_pos hn, List.dropLast_concat] at hs
          injection hs with hs
          subst hs
          obtain ⟨k1, k2, k3, k4, k5, k6⟩ := hF
          have hrest : restD (12 - gs.length) (f.n :: f.ks) = some [] := by
            obtain ⟨d, hd⟩ : ∃ d, 12 - gs.length = d + 1 := ⟨12 - gs.length - 1, by omega⟩
            rw [hd, Nat.add_sub_cancel] at k6
            rw [hd, restD, if_pos ⟨k1, h0⟩, k6]
            rfl
          have hraw : rawV (f.n :: f.ks) = true := by
            unfold rawV at k4 ⊢
            rw [List.all_cons, k3, k4]
            rfl
          have hcn : cnt (f.n :: f.ks) ≤ cnt f.ks + 2 := by
            rw [show f.n :: f.ks = [f.n] ++ f.ks from rfl, cnt_app]
            have : cnt [f.n] ≤ 2 := by
              unfold cnt
              have := List.countP_le_length (p := fun n : Nd => decide (0 < n.many)) (l := [f.n])
              simp at this ⊢
              omega
            omega
          rcases List.eq_nil_or_concat gs with rfl | ⟨gs', g, egs⟩
          · refine .inr ⟨rfl, .inr ⟨⟨f.n, f.ks, eV, k2⟩, ?_, ?_, ?_⟩⟩
            · show restD 12 s.V = some []
              rw [eV]
              exact hrest
            · show rawV s.V = true
              rw [eV]
              exact hraw
            · show cnt s.V ≤ i + 1
              rw [eV]
              show cnt (f.n :: f.ks) ≤ i + 1
              simp [cntF] at hc
              omega
          · rw [List.concat_eq_append] at egs
            subst egs
            obtain ⟨g1, g2, b2, g3⟩ := (okG_snoc gs' g 12).1 hG
            rw [List.length_append, List.length_singleton] at hrest
            obtain ⟨q1, q2, q3, q4, q5, q6⟩ := g3
            refine .inl ⟨gs', ⟨g.n, g.ks ++ f.n :: f.ks⟩, false, ?_, ?_, g1, by show 0 ≤ g.n.many; omega, ⟨q1, q2, q3, ?_, q5, ?_⟩, (fun hh => by cases hh), ?_⟩
            · show s.V = _
              rw [eV, flatF_snoc]
              simp
            · show posF 0 (gs' ++ [g]) = _
              rw [posF_snoc, Nat.zero_add]
            · show rawV (g.ks ++ f.n :: f.ks) = true
              unfold rawV at q4 hraw ⊢
              rw [List.all_append, q4, hraw]
              rfl
            · have := kidsD_more (n := f.n) (m := f.ks) q6 (fun hh => by omega) (by rw [show 12 - gs'.length - 1 = 12 - (gs'.length + 1) by omega]; exact hrest)
              rw [show g.n.many.toNat - 1 + 1 = g.n.many.toNat by omega, k2] at this
              exact this
            · show cntF gs' + 1 + cnt (g.ks ++ f.n :: f.ks) ≤ i + 1
              rw [cnt_app]
              unfold cntF at hc ⊢
              rw [List.map_append, List.sum_append] at hc
              simp at hc
              omega
        · rw [if_neg hn] at hs; cases hs
      · rw [e] at hs
        cases hs
    · rw [if_neg h2] at hs
      obtain ⟨n1, n2, n3, n4⟩ := nodeT_ok ht h2
      rw [if_neg h4] at n4
      by_cases hO : s.O = [] ∧ s.V ≠ []
      · rw [if_pos hO] at hs; cases hs
      · rw [if_neg hO] at hs
        by_cases h12 : s.O.length = 12
        · rw [if_pos h12] at hs; cases hs
        · rw [if_neg h12] at hs
          injection hs with hs
          subst hs
          have hrawt : rawV [nodeT t] = true := by unfold rawV; simp [n2]
          have hone : ∀ d, 1 ≤ d → restD d [nodeT t] = some [] := by
            intro d hd
            obtain ⟨d, rfl⟩ : ∃ e, d = e + 1 := ⟨d - 1, by omega⟩
            rw [restD, if_pos ⟨n1, by omega⟩, n3]
            rfl
          rcases h with ⟨gs, f, b1, eV, eO, hG, h0, hF, hb1, hc⟩ | ⟨e, h⟩
          · have hlen : (posF 0 gs).length = gs.length := by
              have : ∀ (gs : List Fr) (p : Nat), (posF p gs).length = gs.length := by
                intro gs
                induction gs with
                | nil => intro p; rfl
                | cons g gs ih => intro p; simp [posF, ih]
              exact this gs 0
            rw [eO, List.length_append, List.length_singleton, hlen] at h12
            have hd := hF.2.2.2.2.1
            have eb : bump s.O s.V = flatF gs ++ bumpN f.n :: f.ks := by rw [eO, eV, bump_at]
            by_cases h3 : t.kind = 3
            · rw [if_pos h3, eb]
              refine .inl ⟨gs, ⟨bumpN f.n, f.ks ++ [nodeT t]⟩, _, ?_, eO, hG, ?_, frOk_more h0 hF (fun hh => by omega) (hone _ (by omega)) hrawt, fun hh => ?_, ?_⟩
              · simp
              · show 0 ≤ f.n.many + 1
                omega
              · rw [n4] at hh
                cases hh
              · show cntF gs + 1 + cnt (f.ks ++ [nodeT t]) ≤ i + 1
                rw [cnt_app, cnt_one n3]
                omega
            · rw [if_neg h3, eb]
              refine .inl ⟨gs ++ [⟨bumpN f.n, f.ks⟩], ⟨nodeT t, []⟩, false, ?_, ?_, (okG_snoc _ _ _).2 ⟨hG, ?_, b1, ?_⟩, ?_, ⟨n1, n4, n2, rfl, ?_, ?_⟩, (fun hh => by cases hh), ?_⟩
              · rw [flatF_snoc]
              · show s.O ++ [s.V.length] = _
                rw [posF_snoc, flatF_snoc, eO, eV, Nat.zero_add]
                simp
              · show 1 ≤ f.n.many + 1
                omega
              · obtain ⟨k1, k2, k3, k4, k5, k6⟩ := hF
                refine ⟨?_, k2, k3, k4, k5, ?_⟩
                · unfold ndOk at k1 ⊢
                  rw [if_pos k2] at k1
                  rw [if_pos (show (bumpN f.n).kind = 1 from k2)]
                  exact k1
                · show kidsD (restD (12 - gs.length - 1)) ((f.n.many + 1).toNat - 1) false f.ks = some (b1, [])
                  rw [show (f.n.many + 1).toNat - 1 = f.n.many.toNat by omega]
                  exact k6
              · show 0 ≤ (nodeT t).many
                omega
              · rw [List.length_append, List.length_singleton]
                omega
              · show kidsD _ (nodeT t).many.toNat false [] = _
                rw [n3]
                rfl
              · unfold cntF at hc ⊢
                rw [List.map_append, List.sum_append]
                simp [cnt] at hc ⊢
                omega
          · have hV : s.V = [] := by
              by_cases hv : s.V = []
              · exact hv
              · exact absurd ⟨e, hv⟩ hO
            rw [e, hV]
            by_cases h3 : t.kind = 3
            · rw [if_pos h3]
              exact .inr ⟨rfl, .inr ⟨⟨nodeT t, [], rfl, n4⟩, hone 12 (by decide), hrawt, by show cnt [nodeT t] ≤ i + 1; rw [cnt_one n3]; omega⟩⟩
            · rw [if_neg h3]
              refine .inl ⟨[], ⟨nodeT t, []⟩, false, rfl, rfl, trivial, by show 0 ≤ (nodeT t).many; omega, ⟨n1, n4, n2, rfl, by decide, ?_⟩, (fun hh => by cases hh), by simp [cntF, cnt]⟩
              show kidsD _ (nodeT t).many.toNat false [] = _
              rw [n3]
              rfl
theorem InvP.run : ∀ (l : List Tk) (s s' : PS) (b : Bool) (i : Nat), InvP s b i → (∀ t ∈ l, mayT t = true) → runP s b l = .ok s' → ∃ b', InvP s' b' (i + l.length) := by
  intro l
  induction l with
  | nil =>
    intro s s' b i h _ hr
    rw [runP] at hr
    injection hr with hr
    subst hr
    exact ⟨b, h⟩
  | cons t l ih =>
    intro s s' b i h ht hr
    rw [runP] at hr
    cases hst : stepP s b t with
    | error e => rw [hst] at hr; cases hr
    | ok s1 =>
      rw [hst] at hr
      obtain ⟨b', h'⟩ := ih s1 s' _ (i + 1) (h.step (ht t (by simp)) hst) (fun x hx => ht x (by simp [hx])) hr
      exact ⟨b', by rw [List.length_cons, show i + (l.length + 1) = i + 1 + l.length by omega]; exact h'⟩
theorem endP_ok {x : Except Int PS} {v : List Nd} (h : endP x = (v, 0)) (hx : ∀ e, x = .error e → e ≠ 0) : ∃ s, x = .ok s ∧ s.V = v ∧ s.V ≠ [] ∧ s.O = [] := by
  cases x with
  | error e =>
    have h : (([] : List Nd), e) = (v, 0) := h
    exact absurd ((Prod.mk.injEq _ _ _ _).mp h).2 (hx e rfl)
  | ok s =>
    have h : (if s.V = [] ∨ s.O ≠ [] then (([] : List Nd), (80 : Int)) else (s.V, 0)) = (v, 0) := h
    by_cases hc : s.V = [] ∨ s.O ≠ []
    · rw [if_pos hc] at h
      cases h
    · rw [if_neg hc] at h
      rw [not_or, Decidable.not_not] at hc
      exact ⟨s, rfl, ((Prod.mk.injEq _ _ _ _).mp h).1, hc.1, hc.2⟩
theorem stepP_err {s : PS} {b : Bool} {t : Tk} {e : Int} (h : stepP s b t = .error e) : e = 80 ∨ e = 100 := by
  unfold stepP at h
  repeat' split at h
  all_goals first
    | (cases h; done)
    | (injection h with h; subst h; simp)
theorem runP_err : ∀ (l : List Tk) (s : PS) (b : Bool) (e : Int), runP s b l = .error e → e = 80 ∨ e = 100 := by
  intro l
  induction l with
  | nil => intro s b e h; rw [runP] at h; cases h
  | cons t l ih =>
    intro s b e h
    rw [runP] at h
    cases hs : stepP s b t with
    | error e' =>
      rw [hs] at h
      injection h with h
      subst h
      exact stepP_err hs
    | ok s' =>
      rw [hs] at h
      exact ih _ _ _ h
/-- What is parsed may be, and has no more tokens. -/
theorem parse_may {l : List Tk} {v : List Nd} (h : parseR l = (v, 0)) : mayV v = true ∧ rawV v = true ∧ l.length ≤ 512 ∧ l.all mayT = true ∧ (toldD 12 v).1.length ≤ 512 ∧ v.length ≤ l.length := by
  unfold parseR at h
  by_cases h1 : 512 < l.length
  · rw [if_pos h1] at h; cases h
  · rw [if_neg h1] at h
    by_cases h2 : l.all mayT = true
    · rw [if_pos h2] at h
      obtain ⟨s, hs, rfl, hV, hO⟩ := endP_ok h (fun e he => by rcases runP_err _ _ _ _ he with rfl | rfl <;> decide)
      obtain ⟨b', hI⟩ := InvP.run l _ _ false 0 (.inr ⟨rfl, .inl rfl⟩) (fun t ht => List.all_eq_true.1 h2 t ht) hs
      rcases hI with ⟨gs, f, _, _, e, _⟩ | ⟨_, e | ⟨k1, k2, k3, k4⟩⟩
      · rw [hO] at e; simp at e
      · exact absurd e hV
      · have hc := toldD_cnt 12 s.V [] k2
        have h0 : cnt ([] : List Nd) = 0 := rfl
        have hl : s.V.length ≤ cnt s.V := by unfold cnt; omega
        exact ⟨mayV_iff.2 ⟨by omega, k1, k2⟩, k3, by omega, h2, by omega, by omega⟩
    · rw [if_neg h2] at h; cases h
/-- What is not parsed: no node. -/
theorem parse_bad {l : List Tk} {v : List Nd} {e : Int} (h : parseR l = (v, e)) (he : e ≠ 0) : v = [] ∧ (e = 4 ∨ e = 8 ∨ e = 80 ∨ e = 100) := by
  unfold parseR at h
  by_cases h1 : 512 < l.length
  · rw [if_pos h1] at h
    obtain ⟨rfl, rfl⟩ := (Prod.mk.injEq _ _ _ _).mp h
    simp
  · rw [if_neg h1] at h
    by_cases h2 : l.all mayT = true
    · rw [if_pos h2] at h
      cases hr : runP ⟨[], []⟩ false l with
      | error e' =>
        rw [hr] at h
        have h : (([] : List Nd), e') = (v, e) := h
        obtain ⟨rfl, rfl⟩ := (Prod.mk.injEq _ _ _ _).mp h
        rcases runP_err _ _ _ _ hr with rfl | rfl <;> simp
      | ok s =>
        rw [hr] at h
        have h : (if s.V = [] ∨ s.O ≠ [] then (([] : List Nd), (80 : Int)) else (s.V, 0)) = (v, e) := h
        by_cases hc : s.V = [] ∨ s.O ≠ []
        · rw [if_pos hc] at h
          obtain ⟨rfl, rfl⟩ := (Prod.mk.injEq _ _ _ _).mp h
          simp
        · rw [if_neg hc] at h
          exact absurd ((Prod.mk.injEq _ _ _ _).mp h).2.symm he
    · rw [if_neg h2] at h
      obtain ⟨rfl, rfl⟩ := (Prod.mk.injEq _ _ _ _).mp h
      simp
theorem told_mayK {d : Nat} (hd : ∀ l r, restD d l = some r → rawV l = true → ∀ t ∈ (toldD d l).1, mayT t = true) : ∀ (k : Nat) (b : Bool) (l : List Nd) (y : Bool × List Nd), kidsD (restD d) k b l = some y → rawV l = true → ∀ t ∈ (toldK (toldD d) k l).1, mayT t = true := by
  intro k
  induction k with
  | zero => intro b l y _ _ t ht; simp [toldK] at ht
  | succ k ih =>
    intro b l y h hr t ht
    cases l with
    | nil => rw [kidsD] at h; cases h
    | cons n l =>
      rw [kidsD] at h
      by_cases hb : b = true ∧ n.kind = 2
      · rw [if_pos hb] at h; cases h
      · rw [if_neg hb] at h
        cases hn : restD d (n :: l) with
        | none => rw [hn] at h; cases h
        | some z =>
          rw [hn] at h
          rw [toldK, toldD_rest _ _ _ hn, List.mem_append] at ht
          rcases ht with ht | ht
          · exact hd _ _ hn hr t ht
          · refine ih _ _ _ h ?_ t ht
            have hz := restD_drop hn
            rw [hz]
            exact rawV_iff.2 fun m hm => rawV_iff.1 hr m (List.mem_of_mem_drop hm)
/-- A tree's tokens may be. -/
theorem told_may : ∀ (d : Nat) (l r : List Nd), restD d l = some r → rawV l = true → ∀ t ∈ (toldD d l).1, mayT t = true := by
  intro d
  have text : ∀ n, ndOk n = true → n.kind = 2 → mayT ⟨4, [], [], n.text⟩ = true := by
    intro n h hk
    obtain ⟨_, _, _, _, h5, h6⟩ := ndOk_two h hk
    unfold mayT
    rw [if_neg (show ¬ ((4 : Nat) = 1 ∨ (4 : Nat) = 3) by decide), if_neg (show ¬ (4 : Nat) = 2 by decide), if_pos rfl]
    simp [h5, h6]
  induction d with
  | zero =>
    intro l r h hr t ht
    cases l with
    | nil => rw [restD] at h; cases h
    | cons n l =>
      rw [restD] at h
      by_cases hn : ndOk n = true ∧ n.kind = 2
      · rw [toldD, List.mem_singleton] at ht
        subst ht
        exact text n hn.1 hn.2
      · rw [if_neg hn] at h; cases h
  | succ d ih =>
    intro l r h hr t ht
    cases l with
    | nil => rw [restD] at h; cases h
    | cons n l =>
      obtain ⟨h1, h2, b, h3⟩ := restD_ok h
      rw [Nat.add_sub_cancel] at h3
      rw [toldD] at ht
      have hrn := rawV_iff.1 hr
      by_cases hk : n.kind = 2
      · rw [if_pos hk, List.mem_singleton] at ht
        subst ht
        exact text n h1 hk
      · rw [if_neg hk] at ht
        have hk1 := (ndOk_kind h1).resolve_right hk
        obtain ⟨f1, f2, f3, f4⟩ := ndOk_one h1 hk1
        have hp := atsOk_pairs f4 (hrn n (by simp)).2
        have tg : ∀ k, k = 1 ∨ k = 3 → mayT ⟨k, n.name, pairsN n.attrs, []⟩ = true := by
          intro k hk
          unfold mayT
          rw [if_pos hk]
          simp only [f1, hp]
          rfl
        by_cases hm : n.many = 0
        · rw [if_pos hm, List.mem_singleton] at ht
          subst ht
          exact tg 3 (.inr rfl)
        · rw [if_neg hm] at ht
          rcases List.mem_cons.1 ht with rfl | ht
          · exact tg 1 (.inl rfl)
          · rcases List.mem_append.1 ht with ht | ht
            · exact told_mayK ih _ _ _ _ h3 (rawV_iff.2 fun m hm => hrn m (List.mem_cons_of_mem _ hm)) t ht
            · rw [List.mem_singleton] at ht
              subst ht
              unfold mayT
              rw [if_neg (show ¬ ((2 : Nat) = 1 ∨ (2 : Nat) = 3) by decide), if_pos rfl]
              simp [f1]
/-- There and back. -/
theorem parse_tokens {v : List Nd} {l : List Tk} (h : tokensR v = (l, 0)) : parseR l = (v, 0) ∧ mayV v = true ∧ rawV v = true := by
  unfold tokensR at h
  by_cases h1 : mayV v = true ∧ rawV v = true
  · rw [if_pos h1] at h
    by_cases h2 : 512 < (toldD 12 v).1.length
    · rw [if_pos h2] at h; cases h
    · rw [if_neg h2] at h
      have h3 := ((Prod.mk.injEq _ _ _ _).mp h).1
      refine ⟨?_, h1⟩
      subst h3
      obtain ⟨_, ⟨n, x, e, _⟩, k3⟩ := mayV_iff.1 h1.1
      unfold parseR
      rw [if_neg h2, if_pos (List.all_eq_true.2 fun t ht => told_may 12 v [] k3 h1.2 t ht), parse_told h1.1 h1.2]
      show (if v = [] ∨ ([] : List Nat) ≠ [] then _ else _) = _
      rw [if_neg (by rw [e]; simp)]
  · rw [if_neg h1] at h; cases h
theorem tokens_parse {v : List Nd} {l : List Tk} (h : parseR l = (v, 0)) : ∃ m, tokensR v = (m, 0) ∧ parseR m = (v, 0) := by
  obtain ⟨h1, h2, _, _, h5, _⟩ := parse_may h
  have e : tokensR v = ((toldD 12 v).1, 0) := by unfold tokensR; rw [if_pos ⟨h1, h2⟩, if_neg (by omega)]
  exact ⟨_, e, (parse_tokens e).1⟩
end Tr
end Go.Proofs.YtbjgfaflikgobaaGreatDoor
namespace Go.Proofs.YtbjgfaflikgobaaGreatDoor
open Go.RowKit
namespace Hx
open Lx Tr
set_option linter.unusedVariables false
/-- How a run of k cells reads as something, all that it leads to lying in blocks of a kind. -/
structure CodS (α : Type) where
  k : Nat
  R : World → (Nat → Prop) → List Value → α → Prop
  len : ∀ {w : World} {S : Nat → Prop} {cs : List Value} {x : α}, R w S cs x → cs.length = k
  one : ∀ {w : World} {S : Nat → Prop} {cs : List Value} {x : α}, R w S cs x → ∀ v ∈ cs, v.oneCell' = true
  keep : ∀ {w w' : World} {S S' : Nat → Prop} {cs : List Value} {x : α}, R w S cs x → (∀ b, S b → S' b) → (∀ b o, S b → w'.cell? ⟨b, o, none⟩ = w.cell? ⟨b, o, none⟩) → R w' S' cs x
/-- The slice at address A reads as the list l, all in blocks of a kind. -/
def RdS {α : Type} (C : CodS α) (w : World) (S : Nat → Prop) (A : Option Addr) (l : List α) : Prop :=
  0 < l.length → ∃ b off, A = some ⟨b, off, none⟩ ∧ S b ∧ ∀ j (h : j < l.length), ∃ cs, C.R w S cs (l[j]'h) ∧ ∀ i (hi : i < cs.length), w.cell? ⟨b, off + j * C.k + i, none⟩ = some (cs[i]'hi)
/-- .. somewhere. -/
def RdB {α : Type} (C : CodS α) (w : World) (A : Option Addr) (l : List α) : Prop := RdS C w (fun b => b < w.heap.size) A l
section
variable {α : Type} {C : CodS α}
theorem RdS.keep {w w' : World} {S S' : Nat → Prop} {A : Option Addr} {l : List α} (h : RdS C w S A l) (hS : ∀ b, S b → S' b) (hk : ∀ b o, S b → w'.cell? ⟨b, o, none⟩ = w.cell? ⟨b, o, none⟩) : RdS C w' S' A l := by
  intro hp
  obtain ⟨b, off, e, hb, hc⟩ := h hp
  refine ⟨b, off, e, hS b hb, fun j hj => ?_⟩
  obtain ⟨cs, h1, h2⟩ := hc j hj
  exact ⟨cs, C.keep h1 hS hk, fun i hi => (hk _ _ hb).trans (h2 i hi)⟩
theorem RdS.mono {w : World} {S S' : Nat → Prop} {A : Option Addr} {l : List α} (h : RdS C w S A l) (hS : ∀ b, S b → S' b) : RdS C w S' A l := h.keep hS fun _ _ _ => rfl
theorem RdS.nil (w : World) (S : Nat → Prop) (A : Option Addr) : RdS C w S A [] := fun h => absurd h (by simp)
theorem RdB.nil (w : World) (A : Option Addr) : RdB C w A [] := RdS.nil _ _ _
theorem RdB.on {w w' : World} {A : Option Addr} {l : List α} (h : RdB C w A l) (hb : Below w.heap.size w w') : RdB C w' A l :=
  RdS.keep h (fun b hlt => Nat.lt_of_lt_of_le hlt hb.size) fun b o hlt => hb.cell (p := ⟨b, o, none⟩) hlt
theorem RdS.at {w : World} {S : Nat → Prop} {A : Option Addr} {l : List α} {k : Nat} (h : RdS C w S A l) (hk : k < l.length) :
    ∃ b off cs, A = some ⟨b, off, none⟩ ∧ S b ∧ C.R w S cs (l[k]'hk) ∧ ∀ i (hi : i < cs.length), w.cell? ⟨b, off + k * C.k + i, none⟩ = some (cs[i]'hi) := by
  obtain ⟨b, off, e, hb, hc⟩ := h (by omega)
  obtain ⟨cs, h1, h2⟩ := hc k hk
  exact ⟨b, off, cs, e, hb, h1, h2⟩
theorem RdS.drop {w : World} {S : Nat → Prop} {b off : Nat} {l : List α} (h : RdS C w S (some ⟨b, off, none⟩) l) (i : Nat) : RdS C w S (some ⟨b, off + i * C.k, none⟩) (l.drop i) := by
  intro hp
  rw [List.length_drop] at hp
  obtain ⟨b', off', e, hb, hc⟩ := h (by omega)
  injection e with e
  injection e with e1 e2 _
  subst e1 e2
  refine ⟨b, off + i * C.k, rfl, hb, fun j hj => ?_⟩
  rw [List.length_drop] at hj
  obtain ⟨cs, h1, h2⟩ := hc (i + j) (by omega)
  refine ⟨cs, by rw [List.getElem_drop]; exact h1, fun m hm => ?_⟩
  have := h2 m hm
  rwa [show off + i * C.k + j * C.k + m = off + (i + j) * C.k + m by rw [Nat.add_mul]; omega]
theorem RdS.take {w : World} {S : Nat → Prop} {A : Option Addr} {l : List α} (h : RdS C w S A l) (k : Nat) : RdS C w S A (l.take k) := by
  intro hp
  have hl := List.length_take (i := k) (l := l)
  obtain ⟨b, off, e, hb, hc⟩ := h (by omega)
  refine ⟨b, off, e, hb, fun j hj => ?_⟩
  obtain ⟨cs, h1, h2⟩ := hc j (by omega)
  exact ⟨cs, by rw [List.getElem_take]; exact h1, h2⟩
end
/-- As a reading of what came in. -/
def CodS.old {α : Type} (C : CodS α) : Cod α where
  k := C.k
  R w B cs x := C.R w (fun b => b < B) cs x
  len := fun h => C.len h
  keep := fun h hB hk => C.keep h (fun b hb => Nat.lt_of_lt_of_le hb hB) fun b o hb => hk b o hb
theorem RdC.toS {α : Type} {C : CodS α} {w : World} {B : Nat} {A : Option Addr} {l : List α} (h : RdC C.old w B A l) : RdS C w (fun b => b < B) A l := h
/-- Attributes, nodes. -/
def AtS : CodS At where
  k := 3
  R _ _ cs a := ∃ x y z : ByteArray, cs = [.string x, .string y, .string z] ∧ x.data.toList = a.space ∧ y.data.toList = a.name ∧ z.data.toList = a.value
  len := by rintro _ _ _ _ ⟨x, y, z, rfl, _⟩; rfl
  one := by
    rintro _ _ _ _ ⟨x, y, z, rfl, _⟩ v hv
    simp at hv
    rcases hv with rfl | rfl | rfl <;> rfl
  keep := fun h _ _ => h
/-- A node's cells, as a list; as a value. -/
def ndCells (n : Nd) (x y z : ByteArray) (A : Option Addr) (c : Nat) : List Value := [.int .u8 (n.kind : Int), .string x, .string y, .slice A n.attrs.length c, .string z, .int .i64 n.many]
def NdV (n : Nd) (x y z : ByteArray) (A : Option Addr) (c : Nat) : Value := .agg #[.int .u8 (n.kind : Int), .string x, .string y, .slice A n.attrs.length c, .string z, .int .i64 n.many]
/-- What a node's cells are to be. -/
structure NdIn (n : Nd) (x y z : ByteArray) (A : Option Addr) (c : Nat) (w : World) (S : Nat → Prop) : Prop where
  space : x.data.toList = n.space
  name : y.data.toList = n.name
  text : z.data.toList = n.text
  attrs : RdS AtS w S A n.attrs
  le : n.attrs.length ≤ c
  cm : c ≤ maxLen
  nil : A = none → c = 0
  kd : n.kind < 256
  lo : -9223372036854775808 ≤ n.many
  hi : n.many ≤ 9223372036854775807
theorem NdIn.keep {n : Nd} {x y z : ByteArray} {A : Option Addr} {c : Nat} {w w' : World} {S S' : Nat → Prop} (h : NdIn n x y z A c w S) (hS : ∀ b, S b → S' b) (hk : ∀ b o, S b → w'.cell? ⟨b, o, none⟩ = w.cell? ⟨b, o, none⟩) : NdIn n x y z A c w' S' :=
  ⟨h.space, h.name, h.text, h.attrs.keep hS hk, h.le, h.cm, h.nil, h.kd, h.lo, h.hi⟩
def NdS : CodS Nd where
  k := 6
  R w S cs n := ∃ (x y z : ByteArray) (A : Option Addr) (c : Nat), cs = ndCells n x y z A c ∧ NdIn n x y z A c w S
  len := by rintro _ _ _ _ ⟨x, y, z, A, c, rfl, _⟩; rfl
  one := by
    rintro _ _ _ _ ⟨x, y, z, A, c, rfl, _⟩ v hv
    simp [ndCells] at hv
    rcases hv with rfl | rfl | rfl | rfl | rfl | rfl <;> rfl
  keep := fun ⟨x, y, z, A, c, h1, h2⟩ hS hk => ⟨x, y, z, A, c, h1, h2.keep hS hk⟩
/-- .. in this world. -/
def NdAt (n : Nd) (x y z : ByteArray) (A : Option Addr) (c : Nat) (w : World) : Prop := NdIn n x y z A c w (fun b => b < w.heap.size)
theorem NdAt.on {n : Nd} {x y z : ByteArray} {A : Option Addr} {c : Nat} {w w' : World} (h : NdAt n x y z A c w) (hb : Below w.heap.size w w') : NdAt n x y z A c w' :=
  NdIn.keep h (fun b hlt => Nat.lt_of_lt_of_le hlt hb.size) fun b o hlt => hb.cell (p := ⟨b, o, none⟩) hlt
theorem NdAt.rd {n : Nd} {x y z : ByteArray} {A : Option Addr} {c : Nat} {w : World} (h : NdAt n x y z A c w) : RdB AtS w A n.attrs := h.attrs
/-- Texts of nodes are no greater than calls go through. -/
structure SmallN (n : Nd) : Prop where
  space : n.space.length ≤ 1000000
  name : n.name.length ≤ 1000000
  text : n.text.length ≤ 1000000
  attrs : n.attrs.length ≤ 1000000
  each : ∀ a ∈ n.attrs, a.space.length ≤ 1000000 ∧ a.name.length ≤ 1000000 ∧ a.value.length ≤ 1000000
/-- A node among some. -/
theorem nd_at {w : World} {S : Nat → Prop} {A : Option Addr} {l : List Nd} {k : Nat} (hr : RdS NdS w S A l) (hk : k < l.length) :
    ∃ (b off : Nat) (x y z : ByteArray) (A1 : Option Addr) (c1 : Nat), A = some ⟨b, off, none⟩ ∧ S b ∧ NdIn (l[k]'hk) x y z A1 c1 w S ∧
      w.cell? ⟨b, off + k * 6, none⟩ = some (.int .u8 ((l[k]'hk).kind : Int)) ∧ w.cell? ⟨b, off + k * 6 + 1, none⟩ = some (.string x) ∧ w.cell? ⟨b, off + k * 6 + 2, none⟩ = some (.string y) ∧
      w.cell? ⟨b, off + k * 6 + 3, none⟩ = some (.slice A1 (l[k]'hk).attrs.length c1) ∧ w.cell? ⟨b, off + k * 6 + 4, none⟩ = some (.string z) ∧ w.cell? ⟨b, off + k * 6 + 5, none⟩ = some (.int .i64 (l[k]'hk).many) := by
  obtain ⟨b, off, cs, e, hb, ⟨x, y, z, A1, c1, rfl, hin⟩, hc⟩ := hr.at hk
  exact ⟨b, off, x, y, z, A1, c1, e, hb, hin, hc 0 (by simp [ndCells]), hc 1 (by simp [ndCells]), hc 2 (by simp [ndCells]), hc 3 (by simp [ndCells]), hc 4 (by simp [ndCells]), hc 5 (by simp [ndCells])⟩
theorem at_at {w : World} {S : Nat → Prop} {A : Option Addr} {l : List At} {k : Nat} (hr : RdS AtS w S A l) (hk : k < l.length) :
    ∃ (b off : Nat) (x y z : ByteArray), A = some ⟨b, off, none⟩ ∧ S b ∧ x.data.toList = (l[k]'hk).space ∧ y.data.toList = (l[k]'hk).name ∧ z.data.toList = (l[k]'hk).value ∧
      w.cell? ⟨b, off + k * 3, none⟩ = some (.string x) ∧ w.cell? ⟨b, off + k * 3 + 1, none⟩ = some (.string y) ∧ w.cell? ⟨b, off + k * 3 + 2, none⟩ = some (.string z) := by
  obtain ⟨b, off, cs, e, hb, ⟨x, y, z, rfl, h1, h2, h3⟩, hc⟩ := hr.at hk
  exact ⟨b, off, x, y, z, e, hb, h1, h2, h3, hc 0 (by simp), hc 1 (by simp), hc 2 (by simp)⟩
section
variable {H : Type} {enc : TypeId × Value → H}
theorem cells_oneN : Tryz.prog.cellsOf 9 = 1 ∧ Tryz.prog.cellsOf 5 = 1 ∧ Tryz.prog.cellsOf 34 = 1 ∧ Tryz.prog.cellsOf 3 = 1 ∧ Tryz.prog.cellsOf 52 = 3 ∧ Tryz.prog.cellsOf 36 = 6 := ⟨by kernel_rfl, by kernel_rfl, by kernel_rfl, by kernel_rfl, by kernel_rfl, by kernel_rfl⟩
theorem three_of {cs : List Value} (h : cs.length = 3) : ∃ x y z, cs = [x, y, z] := by
  match cs, h with
  | [x, y, z], _ => exact ⟨x, y, z, rfl⟩
theorem six_of {cs : List Value} (h : cs.length = 6) : ∃ x y z u v t, cs = [x, y, z, u, v, t] := by
  match cs, h with
  | [x, y, z, u, v, t], _ => exact ⟨x, y, z, u, v, t, rfl⟩
theorem opens_attr : Opens enc Tryz.prog AtS.old 52 := fun W sp held fuel cs x h => by
  obtain ⟨c1, _, _, _, c3, _⟩ := cells_oneN
  obtain ⟨xs, n, _, _, hl, hx, hf⟩ := DataW.trod_struct Tryz.underlying52 h
  rw [c3] at hl
  obtain ⟨a, b, c, rfl⟩ := three_of hl
  have h0 : DataW.trod enc Tryz.prog W 0 sp held n 9 (([a, b, c].drop 0).take (Tryz.prog.cellsOf 9)) = xs[0]? := hf 0 _ rfl
  have h1 : DataW.trod enc Tryz.prog W 0 sp held n 9 (([a, b, c].drop 1).take (Tryz.prog.cellsOf 9)) = xs[1]? := hf 1 _ rfl
  have h2 : DataW.trod enc Tryz.prog W 0 sp held n 9 (([a, b, c].drop 2).take (Tryz.prog.cellsOf 9)) = xs[2]? := hf 2 _ rfl
  have hx2 : xs.length = 3 := hx
  simp only [c1, List.drop_zero, List.drop_succ_cons, List.take_succ_cons, List.take_zero] at h0 h1 h2
  obtain ⟨s, e1, _⟩ := DataW.trod_string Tryz.underlying9 (h0.trans (List.getElem?_eq_getElem (by omega)))
  obtain ⟨t, e2, _⟩ := DataW.trod_string Tryz.underlying9 (h1.trans (List.getElem?_eq_getElem (by omega)))
  obtain ⟨u, e3, _⟩ := DataW.trod_string Tryz.underlying9 (h2.trans (List.getElem?_eq_getElem (by omega)))
  obtain ⟨rfl, _⟩ := List.cons.inj e1
  obtain ⟨rfl, _⟩ := List.cons.inj e2
  obtain ⟨rfl, _⟩ := List.cons.inj e3
  exact ⟨⟨_, _, _⟩, s, t, u, rfl, rfl, rfl, rfl⟩
theorem opens_node : Opens enc Tryz.prog NdS.old 36 := fun W sp held fuel cs x h => by
  obtain ⟨c1, c2, c3, c4, c5, c6⟩ := cells_oneN
  obtain ⟨xs, n, _, _, hl, hx, hf⟩ := DataW.trod_struct Tryz.underlying36 h
  rw [c6] at hl
  obtain ⟨a, b, c, d, e, f, rfl⟩ := six_of hl
  have h0 : DataW.trod enc Tryz.prog W 0 sp held n 5 (([a, b, c, d, e, f].drop 0).take (Tryz.prog.cellsOf 5)) = xs[0]? := hf 0 _ rfl
  have h1 : DataW.trod enc Tryz.prog W 0 sp held n 9 (([a, b, c, d, e, f].drop 1).take (Tryz.prog.cellsOf 9)) = xs[1]? := hf 1 _ rfl
  have h2 : DataW.trod enc Tryz.prog W 0 sp held n 9 (([a, b, c, d, e, f].drop 2).take (Tryz.prog.cellsOf 9)) = xs[2]? := hf 2 _ rfl
  have h3 : DataW.trod enc Tryz.prog W 0 sp held n 34 (([a, b, c, d, e, f].drop 3).take (Tryz.prog.cellsOf 34)) = xs[3]? := hf 3 _ rfl
  have h4 : DataW.trod enc Tryz.prog W 0 sp held n 9 (([a, b, c, d, e, f].drop 4).take (Tryz.prog.cellsOf 9)) = xs[4]? := hf 4 _ rfl
  have h5 : DataW.trod enc Tryz.prog W 0 sp held n 3 (([a, b, c, d, e, f].drop 5).take (Tryz.prog.cellsOf 3)) = xs[5]? := hf 5 _ rfl
  have hx2 : xs.length = 6 := hx
  simp only [c1, c2, c3, c4, List.drop_zero, List.drop_succ_cons, List.take_succ_cons, List.take_zero] at h0 h1 h2 h3 h4 h5
  obtain ⟨m, e0, _, w0⟩ := DataW.trod_int Tryz.underlying5 (h0.trans (List.getElem?_eq_getElem (by omega)))
  obtain ⟨s, e1, _⟩ := DataW.trod_string Tryz.underlying9 (h1.trans (List.getElem?_eq_getElem (by omega)))
  obtain ⟨t, e2, _⟩ := DataW.trod_string Tryz.underlying9 (h2.trans (List.getElem?_eq_getElem (by omega)))
  obtain ⟨l, A, cp, e3, k1, k2, k3, k4⟩ := (Opens.slice (C := AtS.old) Tryz.underlying34 c5 (by decide) opens_attr) W sp held _ _ _ (h3.trans (List.getElem?_eq_getElem (by omega)))
  obtain ⟨u, e4, _⟩ := DataW.trod_string Tryz.underlying9 (h4.trans (List.getElem?_eq_getElem (by omega)))
  obtain ⟨y, e5, _, w5⟩ := DataW.trod_int Tryz.underlying3 (h5.trans (List.getElem?_eq_getElem (by omega)))
  obtain ⟨rfl, _⟩ := List.cons.inj e0
  obtain ⟨rfl, _⟩ := List.cons.inj e1
  obtain ⟨rfl, _⟩ := List.cons.inj e2
  obtain ⟨rfl, _⟩ := List.cons.inj e3
  obtain ⟨rfl, _⟩ := List.cons.inj e4
  obtain ⟨rfl, _⟩ := List.cons.inj e5
  have hb := bounds_u8 w0
  have hy := bounds_i64 w5
  obtain ⟨k, rfl⟩ : ∃ k : Nat, m = (k : Int) := ⟨m.toNat, by omega⟩
  exact ⟨⟨k, _, _, l, _, y⟩, s, t, u, A, cp, rfl, rfl, rfl, rfl, k4, k1, k2, k3, by show k < 256; omega, by show _ ≤ y; omega, by show y ≤ _; omega⟩
theorem opens_nodes : Opens enc Tryz.prog (SlC NdS.old) 24 := Opens.slice (C := NdS.old) Tryz.underlying24 cells_oneN.2.2.2.2.2 (by decide) opens_node
end
end Hx
end Go.Proofs.YtbjgfaflikgobaaGreatDoor
