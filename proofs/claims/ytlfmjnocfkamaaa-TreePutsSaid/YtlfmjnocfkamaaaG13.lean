/-
  Texts of one seat, put together: TextX, RegZ, TextY, TextZ.
-/
import Derived.Test.YtlfmjnocfkamaaaG07
import Derived.OrdersHeld
import Derived.Deep.RegionHeld3
import Derived.OwnWalk
import Derived.OneCell
import Derived.Deep.AppendLies
namespace Go.Proofs.Ytlfmjnocfkamaaa
open Go.RowKit
namespace Hx
open Tx
set_option linter.unusedVariables false
end Hx
end Go.Proofs.Ytlfmjnocfkamaaa
namespace Go.Proofs.Ytlfmjnocfkamaaa
namespace Hx
open Go
section
variable {P : Program} {ops : Array Oper} {Q : Exit → Act → World → Prop} {md : Region.Mode} {S : World → Prop} {z : Nat}
/-- Whatever order is picked from here on; S holds behind every operation but number z. -/
def wpAnyZ (P : Program) (md : Region.Mode) (ops : Array Oper) (Q : Exit → Act → World → Prop) (S : World → Prop) (z : Nat) : Nat → Array Bool → Act → World → Prop
  | 0, listed, a, w => Region.ready md ops listed = [] ∧ Q .normal a w
  | fuel + 1, listed, a, w =>
    (Region.ready md ops listed = [] → Q .normal a w) ∧
    ∀ i ∈ Region.ready md ops listed, wpOp P ops Q i (fun a' w' => (i ≠ z → S w') ∧ wpAnyZ P md ops Q S z fuel (listed.setIfInBounds i true) a' w') a w
theorem wpAny_of_Z : ∀ (fuel : Nat) (listed : Array Bool) (a : Act) (w : World), wpAnyZ P md ops Q S z fuel listed a w → wpAny P md ops Q fuel listed a w
  | 0, _, _, _, h => h
  | fuel + 1, _, _, _, h => ⟨h.1, fun i hi => wpOp_mono (fun a' w' h' => wpAny_of_Z fuel _ a' w' h'.2) (h.2 i hi)⟩
theorem wpAnyZ_first {i : Nat} {oi : Oper} {v : Value} (hi : ops[i]? = some oi) (hsel : ∀ (j : Nat) (o : Oper) cs b, ops[j]? = some o → o.op ≠ .select cs b)
    (hQ : ∀ c a w, Q (.panic c) (a.put oi.dst v) w → Q (.panic c) a w) (hz : ∀ oz, ops[z]? = some oz → ∃ e ∈ oz.after, Region.binds md e = true ∧ e.on = i) :
    ∀ (fuel : Nat) (listed : Array Bool) (a : Act) (w : World),
      (∀ j oj, ops[j]? = some oj → j ≠ i → listed.getD j true = false → (∀ e ∈ oj.after, Region.binds md e = true → e.on ≠ i) → oi.apart ops oj = true) →
      i ∈ Region.ready md ops listed → YieldsIf P ops S oi v a → S w →
      wpAnyZ P md ops Q S z fuel (listed.setIfInBounds i true) (a.put oi.dst v) w → wpAnyZ P md ops Q S z (fuel + 1) listed a w := by
  intro fuel
  induction fuel with
  | zero =>
    intro listed a w _ hr hy hS H
    refine ⟨fun h => (by rw [h] at hr; cases hr), fun j hj => ?_⟩
    by_cases hji : j = i
    · subst hji; exact hy.wpOp hi hS ⟨fun _ => hS, H⟩
    · have := ready_mono hj hji
      rw [H.1] at this
      cases this
  | succ fuel ih =>
    intro listed a w hfree hr hy hS H
    refine ⟨fun h => (by rw [h] at hr; cases hr), fun j hj => ?_⟩
    by_cases hji : j = i
    · subst hji; exact hy.wpOp hi hS ⟨fun _ => hS, H⟩
    · have h1 := H.2 j (ready_mono hj hji)
      obtain ⟨hjun, oj, hoj, hall⟩ := mem_ready.1 hj
      have hnot : ∀ e ∈ oj.after, Region.binds md e = true → e.on ≠ i := fun e he hb heq => by
        have h1 := hall e he hb
        have h0 := (mem_ready.1 hr).1
        rw [heq] at h1
        rcases Nat.lt_or_ge i listed.size with h' | h'
        · simp [h'] at h0 h1; rw [h0] at h1; cases h1
        · simp [Array.getElem?_eq_none h'] at h1
      have hjz : j ≠ z := by
        rintro rfl
        obtain ⟨e, he, hb, heq⟩ := hz oj hoj
        exact hnot e he hb heq
      have h2 := wpOp_putIf hoj (hfree j oj hoj hji hjun hnot) (fun cs b => hsel i oi cs b hi) (fun cs b => hsel j oj cs b hoj) hQ hy h1
      have hfree' : ∀ k ok, ops[k]? = some ok → k ≠ i → (listed.setIfInBounds j true).getD k true = false →
          (∀ e ∈ ok.after, Region.binds md e = true → e.on ≠ i) → oi.apart ops ok = true := fun k ok hk hki hun hno => by
        refine hfree k ok hk hki ?_ hno
        by_cases hjk : j = k
        · subst hjk; exact hjun
        · rw [getD_set_ne true hjk] at hun; exact hun
      refine wpOp_mono (fun a' w' h3 => ⟨fun _ => h3.2.1 hjz, ih (listed.setIfInBounds j true) a' w' hfree' (ready_mono hr (Ne.symm hji)) h3.1 (h3.2.1 hjz) ?_⟩) h2
      rw [Array.setIfInBounds_comm _ _ hji]
      exact h3.2.2
/-- One operation that yields in every world that meets S, taken first; the operation written out. -/
theorem takeZ {i : Nat} {oi : Oper} {rest : List Oper} {v : Value} {fuel : Nat} {listed : Array Bool} {a : Act} {w : World} (hd : ops.toList.drop i = oi :: rest)
    (hs : Region.noSelect ops = true) (hf : Region.free md ops listed i = true) (hr : (Region.ready md ops listed).contains i = true)
    (hz : ((ops[z]?).map fun o => o.after.any fun e => Region.binds md e && e.on == i) = some true)
    (hQ : ∀ c a w, Q (.panic c) (a.put oi.dst v) w → Q (.panic c) a w) (hy : YieldsIf P ops S oi v a) (hS : S w)
    (h : wpAnyZ P md ops Q S z fuel (listed.setIfInBounds i true) (a.put oi.dst v) w) : wpAnyZ P md ops Q S z (fuel + 1) listed a w := by
  have hi : ops[i]? = some oi := by
    have e : (ops.toList.drop i)[0]? = some oi := by rw [hd]; rfl
    rw [List.getElem?_drop, Nat.add_zero] at e
    simpa using e
  refine wpAnyZ_first hi (Region.noSelect_spec hs) hQ (fun oz hoz => ?_) fuel listed a w (Region.free_spec hi hf) (by simpa using hr) hy hS h
  rw [hoz] at hz
  simp only [Option.map_some, Option.some.injEq, Array.any_eq_true] at hz
  obtain ⟨k, hk, he⟩ := hz
  rw [Bool.and_eq_true, beq_iff_eq] at he
  exact ⟨_, Array.getElem_mem hk, he.1, he.2⟩
/-- One operation that alone may come up; behind it S is shown anew, but behind the last one. -/
theorem stepZ {i : Nat} {oi : Oper} {rest : List Oper} {fuel : Nat} {listed : Array Bool} {a : Act} {w : World} (hr : Region.ready md ops listed = [i]) (hd : ops.toList.drop i = oi :: rest)
    (h : ∀ K' : Act → World → Prop, Shut (∀ a w, (i ≠ z → S w) → ((i ≠ z → S w) → wpAnyZ P md ops Q S z fuel (listed.setIfInBounds i true) a w) → K' a w) → if Region.wanted oi (yielded ops a.tmps) = true then Oper.wp P oi a w K' Q else K' (a.put oi.dst undef) w) :
    wpAnyZ P md ops Q S z (fuel + 1) listed a w := by
  have hi : ops[i]? = some oi := by
    have e : (ops.toList.drop i)[0]? = some oi := by rw [hd]; rfl
    rw [List.getElem?_drop, Nat.add_zero] at e
    simpa using e
  refine ⟨fun h0 => (by rw [hr] at h0; cases h0), fun j hj => ?_⟩
  rw [hr] at hj
  obtain rfl : j = i := by simpa using hj
  have := h (fun a' w' => (j ≠ z → S w') ∧ wpAnyZ P md ops Q S z fuel (listed.setIfInBounds j true) a' w') (fun a w hS hk => ⟨hS, hk hS⟩)
  unfold wpOp
  simp only [hi]
  by_cases hw : Region.wanted oi (yielded ops a.tmps) = true
  · rw [if_pos hw] at this ⊢
    exact .inl this
  · rw [if_neg hw] at this ⊢
    exact this
theorem doneZ {listed : Array Bool} {a : Act} {w : World} (hr : Region.ready md ops listed = []) (h : Q .normal a w) : ∀ fuel, wpAnyZ P md ops Q S z fuel listed a w
  | 0 => ⟨hr, h⟩
  | _ + 1 => ⟨fun _ => h, by rw [hr]; simp⟩
theorem wp_region_Z {id : Nat} {a : Act} {w : World} (S : World → Prop) (z : Nat) (hm : P.follows .mixedOrders = true)
    (h : wpAnyZ P .any ops Q S z ops.size (Array.replicate ops.size false) a w.drew) : (Code.region id ops true).wp P Q a w :=
  wp_region_any hm (wpAny_of_Z _ _ _ _ h)
end
end Hx
end Go.Proofs.Ytlfmjnocfkamaaa
namespace Go.Proofs.Ytlfmjnocfkamaaa
open Go.RowKit
namespace Hx
open Tx
set_option linter.unusedVariables false
/-- A box with the bytes put so far. -/
def Box (B g : Nat) (l : List UInt8) (w : World) : Prop := ∃ v, w.heap[g]? = some (.cells #[v] 72 (0, 0)) ∧ w.ownsRow B 5 1 v l.length (Lib.byteCells l)
/-- What the closure does. -/
def PutTo (B g : Nat) (l : List UInt8) (w : World) (e : Ending) (w' : World) : Prop := e = .returned (.tuple #[]) ∧ Below B w w' ∧ Box B g l w'
theorem own_nbox {w : World} {B n g : Nat} {v u : Value} {xs : List Value} (h : w.ownsRow B 5 1 v n xs) (hk : w.heap[g]? = some (.cells #[u] 72 (0, 0))) : some g ≠ v.ownBlock := by
  rcases h.2 with ⟨rfl, _⟩ | ⟨g', cap, cur, rfl, hb, hg, rest⟩
  · simp [Value.ownBlock]
  · intro e
    simp only [Value.ownBlock, Option.some.injEq] at e
    subst e
    rw [hk] at hg
    cases hg
theorem box_grown {w w' : World} {row : Option Nat} {g : Nat} {o : Obj} (hk : w.heap[g]? = some o) (hg : w.grownBy w' row) (hne : some g ≠ row) : w'.heap[g]? = some o :=
  (hg.block g (lt_of_block hk) hne).trans hk
theorem box_alloc {w : World} {g : Nat} {o' : Obj} (hk : w.heap[g]? = some o') (o : Obj) : (w.alloc o).heap[g]? = some o' :=
  box_grown hk (World.grownBy_alloc w o none) (by simp)
/-- Behind the store. -/
theorem box_put {w w4 : World} {B g m : Nat} {v v4 : Value} {E : List UInt8} {l : List UInt8} (hg : w4.heap[g]? = some (.cells #[v] 72 (0, 0))) (hown : w4.ownsRow B 5 1 v4 (l.length + m) (Lib.byteCells l ++ Lib.byteCells E)) (hE : E.length = m) (hB : B ≤ g) (hb : Below B w w4) :
    PutTo B g (l ++ E) w (.returned (.tuple #[])) (w4.setCell ⟨g, 0, none⟩ v4) := by
  refine ⟨rfl, hb.setCell hB _, v4, one_setCell hg, ?_⟩
  rw [List.length_append, hE, Lib.byteCells_append]
  exact ownsRow_setCell_other hown (fun h => own_nbox hown hg h.symm) _
/-- The world with a new row of bytes in which the append is met. -/
theorem row_drew {w : World} {B g n : Nat} {v : Value} {l : List UInt8} (hg : w.heap[g]? = some (.cells #[v] 72 (0, 0))) (hown : w.ownsRow B 5 1 v n (Lib.byteCells l)) (hBw : B ≤ w.heap.size) (E : List UInt8) :
    ∃ W, (w.alloc (.cells (Lib.byteCells E).toArray 5)).drew = W ∧ W.heap[g]? = some (.cells #[v] 72 (0, 0)) ∧ W.ownsRow B 5 1 v n (Lib.byteCells l) ∧ RdA W W.heap.size (some ⟨w.heap.size, 0, none⟩) E ∧ Below B w W ∧ B ≤ W.heap.size :=
  ⟨_, rfl, box_alloc hg _, hown.alloc _, RdA.newS w 5 E, ((Below.refl B w).alloc hBw _).drew, by show B ≤ (w.alloc _).heap.size; rw [World.size_alloc]; omega⟩
/-- The append at a step of a region. -/
theorem step_append_rda {P : Program} {w : World} {ops : Array Oper} {o : Oper} {a : Act} {K : Act → World → Prop} {Q : Exit → Act → World → Prop} {E' : Prop} (hgd : o.guard = none) (s x : Operand) (t : TypeId)
    (ho : o.op = .call { callee := .builtin .append, args := #[s, x], argTypes := #[t, t] })
    (base : Nat) (e : TypeId) (i : TypeInfo) (z : Value) (ht : P.underlying t = some (.slice e)) (hi : P.info? e = some i) (hz : i.zero = some z) (hsize : i.size = 1) (hby : i.bytes = 1) (hzs : z.cells.size = 1)
    (v : Value) (n : Nat) (xs : List Value) (hs : a.eval s = v) (hown : w.ownsRow base e 1 v n xs)
    (B : Nat) (A : Option Addr) (m c : Nat) (l : List UInt8) (hx : a.eval x = .slice A m c) (hr : RdA w B A l) (hl : l.length = m) (hc0 : A = none → c = 0) (hb : n + m ≤ 1000000000000) (hbase : base ≤ w.heap.size)
    (h : ∀ v' w', w'.ownsRow base e 1 v' (n + m) (xs ++ Lib.byteCells l) → w.grownBy w' v.ownBlock → K (a.put o.dst v') w') : if Region.wanted o (yielded ops a.tmps) = true then Oper.wp P o a w K Q else E' :=
  step_append_rdg (enc := fun b : UInt8 => Value.int .u8 b.toNat) (fun _ => rfl) hgd s x t ho base e i z 1 ht hi hz hsize hby (by decide) hzs v n xs hs hown B A m c l hx hr hl hc0 hb hbase h
end Hx
end Go.Proofs.Ytlfmjnocfkamaaa
namespace Go.Proofs.Ytlfmjnocfkamaaa
open Go.RowKit
namespace Hx
open Tx
set_option linter.unusedVariables false
theorem own_it {w : World} {B e size n : Nat} {v : Value} {xs : List Value} {k : Nat} {s : ByteArray} {pos : Nat} (h : w.ownsRow B e size v n xs) (hk : w.heap[k]? = some (.stringIter s pos)) (pos' : Nat) : (w.iterAt k s pos').ownsRow B e size v n xs := by
  refine ⟨h.1, ?_⟩
  rcases h.2 with h0 | ⟨g, cap, cur, hv, hb, hg, rest⟩
  · exact .inl h0
  · refine .inr ⟨g, cap, cur, hv, hb, ?_, rest⟩
    rw [Lib.iterAt_other _ _ _ _ _ (fun e => by subst e; rw [hk] at hg; cases hg)]
    exact hg
theorem own_nit {w : World} {B e size n : Nat} {v : Value} {xs : List Value} {k : Nat} {s : ByteArray} {pos : Nat} (h : w.ownsRow B e size v n xs) (hk : w.heap[k]? = some (.stringIter s pos)) : some k ≠ v.ownBlock := by
  rcases h.2 with ⟨rfl, _⟩ | ⟨g, cap, cur, rfl, hb, hg, rest⟩
  · simp [Value.ownBlock]
  · intro e
    simp only [Value.ownBlock, Option.some.injEq] at e
    subst e
    rw [hk] at hg
    cases hg
theorem it_grown {w w' : World} {row : Option Nat} {k : Nat} {s : ByteArray} {pos : Nat} (hk : w.heap[k]? = some (.stringIter s pos)) (hg : w.grownBy w' row) (hne : some k ≠ row) : w'.heap[k]? = some (.stringIter s pos) :=
  (hg.block k (lt_of_block hk) hne).trans hk
theorem it_alloc {w : World} {k : Nat} {s : ByteArray} {pos : Nat} (hk : w.heap[k]? = some (.stringIter s pos)) (o : Obj) : (w.alloc o).heap[k]? = some (.stringIter s pos) :=
  it_grown hk (World.grownBy_alloc w o none) (by simp)
end Hx
end Go.Proofs.Ytlfmjnocfkamaaa
