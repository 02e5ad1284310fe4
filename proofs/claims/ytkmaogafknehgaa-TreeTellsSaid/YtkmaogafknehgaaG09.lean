/-
  Texts of one seat, put together: TextY, TextZ, TextV, EscE, EscF, EscG.
-/
import Derived.Test.YtkmaogafknehgaaG04
import Derived.OwnWalk
import Derived.OneCell
import Derived.Deep.AppendLies
import Derived.Test.YtkmaogafknehgaaG08
import Derived.Test.YtkmaogafknehgaaG05
import Derived.Test.YtkmaogafknehgaaG07
import Derived.Laws.EntriesVeiled
import Derived.Lib.IndexLaws
import Derived.RegionTactic
namespace Go.Proofs.Ytkmaogafknehgaa
open Go.RowKit
namespace Hx
open Tx
set_option linter.unusedVariables false
/-- A box with the bytes put so far. -/
def Box (B g : Nat) (l : List UInt8) (w : World) : Prop := ∃ v, w.heap[g]? = some (.cells #[v] 68 (0, 0)) ∧ w.ownsRow B 5 1 v l.length (Lib.byteCells l)
/-- What the closure does. -/
def PutTo (B g : Nat) (l : List UInt8) (w : World) (e : Ending) (w' : World) : Prop := e = .returned (.tuple #[]) ∧ Below B w w' ∧ Box B g l w'
theorem own_nbox {w : World} {B n g : Nat} {v u : Value} {xs : List Value} (h : w.ownsRow B 5 1 v n xs) (hk : w.heap[g]? = some (.cells #[u] 68 (0, 0))) : some g ≠ v.ownBlock := by
  rcases h.2 with ⟨rfl, _⟩ | ⟨g', cap, cur, rfl, hb, hg, rest⟩
  · simp [Value.ownBlock]
  · intro e
    simp only [Value.ownBlock, Option.some.injEq] at e
    subst e
    rw [hk] at hg
    cases hg
theorem box_grown {w w' : World} {row : Option Nat} {g : Nat} {o : Obj} (hk : w.heap[g]? = some o) (hg : w.grownBy w' row) (hne : some g ≠ row) : w'.heap[g]? = some o :=
  (hg.block g (lt_of_block hk) hne).trans hk
theorem box_alloc {w : World} {g : Nat} {o' : Obj} (hk : w.heap[g]? = some o') (o : Obj) : (w.alloc o).heap[g]? = some o' :=
  box_grown hk (World.grownBy_alloc w o none) (by simp)
/-- Behind the store. -/
theorem box_put {w w4 : World} {B g m : Nat} {v v4 : Value} {E : List UInt8} {l : List UInt8} (hg : w4.heap[g]? = some (.cells #[v] 68 (0, 0))) (hown : w4.ownsRow B 5 1 v4 (l.length + m) (Lib.byteCells l ++ Lib.byteCells E)) (hE : E.length = m) (hB : B ≤ g) (hb : Below B w w4) :
    PutTo B g (l ++ E) w (.returned (.tuple #[])) (w4.setCell ⟨g, 0, none⟩ v4) := by
  refine ⟨rfl, hb.setCell hB _, v4, one_setCell hg, ?_⟩
  rw [List.length_append, hE, Lib.byteCells_append]
  exact ownsRow_setCell_other hown (fun h => own_nbox hown hg h.symm) _
/-- The world with a new row of bytes in which the append is met. -/
theorem row_drew {w : World} {B g n : Nat} {v : Value} {l : List UInt8} (hg : w.heap[g]? = some (.cells #[v] 68 (0, 0))) (hown : w.ownsRow B 5 1 v n (Lib.byteCells l)) (hBw : B ≤ w.heap.size) (E : List UInt8) :
    ∃ W, (w.alloc (.cells (Lib.byteCells E).toArray 5)).drew = W ∧ W.heap[g]? = some (.cells #[v] 68 (0, 0)) ∧ W.ownsRow B 5 1 v n (Lib.byteCells l) ∧ RdA W W.heap.size (some ⟨w.heap.size, 0, none⟩) E ∧ Below B w W ∧ B ≤ W.heap.size :=
  ⟨_, rfl, box_alloc hg _, hown.alloc _, RdA.newS w 5 E, ((Below.refl B w).alloc hBw _).drew, by show B ≤ (w.alloc _).heap.size; rw [World.size_alloc]; omega⟩
/-- The append at a step of a region. -/
theorem step_append_rda {P : Program} {w : World} {ops : Array Oper} {o : Oper} {a : Act} {K : Act → World → Prop} {Q : Exit → Act → World → Prop} {E' : Prop} (hgd : o.guard = none) (s x : Operand) (t : TypeId)
    (ho : o.op = .call { callee := .builtin .append, args := #[s, x], argTypes := #[t, t] })
    (base : Nat) (e : TypeId) (i : TypeInfo) (z : Value) (ht : P.underlying t = some (.slice e)) (hi : P.info? e = some i) (hz : i.zero = some z) (hsize : i.size = 1) (hby : i.bytes = 1) (hzs : z.cells.size = 1)
    (v : Value) (n : Nat) (xs : List Value) (hs : a.eval s = v) (hown : w.ownsRow base e 1 v n xs)
    (B : Nat) (A : Option Addr) (m c : Nat) (l : List UInt8) (hx : a.eval x = .slice A m c) (hr : RdA w B A l) (hl : l.length = m) (hc0 : A = none → c = 0) (hb : n + m ≤ 1000000000000) (hbase : base ≤ w.heap.size)
    (h : ∀ v' w', w'.ownsRow base e 1 v' (n + m) (xs ++ Lib.byteCells l) → w.grownBy w' v.ownBlock → K (a.put o.dst v') w') : if Region.wanted o (yielded ops a.tmps) = true then Oper.wp P o a w K Q else E' :=
  step_append_rdg (enc := fun b : UInt8 => Value.int .u8 b.toNat) (fun _ => rfl) hgd s x t ho base e i z 1 ht hi hz hsize hby (by decide) hzs v n xs hs hown B A m c l hx hr hl hc0 hb hbase h
end Hx
end Go.Proofs.Ytkmaogafknehgaa
namespace Go.Proofs.Ytkmaogafknehgaa
open Go.RowKit
namespace Hx
open Tx
set_option linter.unusedVariables false
theorem own_it {w : World} {B e size n : Nat} {v : Value} {xs : List Value} {k : Nat} {s : ByteArray} {pos : Nat} (h : w.ownsRow B e size v n xs) (hk : w.heap[k]? = some (.stringIter s pos)) (pos' : Nat) : (w.iterAt k s pos').ownsRow B e size v n xs := by
  refine ⟨h.1, ?_⟩
  rcases h.2 with h0 | ⟨g, cap, cur, hv, hb, hg, rest⟩
  · exact .inl h0
  · refine .inr ⟨g, cap, cur, hv, hb, ?_, rest⟩
    rw [Lib.iterAt_other _ _ _ _ _ (fun e => by subst e; rw [hk] at hg; cases hg)]
    exact hg
theorem own_nit {w : World} {B e size n : Nat} {v : Value} {xs : List Value} {k : Nat} {s : ByteArray} {pos : Nat} (h : w.ownsRow B e size v n xs) (hk : w.heap[k]? = some (.stringIter s pos)) : some k ≠ v.ownBlock := by
  rcases h.2 with ⟨rfl, _⟩ | ⟨g, cap, cur, rfl, hb, hg, rest⟩
  · simp [Value.ownBlock]
  · intro e
    simp only [Value.ownBlock, Option.some.injEq] at e
    subst e
    rw [hk] at hg
    cases hg
theorem it_grown {w w' : World} {row : Option Nat} {k : Nat} {s : ByteArray} {pos : Nat} (hk : w.heap[k]? = some (.stringIter s pos)) (hg : w.grownBy w' row) (hne : some k ≠ row) : w'.heap[k]? = some (.stringIter s pos) :=
  (hg.block k (lt_of_block hk) hne).trans hk
theorem it_alloc {w : World} {k : Nat} {s : ByteArray} {pos : Nat} (hk : w.heap[k]? = some (.stringIter s pos)) (o : Obj) : (w.alloc o).heap[k]? = some (.stringIter s pos) :=
  it_grown hk (World.grownBy_alloc w o none) (by simp)
end Hx
end Go.Proofs.Ytkmaogafknehgaa
namespace Go.Proofs.Ytkmaogafknehgaa
open Go.RowKit
namespace Hx
open Tx
set_option linter.unusedVariables false
theorem byL_take_le (l : List Int) (k : Nat) : (byL (l.take k)).length ≤ (byL l).length := by
  have h : byL l = byL (l.take k) ++ byL (l.drop k) := by
    unfold byL
    rw [← encs_append, ← List.map_append, List.take_append_drop]
  rw [h, List.length_append]
  omega
theorem ofR_no (l : List Int) (k : Nat) (h : k < l.length) (h2 : may (l[k]'h) = false) : ofR l = (⟨#[]⟩, 50) := by
  unfold ofR
  rw [not_all_may l k h h2]
  rfl
theorem ofR_many (l : List Int) (h : l.all may = true) (h2 : 16384 < (byL l).length) : ofR l = (⟨#[]⟩, 4) := by
  unfold ofR
  rw [if_pos h, if_pos h2]
theorem ofR_ok (l : List Int) (h : l.all may = true) (h2 : ¬ 16384 < (byL l).length) : ofR l = (⟨(byL l).toArray⟩, 0) := by
  unfold ofR
  rw [if_pos h, if_neg h2]
end Hx
end Go.Proofs.Ytkmaogafknehgaa
namespace Go.Proofs.Ytkmaogafknehgaa
open Go.RowKit
namespace Hx
open Tx Nmb Es
set_option linter.unusedVariables false
def wdK (l : List UInt8) : Value := .string ⟨l.toArray⟩
def WD : Array MapEntry := #[⟨wdK [97, 109, 112], .int .i64 38, 0⟩, ⟨wdK [108, 116], .int .i64 60, 1⟩, ⟨wdK [103, 116], .int .i64 62, 2⟩, ⟨wdK [113, 117, 111, 116], .int .i64 34, 3⟩, ⟨wdK [97, 112, 111, 115], .int .i64 39, 4⟩]
theorem str_key (s : ByteArray) : MapKept.IsKey .string (.string s) := by simp [MapKept.IsKey]
/-- The reader's value; what its blocks hold. -/
def RdV (M G : Nat) : Value := .agg #[.map (some M), .slice (some ⟨G, 0, none⟩) 2 2]
theorem heap_lt {w : World} {k : Nat} {o : Obj} (h : w.heap[k]? = some o) : k < w.heap.size := by
  rcases Nat.lt_or_ge k w.heap.size with h' | h'
  · exact h'
  · rw [Array.getElem?_eq_none h'] at h; cases h
/-- A word's code point. -/
def wdO (l : List UInt8) : Option Int := if l = [97, 109, 112] then some 38 else if l = [108, 116] then some 60 else if l = [103, 116] then some 62 else if l = [113, 117, 111, 116] then some 34 else if l = [97, 112, 111, 115] then some 39 else none
def wdF (l : List UInt8) : Option (Nat × Value) := if l = [97, 109, 112] then some (0, .int .i64 38) else if l = [108, 116] then some (1, .int .i64 60) else if l = [103, 116] then some (2, .int .i64 62) else if l = [113, 117, 111, 116] then some (3, .int .i64 34) else if l = [97, 112, 111, 115] then some (4, .int .i64 39) else none
theorem bytes_same (s : ByteArray) (l : List UInt8) : (s == (⟨l.toArray⟩ : ByteArray)) = decide (s.data.toList = l) := by
  rw [Bool.eq_iff_iff, MapKept.bytes_beq, decide_eq_true_eq]
  constructor
  · intro h; rw [h]
  · intro h; rw [← h]
theorem wd_one (s : ByteArray) (k : List UInt8) (v : Value) (b : Nat) (l : List MapEntry) (i : Nat) :
    Instr.findNow .string (.string s) (⟨wdK k, v, b⟩ :: l) i = if s.data.toList = k then some (some (i, v)) else Instr.findNow .string (.string s) l (i + 1) := by
  rw [Instr.findNow]
  show (match some (s == (⟨k.toArray⟩ : ByteArray)) with | some true => _ | some false => _ | none => _) = _
  rw [bytes_same]
  by_cases h : s.data.toList = k
  · rw [if_pos h, decide_eq_true h]
  · rw [if_neg h, decide_eq_false h]
theorem wd_find (s : ByteArray) : Instr.findNow .string (.string s) WD.toList 0 = some (wdF s.data.toList) := by
  show Instr.findNow .string (.string s) [⟨wdK [97, 109, 112], _, 0⟩, ⟨wdK [108, 116], _, 1⟩, ⟨wdK [103, 116], _, 2⟩, ⟨wdK [113, 117, 111, 116], _, 3⟩, ⟨wdK [97, 112, 111, 115], _, 4⟩] 0 = _
  rw [wd_one, wd_one, wd_one, wd_one, wd_one]
  unfold wdF
  split
  · rfl
  split
  · rfl
  split
  · rfl
  split
  · rfl
  split
  · rfl
  · rfl
def wdV (o : Option Int) : Value := match o with | some n => .tuple #[.int .i64 n, .bool true] | none => .tuple #[.int .i64 0, .bool false]
theorem wdF_O (l : List UInt8) : lookV (.int .i64 0) (wdF l) = wdV (wdO l) := by
  unfold wdF wdO
  split
  · rfl
  split
  · rfl
  split
  · rfl
  split
  · rfl
  split
  · rfl
  · rfl
theorem zero_int (w : World) : (zeroValue 3).run Try.prog w = .ok (.int .i64 0) w := by kernel_rfl
end Hx
end Go.Proofs.Ytkmaogafknehgaa
namespace Go.Proofs.Ytkmaogafknehgaa
open Go.RowKit
namespace Hx
open Tx Nmb Es
set_option linter.unusedVariables false
/-- What stands behind the mark; which mark. -/
def pxR (l p : List UInt8) : ByteArray := ⟨(Lib.trimPrefix l p).toArray⟩
/-- What point answers, by the two marks. -/
def ptR (l : List UInt8) : Int × Int :=
  match wdO l with
  | some n => (n, 0)
  | none => if Lib.hasPrefix l [35, 120] then hexI (pxR l [35, 120]).data.toList else if Lib.hasPrefix l [35] then readR (pxR l [35]).data.toList else (0, 80)
theorem px_size (s : ByteArray) (p : List UInt8) : (pxR s.data.toList p).size ≤ s.size := by
  have h : (pxR s.data.toList p).size = (Lib.trimPrefix s.data.toList p).length := rfl
  have h2 := ba_len5 s
  rw [h]
  unfold Lib.trimPrefix
  split
  · rw [List.length_drop]; omega
  · omega
/-- What a reference tells. -/
def refR (l : List UInt8) : ByteArray × Int := match meantL l with | some y => (⟨y.toArray⟩, 0) | none => (⟨#[]⟩, 80)
theorem enc_le (n : Nat) : (enc n).length ≤ 4 := by
  unfold enc
  split
  · simp
  · split
    · simp
    · split <;> simp
theorem ofR_one (n : Nat) : ofR [(n : Int)] = if may (n : Int) = true then (⟨(enc n).toArray⟩, 0) else (⟨#[]⟩, 50) := by
  by_cases h : may (n : Int) = true
  · rw [if_pos h]
    have hb : byL [(n : Int)] = enc n := by simp [byL, encs_cons, encs_nil]
    have he := enc_le n
    rw [ofR_ok _ (by simpa using h) (by rw [hb]; omega), hb]
  · rw [if_neg h]
    exact ofR_no _ 0 (by simp) (by simpa using h)
def markL (l : List UInt8) : Option (List UInt8) := match l with | 35 :: r => (numL r).map enc | _ => none
theorem markL_no {l : List UInt8} (h : ∀ r, l ≠ 35 :: r) : markL l = none := by
  unfold markL
  split
  · exact absurd rfl (h _)
  · rfl
theorem meantL_mark (l : List UInt8) (h : wdO l = none) : meantL l = markL l := by
  unfold wdO at h
  unfold meantL
  by_cases h1 : l = [97, 109, 112]
  · rw [if_pos h1] at h; cases h
  rw [if_neg h1] at h ⊢
  by_cases h2 : l = [108, 116]
  · rw [if_pos h2] at h; cases h
  rw [if_neg h2] at h ⊢
  by_cases h3 : l = [103, 116]
  · rw [if_pos h3] at h; cases h
  rw [if_neg h3] at h ⊢
  by_cases h4 : l = [113, 117, 111, 116]
  · rw [if_pos h4] at h; cases h
  rw [if_neg h4] at h ⊢
  by_cases h5 : l = [97, 112, 111, 115]
  · rw [if_pos h5] at h; cases h
  rw [if_neg h5] at h ⊢
  rfl
theorem pre_x (l : List UInt8) : (∃ r, l = 35 :: 120 :: r ∧ Lib.hasPrefix l [35, 120] = true ∧ Lib.trimPrefix l [35, 120] = r) ∨ ((∀ r, l ≠ 35 :: 120 :: r) ∧ Lib.hasPrefix l [35, 120] = false) := by
  cases h : Lib.hasPrefix l [35, 120] with
  | true =>
    have h2 : [35, 120] <+: l := by unfold Lib.hasPrefix at h; exact List.isPrefixOf_iff_prefix.1 h
    obtain ⟨r, rfl⟩ := h2
    refine .inl ⟨r, rfl, rfl, ?_⟩
    unfold Lib.trimPrefix
    rw [if_pos h]
    rfl
  | false =>
    refine .inr ⟨fun r e => ?_, rfl⟩
    subst e
    have : Lib.hasPrefix (35 :: 120 :: r) [35, 120] = true := by unfold Lib.hasPrefix; exact List.isPrefixOf_iff_prefix.2 ⟨r, rfl⟩
    rw [this] at h
    cases h
theorem pre_d (l : List UInt8) : (∃ r, l = 35 :: r ∧ Lib.hasPrefix l [35] = true ∧ Lib.trimPrefix l [35] = r) ∨ ((∀ r, l ≠ 35 :: r) ∧ Lib.hasPrefix l [35] = false) := by
  cases h : Lib.hasPrefix l [35] with
  | true =>
    have h2 : [35] <+: l := by unfold Lib.hasPrefix at h; exact List.isPrefixOf_iff_prefix.1 h
    obtain ⟨r, rfl⟩ := h2
    refine .inl ⟨r, rfl, rfl, ?_⟩
    unfold Lib.trimPrefix
    rw [if_pos h]
    rfl
  | false =>
    refine .inr ⟨fun r e => ?_, rfl⟩
    subst e
    have : Lib.hasPrefix (35 :: r) [35] = true := by unfold Lib.hasPrefix; exact List.isPrefixOf_iff_prefix.2 ⟨r, rfl⟩
    rw [this] at h
    cases h
def numP (k : Int) (o : Option Nat) : Int × Int := match o with | some n => ((n : Int), 0) | none => (0, k)
/-- What of a number: the reference of it, or none. -/
def numA (n : Nat) : ByteArray × Int := if may (n : Int) = true then (⟨(enc n).toArray⟩, 0) else (⟨#[]⟩, 80)
theorem ref_num (l : List UInt8) (o : Option Nat) (k a b : Int) (hk : k ≠ 0) (hml : meantL l = (o.filter fun n : Nat => may (n : Int)).map enc) (hx : numP k o = (a, b)) :
    (b ≠ 0 ∧ refR l = (⟨#[]⟩, 80)) ∨ (b = 0 ∧ ∃ n : Nat, a = (n : Int) ∧ refR l = numA n) := by
  cases o with
  | none =>
    cases hx
    refine .inl ⟨hk, ?_⟩
    unfold refR
    rw [hml]
    rfl
  | some n =>
    cases hx
    refine .inr ⟨rfl, n, rfl, ?_⟩
    unfold refR numA
    rw [hml]
    by_cases hm : may (n : Int) = true
    · rw [if_pos hm, Option.filter_some, if_pos hm]
      rfl
    · rw [if_neg hm, Option.filter_some, if_neg hm]
      rfl
/-- By way of the number: the reference of it, or none. -/
theorem ref_steps (l : List UInt8) (a b : Int) (h : ptR l = (a, b)) : (b ≠ 0 ∧ refR l = (⟨#[]⟩, 80)) ∨ (b = 0 ∧ ∃ n : Nat, a = (n : Int) ∧ refR l = numA n) := by
  unfold ptR at h
  cases hw : wdO l with
  | some n =>
    rw [hw] at h
    obtain ⟨rfl, rfl⟩ : n = a ∧ (0 : Int) = b := by cases h; exact ⟨rfl, rfl⟩
    refine .inr ⟨rfl, ?_⟩
    unfold wdO at hw
    split at hw
    · rename_i e; subst e; cases hw; exact ⟨38, rfl, by decide +kernel⟩
    split at hw
    · rename_i e; subst e; cases hw; exact ⟨60, rfl, by decide +kernel⟩
    split at hw
    · rename_i e; subst e; cases hw; exact ⟨62, rfl, by decide +kernel⟩
    split at hw
    · rename_i e; subst e; cases hw; exact ⟨34, rfl, by decide +kernel⟩
    split at hw
    · rename_i e; subst e; cases hw; exact ⟨39, rfl, by decide +kernel⟩
    · cases hw
  | none =>
    rw [hw] at h
    have hml := meantL_mark l hw
    rcases pre_x l with ⟨r, rfl, e1, e2⟩ | ⟨e0, e1⟩
    · dsimp only at h
      rw [if_pos e1] at h
      have e3 : (pxR (35 :: 120 :: r) [35, 120]).data.toList = r := e2
      rw [e3] at h
      exact ref_num _ (hexV r) 80 a b (by decide) hml h
    · dsimp only at h
      rw [e1, if_neg (by decide)] at h
      rcases pre_d l with ⟨r, rfl, e4, e5⟩ | ⟨e3, e4⟩
      · rw [if_pos e4] at h
        have e6 : (pxR (35 :: r) [35]).data.toList = r := e5
        rw [e6] at h
        have hd : r.head? ≠ some 120 := by
          intro hh
          cases r with
          | nil => cases hh
          | cons c r =>
            cases hh
            exact e0 r rfl
        have hml2 : meantL (35 :: r) = (numL r).map enc := hml
        rw [numL_d hd] at hml2
        exact ref_num _ (readN r) 60 a b (by decide) hml2 h
      · rw [e4, if_neg (by decide)] at h
        obtain ⟨rfl, rfl⟩ : (0 : Int) = a ∧ (80 : Int) = b := by cases h; exact ⟨rfl, rfl⟩
        refine .inl ⟨by decide, ?_⟩
        unfold refR
        rw [hml, markL_no e3]
end Hx
end Go.Proofs.Ytkmaogafknehgaa
namespace Go.Proofs.Ytkmaogafknehgaa
open Go.RowKit
namespace Hx
open Tx Nmb Es
set_option linter.unusedVariables false
theorem ix_cases (l : List UInt8) (c : UInt8) : (Lib.indexByte l c = -1 ∧ c ∉ l) ∨ ∃ i : Nat, Lib.indexByte l c = (i : Int) ∧ i < l.length ∧ l = l.take i ++ c :: l.drop (i + 1) ∧ c ∉ l.take i := by
  have hge := Lib.indexByte_ge l c
  by_cases h : Lib.indexByte l c = -1
  · left
    refine ⟨h, fun hc => ?_⟩
    obtain ⟨k, hk⟩ := List.mem_iff_getElem?.1 hc
    exact Lib.indexByte_none h k hk
  · right
    obtain ⟨i, hi⟩ : ∃ i : Nat, Lib.indexByte l c = (i : Int) := ⟨(Lib.indexByte l c).toNat, by omega⟩
    obtain ⟨h1, h2⟩ := Lib.indexByte_some hi
    obtain ⟨hlt, hc⟩ := List.getElem?_eq_some_iff.1 h1
    refine ⟨i, hi, hlt, ?_, fun hm => ?_⟩
    · conv => lhs; rw [← List.take_append_drop i l]
      rw [List.drop_eq_getElem_cons hlt, hc]
    · obtain ⟨k, hk⟩ := List.mem_iff_getElem?.1 hm
      rw [List.getElem?_take] at hk
      split at hk
      · exact h2 k (by assumption) hk
      · cases hk
/-- What Cut answers. -/
def CutAt (p r : ByteArray) (b : Bool) (w : World) (e : Ending) (w' : World) : Prop := e = .returned (.tuple #[.string p, .string r, .bool b]) ∧ Below w.heap.size w w'
theorem ib_38 (s : ByteArray) (q : Int) (w : World) (h : Lib.indexByte s.data.toList 38 = q) :
    Calls Try.prog 78 #[.string s, .int .u8 ↑((⟨#[38]⟩ : ByteArray)[0]'(by decide)).toNat] w fun e w' => e = .returned (.int .i64 q) ∧ w = w' := by
  refine (Try.stringslite_IndexByte s _ w).mono fun e w' ⟨h1, h2⟩ => ⟨?_, h2.symm⟩
  rw [h1, ← h]
  rfl
set_option maxRecDepth 100000 in
theorem index_38 (s : ByteArray) (q : Int) (w : World) (h : Lib.indexByte s.data.toList 38 = q) :
    Calls Try.prog 75 #[.string s, .string ⟨#[38]⟩] w fun e w' => e = .returned (.int .i64 q) ∧ w = w' := by
  have H := Lib.hid h
  cases hq : ([38] == s.toList) with
  | true =>
    obtain rfl : (0 : Int) = q := by
      have e : s.data.toList = [38] := by
        rw [beq_iff_eq, ByteArray.toList_eq] at hq
        exact hq.symm
      rw [← h, e]
      rfl
    clear h
    go_enter Try.func75, Try.ntmps75
    go_wp2_with fail
    go_ret
    exact ⟨rfl, rfl⟩
  | false =>
    clear h
    go_enter Try.func75, Try.ntmps75
    go_wp2_with (first
      | (go_at_call 78; (with_reducible refine (ib_38 s q w H.out).mono ?_); rintro e w1 ⟨rfl, rfl⟩)
      | fail)
    go_ret
    exact ⟨rfl, rfl⟩
theorem ib_59 (s : ByteArray) (q : Int) (w : World) (h : Lib.indexByte s.data.toList 59 = q) :
    Calls Try.prog 78 #[.string s, .int .u8 ↑((⟨#[59]⟩ : ByteArray)[0]'(by decide)).toNat] w fun e w' => e = .returned (.int .i64 q) ∧ w = w' := by
  refine (Try.stringslite_IndexByte s _ w).mono fun e w' ⟨h1, h2⟩ => ⟨?_, h2.symm⟩
  rw [h1, ← h]
  rfl
set_option maxRecDepth 100000 in
theorem index_59 (s : ByteArray) (q : Int) (w : World) (h : Lib.indexByte s.data.toList 59 = q) :
    Calls Try.prog 75 #[.string s, .string ⟨#[59]⟩] w fun e w' => e = .returned (.int .i64 q) ∧ w = w' := by
  have H := Lib.hid h
  cases hq : ([59] == s.toList) with
  | true =>
    obtain rfl : (0 : Int) = q := by
      have e : s.data.toList = [59] := by
        rw [beq_iff_eq, ByteArray.toList_eq] at hq
        exact hq.symm
      rw [← h, e]
      rfl
    clear h
    go_enter Try.func75, Try.ntmps75
    go_wp2_with fail
    go_ret
    exact ⟨rfl, rfl⟩
  | false =>
    clear h
    go_enter Try.func75, Try.ntmps75
    go_wp2_with (first
      | (go_at_call 78; (with_reducible refine (ib_59 s q w H.out).mono ?_); rintro e w1 ⟨rfl, rfl⟩)
      | fail)
    go_ret
    exact ⟨rfl, rfl⟩
theorem ib_60 (s : ByteArray) (q : Int) (w : World) (h : Lib.indexByte s.data.toList 60 = q) :
    Calls Try.prog 78 #[.string s, .int .u8 ↑((⟨#[60]⟩ : ByteArray)[0]'(by decide)).toNat] w fun e w' => e = .returned (.int .i64 q) ∧ w = w' := by
  refine (Try.stringslite_IndexByte s _ w).mono fun e w' ⟨h1, h2⟩ => ⟨?_, h2.symm⟩
  rw [h1, ← h]
  rfl
set_option maxRecDepth 100000 in
theorem index_60 (s : ByteArray) (q : Int) (w : World) (h : Lib.indexByte s.data.toList 60 = q) :
    Calls Try.prog 75 #[.string s, .string ⟨#[60]⟩] w fun e w' => e = .returned (.int .i64 q) ∧ w = w' := by
  have H := Lib.hid h
  cases hq : ([60] == s.toList) with
  | true =>
    obtain rfl : (0 : Int) = q := by
      have e : s.data.toList = [60] := by
        rw [beq_iff_eq, ByteArray.toList_eq] at hq
        exact hq.symm
      rw [← h, e]
      rfl
    clear h
    go_enter Try.func75, Try.ntmps75
    go_wp2_with fail
    go_ret
    exact ⟨rfl, rfl⟩
  | false =>
    clear h
    go_enter Try.func75, Try.ntmps75
    go_wp2_with (first
      | (go_at_call 78; (with_reducible refine (ib_60 s q w H.out).mono ?_); rintro e w1 ⟨rfl, rfl⟩)
      | fail)
    go_ret
    exact ⟨rfl, rfl⟩
set_option maxRecDepth 100000 in
theorem slcut_no_38 (s : ByteArray) (w : World) (h : Lib.indexByte s.data.toList 38 = -1) :
    Calls Try.prog 68 #[.string s, .string ⟨#[38]⟩] w (CutAt s ⟨#[]⟩ false w) := by
  have H := Lib.hid h
  clear h
  go_enter Try.func68, Try.ntmps68
  go_wp2_with (first
    | (go_at_call 75; (with_reducible refine (index_38 s (-1) w H.out).mono ?_); rintro e w1 ⟨rfl, rfl⟩)
    | fail)
  go_ret3
  exact ⟨rfl, Below.refl _ _⟩
set_option maxRecDepth 100000 in
theorem slcut_yes_38 (s p r : ByteArray) (i j n : Nat) (w : World) (hm : s.size ≤ 1000000) (h : Lib.indexByte s.data.toList 38 = (i : Int)) (hi : i < s.size) (hj : i + 1 = j) (hn : s.size = n) (hp : s.extract 0 i = p) (hr : s.extract j n = r) :
    Calls Try.prog 68 #[.string s, .string ⟨#[38]⟩] w (CutAt p r true w) := by
  have H := Lib.hid h
  have b1 : (0 : Int) ≤ (i : Int) ∧ (i : Int) ≤ (s.size : Int) := by omega
  have b2 : (0 : Int) ≤ (j : Int) ∧ (j : Int) ≤ (s.size : Int) := by omega
  have s1 : IntKind.i64.wrap ((i : Int) + 1) = (j : Int) := by rw [IntWalk.i64_in _ (by omega)]; omega
  have d1 : decide ((0 : Int) ≤ (i : Int)) = true := by simp
  rw [← hn] at hr
  clear h hm hi hj hn
  go_enter Try.func68, Try.ntmps68
  go_wp2_with (first
    | (go_at_call 75; (with_reducible refine (index_38 s (i : Int) w H.out).mono ?_); rintro e w1 ⟨rfl, rfl⟩)
    | fail)
  go_region
  go_wp2_with fail
  go_ret3
  exact ⟨rfl, (show Below w.heap.size w w.drew from ⟨rfl, rfl, rfl, Nat.le_refl _, fun _ _ => rfl⟩)⟩
set_option maxRecDepth 100000 in
theorem cut_no_38 (s : ByteArray) (w : World) (h : Lib.indexByte s.data.toList 38 = -1) :
    Calls Try.prog 62 #[.string s, .string ⟨#[38]⟩] w (CutAt s ⟨#[]⟩ false w) := by
  have H := Lib.hid h
  clear h
  go_enter Try.func62, Try.ntmps62
  go_wp2_with (first
    | (go_at_call 68; (with_reducible refine (slcut_no_38 s w H.out).mono ?_); rintro e w1 ⟨rfl, hb1⟩)
    | fail)
  go_ret3
  exact ⟨rfl, hb1⟩
set_option maxRecDepth 100000 in
theorem cut_yes_38 (s p r : ByteArray) (i j n : Nat) (w : World) (hm : s.size ≤ 1000000) (h : Lib.indexByte s.data.toList 38 = (i : Int)) (hi : i < s.size) (hj : i + 1 = j) (hn : s.size = n) (hp : s.extract 0 i = p) (hr : s.extract j n = r) :
    Calls Try.prog 62 #[.string s, .string ⟨#[38]⟩] w (CutAt p r true w) := by
  have H : Hid (Calls Try.prog 68 #[.string s, .string ⟨#[38]⟩] w (CutAt p r true w)) := slcut_yes_38 s p r i j n w hm h hi hj hn hp hr
  clear hm h hi hj hn hp hr
  go_enter Try.func62, Try.ntmps62
  go_wp2_with (first
    | (go_at_call 68; (with_reducible refine (H.out).mono ?_); rintro e w1 ⟨rfl, hb1⟩)
    | fail)
  go_ret3
  exact ⟨rfl, hb1⟩
set_option maxRecDepth 100000 in
theorem slcut_no_59 (s : ByteArray) (w : World) (h : Lib.indexByte s.data.toList 59 = -1) :
    Calls Try.prog 68 #[.string s, .string ⟨#[59]⟩] w (CutAt s ⟨#[]⟩ false w) := by
  have H := Lib.hid h
  clear h
  go_enter Try.func68, Try.ntmps68
  go_wp2_with (first
    | (go_at_call 75; (with_reducible refine (index_59 s (-1) w H.out).mono ?_); rintro e w1 ⟨rfl, rfl⟩)
    | fail)
  go_ret3
  exact ⟨rfl, Below.refl _ _⟩
set_option maxRecDepth 100000 in
theorem slcut_yes_59 (s p r : ByteArray) (i j n : Nat) (w : World) (hm : s.size ≤ 1000000) (h : Lib.indexByte s.data.toList 59 = (i : Int)) (hi : i < s.size) (hj : i + 1 = j) (hn : s.size = n) (hp : s.extract 0 i = p) (hr : s.extract j n = r) :
    Calls Try.prog 68 #[.string s, .string ⟨#[59]⟩] w (CutAt p r true w) := by
  have H := Lib.hid h
  have b1 : (0 : Int) ≤ (i : Int) ∧ (i : Int) ≤ (s.size : Int) := by omega
  have b2 : (0 : Int) ≤ (j : Int) ∧ (j : Int) ≤ (s.size : Int) := by omega
  have s1 : IntKind.i64.wrap ((i : Int) + 1) = (j : Int) := by rw [IntWalk.i64_in _ (by omega)]; omega
  have d1 : decide ((0 : Int) ≤ (i : Int)) = true := by simp
  rw [← hn] at hr
  clear h hm hi hj hn
  go_enter Try.func68, Try.ntmps68
  go_wp2_with (first
    | (go_at_call 75; (with_reducible refine (index_59 s (i : Int) w H.out).mono ?_); rintro e w1 ⟨rfl, rfl⟩)
    | fail)
  go_region
  go_wp2_with fail
  go_ret3
  exact ⟨rfl, (show Below w.heap.size w w.drew from ⟨rfl, rfl, rfl, Nat.le_refl _, fun _ _ => rfl⟩)⟩
set_option maxRecDepth 100000 in
theorem cut_no_59 (s : ByteArray) (w : World) (h : Lib.indexByte s.data.toList 59 = -1) :
    Calls Try.prog 62 #[.string s, .string ⟨#[59]⟩] w (CutAt s ⟨#[]⟩ false w) := by
  have H := Lib.hid h
  clear h
  go_enter Try.func62, Try.ntmps62
  go_wp2_with (first
    | (go_at_call 68; (with_reducible refine (slcut_no_59 s w H.out).mono ?_); rintro e w1 ⟨rfl, hb1⟩)
    | fail)
  go_ret3
  exact ⟨rfl, hb1⟩
set_option maxRecDepth 100000 in
theorem cut_yes_59 (s p r : ByteArray) (i j n : Nat) (w : World) (hm : s.size ≤ 1000000) (h : Lib.indexByte s.data.toList 59 = (i : Int)) (hi : i < s.size) (hj : i + 1 = j) (hn : s.size = n) (hp : s.extract 0 i = p) (hr : s.extract j n = r) :
    Calls Try.prog 62 #[.string s, .string ⟨#[59]⟩] w (CutAt p r true w) := by
  have H : Hid (Calls Try.prog 68 #[.string s, .string ⟨#[59]⟩] w (CutAt p r true w)) := slcut_yes_59 s p r i j n w hm h hi hj hn hp hr
  clear hm h hi hj hn hp hr
  go_enter Try.func62, Try.ntmps62
  go_wp2_with (first
    | (go_at_call 68; (with_reducible refine (H.out).mono ?_); rintro e w1 ⟨rfl, hb1⟩)
    | fail)
  go_ret3
  exact ⟨rfl, hb1⟩
theorem rdz_one (w : World) (n : Int) (T : TypeId) : RdZ (w.alloc (.cells #[.int .i64 n] T)) (w.alloc (.cells #[.int .i64 n] T)).heap.size (some ⟨w.heap.size, 0, none⟩) [n] := by
  intro _
  refine ⟨w.heap.size, 0, rfl, by simp, fun k hk => ?_⟩
  have : k = 0 := by simpa using hk
  subst this
  simp [encZ]
end Hx
end Go.Proofs.Ytkmaogafknehgaa
