/-
  Texts of one seat, put together: EscT, LexT, MemV, LexU.
-/
import Derived.Test.YtfdhogaknlabkaaG09
import Derived.Test.YtfdhogaknlabkaaG07
import Derived.Lib.ConvBytes
import Derived.Lib.BufferMore
import Derived.Test.YtfdhogaknlabkaaG00
import Derived.Laws.Rows
import Derived.Laws.Tables
set_option linter.unusedSimpArgs false
set_option linter.unusedVariables false
namespace Go.Proofs.Ytfdhogaknlabkaa
open Go.RowKit
namespace Hx
open Tx Nmb Es
set_option linter.unusedVariables false
theorem drop_step {l : List UInt8} {k : Nat} {c : UInt8} (h : l[k]? = some c) : l.drop k = c :: l.drop (k + 1) := by
  obtain ⟨hk, e⟩ := List.getElem?_eq_some_iff.1 h
  rw [List.drop_eq_getElem_cons hk, e]
theorem mid_next {l : List UInt8} {k a : Nat} {c : UInt8} (h : l[k]? = some c) (ha : a ≤ k) : (l.drop a).take (k + 1 - a) = (l.drop a).take (k - a) ++ [c] := by
  have e : (l.drop a)[k - a]? = some c := by rw [List.getElem?_drop, show a + (k - a) = k by omega]; exact h
  rw [show k + 1 - a = (k - a) + 1 by omega]
  exact take_next8 e
theorem mid_split {l : List UInt8} {k a : Nat} {c : UInt8} (h : l[k]? = some c) (ha : a ≤ k) : l.drop a = (l.drop a).take (k - a) ++ c :: l.drop (k + 1) := by
  rw [← drop_step h]
  have e : l.drop k = (l.drop a).drop (k - a) := by rw [List.drop_drop, show a + (k - a) = k by omega]
  rw [e, List.take_append_drop]
theorem meantL_len {x y : List UInt8} (h : meantL x = some y) : y.length ≤ 4 := by
  unfold meantL at h
  repeat (split at h; · (cases h; simp))
  split at h
  · rw [Option.map_eq_some_iff] at h
    obtain ⟨n, _, rfl⟩ := h
    exact (enc_length n).2
  · cases h
theorem extract_mid8 (s : ByteArray) (a b : Nat) : s.extract a b = ⟨((s.data.toList.drop a).take (b - a)).toArray⟩ := by
  have := ByteArray.extract_mk s.data.toList a b
  rw [← ba_eq5] at this
  exact this
theorem mnt_some {o : Option (List UInt8)} {t : ByteArray} (h : mntR o = (t, true)) : ∃ y, o = some y ∧ t = ⟨y.toArray⟩ := by
  unfold mntR at h
  cases o with
  | none => cases h
  | some y => cases h; exact ⟨y, rfl, rfl⟩
theorem mnt_none {o : Option (List UInt8)} {t : ByteArray} (h : mntR o = (t, false)) : o = none := by
  unfold mntR at h
  cases o with
  | none => rfl
  | some y => cases h
/-- What Get answers. -/
def getR (s : ByteArray) : ByteArray × Int := if chkE s ≠ 0 then (⟨#[]⟩, chkE s) else match rd s.data.toList with | some x => (⟨x.toArray⟩, 0) | none => (⟨#[]⟩, 80)
end Hx
end Go.Proofs.Ytfdhogaknlabkaa
namespace Go.Proofs.Ytfdhogaknlabkaa
open Go.RowKit
namespace Hx
open Lx Tx Nmb Es
set_option linter.unusedVariables false
theorem seq_l (a b : ByteArray) : (a.toList == b.toList) = decide (a.data.toList = b.data.toList) := by
  rw [Bool.eq_iff_iff]
  simp only [beq_iff_eq, decide_eq_true_eq, ByteArray.toList_eq]
theorem hasL_step {l : List Pr} {name : List UInt8} {k : Nat} (h : k < l.length) (h1 : hasL (l.take k) name = false) : (decide ((l[k]'h).name = name) = false → hasL (l.take (k + 1)) name = false) ∧ (decide ((l[k]'h).name = name) = true → hasL l name = true) := by
  unfold hasL at h1 ⊢
  refine ⟨fun h2 => ?_, fun h2 => ?_⟩
  · rw [List.take_succ_eq_append_getElem h, List.any_append, h1]
    simp only [List.any_cons, List.any_nil, h2]
    rfl
  · rw [List.any_eq_true]
    exact ⟨_, List.getElem_mem h, h2⟩
/-- A row of bytes that came of a text. -/
def Rwb (g : Nat) (l : List UInt8) (w : World) : Prop := ∃ (cs : Array Value) (fr : Nat × Nat), w.heap[g]? = some (.cells cs 5 fr) ∧ l.length ≤ fr.1 ∧ (∀ (j : Nat) (c : UInt8), l[j]? = some c → cs[j]? = some (Value.int .u8 c.toNat))
theorem lt_of_row {w : World} {g : Nat} {o : Obj} (h : w.heap[g]? = some o) : g < w.heap.size := (Array.getElem?_eq_some_iff.1 h).1
theorem row_cell (w : World) (g k : Nat) (cs : Array Value) (t : TypeId) (fr : Nat × Nat) (h : w.heap[g]? = some (.cells cs t fr)) : w.cell? ⟨g, k, none⟩ = cs[k]? := by simp [World.cell?, h]
theorem Rwb.lt {g : Nat} {l : List UInt8} {w : World} (h : Rwb g l w) : g < w.heap.size := by
  obtain ⟨cs, fr, h1, _⟩ := h
  exact lt_of_row h1
theorem Rwb.cell {g k : Nat} {l : List UInt8} {c : UInt8} {w : World} (h : Rwb g l w) (hc : l[k]? = some c) : w.cell? ⟨g, k, none⟩ = some (.int .u8 c.toNat) := by
  obtain ⟨cs, fr, h1, _, h3⟩ := h
  rw [row_cell w g k cs _ fr h1]
  exact h3 k c hc
theorem Rwb.free {g k : Nat} {l : List UInt8} {w : World} (h : Rwb g l w) (hk : k < l.length) : w.frozen? ⟨g, k, none⟩ = false := by
  obtain ⟨cs, fr, h1, h2, _⟩ := h
  obtain ⟨lo, hi⟩ := fr
  simp only at h2
  simp [World.frozen?, h1]
  omega
theorem Rwb.rd {g : Nat} {l : List UInt8} {w : World} (h : Rwb g l w) : RdA w w.heap.size (some ⟨g, 0, none⟩) l := by
  intro hp
  refine ⟨g, 0, rfl, h.lt, fun j hj => ?_⟩
  rw [Nat.zero_add]
  exact h.cell (List.getElem?_eq_getElem hj)
theorem Rwb.put {g k : Nat} {l : List UInt8} {x : UInt8} {w : World} (h : Rwb g l w) : Rwb g (l.set k x) (w.setCell ⟨g, k, none⟩ (.int .u8 x.toNat)) := by
  obtain ⟨cs, fr, h1, h2, h3⟩ := h
  refine ⟨_, fr, Lib.heap_setCell_same h1 _, by rw [List.length_set]; exact h2, fun j c hj => ?_⟩
  rw [List.getElem?_set] at hj
  rw [Array.getElem?_setIfInBounds]
  by_cases hkj : k = j
  · subst hkj
    rw [if_pos rfl] at hj ⊢
    by_cases hk : k < l.length
    · rw [if_pos hk] at hj
      have hs := h3 k _ (List.getElem?_eq_getElem hk)
      have : k < cs.size := (Array.getElem?_eq_some_iff.1 hs).1
      rw [if_pos this]
      cases hj
      rfl
    · rw [if_neg hk] at hj
      cases hj
  · rw [if_neg hkj] at hj ⊢
    exact h3 j c hj
theorem str_rowb (s : ByteArray) (w : World) : ∃ C WB, (convert 9 58 (.string s)).run Try.prog w = .ok (.slice (some ⟨w.heap.size, 0, none⟩) s.size C) WB ∧ Rwb w.heap.size s.data.toList WB ∧ Below w.heap.size w WB := by
  have h := Lib.run_convert_string_bytes (P := Try.prog) w 9 58 5 s Try.underlying9 Try.underlying58 Try.underlying5
  refine ⟨_, _, h, ⟨_, _, Lib.bytesWorld_at_new w _ s, ?_, fun j c hj => ?_⟩, ⟨rfl, rfl, rfl, by rw [Lib.bytesWorld_size]; omega, fun k hk => Lib.bytesWorld_at_old w _ _ k hk⟩⟩
  · show _ ≤ (Lib.bytesCells w _ s).size
    simp [Lib.bytesCells]
  · obtain ⟨hk, e⟩ := List.getElem?_eq_some_iff.1 hj
    have hk2 : j < s.data.size := by simpa using hk
    unfold Lib.bytesCells
    rw [Array.getElem?_append_left (by simpa using hk2), Array.getElem?_map]
    have : s.data[j]? = some c := by rw [← Array.getElem?_toList]; exact hj
    rw [this]
    rfl
def sp (c : UInt8) : UInt8 := if blk c then 32 else c
/-- So many blanks turned. -/
def spk (l : List UInt8) (k : Nat) : List UInt8 := (l.take k).map sp ++ l.drop k
theorem spk_len (l : List UInt8) (k : Nat) : (spk l k).length = l.length := by unfold spk; rw [List.length_append, List.length_map, List.length_take, List.length_drop]; omega
theorem spk_at {l : List UInt8} {k : Nat} (h : k < l.length) : (spk l k)[k]? = some (l[k]'h) ∧ spk l (k + 1) = (spk l k).set k (sp (l[k]'h)) := by
  have hl : ((l.take k).map sp).length = k := by rw [List.length_map, List.length_take]; omega
  have e1 : spk l k = (l.take k).map sp ++ (l[k]'h) :: l.drop (k + 1) := by unfold spk; rw [List.drop_eq_getElem_cons h]
  refine ⟨?_, ?_⟩
  · rw [e1, List.getElem?_append_right (by omega), hl]
    simp
  · rw [e1, List.set_append_right _ _ (by omega), hl, Nat.sub_self, List.set_cons_zero]
    unfold spk
    rw [List.take_succ_eq_append_getElem h, List.map_append]
    simp
theorem set_same {α : Type} {l : List α} {k : Nat} {c : α} (h : l[k]? = some c) : l.set k c = l := by
  apply List.ext_getElem?
  intro j
  rw [List.getElem?_set]
  by_cases hj : k = j
  · subst hj
    obtain ⟨hk, _⟩ := List.getElem?_eq_some_iff.1 h
    rw [if_pos rfl, if_pos hk, h]
  · rw [if_neg hj]
end Hx
end Go.Proofs.Ytfdhogaknlabkaa
namespace Go.Proofs.Ytfdhogaknlabkaa
open Go.RowKit
namespace Hx
set_option linter.unusedVariables false
theorem kept_heap {a b : World} {k : Nat} {o : Obj} (h : a.heap[k]? = some o) (hb : Below a.heap.size a b) : b.heap[k]? = some o := (hb.block k (Array.getElem?_eq_some_iff.1 h).1).trans h
theorem lt_heap {a : World} {k : Nat} {o : Obj} (h : a.heap[k]? = some o) : k < a.heap.size := (Array.getElem?_eq_some_iff.1 h).1
theorem below_setRowV {B g : Nat} {w0 w : World} (hb : Below B w0 w) (hBg : B ≤ g) (cs : Array Value) : Below B w0 (w.setRow g cs) :=
  hb.trans ⟨rfl, rfl, rfl, by simp [World.setRow], fun k hk => setRow_other w g k cs (by omega)⟩
theorem rcell2 {P : Program} {fn : Func} {p q : Tmp} {ty : TypeId} (h : fn.results = #[.cell p ty, .tmp q]) (tmps : Array Value) (w : World) (g : Nat) (t : TypeId) (cs : Array Value) (fr : Nat × Nat) (d : TypeDesc)
    (hp : tmps.getD p undef = .pointer (some ⟨g, 0, none⟩)) (hg : w.heap[g]? = some (.cells cs t fr))
    (hu : P.underlying ty = some d) (hd : (match d with | .struct _ | .array _ _ => true | _ => false) = true) (hi : (P.info? ty).map (·.size) = some cs.size) :
    (results fn tmps).run P w = .ok (.tuple #[.agg cs, tmps.getD q undef]) w := by
  have hp' : tmps[p]?.getD undef = .pointer (some ⟨g, 0, none⟩) := by simpa using hp
  simp [results, h, hp', asAddr, run_loadVar_row w g t ty cs fr d hg hu hd hi]
theorem below_drewN {B : Nat} {a w : World} (h : Below B a w) (n : Nat) : Below B a (w.drewN n) := ⟨h.os, h.tape, h.output, h.size, h.block⟩
/-- A new variable. -/
theorem opnV (w : World) (A : Obj) : ∃ W, w.alloc A = W ∧ W.heap[w.heap.size]? = some A ∧ Below w.heap.size w W := ⟨_, rfl, heap_alloc_new w A, stpA (Below.refl _ _) _⟩
end Hx
end Go.Proofs.Ytfdhogaknlabkaa
namespace Go.Proofs.Ytfdhogaknlabkaa
open Go.RowKit
namespace Hx
open Lx Tx Nmb Es
set_option linter.unusedVariables false
def zPr : Array Value := #[.string ⟨#[]⟩, .string ⟨#[]⟩]
theorem onePr (x y : ByteArray) : (#[Value.string x, Value.string y] : Array Value).all (·.oneCell') = true := by simp [Value.oneCell']
theorem sizePr : (Try.prog.info? 25).map (·.size) = some 2 := by kernel_rfl
theorem dw_drop (p : UInt8 → Bool) (l : List UInt8) (i : Nat) : (l.drop i).dropWhile p = l.drop (i + ((l.drop i).takeWhile p).length) := by
  have h := (tw_split p (l.drop i)).1
  have : (l.drop i).drop ((l.drop i).takeWhile p).length = (l.drop i).dropWhile p := by
    conv => lhs; arg 2; rw [h]
    rw [List.drop_left]
  rw [← this, List.drop_drop]
/-- Where an attribute's sign = is looked for; where its value is. -/
def eqAt (l : List UInt8) (a : Nat) : Nat := a + (wordL (l.drop a)).length + ((l.drop (a + (wordL (l.drop a)).length)).takeWhile blk).length
theorem attrL_none0 {l : List UInt8} (h : wordL l = []) : attrL l = none := by unfold attrL; rw [if_pos h]
theorem attrL_at {l : List UInt8} {a : Nat} (h : wordL (l.drop a) ≠ []) : attrL (l.drop a) = match l.drop (eqAt l a) with
    | [] => none
    | c :: r => if c = 61 then (valL (r.dropWhile blk)).map fun p => (⟨wordL (l.drop a), p.1⟩, p.2) else none := by
  unfold attrL
  rw [if_neg h, List.drop_drop, dw_drop]
  rfl
theorem attrL_end {l : List UInt8} {a : Nat} (h : wordL (l.drop a) ≠ []) (h1 : l.length ≤ eqAt l a) : attrL (l.drop a) = none := by
  rw [attrL_at h, List.drop_of_length_le h1]
theorem attrL_other {l : List UInt8} {a : Nat} (h : wordL (l.drop a) ≠ []) (h1 : eqAt l a < l.length) (h2 : l[eqAt l a]'h1 ≠ 61) : attrL (l.drop a) = none := by
  rw [attrL_at h, List.drop_eq_getElem_cons h1]
  dsimp only
  rw [if_neg h2]
def valAt (l : List UInt8) (a : Nat) : Nat := eqAt l a + 1 + ((l.drop (eqAt l a + 1)).takeWhile blk).length
theorem attrL_val {l : List UInt8} {a : Nat} (h : wordL (l.drop a) ≠ []) (h1 : eqAt l a < l.length) (h2 : l[eqAt l a]'h1 = 61) : attrL (l.drop a) = (valL (l.drop (valAt l a))).map fun p => (⟨wordL (l.drop a), p.1⟩, p.2) := by
  rw [attrL_at h, List.drop_eq_getElem_cons h1]
  dsimp only
  rw [if_pos h2, dw_drop]
  rfl
theorem valL_end {l : List UInt8} {b : Nat} (h : l.length ≤ b) : valL (l.drop b) = none := by rw [List.drop_of_length_le h]; rfl
theorem valL_other {l : List UInt8} {b : Nat} (h : b < l.length) (h1 : l[b]'h ≠ 34) (h2 : l[b]'h ≠ 39) : valL (l.drop b) = none := by
  rw [List.drop_eq_getElem_cons h]
  unfold valL
  dsimp only
  rw [if_neg (by rw [not_or]; exact ⟨h1, h2⟩)]
theorem valL_open {l : List UInt8} {b : Nat} (h : b < l.length) (h1 : l[b]'h = 34 ∨ l[b]'h = 39) (h2 : l[b]'h ∉ l.drop (b + 1)) : valL (l.drop b) = none := by
  rw [List.drop_eq_getElem_cons h]
  unfold valL
  dsimp only
  rw [if_pos h1, cutQ_none h2]
theorem valL_shut {l : List UInt8} {b k : Nat} (h : b < l.length) (h1 : l[b]'h = 34 ∨ l[b]'h = 39) (hk : b + 1 + k < l.length) (h2 : l[b]'h ∉ (l.drop (b + 1)).take k) (h3 : l[b + 1 + k]'hk = l[b]'h) : valL (l.drop b) = (toldL ((l.drop (b + 1)).take k)).map fun v => (v, l.drop (b + 1 + k + 1)) := by
  have hkl : k < (l.drop (b + 1)).length := by rw [List.length_drop]; omega
  have e : l.drop (b + 1) = (l.drop (b + 1)).take k ++ (l[b]'h) :: l.drop (b + 1 + k + 1) := by
    conv => lhs; rw [← List.take_append_drop k (l.drop (b + 1))]
    rw [List.drop_eq_getElem_cons hkl, List.getElem_drop, h3, List.drop_drop]
    rfl
  rw [List.drop_eq_getElem_cons h]
  unfold valL
  dsimp only
  rw [if_pos h1]
  conv => lhs; rw [e]
  rw [cutQ_of _ h2]
/-- What attr answers. -/
def AttrTo (s : ByteArray) (a : Nat) (w : World) (e : Ending) (w' : World) : Prop := Below w.heap.size w w' ∧
  ((attrL (s.data.toList.drop a) = none ∧ e = .returned (.tuple #[.agg #[.string ⟨#[]⟩, .string ⟨#[]⟩], .int .i64 (-1)])) ∨
   (∃ (x y : ByteArray) (n : Nat), attrL (s.data.toList.drop a) = some (⟨x.data.toList, y.data.toList⟩, s.data.toList.drop n) ∧ n ≤ s.size ∧ e = .returned (.tuple #[.agg #[.string x, .string y], .int .i64 n])))
end Hx
end Go.Proofs.Ytfdhogaknlabkaa
