/-
  Texts of one seat, put together: LexT, LexK, LexU, LexV, LexW, LexJ.
-/
import Derived.Test.YtkmaogafknehgaaG03
import Derived.Test.YtkmaogafknehgaaG05
import Derived.Lib.ConvBytes
import Derived.Lib.BufferMore
import Derived.Deep.RegionHeld3
import Derived.Deep.QuietTactic
import Derived.Test.YtkmaogafknehgaaG01
namespace Go.Proofs.Ytkmaogafknehgaa
open Go.RowKit
namespace Hx
open Lx Tx Nmb Es
set_option linter.unusedVariables false
theorem seq_l (a b : ByteArray) : (a.toList == b.toList) = decide (a.data.toList = b.data.toList) := by
  rw [Bool.eq_iff_iff]
  simp only [beq_iff_eq, decide_eq_true_eq, ByteArray.toList_eq]
theorem hasL_step {l : List Pr} {name : List UInt8} {k : Nat} (h : k < l.length) (h1 : hasL (l.take k) name = false) : (decide ((l[k]'h).name = name) = false → hasL (l.take (k + 1)) name = false) ∧ (decide ((l[k]'h).name = name) = true → hasL l name = true) := by
  unfold hasL at h1 ⊢
  refine ⟨fun h2 => ?_, fun h2 => ?_⟩
  · rw [List.take_succ_eq_append_getElem h, List.any_append, h1]
    simp only [List.any_cons, List.any_nil, h2]
    rfl
  · rw [List.any_eq_true]
    exact ⟨_, List.getElem_mem h, h2⟩
/-- A row of bytes that came of a text. -/
def Rwb (g : Nat) (l : List UInt8) (w : World) : Prop := ∃ (cs : Array Value) (fr : Nat × Nat), w.heap[g]? = some (.cells cs 5 fr) ∧ l.length ≤ fr.1 ∧ (∀ (j : Nat) (c : UInt8), l[j]? = some c → cs[j]? = some (Value.int .u8 c.toNat))
theorem lt_of_row {w : World} {g : Nat} {o : Obj} (h : w.heap[g]? = some o) : g < w.heap.size := (Array.getElem?_eq_some_iff.1 h).1
theorem row_cell (w : World) (g k : Nat) (cs : Array Value) (t : TypeId) (fr : Nat × Nat) (h : w.heap[g]? = some (.cells cs t fr)) : w.cell? ⟨g, k, none⟩ = cs[k]? := by simp [World.cell?, h]
theorem Rwb.lt {g : Nat} {l : List UInt8} {w : World} (h : Rwb g l w) : g < w.heap.size := by
  obtain ⟨cs, fr, h1, _⟩ := h
  exact lt_of_row h1
theorem Rwb.cell {g k : Nat} {l : List UInt8} {c : UInt8} {w : World} (h : Rwb g l w) (hc : l[k]? = some c) : w.cell? ⟨g, k, none⟩ = some (.int .u8 c.toNat) := by
  obtain ⟨cs, fr, h1, _, h3⟩ := h
  rw [row_cell w g k cs _ fr h1]
  exact h3 k c hc
theorem Rwb.free {g k : Nat} {l : List UInt8} {w : World} (h : Rwb g l w) (hk : k < l.length) : w.frozen? ⟨g, k, none⟩ = false := by
  obtain ⟨cs, fr, h1, h2, _⟩ := h
  obtain ⟨lo, hi⟩ := fr
  simp only at h2
  simp [World.frozen?, h1]
  omega
theorem Rwb.rd {g : Nat} {l : List UInt8} {w : World} (h : Rwb g l w) : RdA w w.heap.size (some ⟨g, 0, none⟩) l := by
  intro hp
  refine ⟨g, 0, rfl, h.lt, fun j hj => ?_⟩
  rw [Nat.zero_add]
  exact h.cell (List.getElem?_eq_getElem hj)
theorem Rwb.put {g k : Nat} {l : List UInt8} {x : UInt8} {w : World} (h : Rwb g l w) : Rwb g (l.set k x) (w.setCell ⟨g, k, none⟩ (.int .u8 x.toNat)) := by
  obtain ⟨cs, fr, h1, h2, h3⟩ := h
  refine ⟨_, fr, Lib.heap_setCell_same h1 _, by rw [List.length_set]; exact h2, fun j c hj => ?_⟩
  rw [List.getElem?_set] at hj
  rw [Array.getElem?_setIfInBounds]
  by_cases hkj : k = j
  · subst hkj
    rw [if_pos rfl] at hj ⊢
    by_cases hk : k < l.length
    · rw [if_pos hk] at hj
      have hs := h3 k _ (List.getElem?_eq_getElem hk)
      have : k < cs.size := (Array.getElem?_eq_some_iff.1 hs).1
      rw [if_pos this]
      cases hj
      rfl
    · rw [if_neg hk] at hj
      cases hj
  · rw [if_neg hkj] at hj ⊢
    exact h3 j c hj
theorem str_rowb (s : ByteArray) (w : World) : ∃ C WB, (convert 9 68 (.string s)).run Try.prog w = .ok (.slice (some ⟨w.heap.size, 0, none⟩) s.size C) WB ∧ Rwb w.heap.size s.data.toList WB ∧ Below w.heap.size w WB := by
  have h := Lib.run_convert_string_bytes (P := Try.prog) w 9 68 5 s Try.underlying9 Try.underlying68 Try.underlying5
  refine ⟨_, _, h, ⟨_, _, Lib.bytesWorld_at_new w _ s, ?_, fun j c hj => ?_⟩, ⟨rfl, rfl, rfl, by rw [Lib.bytesWorld_size]; omega, fun k hk => Lib.bytesWorld_at_old w _ _ k hk⟩⟩
  · show _ ≤ (Lib.bytesCells w _ s).size
    simp [Lib.bytesCells]
  · obtain ⟨hk, e⟩ := List.getElem?_eq_some_iff.1 hj
    have hk2 : j < s.data.size := by simpa using hk
    unfold Lib.bytesCells
    rw [Array.getElem?_append_left (by simpa using hk2), Array.getElem?_map]
    have : s.data[j]? = some c := by rw [← Array.getElem?_toList]; exact hj
    rw [this]
    rfl
def sp (c : UInt8) : UInt8 := if blk c then 32 else c
/-- So many blanks turned. -/
def spk (l : List UInt8) (k : Nat) : List UInt8 := (l.take k).map sp ++ l.drop k
theorem spk_len (l : List UInt8) (k : Nat) : (spk l k).length = l.length := by unfold spk; rw [List.length_append, List.length_map, List.length_take, List.length_drop]; omega
theorem spk_at {l : List UInt8} {k : Nat} (h : k < l.length) : (spk l k)[k]? = some (l[k]'h) ∧ spk l (k + 1) = (spk l k).set k (sp (l[k]'h)) := by
  have hl : ((l.take k).map sp).length = k := by rw [List.length_map, List.length_take]; omega
  have e1 : spk l k = (l.take k).map sp ++ (l[k]'h) :: l.drop (k + 1) := by unfold spk; rw [List.drop_eq_getElem_cons h]
  refine ⟨?_, ?_⟩
  · rw [e1, List.getElem?_append_right (by omega), hl]
    simp
  · rw [e1, List.set_append_right _ _ (by omega), hl, Nat.sub_self, List.set_cons_zero]
    unfold spk
    rw [List.take_succ_eq_append_getElem h, List.map_append]
    simp
theorem set_same {α : Type} {l : List α} {k : Nat} {c : α} (h : l[k]? = some c) : l.set k c = l := by
  apply List.ext_getElem?
  intro j
  rw [List.getElem?_set]
  by_cases hj : k = j
  · subst hj
    obtain ⟨hk, _⟩ := List.getElem?_eq_some_iff.1 h
    rw [if_pos rfl, if_pos hk, h]
  · rw [if_neg hj]
end Hx
end Go.Proofs.Ytkmaogafknehgaa
namespace Go.Proofs.Ytkmaogafknehgaa
open Go.RowKit
namespace Hx
open Lx Tx Nmb Es
set_option linter.unusedVariables false
theorem attrsF_at {l : List Pr} {k : Nat} (h : k < l.length) : attrsF (l.take k) (l.drop k) = (fullL (l[k]'h).name && !hasL (l.take k) (l[k]'h).name && okT (l[k]'h).value && attrsF (l.take (k + 1)) (l.drop (k + 1))) := by
  rw [List.drop_eq_getElem_cons h, List.take_succ_eq_append_getElem h]
  rfl
theorem RdC.take {α : Type} {C : Cod α} {w : World} {B : Nat} {A : Option Addr} {l : List α} (h : RdC C w B A l) (k : Nat) : RdC C w B A (l.take k) := by
  intro hp
  have hl := List.length_take (i := k) (l := l)
  obtain ⟨b, off, e, hb, hc⟩ := h (by omega)
  refine ⟨b, off, e, hb, fun j hj => ?_⟩
  obtain ⟨cs, h1, h2⟩ := hc j (by omega)
  exact ⟨cs, by rw [List.getElem_take]; exact h1, h2⟩
theorem chk9_ok {y : ByteArray} (h : okT y.data.toList = true) : chkE y = 0 := by
  unfold okT at h
  rw [Bool.and_eq_true, decide_eq_true_eq, ba_l] at h
  unfold chkE
  rw [if_neg (by omega), if_pos (show (pts y.data.toList).isSome = true from h.2)]
theorem chk9_bad {y : ByteArray} (h : okT y.data.toList = false) : chkE y ≠ 0 := by
  unfold chkE
  by_cases h1 : 16384 < y.size
  · rw [if_pos h1]; decide
  · rw [if_neg h1]
    by_cases h2 : (pts y.data.toList).isSome = true
    · exfalso
      unfold okT at h
      rw [ba_l, decide_eq_true (by omega), show isP y.data.toList = true from h2] at h
      cases h
    · rw [if_neg h2]; decide
end Hx
end Go.Proofs.Ytkmaogafknehgaa
namespace Go.Proofs.Ytkmaogafknehgaa
open Go.RowKit
namespace Hx
open Lx Tx Nmb Es
set_option linter.unusedVariables false
def zPr : Array Value := #[.string ⟨#[]⟩, .string ⟨#[]⟩]
theorem onePr (x y : ByteArray) : (#[Value.string x, Value.string y] : Array Value).all (·.oneCell') = true := by simp [Value.oneCell']
theorem sizePr : (Try.prog.info? 84).map (·.size) = some 2 := by kernel_rfl
theorem dw_drop (p : UInt8 → Bool) (l : List UInt8) (i : Nat) : (l.drop i).dropWhile p = l.drop (i + ((l.drop i).takeWhile p).length) := by
  have h := (tw_split p (l.drop i)).1
  have : (l.drop i).drop ((l.drop i).takeWhile p).length = (l.drop i).dropWhile p := by
    conv => lhs; arg 2; rw [h]
    rw [List.drop_left]
  rw [← this, List.drop_drop]
/-- Where an attribute's sign = is looked for; where its value is. -/
def eqAt (l : List UInt8) (a : Nat) : Nat := a + (wordL (l.drop a)).length + ((l.drop (a + (wordL (l.drop a)).length)).takeWhile blk).length
theorem attrL_none0 {l : List UInt8} (h : wordL l = []) : attrL l = none := by unfold attrL; rw [if_pos h]
theorem attrL_at {l : List UInt8} {a : Nat} (h : wordL (l.drop a) ≠ []) : attrL (l.drop a) = match l.drop (eqAt l a) with
    | [] => none
    | c :: r => if c = 61 then (valL (r.dropWhile blk)).map fun p => (⟨wordL (l.drop a), p.1⟩, p.2) else none := by
  unfold attrL
  rw [if_neg h, List.drop_drop, dw_drop]
  rfl
theorem attrL_end {l : List UInt8} {a : Nat} (h : wordL (l.drop a) ≠ []) (h1 : l.length ≤ eqAt l a) : attrL (l.drop a) = none := by
  rw [attrL_at h, List.drop_of_length_le h1]
theorem attrL_other {l : List UInt8} {a : Nat} (h : wordL (l.drop a) ≠ []) (h1 : eqAt l a < l.length) (h2 : l[eqAt l a]'h1 ≠ 61) : attrL (l.drop a) = none := by
  rw [attrL_at h, List.drop_eq_getElem_cons h1]
  dsimp only
  rw [if_neg h2]
def valAt (l : List UInt8) (a : Nat) : Nat := eqAt l a + 1 + ((l.drop (eqAt l a + 1)).takeWhile blk).length
theorem attrL_val {l : List UInt8} {a : Nat} (h : wordL (l.drop a) ≠ []) (h1 : eqAt l a < l.length) (h2 : l[eqAt l a]'h1 = 61) : attrL (l.drop a) = (valL (l.drop (valAt l a))).map fun p => (⟨wordL (l.drop a), p.1⟩, p.2) := by
  rw [attrL_at h, List.drop_eq_getElem_cons h1]
  dsimp only
  rw [if_pos h2, dw_drop]
  rfl
theorem valL_end {l : List UInt8} {b : Nat} (h : l.length ≤ b) : valL (l.drop b) = none := by rw [List.drop_of_length_le h]; rfl
theorem valL_other {l : List UInt8} {b : Nat} (h : b < l.length) (h1 : l[b]'h ≠ 34) (h2 : l[b]'h ≠ 39) : valL (l.drop b) = none := by
  rw [List.drop_eq_getElem_cons h]
  unfold valL
  dsimp only
  rw [if_neg (by rw [not_or]; exact ⟨h1, h2⟩)]
theorem valL_open {l : List UInt8} {b : Nat} (h : b < l.length) (h1 : l[b]'h = 34 ∨ l[b]'h = 39) (h2 : l[b]'h ∉ l.drop (b + 1)) : valL (l.drop b) = none := by
  rw [List.drop_eq_getElem_cons h]
  unfold valL
  dsimp only
  rw [if_pos h1, cutQ_none h2]
theorem valL_shut {l : List UInt8} {b k : Nat} (h : b < l.length) (h1 : l[b]'h = 34 ∨ l[b]'h = 39) (hk : b + 1 + k < l.length) (h2 : l[b]'h ∉ (l.drop (b + 1)).take k) (h3 : l[b + 1 + k]'hk = l[b]'h) : valL (l.drop b) = (toldL ((l.drop (b + 1)).take k)).map fun v => (v, l.drop (b + 1 + k + 1)) := by
  have hkl : k < (l.drop (b + 1)).length := by rw [List.length_drop]; omega
  have e : l.drop (b + 1) = (l.drop (b + 1)).take k ++ (l[b]'h) :: l.drop (b + 1 + k + 1) := by
    conv => lhs; rw [← List.take_append_drop k (l.drop (b + 1))]
    rw [List.drop_eq_getElem_cons hkl, List.getElem_drop, h3, List.drop_drop]
    rfl
  rw [List.drop_eq_getElem_cons h]
  unfold valL
  dsimp only
  rw [if_pos h1]
  conv => lhs; rw [e]
  rw [cutQ_of _ h2]
/-- What attr answers. -/
def AttrTo (s : ByteArray) (a : Nat) (w : World) (e : Ending) (w' : World) : Prop := Below w.heap.size w w' ∧
  ((attrL (s.data.toList.drop a) = none ∧ e = .returned (.tuple #[.agg #[.string ⟨#[]⟩, .string ⟨#[]⟩], .int .i64 (-1)])) ∨
   (∃ (x y : ByteArray) (n : Nat), attrL (s.data.toList.drop a) = some (⟨x.data.toList, y.data.toList⟩, s.data.toList.drop n) ∧ n ≤ s.size ∧ e = .returned (.tuple #[.agg #[.string x, .string y], .int .i64 n])))
end Hx
end Go.Proofs.Ytkmaogafknehgaa
namespace Go.Proofs.Ytkmaogafknehgaa
open Go.RowKit
namespace Hx
open Lx Tx Nmb Es
set_option linter.unusedVariables false
def zTk : Array Value := #[.int .u8 0, .string ⟨#[]⟩, .slice none 0 0, .string ⟨#[]⟩]
theorem oneTk (k : Int) (x : ByteArray) (v : Value) (y : ByteArray) (hv : v.oneCell' = true := by rfl) : (#[Value.int .u8 k, Value.string x, v, Value.string y] : Array Value).all (·.oneCell') = true := by simp [Value.oneCell'] at hv ⊢; exact hv
theorem sizeTk : (Try.prog.info? 60).map (·.size) = some 4 := by kernel_rfl
/-- Where a closing tag's sign > is looked for. -/
theorem shutL_none0 {l : List UInt8} (h : wordL l = []) : shutL l = none := by unfold shutL; rw [if_pos h]
theorem shutL_at {l : List UInt8} {a : Nat} (h : wordL (l.drop a) ≠ []) : shutL (l.drop a) = match l.drop (eqAt l a) with
    | [] => none
    | c :: r => if c = 62 then some (⟨2, wordL (l.drop a), [], []⟩, r) else none := by
  unfold shutL
  rw [if_neg h, List.drop_drop, dw_drop]
  rfl
theorem shutL_end {l : List UInt8} {a : Nat} (h : wordL (l.drop a) ≠ []) (h1 : l.length ≤ eqAt l a) : shutL (l.drop a) = none := by rw [shutL_at h, List.drop_of_length_le h1]
theorem shutL_other {l : List UInt8} {a : Nat} (h : wordL (l.drop a) ≠ []) (h1 : eqAt l a < l.length) (h2 : l[eqAt l a]'h1 ≠ 62) : shutL (l.drop a) = none := by
  rw [shutL_at h, List.drop_eq_getElem_cons h1]
  dsimp only
  rw [if_neg h2]
theorem shutL_yes {l : List UInt8} {a : Nat} (h : wordL (l.drop a) ≠ []) (h1 : eqAt l a < l.length) (h2 : l[eqAt l a]'h1 = 62) : shutL (l.drop a) = some (⟨2, wordL (l.drop a), [], []⟩, l.drop (eqAt l a + 1)) := by
  rw [shutL_at h, List.drop_eq_getElem_cons h1]
  dsimp only
  rw [if_pos h2]
/-- What shut answers. -/
def ShutTo (s : ByteArray) (a : Nat) (w : World) (e : Ending) (w' : World) : Prop := Below w.heap.size w w' ∧
  ((shutL (s.data.toList.drop (a + 2)) = none ∧ e = .returned (.tuple #[.agg #[.int .u8 0, .string ⟨#[]⟩, .slice none 0 0, .string ⟨#[]⟩], .int .i64 (-1)])) ∨
   (∃ (x : ByteArray) (n : Nat), shutL (s.data.toList.drop (a + 2)) = some (⟨2, x.data.toList, [], []⟩, s.data.toList.drop n) ∧ n ≤ s.size ∧ e = .returned (.tuple #[.agg #[.int .u8 2, .string x, .slice none 0 0, .string ⟨#[]⟩], .int .i64 n])))
end Hx
end Go.Proofs.Ytkmaogafknehgaa
namespace Go.Proofs.Ytkmaogafknehgaa
open Go.RowKit
namespace Hx
open Lx Tx Nmb Es
set_option linter.unusedVariables false
/-- What stands behind a tag's name, from here on. -/
def tagG (acc : List Pr) (l : List UInt8) : Option (Bool × List Pr × List UInt8) := tagF (l.length + 1) acc l
def tagAt (l : List UInt8) (p : Nat) : Nat := p + ((l.drop p).takeWhile blk).length
theorem tagG_at (l : List UInt8) (p : Nat) (acc : List Pr) : tagG acc (l.drop p) = match l.drop (tagAt l p) with
    | [] => none
    | c :: x => if c = 62 then some (false, acc, x) else if c = 47 ∧ x.head? = some 62 then some (true, acc, x.tail) else
      match attrL (c :: x) with
      | none => none
      | some (pr, y) => if p = tagAt l p ∨ hasL acc pr.name = true then none else tagG (acc ++ [pr]) y := by
  conv => lhs; unfold tagG tagF
  rw [dw_drop]
  show (match l.drop (tagAt l p) with | [] => _ | c :: x => _) = _
  cases hd : l.drop (tagAt l p) with
  | nil => rfl
  | cons c x =>
    dsimp only
    by_cases h1 : c = 62
    · rw [if_pos h1, if_pos h1]
    · rw [if_neg h1, if_neg h1]
      by_cases h2 : c = 47 ∧ x.head? = some 62
      · rw [if_pos h2, if_pos h2]
      · rw [if_neg h2, if_neg h2]
        cases ha : attrL (c :: x) with
        | none => rfl
        | some q =>
          obtain ⟨pr, y⟩ := q
          dsimp only
          have hy := attrL_len ha
          have hl := congrArg List.length hd
          rw [List.length_drop] at hl
          have hlen : ((l.drop p).length = (c :: x).length) ↔ p = tagAt l p := by
            rw [← hd, List.length_drop, List.length_drop]
            have : l.length ≠ 0 := by intro e; rw [e] at hl; simp at hl
            have h3 : tagAt l p < l.length := by rw [List.length_cons] at hl; omega
            have h4 : p ≤ tagAt l p := by unfold tagAt; omega
            omega
          have hq : tagF (l.drop p).length (acc ++ [pr]) y = tagF (y.length + 1) (acc ++ [pr]) y := by
            refine tagF_same _ _ _ _ ?_ (Nat.lt_succ_self _)
            rw [List.length_drop]
            have h4 : p ≤ tagAt l p := by unfold tagAt; omega
            rw [List.length_cons] at hl hy
            omega
          by_cases h3 : p = tagAt l p ∨ hasL acc pr.name = true
          · rw [if_pos h3, if_pos (h3.imp hlen.2 id)]
          · rw [if_neg h3, if_neg (fun h4 => h3 (h4.imp hlen.1 id))]
            exact hq
theorem tagG_shut {l : List UInt8} {p q : Nat} {acc : List Pr} (hq : tagAt l p = q) (h : q < l.length) (h1 : l[q]'h = 62) : tagG acc (l.drop p) = some (false, acc, l.drop (q + 1)) := by
  rw [tagG_at, hq, List.drop_eq_getElem_cons h]
  dsimp only
  rw [if_pos h1]
theorem tagG_bare {l : List UInt8} {p q : Nat} {acc : List Pr} (hq : tagAt l p = q) (h : q + 1 < l.length) (h1 : l[q]'(by omega) = 47) (h2 : l[q + 1]'h = 62) : tagG acc (l.drop p) = some (true, acc, l.drop (q + 2)) := by
  rw [tagG_at, hq, List.drop_eq_getElem_cons (show q < l.length by omega)]
  dsimp only
  rw [if_neg (by rw [h1]; decide), if_pos ⟨h1, by rw [List.drop_eq_getElem_cons h, h2]; rfl⟩, List.drop_eq_getElem_cons h]
  rfl
/-- Neither of the two ends stands here. -/
def noEnd (l : List UInt8) (q : Nat) : Prop := ∀ c x, l.drop q = c :: x → c ≠ 62 ∧ ¬ (c = 47 ∧ x.head? = some 62)
theorem noEnd_of {l : List UInt8} {q : Nat} (h1 : ∀ h : q < l.length, l[q]'h ≠ 62) (h2 : ∀ h : q + 1 < l.length, l[q]'(by omega) = 47 → l[q + 1]'h ≠ 62) : noEnd l q := by
  intro c x e
  have hq : q < l.length := by
    have := congrArg List.length e
    rw [List.length_drop, List.length_cons] at this
    omega
  rw [List.drop_eq_getElem_cons hq] at e
  obtain ⟨e1, e2⟩ := List.cons.inj e
  refine ⟨by rw [← e1]; exact h1 hq, ?_⟩
  rintro ⟨e3, e4⟩
  by_cases hq1 : q + 1 < l.length
  · rw [← e2, List.drop_eq_getElem_cons hq1] at e4
    exact h2 hq1 (e1.trans e3) (Option.some.inj e4)
  · rw [← e2, List.drop_of_length_le (by omega)] at e4
    cases e4
theorem tagG_none {l : List UInt8} {p q : Nat} {acc : List Pr} (hq : tagAt l p = q) (hn : noEnd l q) (ha : attrL (l.drop q) = none) : tagG acc (l.drop p) = none := by
  rw [tagG_at, hq]
  cases hd : l.drop q with
  | nil => rfl
  | cons c x =>
    obtain ⟨n1, n2⟩ := hn c x hd
    dsimp only
    rw [if_neg n1, if_neg n2, ← hd, ha]
theorem tagG_bad {l y : List UInt8} {p q : Nat} {acc : List Pr} {pr : Pr} (hq : tagAt l p = q) (hn : noEnd l q) (ha : attrL (l.drop q) = some (pr, y)) (hb : p = q ∨ hasL acc pr.name = true) : tagG acc (l.drop p) = none := by
  rw [tagG_at, hq]
  cases hd : l.drop q with
  | nil => rfl
  | cons c x =>
    obtain ⟨n1, n2⟩ := hn c x hd
    dsimp only
    rw [if_neg n1, if_neg n2, ← hd, ha]
    dsimp only
    rw [if_pos hb]
theorem tagG_next {l y : List UInt8} {p q : Nat} {acc : List Pr} {pr : Pr} (hq : tagAt l p = q) (hn : noEnd l q) (ha : attrL (l.drop q) = some (pr, y)) (hb : p ≠ q) (hb2 : hasL acc pr.name = false) : tagG acc (l.drop p) = tagG (acc ++ [pr]) y := by
  rw [tagG_at, hq]
  cases hd : l.drop q with
  | nil => rw [hd] at ha; cases ha
  | cons c x =>
    obtain ⟨n1, n2⟩ := hn c x hd
    dsimp only
    rw [if_neg n1, if_neg n2, ← hd, ha]
    dsimp only
    rw [if_neg (by rw [not_or, hb2]; exact ⟨hb, by simp⟩)]
theorem tagL_of {l : List UInt8} {a : Nat} (h47 : (l.drop a).head? ≠ some 47) (hw : wordL (l.drop a) ≠ []) : tagL (l.drop a) = (tagG [] (l.drop (a + (wordL (l.drop a)).length))).map fun p => (⟨if p.1 then 3 else 1, wordL (l.drop a), p.2.1, []⟩, p.2.2) := by
  unfold tagL
  rw [if_neg h47, if_neg hw, List.drop_drop]
  unfold tagG
  rw [tagF_same _ ((l.drop (a + (wordL (l.drop a)).length)).length + 1) _ _ ?_ (Nat.lt_succ_self _)]
  rw [List.length_drop, List.length_drop]
  omega
theorem tagL_of0 {l : List UInt8} (h47 : l.head? ≠ some 47) (hw : wordL l = []) : tagL l = none := by unfold tagL; rw [if_neg h47, if_pos hw]
theorem tagL_of47 {l : List UInt8} {a : Nat} (h : a < l.length) (h47 : l[a]'h = 47) : tagL (l.drop a) = shutL (l.drop (a + 1)) := by
  unfold tagL
  rw [List.drop_eq_getElem_cons h, h47, if_pos (show (47 :: List.drop (a + 1) l).head? = some 47 from rfl)]
  rfl
/-- Attributes as the program holds them. -/
abbrev PB := ByteArray × ByteArray
def prCells (p : PB) : List Value := [.string p.1, .string p.2]
def prVal (p : PB) : Pr := ⟨p.1.data.toList, p.2.data.toList⟩
theorem prCells_R (w : World) (B : Nat) (p : PB) : PrC.R w B (prCells p) (prVal p) := ⟨p.1, p.2, rfl, rfl, rfl⟩
theorem own_attrs {w : World} {base : Nat} {A : Option Addr} {n c : Nat} {l : List PB} (h : w.ownsRow base 84 2 (.slice A n c) n (l.flatMap prCells)) : RdC PrC w w.heap.size A (l.map prVal) ∧ l.length = n ∧ n ≤ c ∧ c ≤ maxLen ∧ (A = none → c = 0) :=
  RdC.of_own (C := PrC) prCells prVal (fun _ => rfl) (by decide) l (fun b _ => prCells_R _ _ b) h
/-- A token whose attributes lie in new memory. -/
def TkR (B : Nat) (w : World) (cs : Array Value) (t : Tk) : Prop := TkC.R w w.heap.size cs.toList t ∧ ∀ A n c, cs[2]? = some (.slice A n c) → ∀ ad, A = some ad → B ≤ ad.block
/-- What tag answers. -/
def TagTo (s : ByteArray) (a : Nat) (w : World) (e : Ending) (w' : World) : Prop := Below w.heap.size w w' ∧
  ((tagL (s.data.toList.drop (a + 1)) = none ∧ e = .returned (.tuple #[.agg #[.int .u8 0, .string ⟨#[]⟩, .slice none 0 0, .string ⟨#[]⟩], .int .i64 (-1)])) ∨
   (∃ (cs : Array Value) (t : Tk) (n : Nat), tagL (s.data.toList.drop (a + 1)) = some (t, s.data.toList.drop n) ∧ n ≤ s.size ∧ TkR w.heap.size w' cs t ∧ e = .returned (.tuple #[.agg cs, .int .i64 n])))
theorem attrL_suffix {l r : List UInt8} {p : Pr} (h : attrL l = some (p, r)) : ∃ k, k ≤ l.length ∧ r = l.drop k := by
  obtain ⟨g1, g2, x, rfl, _, _, _, h4⟩ := (attrL_iff _ _ _).1 h
  obtain ⟨q, raw, rfl, _⟩ := (valL_iff _ _ _).1 h4
  refine ⟨(p.name ++ (g1 ++ 61 :: (g2 ++ q :: (raw ++ [q])))).length, by simp <;> omega, ?_⟩
  have e : p.name ++ (g1 ++ 61 :: (g2 ++ q :: (raw ++ q :: r))) = (p.name ++ (g1 ++ 61 :: (g2 ++ q :: (raw ++ [q])))) ++ r := by simp
  rw [e, List.drop_left]
theorem drop_same {l : List UInt8} {n m : Nat} (hn : n ≤ l.length) (hm : m ≤ l.length) (h : l.drop n = l.drop m) : n = m := by
  have := congrArg List.length h
  rw [List.length_drop, List.length_drop] at this
  omega
theorem TkC_plain (w : World) (k : Nat) (hk : k < 256) (x : ByteArray) : TkC.R w w.heap.size (#[Value.int .u8 (k : Int), .string x, .slice none 0 0, .string ⟨#[]⟩] : Array Value).toList ⟨k, x.data.toList, [], []⟩ :=
  ⟨x, none, 0, ⟨#[]⟩, rfl, hk, rfl, rfl, Nat.le_refl _, Nat.zero_le _, fun _ => rfl, RdC.nil _ _ _⟩
theorem TkR_plain (B : Nat) (w : World) (k : Nat) (hk : k < 256) (x : ByteArray) : TkR B w #[Value.int .u8 (k : Int), .string x, .slice none 0 0, .string ⟨#[]⟩] ⟨k, x.data.toList, [], []⟩ :=
  ⟨TkC_plain w k hk x, fun A n c h ad e => by
    have h' : Value.slice none 0 0 = .slice A n c := Option.some.inj h
    injection h' with h1 _ _
    rw [← h1] at e
    cases e⟩
/-- The tag as it is made: its variable, its attributes. -/
def TagSt (t : ByteArray) (R g : Nat) (w : World) (L : List PB) (v : Value) (wr : World) : Prop :=
  wr.heap[g]? = some (.cells #[.int .u8 1, .string t, v, .string ⟨#[]⟩] 60 (0, 0)) ∧ wr.ownsRow (g + 1) 84 2 v L.length (L.flatMap prCells) ∧ wr.heap[R]? = some (.cells zTk 60 (0, 0)) ∧ Below w.heap.size w wr
theorem cellV (w : World) (g k : Nat) (cs : Array Value) (t : TypeId) (fr : Nat × Nat) (h : w.heap[g]? = some (.cells cs t fr)) : w.cell? ⟨g, k, none⟩ = cs[k]? := by simp [World.cell?, h]
theorem freeV (w : World) (g k : Nat) (cs : Array Value) (t : TypeId) (h : w.heap[g]? = some (.cells cs t (0, 0))) : w.frozen? ⟨g, k, none⟩ = false := by simp [World.frozen?, h]
theorem own_setRow {w : World} {base : Nat} {e : TypeId} {size : Nat} {v : Value} {n : Nat} {xs : List Value} (h : w.ownsRow base e size v n xs) (R : Nat) (hR : R < base) (cs : Array Value) : (w.setRow R cs).ownsRow base e size v n xs := by
  refine ⟨h.1, ?_⟩
  rcases h.2 with h0 | ⟨g, cap, cur, hv, hb, hg, rest⟩
  · exact .inl h0
  · exact .inr ⟨g, cap, cur, hv, hb, (setRow_other w R g cs (by omega)).trans hg, rest⟩
theorem infoPr : (Try.prog.info? 84).map (fun i => (i.zero, i.size, i.bytes)) = some (some (.agg #[.string ⟨#[]⟩, .string ⟨#[]⟩]), 2, 32) := by kernel_rfl
theorem own_form2 {w : World} {base : Nat} {e : TypeId} {size : Nat} {v : Value} {n : Nat} {xs : List Value} (h : w.ownsRow base e size v n xs) : ∃ A c, v = .slice A n c := by
  rcases h.2 with ⟨rfl, rfl⟩ | ⟨g, cap, cur, rfl, _⟩
  · exact ⟨none, 0, rfl⟩
  · exact ⟨_, cap, rfl⟩
theorem TkC_made {w : World} {g : Nat} {L : List PB} {v : Value} (k : Nat) (hk : k < 256) (t : ByteArray) (h : w.ownsRow (g + 1) 84 2 v L.length (L.flatMap prCells)) :
    TkC.R w w.heap.size (#[Value.int .u8 (k : Int), .string t, v, .string ⟨#[]⟩] : Array Value).toList ⟨k, t.data.toList, L.map prVal, []⟩ := by
  obtain ⟨A, c, rfl⟩ := own_form2 h
  obtain ⟨h1, h2, h3, h4, h5⟩ := own_attrs h
  exact ⟨t, A, c, ⟨#[]⟩, by simp, hk, rfl, rfl, by simpa using h3, h4, h5, h1⟩
theorem TkC_set {w : World} {g R : Nat} {L : List PB} {v : Value} {cs : Array Value} (h : w.ownsRow (g + 1) 84 2 v L.length (L.flatMap prCells)) (hR : R < g) (k : Nat) (hk : k < 256) (t : ByteArray) :
    TkC.R (w.setRow R cs) (w.setRow R cs).heap.size (#[Value.int .u8 (k : Int), .string t, v, .string ⟨#[]⟩] : Array Value).toList ⟨k, t.data.toList, L.map prVal, []⟩ := TkC_made k hk t (own_setRow h R (by omega) cs)
theorem TkR_set {w : World} {B g R : Nat} {L : List PB} {A : Option Addr} {c : Nat} {cs : Array Value} (h : w.ownsRow (g + 1) 84 2 (.slice A L.length c) L.length (L.flatMap prCells)) (hR : R < g) (hB : B ≤ R) (k : Nat) (hk : k < 256) (t : ByteArray) :
    TkR B (w.setRow R cs) #[Value.int .u8 (k : Int), .string t, .slice A L.length c, .string ⟨#[]⟩] ⟨k, t.data.toList, L.map prVal, []⟩ := by
  refine ⟨TkC_set h hR k hk t, fun A' n c' e ad e2 => ?_⟩
  have h' : Value.slice A L.length c = .slice A' n c' := Option.some.inj e
  injection h' with h1 _ _
  rcases h.2 with ⟨h3, _⟩ | ⟨g', cap, cur, hv, hb, _⟩
  · injection h3 with h3 _ _
    rw [← h1, h3] at e2
    cases e2
  · injection hv with h3 _ _
    rw [← h1, h3] at e2
    injection e2 with e2
    rw [← e2]
    show B ≤ g'
    omega
theorem own_belowK {w w' : World} {B base : Nat} {e : TypeId} {size : Nat} {v : Value} {n : Nat} {xs : List Value} (h : w.ownsRow base e size v n xs) (hb : Below B w w') (hB : w.heap.size ≤ B) : w'.ownsRow base e size v n xs := by
  refine h.kept (row := none) ⟨hb.os, hb.tape, hb.output, hb.size, fun k hk _ => hb.block k (by omega)⟩ ?_
  cases v.ownBlock
  · exact .inl rfl
  · exact .inr (by simp)
theorem new_at (w : World) (cs : List Value) (t : TypeId) (B : Nat) (hB : w.heap.size = B) : ∀ (j : Nat) (u : Value), cs[j]? = some u → (w.alloc (.cells cs.toArray t)).cell? ((⟨B, 0, none⟩ : Addr).add j) = some u := fun j u h => by
  subst hB
  rw [addr_plain, World.cell?_alloc_new]
  simpa using h
theorem set_other (w : World) (g k b : Nat) (x : Value) (h : b ≠ g) : (w.setCell ⟨g, k, none⟩ x).heap[b]? = w.heap[b]? := by
  unfold World.setCell
  dsimp only
  rw [Array.getElem?_modify, if_neg (fun e => h e.symm)]
theorem own_setCell {w : World} {base : Nat} {e : TypeId} {size : Nat} {v : Value} {n : Nat} {xs : List Value} (h : w.ownsRow base e size v n xs) (R k : Nat) (hR : R < base) (x : Value) : (w.setCell ⟨R, k, none⟩ x).ownsRow base e size v n xs := by
  refine ⟨h.1, ?_⟩
  rcases h.2 with h0 | ⟨g, cap, cur, hv, hb, hg, rest⟩
  · exact .inl h0
  · exact .inr ⟨g, cap, cur, hv, hb, (set_other w R k g x (by omega)).trans hg, rest⟩
theorem two_at {l : List UInt8} {q : Nat} (h : q + 1 < l.length) : (l.drop q).take 2 = [l[q]'(by omega), l[q + 1]'h] := by
  rw [List.drop_eq_getElem_cons (show q < l.length by omega), List.drop_eq_getElem_cons h]
  rfl
theorem attrL_few {l : List UInt8} (h : l.length < 3) : attrL l = none := by
  cases ha : attrL l with
  | none => rfl
  | some r =>
    have := attrL_len (p := r.1) (r := r.2) ha
    omega
end Hx
end Go.Proofs.Ytkmaogafknehgaa
namespace Go.Proofs.Ytkmaogafknehgaa
open Go.RowKit
namespace Hx
open Lx Tx Nmb Es
set_option linter.unusedVariables false
/-- A token's cells, as a value. -/
def TkV (t : Tk) (x u : ByteArray) (A : Option Addr) (cp : Nat) : Value := .agg #[.int .u8 (t.kind : Int), .string x, .slice A t.attrs.length cp, .string u]
/-- What a token's cells are to be. -/
structure TkAt (t : Tk) (x u : ByteArray) (A : Option Addr) (cp : Nat) (w : World) : Prop where
  name : x.data.toList = t.name
  text : u.data.toList = t.text
  attrs : RdC PrC w w.heap.size A t.attrs
  le : t.attrs.length ≤ cp
  ns : x.size ≤ 1000000
  us : u.size ≤ 1000000
  al : t.attrs.length ≤ 1000000
  sz : ∀ p ∈ t.attrs, p.name.length ≤ 1000000 ∧ p.value.length ≤ 1000000
theorem TkAt.on {t : Tk} {x u : ByteArray} {A : Option Addr} {cp : Nat} {w w' : World} (h : TkAt t x u A cp w) (hb : Below w.heap.size w w') : TkAt t x u A cp w' := ⟨h.name, h.text, h.attrs.on hb, h.le, h.ns, h.us, h.al, h.sz⟩
theorem box_cell {w w1 : World} {cs : Array Value} {T : TypeId} (hb : Below (w.alloc (.cells cs T)).heap.size (w.alloc (.cells cs T)) w1) (i : Nat) (v : Value) (h : cs[i]? = some v) : w1.cell? ⟨w.heap.size, i, none⟩ = some v ∧ w.heap.size < w1.heap.size := by
  have hs := hb.size
  simp at hs
  refine ⟨?_, by omega⟩
  rw [hb.cell (p := ⟨w.heap.size, i, none⟩) (by simp)]
  simp [h]
theorem emp_l (s : ByteArray) : s.toList.isEmpty = s.data.toList.isEmpty := by rw [ByteArray.toList_eq]
def checkR (t : Tk) : Int := if mayT t then 0 else 8
end Hx
end Go.Proofs.Ytkmaogafknehgaa
