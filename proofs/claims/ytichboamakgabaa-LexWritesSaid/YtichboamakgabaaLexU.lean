/-
  The document's own lex: attr.
-/
import Derived.Test.YtichboamakgabaaLexT
import Derived.Test.YtichboamakgabaaMemV
namespace Go.Proofs.Ytichboamakgabaa
open Go.RowKit
namespace Hx
open Lx Tx Nmb Es
set_option linter.unusedVariables false
def zPr : Array Value := #[.string ⟨#[]⟩, .string ⟨#[]⟩]
theorem onePr (x y : ByteArray) : (#[Value.string x, Value.string y] : Array Value).all (·.oneCell') = true := by simp [Value.oneCell']
theorem sizePr : (Try.prog.info? 37).map (·.size) = some 2 := by kernel_rfl
theorem dw_drop (p : UInt8 → Bool) (l : List UInt8) (i : Nat) : (l.drop i).dropWhile p = l.drop (i + ((l.drop i).takeWhile p).length) := by
  have h := (tw_split p (l.drop i)).1
  have : (l.drop i).drop ((l.drop i).takeWhile p).length = (l.drop i).dropWhile p := by
    conv => lhs; arg 2; rw [h]
    rw [List.drop_left]
  rw [← this, List.drop_drop]
/-- Where an attribute's sign = is looked for; where its value is. -/
def eqAt (l : List UInt8) (a : Nat) : Nat := a + (wordL (l.drop a)).length + ((l.drop (a + (wordL (l.drop a)).length)).takeWhile blk).length
theorem attrL_none0 {l : List UInt8} (h : wordL l = []) : attrL l = none := by unfold attrL; rw [if_pos h]
theorem attrL_at {l : List UInt8} {a : Nat} (h : wordL (l.drop a) ≠ []) : attrL (l.drop a) = match l.drop (eqAt l a) with
    | [] => none
    | c :: r => if c = 61 then (valL (r.dropWhile blk)).map fun p => (⟨wordL (l.drop a), p.1⟩, p.2) else none := by
  unfold attrL
  rw [if_neg h, List.drop_drop, dw_drop]
  rfl
theorem attrL_end {l : List UInt8} {a : Nat} (h : wordL (l.drop a) ≠ []) (h1 : l.length ≤ eqAt l a) : attrL (l.drop a) = none := by
  rw [attrL_at h, List.drop_of_length_le h1]
theorem attrL_other {l : List UInt8} {a : Nat} (h : wordL (l.drop a) ≠ []) (h1 : eqAt l a < l.length) (h2 : l[eqAt l a]'h1 ≠ 61) : attrL (l.drop a) = none := by
  rw [attrL_at h, List.drop_eq_getElem_cons h1]
  dsimp only
  rw [if_neg h2]
def valAt (l : List UInt8) (a : Nat) : Nat := eqAt l a + 1 + ((l.drop (eqAt l a + 1)).takeWhile blk).length
theorem attrL_val {l : List UInt8} {a : Nat} (h : wordL (l.drop a) ≠ []) (h1 : eqAt l a < l.length) (h2 : l[eqAt l a]'h1 = 61) : attrL (l.drop a) = (valL (l.drop (valAt l a))).map fun p => (⟨wordL (l.drop a), p.1⟩, p.2) := by
  rw [attrL_at h, List.drop_eq_getElem_cons h1]
  dsimp only
  rw [if_pos h2, dw_drop]
  rfl
theorem valL_end {l : List UInt8} {b : Nat} (h : l.length ≤ b) : valL (l.drop b) = none := by rw [List.drop_of_length_le h]; rfl
theorem valL_other {l : List UInt8} {b : Nat} (h : b < l.length) (h1 : l[b]'h ≠ 34) (h2 : l[b]'h ≠ 39) : valL (l.drop b) = none := by
  rw [List.drop_eq_getElem_cons h]
  unfold valL
  dsimp only
  rw [if_neg (by rw [not_or]; exact ⟨h1, h2⟩)]
theorem valL_open {l : List UInt8} {b : Nat} (h : b < l.length) (h1 : l[b]'h = 34 ∨ l[b]'h = 39) (h2 : l[b]'h ∉ l.drop (b + 1)) : valL (l.drop b) = none := by
  rw [List.drop_eq_getElem_cons h]
  unfold valL
  dsimp only
  rw [if_pos h1, cutQ_none h2]
theorem valL_shut {l : List UInt8} {b k : Nat} (h : b < l.length) (h1 : l[b]'h = 34 ∨ l[b]'h = 39) (hk : b + 1 + k < l.length) (h2 : l[b]'h ∉ (l.drop (b + 1)).take k) (h3 : l[b + 1 + k]'hk = l[b]'h) : valL (l.drop b) = (toldL ((l.drop (b + 1)).take k)).map fun v => (v, l.drop (b + 1 + k + 1)) := by
  have hkl : k < (l.drop (b + 1)).length := by rw [List.length_drop]; omega
  have e : l.drop (b + 1) = (l.drop (b + 1)).take k ++ (l[b]'h) :: l.drop (b + 1 + k + 1) := by
    conv => lhs; rw [← List.take_append_drop k (l.drop (b + 1))]
    rw [List.drop_eq_getElem_cons hkl, List.getElem_drop, h3, List.drop_drop]
    rfl
  rw [List.drop_eq_getElem_cons h]
  unfold valL
  dsimp only
  rw [if_pos h1]
  conv => lhs; rw [e]
  rw [cutQ_of _ h2]
/-- What attr answers. -/
def AttrTo (s : ByteArray) (a : Nat) (w : World) (e : Ending) (w' : World) : Prop := Below w.heap.size w w' ∧
  ((attrL (s.data.toList.drop a) = none ∧ e = .returned (.tuple #[.agg #[.string ⟨#[]⟩, .string ⟨#[]⟩], .int .i64 (-1)])) ∨
   (∃ (x y : ByteArray) (n : Nat), attrL (s.data.toList.drop a) = some (⟨x.data.toList, y.data.toList⟩, s.data.toList.drop n) ∧ n ≤ s.size ∧ e = .returned (.tuple #[.agg #[.string x, .string y], .int .i64 n])))
end Hx
end Go.Proofs.Ytichboamakgabaa
