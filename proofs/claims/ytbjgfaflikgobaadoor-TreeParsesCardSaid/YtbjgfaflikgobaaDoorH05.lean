/-
  Texts of one seat, put together: NumS, EscS, EscT, LexT, LexU, LexV.
-/
import Derived.Test.YtbjgfaflikgobaaDoorH04
import Derived.Test.YtbjgfaflikgobaaDoorH02
import Derived.Lib.ConvBytes
import Derived.Lib.BufferMore
import Derived.Test.YtbjgfaflikgobaaDoorH01
namespace Go.Proofs.YtbjgfaflikgobaaDoor
open Go.RowKit
namespace Hx
open Nmb
set_option linter.unusedVariables false
/-- What value answers. -/
def valR (l : List UInt8) : Int := if l.all isDg then (val l : Int) else -1
/-- What Read answers. -/
def readR (l : List UInt8) : Int × Int := match readN l with | some n => (n, 0) | none => (0, 60)
end Hx
end Go.Proofs.YtbjgfaflikgobaaDoor
namespace Go.Proofs.YtbjgfaflikgobaaDoor
open Go.RowKit
namespace Hx
open Tx Nmb Es
set_option linter.unusedVariables false
/-- What hex answers. -/
def hexR (l : List UInt8) : Int := match hexV l with | some n => (n : Int) | none => -1
/-- What number answers, of a code point or none. -/
def numR (o : Option Nat) : ByteArray × Bool := match o with | some n => (⟨(enc n).toArray⟩, true) | none => (⟨#[]⟩, false)
/-- What meant answers. -/
def mntR (o : Option (List UInt8)) : ByteArray × Bool := match o with | some y => (⟨y.toArray⟩, true) | none => (⟨#[]⟩, false)
end Hx
end Go.Proofs.YtbjgfaflikgobaaDoor
namespace Go.Proofs.YtbjgfaflikgobaaDoor
open Go.RowKit
namespace Hx
open Tx Nmb Es
set_option linter.unusedVariables false
/-- What Get answers. -/
def getR (s : ByteArray) : ByteArray × Int := if chkE s ≠ 0 then (⟨#[]⟩, chkE s) else match rd s.data.toList with | some x => (⟨x.toArray⟩, 0) | none => (⟨#[]⟩, 80)
end Hx
end Go.Proofs.YtbjgfaflikgobaaDoor
namespace Go.Proofs.YtbjgfaflikgobaaDoor
open Go.RowKit
namespace Hx
open Lx Tx Nmb Es
set_option linter.unusedVariables false
theorem seq_l (a b : ByteArray) : (a.toList == b.toList) = decide (a.data.toList = b.data.toList) := by
  rw [Bool.eq_iff_iff]
  simp only [beq_iff_eq, decide_eq_true_eq, ByteArray.toList_eq]
theorem hasL_step {l : List Pr} {name : List UInt8} {k : Nat} (h : k < l.length) (h1 : hasL (l.take k) name = false) : (decide ((l[k]'h).name = name) = false → hasL (l.take (k + 1)) name = false) ∧ (decide ((l[k]'h).name = name) = true → hasL l name = true) := by
  unfold hasL at h1 ⊢
  refine ⟨fun h2 => ?_, fun h2 => ?_⟩
  · rw [List.take_succ_eq_append_getElem h, List.any_append, h1]
    simp only [List.any_cons, List.any_nil, h2]
    rfl
  · rw [List.any_eq_true]
    exact ⟨_, List.getElem_mem h, h2⟩
set_option maxHeartbeats 2000000 in
set_option maxRecDepth 100000 in
theorem rhas9 (A : Option Addr) (n cp : Nat) (l : List Pr) (t : ByteArray) (w : World) (hr : RdC PrC w w.heap.size A l) (hn : l.length = n) (hm : n ≤ 1000000) (b : Bool) (h : hasL l t.data.toList = b) :
    Calls Tryd.prog 34 #[.slice A n cp, .string t] w fun e w' => e = .returned (.bool b) ∧ w = w' := by
  have HR := Lib.hid hr
  have HN := Lib.hid hn
  have HM := Lib.hid hm
  have HH := Lib.hid h
  clear hr hn h hm
  go_enter Tryd.func34, Tryd.ntmps34
  go_wp2_with fail
  go_loopw [5] (fun i wr => ∃ k : Nat, k ≤ n ∧ i = .int .i64 k ∧ hasL (l.take k) t.data.toList = false ∧ w = wr) (fun i _ => n - (intOf i).toNat)
  case atStart => exact ⟨0, Nat.zero_le _, rfl, rfl, by first | rfl | trivial⟩
  case round =>
    obtain ⟨k, hk, rfl, hno, rfl⟩ := hrel
    have hm := HM.out
    by_cases hlt : k < n
    · have hk2 : k < l.length := by rw [HN.out]; exact hlt
      obtain ⟨b0, off, rfl, hbB, hc⟩ := HR.out (by omega)
      obtain ⟨cs, ⟨x, y, rfl, hx, hy⟩, hcell⟩ := hc k hk2
      have c0 : w.cell? ⟨b0, off + k * 2, none⟩ = some (.string x) := hcell 0 (by simp)
      have hst := hasL_step (name := t.data.toList) hk2 hno
      rw [← hx] at hst
      obtain ⟨q, hq⟩ : ∃ q, (x.toList == t.toList) = q := ⟨_, rfl⟩
      have hqq : decide (x.data.toList = t.data.toList) = q := by rw [← hq, seq_l]
      rw [hqq] at hst
      have HST := Lib.hid hst
      clear hst hqq hx hy hcell hno hc
      cases q
      · have HV := Lib.hid (HST.out.1 rfl)
        go_wp2_with fail
        go_roundw
        case rel => exact ⟨k + 1, by omega, by go_num, HV.out, by first | rfl | trivial⟩
        case measure => simp [intOf]; omega
      · obtain rfl : true = b := by rw [← HH.out, HST.out.2 rfl]
        go_wp2_with fail
        go_ret
        exact ⟨rfl, rfl⟩
    · obtain rfl : k = n := by omega
      obtain rfl : false = b := by
        rw [← HN.out, List.take_length] at hno
        rw [← HH.out, hno]
      clear hno
      go_wp2_with fail
      go_ret
      exact ⟨rfl, rfl⟩
/-- A row of bytes that came of a text. -/
def Rwb (g : Nat) (l : List UInt8) (w : World) : Prop := ∃ (cs : Array Value) (fr : Nat × Nat), w.heap[g]? = some (.cells cs 5 fr) ∧ l.length ≤ fr.1 ∧ (∀ (j : Nat) (c : UInt8), l[j]? = some c → cs[j]? = some (Value.int .u8 c.toNat))
theorem lt_of_row {w : World} {g : Nat} {o : Obj} (h : w.heap[g]? = some o) : g < w.heap.size := (Array.getElem?_eq_some_iff.1 h).1
theorem row_cell (w : World) (g k : Nat) (cs : Array Value) (t : TypeId) (fr : Nat × Nat) (h : w.heap[g]? = some (.cells cs t fr)) : w.cell? ⟨g, k, none⟩ = cs[k]? := by simp [World.cell?, h]
theorem Rwb.lt {g : Nat} {l : List UInt8} {w : World} (h : Rwb g l w) : g < w.heap.size := by
  obtain ⟨cs, fr, h1, _⟩ := h
  exact lt_of_row h1
theorem Rwb.cell {g k : Nat} {l : List UInt8} {c : UInt8} {w : World} (h : Rwb g l w) (hc : l[k]? = some c) : w.cell? ⟨g, k, none⟩ = some (.int .u8 c.toNat) := by
  obtain ⟨cs, fr, h1, _, h3⟩ := h
  rw [row_cell w g k cs _ fr h1]
  exact h3 k c hc
theorem Rwb.free {g k : Nat} {l : List UInt8} {w : World} (h : Rwb g l w) (hk : k < l.length) : w.frozen? ⟨g, k, none⟩ = false := by
  obtain ⟨cs, fr, h1, h2, _⟩ := h
  obtain ⟨lo, hi⟩ := fr
  simp only at h2
  simp [World.frozen?, h1]
  omega
theorem Rwb.rd {g : Nat} {l : List UInt8} {w : World} (h : Rwb g l w) : RdA w w.heap.size (some ⟨g, 0, none⟩) l := by
  intro hp
  refine ⟨g, 0, rfl, h.lt, fun j hj => ?_⟩
  rw [Nat.zero_add]
  exact h.cell (List.getElem?_eq_getElem hj)
theorem Rwb.put {g k : Nat} {l : List UInt8} {x : UInt8} {w : World} (h : Rwb g l w) : Rwb g (l.set k x) (w.setCell ⟨g, k, none⟩ (.int .u8 x.toNat)) := by
  obtain ⟨cs, fr, h1, h2, h3⟩ := h
  refine ⟨_, fr, Lib.heap_setCell_same h1 _, by rw [List.length_set]; exact h2, fun j c hj => ?_⟩
  rw [List.getElem?_set] at hj
  rw [Array.getElem?_setIfInBounds]
  by_cases hkj : k = j
  · subst hkj
    rw [if_pos rfl] at hj ⊢
    by_cases hk : k < l.length
    · rw [if_pos hk] at hj
      have hs := h3 k _ (List.getElem?_eq_getElem hk)
      have : k < cs.size := (Array.getElem?_eq_some_iff.1 hs).1
      rw [if_pos this]
      cases hj
      rfl
    · rw [if_neg hk] at hj
      cases hj
  · rw [if_neg hkj] at hj ⊢
    exact h3 j c hj
def sp (c : UInt8) : UInt8 := if blk c then 32 else c
/-- So many blanks turned. -/
def spk (l : List UInt8) (k : Nat) : List UInt8 := (l.take k).map sp ++ l.drop k
end Hx
end Go.Proofs.YtbjgfaflikgobaaDoor
namespace Go.Proofs.YtbjgfaflikgobaaDoor
open Go.RowKit
namespace Hx
open Lx Tx Nmb Es
set_option linter.unusedVariables false
def zPr : Array Value := #[.string ⟨#[]⟩, .string ⟨#[]⟩]
theorem onePr (x y : ByteArray) : (#[Value.string x, Value.string y] : Array Value).all (·.oneCell') = true := by simp [Value.oneCell']
theorem sizePr : (Tryd.prog.info? 37).map (·.size) = some 2 := by kernel_rfl
/-- Where an attribute's sign = is looked for; where its value is. -/
def eqAt (l : List UInt8) (a : Nat) : Nat := a + (wordL (l.drop a)).length + ((l.drop (a + (wordL (l.drop a)).length)).takeWhile blk).length
def valAt (l : List UInt8) (a : Nat) : Nat := eqAt l a + 1 + ((l.drop (eqAt l a + 1)).takeWhile blk).length
/-- What attr answers. -/
def AttrTo (s : ByteArray) (a : Nat) (w : World) (e : Ending) (w' : World) : Prop := Below w.heap.size w w' ∧
  ((attrL (s.data.toList.drop a) = none ∧ e = .returned (.tuple #[.agg #[.string ⟨#[]⟩, .string ⟨#[]⟩], .int .i64 (-1)])) ∨
   (∃ (x y : ByteArray) (n : Nat), attrL (s.data.toList.drop a) = some (⟨x.data.toList, y.data.toList⟩, s.data.toList.drop n) ∧ n ≤ s.size ∧ e = .returned (.tuple #[.agg #[.string x, .string y], .int .i64 n])))
end Hx
end Go.Proofs.YtbjgfaflikgobaaDoor
namespace Go.Proofs.YtbjgfaflikgobaaDoor
open Go.RowKit
namespace Hx
open Lx Tx Nmb Es
set_option linter.unusedVariables false
def zTk : Array Value := #[.int .u8 0, .string ⟨#[]⟩, .slice none 0 0, .string ⟨#[]⟩]
theorem oneTk (k : Int) (x : ByteArray) (v : Value) (y : ByteArray) (hv : v.oneCell' = true := by rfl) : (#[Value.int .u8 k, Value.string x, v, Value.string y] : Array Value).all (·.oneCell') = true := by simp [Value.oneCell'] at hv ⊢; exact hv
theorem sizeTk : (Tryd.prog.info? 26).map (·.size) = some 4 := by kernel_rfl
/-- What shut answers. -/
def ShutTo (s : ByteArray) (a : Nat) (w : World) (e : Ending) (w' : World) : Prop := Below w.heap.size w w' ∧
  ((shutL (s.data.toList.drop (a + 2)) = none ∧ e = .returned (.tuple #[.agg #[.int .u8 0, .string ⟨#[]⟩, .slice none 0 0, .string ⟨#[]⟩], .int .i64 (-1)])) ∨
   (∃ (x : ByteArray) (n : Nat), shutL (s.data.toList.drop (a + 2)) = some (⟨2, x.data.toList, [], []⟩, s.data.toList.drop n) ∧ n ≤ s.size ∧ e = .returned (.tuple #[.agg #[.int .u8 2, .string x, .slice none 0 0, .string ⟨#[]⟩], .int .i64 n])))
end Hx
end Go.Proofs.YtbjgfaflikgobaaDoor
