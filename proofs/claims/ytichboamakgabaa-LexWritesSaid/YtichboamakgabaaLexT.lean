/-
  The document's own lex: has, told, attr, shut.
-/
import Derived.Test.YtichboamakgabaaLexS
import Derived.Test.YtichboamakgabaaEscT
import Derived.Lib.ConvBytes
import Derived.Lib.BufferMore
namespace Go.Proofs.Ytichboamakgabaa
open Go.RowKit
namespace Hx
open Lx Tx Nmb Es
set_option linter.unusedVariables false
theorem seq_l (a b : ByteArray) : (a.toList == b.toList) = decide (a.data.toList = b.data.toList) := by
  rw [Bool.eq_iff_iff]
  simp only [beq_iff_eq, decide_eq_true_eq, ByteArray.toList_eq]
theorem hasL_step {l : List Pr} {name : List UInt8} {k : Nat} (h : k < l.length) (h1 : hasL (l.take k) name = false) : (decide ((l[k]'h).name = name) = false → hasL (l.take (k + 1)) name = false) ∧ (decide ((l[k]'h).name = name) = true → hasL l name = true) := by
  unfold hasL at h1 ⊢
  refine ⟨fun h2 => ?_, fun h2 => ?_⟩
  · rw [List.take_succ_eq_append_getElem h, List.any_append, h1]
    simp only [List.any_cons, List.any_nil, h2]
    rfl
  · rw [List.any_eq_true]
    exact ⟨_, List.getElem_mem h, h2⟩
set_option maxHeartbeats 2000000 in
set_option maxRecDepth 100000 in
theorem rhas9 (A : Option Addr) (n cp : Nat) (l : List Pr) (t : ByteArray) (w : World) (hr : RdC PrC w w.heap.size A l) (hn : l.length = n) (hm : n ≤ 1000000) (b : Bool) (h : hasL l t.data.toList = b) :
    Calls Try.prog 32 #[.slice A n cp, .string t] w fun e w' => e = .returned (.bool b) ∧ w = w' := by
  have HR := Lib.hid hr
  have HN := Lib.hid hn
  have HM := Lib.hid hm
  have HH := Lib.hid h
  clear hr hn h hm
  go_enter Try.func32, Try.ntmps32
  go_wp2_with fail
  go_loopw [5] (fun i wr => ∃ k : Nat, k ≤ n ∧ i = .int .i64 k ∧ hasL (l.take k) t.data.toList = false ∧ w = wr) (fun i _ => n - (intOf i).toNat)
  case atStart => exact ⟨0, Nat.zero_le _, rfl, rfl, by first | rfl | trivial⟩
  case round =>
    obtain ⟨k, hk, rfl, hno, rfl⟩ := hrel
    have hm := HM.out
    by_cases hlt : k < n
    · have hk2 : k < l.length := by rw [HN.out]; exact hlt
      obtain ⟨b0, off, rfl, hbB, hc⟩ := HR.out (by omega)
      obtain ⟨cs, ⟨x, y, rfl, hx, hy⟩, hcell⟩ := hc k hk2
      have c0 : w.cell? ⟨b0, off + k * 2, none⟩ = some (.string x) := hcell 0 (by simp)
      have hst := hasL_step (name := t.data.toList) hk2 hno
      rw [← hx] at hst
      obtain ⟨q, hq⟩ : ∃ q, (x.toList == t.toList) = q := ⟨_, rfl⟩
      have hqq : decide (x.data.toList = t.data.toList) = q := by rw [← hq, seq_l]
      rw [hqq] at hst
      have HST := Lib.hid hst
      clear hst hqq hx hy hcell hno hc
      cases q
      · have HV := Lib.hid (HST.out.1 rfl)
        go_wp2_with fail
        go_roundw
        case rel => exact ⟨k + 1, by omega, by go_num, HV.out, by first | rfl | trivial⟩
        case measure => simp [intOf]; omega
      · obtain rfl : true = b := by rw [← HH.out, HST.out.2 rfl]
        go_wp2_with fail
        go_ret
        exact ⟨rfl, rfl⟩
    · obtain rfl : k = n := by omega
      obtain rfl : false = b := by
        rw [← HN.out, List.take_length] at hno
        rw [← HH.out, hno]
      clear hno
      go_wp2_with fail
      go_ret
      exact ⟨rfl, rfl⟩
/-- A row of bytes that came of a text. -/
def Rwb (g : Nat) (l : List UInt8) (w : World) : Prop := ∃ (cs : Array Value) (fr : Nat × Nat), w.heap[g]? = some (.cells cs 5 fr) ∧ l.length ≤ fr.1 ∧ (∀ (j : Nat) (c : UInt8), l[j]? = some c → cs[j]? = some (Value.int .u8 c.toNat))
theorem lt_of_row {w : World} {g : Nat} {o : Obj} (h : w.heap[g]? = some o) : g < w.heap.size := (Array.getElem?_eq_some_iff.1 h).1
theorem row_cell (w : World) (g k : Nat) (cs : Array Value) (t : TypeId) (fr : Nat × Nat) (h : w.heap[g]? = some (.cells cs t fr)) : w.cell? ⟨g, k, none⟩ = cs[k]? := by simp [World.cell?, h]
theorem Rwb.lt {g : Nat} {l : List UInt8} {w : World} (h : Rwb g l w) : g < w.heap.size := by
  obtain ⟨cs, fr, h1, _⟩ := h
  exact lt_of_row h1
theorem Rwb.cell {g k : Nat} {l : List UInt8} {c : UInt8} {w : World} (h : Rwb g l w) (hc : l[k]? = some c) : w.cell? ⟨g, k, none⟩ = some (.int .u8 c.toNat) := by
  obtain ⟨cs, fr, h1, _, h3⟩ := h
  rw [row_cell w g k cs _ fr h1]
  exact h3 k c hc
theorem Rwb.free {g k : Nat} {l : List UInt8} {w : World} (h : Rwb g l w) (hk : k < l.length) : w.frozen? ⟨g, k, none⟩ = false := by
  obtain ⟨cs, fr, h1, h2, _⟩ := h
  obtain ⟨lo, hi⟩ := fr
  simp only at h2
  simp [World.frozen?, h1]
  omega
theorem Rwb.rd {g : Nat} {l : List UInt8} {w : World} (h : Rwb g l w) : RdA w w.heap.size (some ⟨g, 0, none⟩) l := by
  intro hp
  refine ⟨g, 0, rfl, h.lt, fun j hj => ?_⟩
  rw [Nat.zero_add]
  exact h.cell (List.getElem?_eq_getElem hj)
theorem Rwb.put {g k : Nat} {l : List UInt8} {x : UInt8} {w : World} (h : Rwb g l w) : Rwb g (l.set k x) (w.setCell ⟨g, k, none⟩ (.int .u8 x.toNat)) := by
  obtain ⟨cs, fr, h1, h2, h3⟩ := h
  refine ⟨_, fr, Lib.heap_setCell_same h1 _, by rw [List.length_set]; exact h2, fun j c hj => ?_⟩
  rw [List.getElem?_set] at hj
  rw [Array.getElem?_setIfInBounds]
  by_cases hkj : k = j
  · subst hkj
    rw [if_pos rfl] at hj ⊢
    by_cases hk : k < l.length
    · rw [if_pos hk] at hj
      have hs := h3 k _ (List.getElem?_eq_getElem hk)
      have : k < cs.size := (Array.getElem?_eq_some_iff.1 hs).1
      rw [if_pos this]
      cases hj
      rfl
    · rw [if_neg hk] at hj
      cases hj
  · rw [if_neg hkj] at hj ⊢
    exact h3 j c hj
theorem str_rowb (s : ByteArray) (w : World) : ∃ C WB, (convert 9 40 (.string s)).run Try.prog w = .ok (.slice (some ⟨w.heap.size, 0, none⟩) s.size C) WB ∧ Rwb w.heap.size s.data.toList WB ∧ Below w.heap.size w WB := by
  have h := Lib.run_convert_string_bytes (P := Try.prog) w 9 40 5 s Try.underlying9 Try.underlying40 Try.underlying5
  refine ⟨_, _, h, ⟨_, _, Lib.bytesWorld_at_new w _ s, ?_, fun j c hj => ?_⟩, ⟨rfl, rfl, rfl, by rw [Lib.bytesWorld_size]; omega, fun k hk => Lib.bytesWorld_at_old w _ _ k hk⟩⟩
  · show _ ≤ (Lib.bytesCells w _ s).size
    simp [Lib.bytesCells]
  · obtain ⟨hk, e⟩ := List.getElem?_eq_some_iff.1 hj
    have hk2 : j < s.data.size := by simpa using hk
    unfold Lib.bytesCells
    rw [Array.getElem?_append_left (by simpa using hk2), Array.getElem?_map]
    have : s.data[j]? = some c := by rw [← Array.getElem?_toList]; exact hj
    rw [this]
    rfl
def sp (c : UInt8) : UInt8 := if blk c then 32 else c
/-- So many blanks turned. -/
def spk (l : List UInt8) (k : Nat) : List UInt8 := (l.take k).map sp ++ l.drop k
theorem spk_len (l : List UInt8) (k : Nat) : (spk l k).length = l.length := by unfold spk; rw [List.length_append, List.length_map, List.length_take, List.length_drop]; omega
theorem spk_at {l : List UInt8} {k : Nat} (h : k < l.length) : (spk l k)[k]? = some (l[k]'h) ∧ spk l (k + 1) = (spk l k).set k (sp (l[k]'h)) := by
  have hl : ((l.take k).map sp).length = k := by rw [List.length_map, List.length_take]; omega
  have e1 : spk l k = (l.take k).map sp ++ (l[k]'h) :: l.drop (k + 1) := by unfold spk; rw [List.drop_eq_getElem_cons h]
  refine ⟨?_, ?_⟩
  · rw [e1, List.getElem?_append_right (by omega), hl]
    simp
  · rw [e1, List.set_append_right _ _ (by omega), hl, Nat.sub_self, List.set_cons_zero]
    unfold spk
    rw [List.take_succ_eq_append_getElem h, List.map_append]
    simp
theorem set_same {α : Type} {l : List α} {k : Nat} {c : α} (h : l[k]? = some c) : l.set k c = l := by
  apply List.ext_getElem?
  intro j
  rw [List.getElem?_set]
  by_cases hj : k = j
  · subst hj
    obtain ⟨hk, _⟩ := List.getElem?_eq_some_iff.1 h
    rw [if_pos rfl, if_pos hk, h]
  · rw [if_neg hj]
end Hx
end Go.Proofs.Ytichboamakgabaa
