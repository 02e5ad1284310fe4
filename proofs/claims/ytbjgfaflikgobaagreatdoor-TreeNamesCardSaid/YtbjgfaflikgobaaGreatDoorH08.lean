/-
  Texts of one seat, put together: BldA, BldK, EscA, TextP, TextQ, EscB.
-/
import Derived.Test.YtbjgfaflikgobaaGreatDoorH00
import Derived.Test.YtbjgfaflikgobaaGreatDoorShelf
import Derived.Lib.OthersKept
import Derived.Lib.FrozenHead2
import Derived.Laws.Externs
import Derived.Test.YtbjgfaflikgobaaGreatDoorH02
import Derived.Test.YtbjgfaflikgobaaGreatDoorH04
import Derived.Laws.RangeAny
import Derived.Deep.LoopGhost
import Derived.Test.YtbjgfaflikgobaaGreatDoorH05
namespace Go.Proofs.YtbjgfaflikgobaaGreatDoor
open Go.RowKit
namespace Hx
set_option linter.unusedVariables false
/-- The builder in block b holds these bytes; it and its row lie from block B on. -/
def Bld (B b : Nat) (l : List UInt8) (w : World) : Prop := Lib.IsBuilderF 72 5 B b (Lib.byteCells l) w
theorem bcells_len (l : List UInt8) : (Lib.byteCells l).length = l.length := by simp [Lib.byteCells]
theorem bcells_app (a b : List UInt8) : Lib.byteCells (a ++ b) = Lib.byteCells a ++ Lib.byteCells b := by simp [Lib.byteCells]
theorem Bld.alloc {B b : Nat} {l : List UInt8} {w : World} (h : Bld B b l w) (o : Obj) : Bld B b l (w.alloc o) := Lib.IsBuilderF.alloc h o
theorem Bld.lt {B b : Nat} {l : List UInt8} {w : World} (h : Bld B b l w) : B ≤ b ∧ b < w.heap.size := by
  rcases h with h | h <;>
  · obtain ⟨h1, v, h2, _⟩ := h
    refine ⟨h1, ?_⟩
    rcases Nat.lt_or_ge b w.heap.size with h' | h'
    · exact h'
    · rw [Array.getElem?_eq_none h'] at h2; cases h2
theorem bldAt_below {T e : TypeId} {B b : Nat} {p : Value} {bs : List Value} {w w' : World} {n : Nat} (h : Lib.BuilderAtF T e B b p bs w) (hb : Below n w w') (hn : w.heap.size ≤ n) : Lib.BuilderAtF T e B b p bs w' := by
  obtain ⟨h1, v, h2, h3, h4⟩ := h
  have hlt : ∀ {k : Nat} {o : Obj}, w.heap[k]? = some o → w'.heap[k]? = some o := fun {k o} hk => by
    have : k < w.heap.size := by
      rcases Nat.lt_or_ge k w.heap.size with h' | h'
      · exact h'
      · rw [Array.getElem?_eq_none h'] at hk; cases hk
    rw [hb.block k (Nat.lt_of_lt_of_le this hn)]
    exact hk
  refine ⟨h1, v, hlt h2, ⟨h3.1, ?_⟩, h4⟩
  rcases h3.2 with h | ⟨g, cap, cur, fz, q1, q2, q3, q4⟩
  · exact .inl h
  · exact .inr ⟨g, cap, cur, fz, q1, q2, hlt q3, q4⟩
theorem Bld.below {B b : Nat} {l : List UInt8} {w w' : World} (h : Bld B b l w) (hb : Below w.heap.size w w') : Bld B b l w' :=
  h.elim (fun x => .inl (bldAt_below x hb (Nat.le_refl _))) (fun x => .inr (bldAt_below x hb (Nat.le_refl _)))
/-- A new one. -/
theorem bld_new (w : World) : Bld w.heap.size w.heap.size [] (w.alloc (.cells #[.pointer none, .slice none 0 0] 72)) := Lib.IsBuilderF.of (Lib.fresh_isBuilder _ _ _)
theorem cc_size : ∃ j, Tryz.prog.info? 72 = some j ∧ j.size = 2 := Option.map_eq_some_iff.1 (show (Tryz.prog.info? 72).map (·.size) = some 2 by kernel_rfl)
theorem cc_lies : liesAt Tryz.prog Tryz.prog.depth 72 (2 / Tryz.prog.cellsOf 72) 0 72 1 = true := by kernel_rfl
theorem bld_u8 : (Tryz.prog.info? 5).map (fun i => (i.zero, i.size, i.bytes)) = some (some (.int .u8 0), 1, 1) := by kernel_rfl
set_option maxHeartbeats 1000000 in
set_option maxRecDepth 100000 in
theorem cc_used (b : Nat) (w : World) (h0 : w.cell? ⟨b, 0, none⟩ = some (.pointer (some ⟨b, 0, none⟩))) :
    Calls Tryz.prog 83 #[.pointer (some ⟨b, 0, none⟩)] w fun e w' => e = .returned (.tuple #[]) ∧ w' = w := by
  obtain ⟨j, hj, _⟩ := cc_size
  go_enter Tryz.func83, Tryz.ntmps83
  go_wp2
  rw [Lib.run_neq_ptr_same w _ Tryz.underlying69 hj]
  go_wp2
  go_end0
  exact ⟨rfl, rfl⟩
set_option maxHeartbeats 1000000 in
set_option maxRecDepth 100000 in
theorem cc_fresh (b : Nat) (w : World) (h0 : w.cell? ⟨b, 0, none⟩ = some (.pointer none)) (hsh : w.shape? b = some (72, 2)) (hfz : w.frozen? ⟨b, 0, none⟩ = false) :
    Calls Tryz.prog 83 #[.pointer (some ⟨b, 0, none⟩)] w fun e w' => e = .returned (.tuple #[]) ∧ w' = w.setCell ⟨b, 0, none⟩ (.pointer (some ⟨b, 0, none⟩)) := by
  obtain ⟨j, hj, hjs⟩ := cc_size
  go_enter Tryz.func83, Tryz.ntmps83
  go_wp2
  rw [Lib.run_to_unsafe w ⟨b, 0, none⟩ Tryz.underlying69 Tryz.underlying141 hj (by rw [hjs]; decide) hsh (Nat.zero_lt_succ 1)]
  simp only [Result.andThen]
  rw [Oper.upon_value]
  go_wp2
  rw [run_callFunc_extern Tryz.func117 (by kernel_rfl) (by kernel_rfl) (by kernel_rfl) (e := Extern.AbiNoEscape.same) (by kernel_rfl)]
  rw [Lib.run_noEscape]
  simp only [Result.andThen]
  rw [Oper.upon_value]
  go_wp2
  rw [Lib.run_from_unsafe w ⟨b, 0, none⟩ Tryz.underlying141 Tryz.underlying69 hj hsh cc_lies]
  simp only [Result.andThen]
  rw [Oper.upon_value]
  go_wp2
  go_end0
  exact ⟨rfl, rfl⟩
theorem ccheck (B b : Nat) (bs : List Value) (w : World) (h : Lib.IsBuilderF 72 5 B b bs w) :
    Calls Tryz.prog 83 #[.pointer (some ⟨b, 0, none⟩)] w fun e w' => e = .returned (.tuple #[]) ∧ Lib.BuilderAtF 72 5 B b (.pointer (some ⟨b, 0, none⟩)) bs w' ∧ Below B w w' := by
  rcases h with h | h
  · refine (cc_fresh b w h.cell0 h.shape h.frozen0).mono ?_
    rintro e w' ⟨rfl, rfl⟩
    exact ⟨rfl, h.used _, (Below.refl B w).setCell (p := ⟨b, 0, none⟩) h.1 _⟩
  · refine (cc_used b w h.cell0).mono ?_
    rintro e w' ⟨rfl, rfl⟩
    exact ⟨rfl, h, Below.refl B _⟩
set_option maxHeartbeats 2000000 in
set_option maxRecDepth 100000 in
theorem bws (B b : Nat) (l : List UInt8) (x : ByteArray) (w : World) (h : Bld B b l w) (hl : l.length + x.size ≤ 1000000000) (hBw : B ≤ w.heap.size) :
    Calls Tryz.prog 44 #[.pointer (some ⟨b, 0, none⟩), .string x] w fun e w' => e = .returned (.tuple #[.int .i64 x.size, .nilIface]) ∧ Bld B b (l ++ x.data.toList) w' ∧ Below B w w' := by
  obtain ⟨i0, hi, hz0, hz1, hz2⟩ := info_parts bld_u8
  obtain ⟨bs, hbs⟩ : ∃ bs, Lib.byteCells l = bs := ⟨_, rfl⟩
  have hbl : bs.length = l.length := by rw [← hbs, bcells_len]
  have HE : Hid (Lib.byteCells (l ++ x.data.toList) = bs ++ Lib.strCells x) := Lib.hid (by rw [bcells_app, hbs]; rfl)
  have h' : Lib.IsBuilderF 72 5 B b bs w := hbs ▸ h
  have hl' : bs.length + x.size ≤ 1000000000 := by omega
  clear h hbs hbl hl
  go_enter Tryz.func44, Tryz.ntmps44
  go_wp2_with (go_at_call 83; (with_reducible refine (ccheck B b bs w h').mono ?_))
  rintro e w1 ⟨rfl, h1, hb1⟩
  obtain ⟨hB, v, hbk, hown, hne⟩ := h1
  have c0 : w1.cell? ⟨b, 0, none⟩ = some (.pointer (some ⟨b, 0, none⟩)) := by rw [Lib.cell_of_heap hbk]; rfl
  have c1 : w1.cell? ⟨b, 1, none⟩ = some v := by rw [Lib.cell_of_heap hbk]; rfl
  go_wp2_with (at_builtin; refine Lib.wpList_append_own_stringF _ rfl _ _ 70 9 rfl B 5 i0 Tryz.underlying70 Tryz.underlying9 hi hz0 hz1 hz2 _ _ _ rfl hown x rfl ?c3 ?c4 ?c5 ?_)
  case c3 => unfold maxLen; omega
  case c4 => omega
  case c5 => have := hb1.size; omega
  intro v' w2 hown' hgrow _
  have hlt : b < w1.heap.size := by
    rcases Nat.lt_or_ge b w1.heap.size with h' | h'
    · exact h'
    · simp [Array.getElem?_eq_none h'] at hbk
  have hb2 : w2.heap[b]? = some (.cells #[.pointer (some ⟨b, 0, none⟩), v] 72 (0, 0)) := by
    rw [hgrow.block b hlt (fun e => hne e.symm)]
    exact hbk
  have d0 : w2.cell? ⟨b, 0, none⟩ = some (.pointer (some ⟨b, 0, none⟩)) := by rw [Lib.cell_of_heap hb2]; rfl
  have d1 : w2.cell? ⟨b, 1, none⟩ = some v := by rw [Lib.cell_of_heap hb2]; rfl
  have f1 : w2.frozen? ⟨b, 1, none⟩ = false := Lib.frozen_of_heap hb2 1
  obtain ⟨ao, n', cap, rfl⟩ : ∃ ao n' cap, v' = .slice ao n' cap := by
    rcases hown'.2 with ⟨hv, _⟩ | ⟨g, cap, cur, fz, hv, _⟩
    · exact ⟨_, _, _, hv⟩
    · exact ⟨_, _, _, hv⟩
  go_wp2
  go_ret2
  refine ⟨rfl, ?_, ?_⟩
  · unfold Bld
    rw [HE.out]
    exact .inr (Lib.BuilderAtF.put (T := 72) (e := 5) hB hb2 (bs' := bs ++ Lib.strCells x) (by simpa [Lib.strCells_length] using hown') (by decide))
  · exact (hb1.grown hgrow (by have := hb1.size; omega) (fun k hk => (hown.lt k hk).1)).setCell (p := ⟨b, 1, none⟩) hB _
theorem bst (B b : Nat) (x : ByteArray) (w : World) (h : Bld B b x.data.toList w) (hB : B ≤ w.heap.size) :
    Calls Tryz.prog 45 #[.pointer (some ⟨b, 0, none⟩)] w fun e w' => e = .returned (.string x) ∧ Bld B b x.data.toList w' ∧ Below B w w' :=
  (Tryz.Builder_String_any_k B b _ w h hB).mono fun e w' ⟨h1, h2, h3, _⟩ => ⟨h1, h2, h3⟩
end Hx
end Go.Proofs.YtbjgfaflikgobaaGreatDoor
namespace Go.Proofs.YtbjgfaflikgobaaGreatDoor
open Go.RowKit
namespace Hx
set_option linter.unusedVariables false
abbrev OK9 (b : Nat) (w w' : World) : Prop := Lib.OthersKept 5 (some b) w w'
theorem OK9.of_below {b : Nat} {w w' : World} (h : Below w.heap.size w w') : OK9 b w w' := fun k o hk _ _ => (h.block k (Array.getElem?_eq_some_iff.1 hk).1).trans hk
theorem OK9.stay {b g : Nat} {w w' : World} {cs : Array Value} {T : TypeId} {fr : Nat × Nat} (h : OK9 b w w') (hg : w.heap[g]? = some (.cells cs T fr)) (hb : g ≠ b) (hT : T ≠ 5) : w'.heap[g]? = some (.cells cs T fr) :=
  h g _ hg (fun e => hb (Option.some.inj e)) (fun c fz e => by injection e with _ e _; exact hT e)
theorem OK9.iter {b g : Nat} {w w' : World} {s : ByteArray} {p : Nat} (h : OK9 b w w') (hg : w.heap[g]? = some (.stringIter s p)) (hb : g ≠ b) : w'.heap[g]? = some (.stringIter s p) :=
  h g _ hg (fun e => hb (Option.some.inj e)) (fun c fz e => by cases e)
theorem ccheckK (B b : Nat) (bs : List Value) (w : World) (h : Lib.IsBuilderF 72 5 B b bs w) :
    Calls Tryz.prog 83 #[.pointer (some ⟨b, 0, none⟩)] w fun e w' => e = .returned (.tuple #[]) ∧ Lib.BuilderAtF 72 5 B b (.pointer (some ⟨b, 0, none⟩)) bs w' ∧ Below B w w' ∧ OK9 b w w' := by
  rcases h with h | h
  · refine (cc_fresh b w h.cell0 h.shape h.frozen0).mono ?_
    rintro e w' ⟨rfl, rfl⟩
    exact ⟨rfl, h.used _, (Below.refl B w).setCell (p := ⟨b, 0, none⟩) h.1 _, (Lib.OthersKept.refl _ _ _).setCell ⟨b, 0, none⟩ rfl _⟩
  · refine (cc_used b w h.cell0).mono ?_
    rintro e w' ⟨rfl, rfl⟩
    exact ⟨rfl, h, Below.refl B _, Lib.OthersKept.refl _ _ _⟩
set_option maxHeartbeats 2000000 in
set_option maxRecDepth 100000 in
theorem bwsK (B b : Nat) (l : List UInt8) (x : ByteArray) (w : World) (h : Bld B b l w) (hl : l.length + x.size ≤ 1000000000) (hBw : B ≤ w.heap.size) :
    Calls Tryz.prog 44 #[.pointer (some ⟨b, 0, none⟩), .string x] w fun e w' => e = .returned (.tuple #[.int .i64 x.size, .nilIface]) ∧ Bld B b (l ++ x.data.toList) w' ∧ Below B w w' ∧ OK9 b w w' := by
  obtain ⟨i0, hi, hz0, hz1, hz2⟩ := info_parts bld_u8
  obtain ⟨bs, hbs⟩ : ∃ bs, Lib.byteCells l = bs := ⟨_, rfl⟩
  have hbl : bs.length = l.length := by rw [← hbs, bcells_len]
  have HE : Hid (Lib.byteCells (l ++ x.data.toList) = bs ++ Lib.strCells x) := Lib.hid (by rw [bcells_app, hbs]; rfl)
  have h' : Lib.IsBuilderF 72 5 B b bs w := hbs ▸ h
  have hl' : bs.length + x.size ≤ 1000000000 := by omega
  clear h hbs hbl hl
  go_enter Tryz.func44, Tryz.ntmps44
  go_wp2_with (go_at_call 83; (with_reducible refine (ccheckK B b bs w h').mono ?_))
  rintro e w1 ⟨rfl, h1, hb1, hk1⟩
  obtain ⟨hB, v, hbk, hown, hne⟩ := h1
  have c0 : w1.cell? ⟨b, 0, none⟩ = some (.pointer (some ⟨b, 0, none⟩)) := by rw [Lib.cell_of_heap hbk]; rfl
  have c1 : w1.cell? ⟨b, 1, none⟩ = some v := by rw [Lib.cell_of_heap hbk]; rfl
  go_wp2_with (at_builtin; refine Lib.wpList_append_own_stringF _ rfl _ _ 70 9 rfl B 5 i0 Tryz.underlying70 Tryz.underlying9 hi hz0 hz1 hz2 _ _ _ rfl hown x rfl ?c3 ?c4 ?c5 ?_)
  case c3 => unfold maxLen; omega
  case c4 => omega
  case c5 => have := hb1.size; omega
  intro v' w2 hown' hgrow _
  have hlt : b < w1.heap.size := by
    rcases Nat.lt_or_ge b w1.heap.size with h' | h'
    · exact h'
    · simp [Array.getElem?_eq_none h'] at hbk
  have hb2 : w2.heap[b]? = some (.cells #[.pointer (some ⟨b, 0, none⟩), v] 72 (0, 0)) := by
    rw [hgrow.block b hlt (fun e => hne e.symm)]
    exact hbk
  have d0 : w2.cell? ⟨b, 0, none⟩ = some (.pointer (some ⟨b, 0, none⟩)) := by rw [Lib.cell_of_heap hb2]; rfl
  have d1 : w2.cell? ⟨b, 1, none⟩ = some v := by rw [Lib.cell_of_heap hb2]; rfl
  have f1 : w2.frozen? ⟨b, 1, none⟩ = false := Lib.frozen_of_heap hb2 1
  obtain ⟨ao, n', cap, rfl⟩ : ∃ ao n' cap, v' = .slice ao n' cap := by
    rcases hown'.2 with ⟨hv, _⟩ | ⟨g, cap, cur, fz, hv, _⟩
    · exact ⟨_, _, _, hv⟩
    · exact ⟨_, _, _, hv⟩
  go_wp2
  go_ret2
  refine ⟨rfl, ?_, ?_, ?_⟩
  · unfold Bld
    rw [HE.out]
    exact .inr (Lib.BuilderAtF.put (T := 72) (e := 5) hB hb2 (bs' := bs ++ Lib.strCells x) (by simpa [Lib.strCells_length] using hown') (by decide))
  · exact (hb1.grown hgrow (by have := hb1.size; omega) (fun k hk => (hown.lt k hk).1)).setCell (p := ⟨b, 1, none⟩) hB _
  · exact (hk1.grown hgrow (Lib.ownsRowF_kind hown)).setCell ⟨b, 1, none⟩ rfl _
/-- What a writer leaves. -/
abbrev Wrote (B b : Nat) (l : List UInt8) (w w' : World) : Prop := Bld B b l w' ∧ Below B w w' ∧ OK9 b w w'
theorem Wrote.trans {B b : Nat} {l m : List UInt8} {w w1 w2 : World} (h : Wrote B b l w w1) (k : Wrote B b m w1 w2) : Wrote B b m w w2 := ⟨k.1, h.2.1.trans k.2.1, h.2.2.trans k.2.2⟩
theorem Wrote.size {B b : Nat} {l : List UInt8} {w w1 : World} (h : Wrote B b l w w1) : w.heap.size ≤ w1.heap.size := h.2.1.size
theorem Wrote.of_below {B b : Nat} {l : List UInt8} {w w1 w2 : World} (h : Wrote B b l w w1) (k : Below w1.heap.size w1 w2) (hB : B ≤ w.heap.size) : Wrote B b l w w2 :=
  ⟨h.1.below k, h.2.1.trans (k.mono (Nat.le_trans hB h.size)), h.2.2.trans (OK9.of_below k)⟩
theorem bwsL (B b : Nat) (l L : List UInt8) (x : ByteArray) (w : World) (h : Bld B b l w) (hL : l ++ x.data.toList = L) (hl : L.length ≤ 1000000000) (hBw : B ≤ w.heap.size) :
    Calls Tryz.prog 44 #[.pointer (some ⟨b, 0, none⟩), .string x] w fun e w' => (∃ n : Int, e = .returned (.tuple #[.int .i64 n, .nilIface])) ∧ Wrote B b L w w' := by
  subst hL
  refine (bwsK B b l x w h ?_ hBw).mono fun e w' ⟨h1, h2, h3, h4⟩ => ⟨⟨_, h1⟩, h2, h3, h4⟩
  rw [List.length_append] at hl
  have : x.data.toList.length = x.size := by cases x; simp [ByteArray.size]
  omega
end Hx
end Go.Proofs.YtbjgfaflikgobaaGreatDoor
namespace Go.Proofs.YtbjgfaflikgobaaGreatDoor
open Go.RowKit
namespace Hx
open Tx Nmb Es
set_option linter.unusedVariables false
/-- What is written for a byte: the reference; whether just where it is quoted. -/
def sgV (l : List UInt8) (q : Bool) : Value := .agg #[.string ⟨l.toArray⟩, .bool q]
def sgK (c : Int) : Value := .int .u8 c
def SG : Array MapEntry := #[⟨sgK 38, sgV [38, 97, 109, 112, 59] false, 0⟩, ⟨sgK 60, sgV [38, 108, 116, 59] false, 1⟩, ⟨sgK 62, sgV [38, 103, 116, 59] false, 2⟩, ⟨sgK 13, sgV [38, 35, 49, 51, 59] false, 3⟩,
  ⟨sgK 34, sgV [38, 113, 117, 111, 116, 59] true, 4⟩, ⟨sgK 9, sgV [38, 35, 57, 59] true, 5⟩, ⟨sgK 10, sgV [38, 35, 49, 48, 59] true, 6⟩]
/-- What the map tells of a byte: which reference, whether just where it is quoted, whether any. -/
def sgT (c : UInt8) : ByteArray × Bool × Bool :=
  if c = 38 then (⟨#[38, 97, 109, 112, 59]⟩, false, true) else if c = 60 then (⟨#[38, 108, 116, 59]⟩, false, true) else if c = 62 then (⟨#[38, 103, 116, 59]⟩, false, true) else if c = 13 then (⟨#[38, 35, 49, 51, 59]⟩, false, true)
  else if c = 34 then (⟨#[38, 113, 117, 111, 116, 59]⟩, true, true) else if c = 9 then (⟨#[38, 35, 57, 59]⟩, true, true) else if c = 10 then (⟨#[38, 35, 49, 48, 59]⟩, true, true) else (⟨#[]⟩, false, false)
def sgF (c : UInt8) : Option (Nat × Value) :=
  if c = 38 then some (0, sgV [38, 97, 109, 112, 59] false) else if c = 60 then some (1, sgV [38, 108, 116, 59] false) else if c = 62 then some (2, sgV [38, 103, 116, 59] false) else if c = 13 then some (3, sgV [38, 35, 49, 51, 59] false)
  else if c = 34 then some (4, sgV [38, 113, 117, 111, 116, 59] true) else if c = 9 then some (5, sgV [38, 35, 57, 59] true) else if c = 10 then some (6, sgV [38, 35, 49, 48, 59] true) else none
end Hx
end Go.Proofs.YtbjgfaflikgobaaGreatDoor
namespace Go.Proofs.YtbjgfaflikgobaaGreatDoor
open Go.RowKit
namespace Hx
open Tx
set_option linter.unusedVariables false
set_option maxHeartbeats 1000000 in
set_option maxRecDepth 100000 in
/-- text.May. -/
theorem may5w (n : Int) (b : Bool) (w : World) (hb : may n = b) :
    Calls Tryz.prog 125 #[.int .i64 n] w fun e w' => e = .returned (.bool b) ∧ w = w' := by
  by_cases a : n = 9
  · subst a
    obtain rfl : true = b := hb
    go_enter Tryz.func125, Tryz.ntmps125
    go_wp2
    go_ret
    exact ⟨rfl, rfl⟩
  have q1 : (n == 9) = false := by simpa using a
  by_cases a2 : n = 10
  · subst a2
    obtain rfl : true = b := hb
    go_enter Tryz.func125, Tryz.ntmps125
    go_wp2
    go_ret
    exact ⟨rfl, rfl⟩
  have q2 : (n == 10) = false := by simpa using a2
  by_cases a3 : n = 13
  · subst a3
    obtain rfl : true = b := hb
    go_enter Tryz.func125, Tryz.ntmps125
    go_wp2
    go_ret
    exact ⟨rfl, rfl⟩
  have q3 : (n == 13) = false := by simpa using a3
  by_cases a6 : n = 65534
  · subst a6
    obtain rfl : false = b := hb
    go_enter Tryz.func125, Tryz.ntmps125
    go_wp2
    go_ret
    exact ⟨rfl, rfl⟩
  have q6 : (n == 65534) = false := by simpa using a6
  by_cases a7 : n = 65535
  · subst a7
    obtain rfl : false = b := hb
    go_enter Tryz.func125, Tryz.ntmps125
    go_wp2
    go_ret
    exact ⟨rfl, rfl⟩
  have q7 : (n == 65535) = false := by simpa using a7
  by_cases a4 : 55296 ≤ n
  · have d4 : decide (55296 ≤ n) = true := by simpa using a4
    have d8 : decide (32 ≤ n) = true := by simp; omega
    by_cases a5 : n ≤ 57343
    · have d5 : decide (n ≤ 57343) = true := by simpa using a5
      obtain rfl : false = b := by
        rw [← hb, may_high (by omega)]
        have e1 : decide (n < 55296) = false := by simp; omega
        have e2 : decide (57343 < n) = false := by simp; omega
        rw [e1, e2]; simp
      clear hb a4 a5
      go_enter Tryz.func125, Tryz.ntmps125
      go_wp2
      go_ret
      exact ⟨rfl, rfl⟩
    · have d5 : decide (n ≤ 57343) = false := by simpa using a5
      have hb2 : decide (n ≤ 1114111) = b := by
        rw [← hb, may_high (by omega)]
        have e1 : decide (n < 55296) = false := by simp; omega
        have e2 : decide (57343 < n) = true := by simp; omega
        rw [e1, e2]; simp [a6, a7]
      clear hb a4 a5 a a2 a3 a6 a7
      go_enter Tryz.func125, Tryz.ntmps125
      go_wp2
      go_ret
      exact ⟨rfl, rfl⟩
  · have d4 : decide (55296 ≤ n) = false := by simpa using a4
    by_cases a8 : 32 ≤ n
    · have d8 : decide (32 ≤ n) = true := by simpa using a8
      have d9 : decide (n ≤ 1114111) = true := by simp; omega
      obtain rfl : true = b := by
        rw [← hb, may_high (by omega), d9]
        have e1 : decide (n < 55296) = true := by simp; omega
        rw [e1]; simp [a6, a7]
      clear hb a4 a8 a a2 a3 a6 a7
      go_enter Tryz.func125, Tryz.ntmps125
      go_wp2
      go_ret
      exact ⟨rfl, rfl⟩
    · have d8 : decide (32 ≤ n) = false := by simpa using a8
      obtain rfl : false = b := by
        rw [← hb, may_low (by omega)]
        simp [a, a2, a3]
      clear hb a4 a8 a a2 a3 a6 a7
      go_enter Tryz.func125, Tryz.ntmps125
      go_wp2
      go_ret
      exact ⟨rfl, rfl⟩
set_option maxHeartbeats 1000000 in
set_option maxRecDepth 100000 in
/-- strings.HasPrefix, of a prefix that is there, or not. -/
theorem slpre (s p : ByteArray) (q : Bool) (w : World) (hq : (decide (p.size ≤ s.size) && decide ((s.extract 0 p.size) = p)) = q) :
    Calls Tryz.prog 154 #[.string s, .string p] w fun e w' => e = .returned (.bool q) ∧ w = w' := by
  by_cases h : p.size ≤ s.size
  · have d0 : decide ((p.size : Int) ≤ (s.size : Int)) = true := by simp; omega
    have e : ((s.extract 0 p.size).toList == p.toList) = q := by rw [seq_b5, ← hq]; simp [h]
    clear hq
    go_enter Tryz.func154, Tryz.ntmps154
    go_wp2
    go_ret
    exact ⟨rfl, rfl⟩
  · have d0 : decide ((p.size : Int) ≤ (s.size : Int)) = false := by simp; omega
    obtain rfl : false = q := by rw [← hq]; simp [h]
    clear hq
    go_enter Tryz.func154, Tryz.ntmps154
    go_wp2
    go_ret
    exact ⟨rfl, rfl⟩
set_option maxRecDepth 100000 in
theorem pre5 (s p : ByteArray) (q : Bool) (w : World) (hq : (decide (p.size ≤ s.size) && decide ((s.extract 0 p.size) = p)) = q) :
    Calls Tryz.prog 124 #[.string s, .string p] w fun e w' => e = .returned (.bool q) ∧ w = w' := by
  have HQ := Lib.hid hq
  clear hq
  go_enter Tryz.func124, Tryz.ntmps124
  go_wp2_with (go_at_call 154; (with_reducible refine (slpre s p q w HQ.out).mono ?_); rintro e w1 ⟨rfl, rfl⟩)
  go_ret
  exact ⟨rfl, rfl⟩
/-- The bytes of the code point that stands for none. -/
def stnd : ByteArray := ⟨#[239, 191, 189]⟩
theorem enc_stnd : enc 65533 = [239, 191, 189] := by decide +kernel
theorem extract_take (s : ByteArray) (n : Nat) : s.extract 0 n = ⟨(s.data.toList.take n).toArray⟩ := by
  have := ByteArray.extract_mk s.data.toList 0 n
  rw [← ba_eq5] at this
  rw [this]
  simp
theorem stnd_pre (l : List UInt8) : (decide (stnd.size ≤ (⟨l.toArray⟩ : ByteArray).size) && decide (((⟨l.toArray⟩ : ByteArray).extract 0 stnd.size) = stnd)) = decide (l.take 3 = [239, 191, 189]) := by
  rw [extract_take]
  show (decide (3 ≤ l.length) && decide ((⟨(l.take 3).toArray⟩ : ByteArray) = ⟨#[239, 191, 189]⟩)) = _
  rw [Bool.eq_iff_iff]
  simp only [Bool.and_eq_true, decide_eq_true_eq]
  constructor
  · rintro ⟨_, h⟩
    have := congrArg (fun x : ByteArray => x.data.toList) h
    simpa using this
  · intro h
    refine ⟨?_, by rw [h]⟩
    have := congrArg List.length h
    rw [List.length_take] at this
    simp at this
    omega
/-- The rune that a range tells of bytes. -/
def runeL (l : List UInt8) : Nat := match decL l with | some p => p.1 | none => 65533
theorem dec_stnd (l : List UInt8) : l.take 3 = [239, 191, 189] ↔ decL l = some (65533, 3) := by
  constructor
  · intro h
    have e : l = enc 65533 ++ l.drop 3 := by rw [enc_stnd, ← h, List.take_append_drop]
    rw [e, dec_enc 65533 (by decide), enc_stnd]
    rfl
  · intro h
    obtain ⟨_, _, r, e⟩ := dec_sound l _ _ h
    rw [e, enc_stnd]
    rfl
theorem runeL_le (l : List UInt8) : runeL l ≤ 1114111 := by
  unfold runeL
  cases h : decL l with
  | none => simp
  | some p =>
    obtain ⟨p, k⟩ := p
    exact sv_le (dec_sound l _ _ h).1
theorem one_rune (l : List UInt8) : (one l).isSome = if runeL l = 65533 then decide (l.take 3 = [239, 191, 189]) else may (runeL l) := by
  unfold runeL one
  cases h : decL l with
  | none =>
    have : ¬ l.take 3 = [239, 191, 189] := by rw [dec_stnd, h]; simp
    simp [this]
  | some p =>
    obtain ⟨p, k⟩ := p
    simp only
    by_cases hp : p = 65533
    · subst hp
      have hs := (dec_sound l _ _ h).2.1
      rw [enc_stnd] at hs
      obtain rfl : k = 3 := hs
      rw [if_pos rfl, decide_eq_true ((dec_stnd l).2 h)]
      decide
    · rw [if_neg hp]
      cases hm : may p <;> simp [hm]
set_option maxHeartbeats 1000000 in
set_option maxRecDepth 100000 in
/-- text.begins. -/
theorem begins5 (l : List UInt8) (s : ByteArray) (c : Nat) (b : Bool) (w : World) (hs : s = ⟨l.toArray⟩) (hc : runeL l = c) (hb : (one l).isSome = b) :
    Calls Tryz.prog 92 #[.string s, .int .i32 c] w fun e w' => e = .returned (.bool b) ∧ w = w' := by
  have hle := runeL_le l
  rw [one_rune, hc] at hb
  rw [hc] at hle
  have g1 : IntKind.i64.wrap (c : Int) = (c : Int) := IntWalk.i64_in _ (by omega)
  have hpre := stnd_pre l
  rw [← hs] at hpre
  by_cases h : c = 65533
  · rw [if_pos h] at hb
    rw [hb] at hpre
    have HP : Hid (∀ W : World, Calls Tryz.prog 124 #[.string s, .string ⟨#[239, 191, 189]⟩] W fun e w' => e = .returned (.bool b) ∧ W = w') := fun W => pre5 s stnd b W hpre
    subst h
    clear hle hc hb hs hpre
    cases b
    · go_enter Tryz.func92, Tryz.ntmps92
      go_wp2_with (go_at_call 124; (with_reducible refine (HP.out _).mono ?_); rintro e w1 ⟨rfl, rfl⟩)
      go_ret
      exact ⟨rfl, rfl⟩
    · go_enter Tryz.func92, Tryz.ntmps92
      go_wp2_with (first
        | (go_at_call 124; (with_reducible refine (HP.out _).mono ?_); rintro e w1 ⟨rfl, rfl⟩)
        | (go_at_call 125; (with_reducible refine (may5w 65533 true w rfl).mono ?_); rintro e w1 ⟨rfl, rfl⟩)
        | fail)
      go_ret
      exact ⟨rfl, rfl⟩
  · rw [if_neg h] at hb
    have d0 : ((c : Int) == 65533) = false := by simp; omega
    have HB := Lib.hid hb
    clear hle hc hb hs hpre h
    go_enter Tryz.func92, Tryz.ntmps92
    go_wp2_with (first
      | (go_at_call 125; (with_reducible refine (may5w c b w HB.out).mono ?_); rintro e w1 ⟨rfl, rfl⟩)
      | fail)
    go_ret
    exact ⟨rfl, rfl⟩
theorem i64_and63 (n : Int) : bits .and .i64 n 63 = n % 64 := by
  have h63 : (BitVec.ofInt 64 63).toNat = 2 ^ 6 - 1 := by decide
  have key : (BitVec.ofInt 64 n &&& BitVec.ofInt 64 63).toNat = (n % ((2 ^ 64 : Nat) : Int)).toNat % 2 ^ 6 := by
    rw [BitVec.toNat_and, BitVec.toNat_ofInt, h63, Nat.and_two_pow_sub_one_eq_mod]
  show IntKind.i64.wrap ((BitVec.ofInt 64 n &&& BitVec.ofInt 64 63).toNat : Nat) = n % 64
  rw [key, IntKind.wrap_i64]
  omega
set_option maxHeartbeats 1000000 in
set_option maxRecDepth 100000 in
/-- text.six. -/
theorem sixT (n : Nat) (b : UInt8) (w : World) (hn : n ≤ 1114111) (hb : bt (128 + n % 64) = b) :
    Calls Tryz.prog 207 #[.int .i64 n] w fun e w' => e = .returned (.int .u8 b.toNat) ∧ w = w' := by
  have hbn : b.toNat = 128 + n % 64 := by rw [← hb, bt_nat _ (by omega)]
  have ha := i64_and63 (n : Int)
  obtain ⟨q, hq⟩ : ∃ q : Nat, n % 64 = q := ⟨_, rfl⟩
  have ha2 : bits .and .i64 (n : Int) 63 = (q : Int) := by rw [ha]; omega
  have g1 : IntKind.u8.wrap (q : Int) = (q : Int) := IntWalk.u8_in _ (by omega)
  have g2 : IntKind.u8.wrap (128 + (q : Int)) = (b.toNat : Int) := by rw [IntWalk.u8_in _ (by omega)]; omega
  clear ha hq hbn hb
  go_enter Tryz.func207, Tryz.ntmps207
  go_wp2
  go_ret
  exact ⟨rfl, rfl⟩
end Hx
end Go.Proofs.YtbjgfaflikgobaaGreatDoor
namespace Go.Proofs.YtbjgfaflikgobaaGreatDoor
open Go.RowKit
namespace Hx
open Tx
set_option linter.unusedVariables false
theorem drop_len (s : ByteArray) (a : Nat) : (s.data.toList.drop a).length = s.size - a := by rw [List.length_drop, ba_len5]
/-- One step of a range over bytes, at a place where a code point that may be begins. -/
theorem step_some (s : ByteArray) (a p k : Nat) (ha : a < s.size) (ho : one (s.data.toList.drop a) = some (p, k)) :
    Utf8.decode s a = (p, k) ∧ runeL (s.data.toList.drop a) = p ∧ 1 ≤ k ∧ a + k ≤ s.size ∧ pts (s.data.toList.drop a) = (pts (s.data.toList.drop (a + k))).map (p :: ·) := by
  have hne : s.data.toList.drop a ≠ [] := by
    intro h
    have := drop_len s a
    rw [h] at this
    simp at this
    omega
  have hd : decL (s.data.toList.drop a) = some (p, k) := by
    unfold one at ho
    rw [Option.filter_eq_some_iff] at ho
    exact ho.1
  obtain ⟨h1, h2, _⟩ := one_le ho
  rw [drop_len] at h2
  refine ⟨?_, ?_, h1, by omega, ?_⟩
  · rw [decode_eq s a ha, hd]
  · rw [runeL, hd]
  · rw [pts_step _ hne, ho]
    show Option.map _ (pts (List.drop k (List.drop a s.data.toList))) = _
    rw [List.drop_drop]
theorem step_rune (s : ByteArray) (a : Nat) (ha : a < s.size) : (Utf8.decode s a).1 = runeL (s.data.toList.drop a) := by
  rw [decode_eq s a ha, runeL]
  cases decL (s.data.toList.drop a) <;> rfl
theorem step_none (s : ByteArray) (a : Nat) (ha : a < s.size) (ho : one (s.data.toList.drop a) = none) : pts (s.data.toList.drop a) = none := by
  have hne : s.data.toList.drop a ≠ [] := by
    intro h
    have := drop_len s a
    rw [h] at this
    simp at this
    omega
  rw [pts_step _ hne, ho]
theorem pts_end (s : ByteArray) (a : Nat) (h : ¬ a < s.size) : pts (s.data.toList.drop a) = some [] := by
  rw [List.drop_of_length_le (by rw [ba_len5]; omega)]
  rfl
theorem below_iter (w : World) (s : ByteArray) (p : Nat) : Below w.heap.size w (w.iter s p) := stpA (Below.refl _ _) _
set_option maxHeartbeats 1000000 in
set_option maxRecDepth 100000 in
/-- text.Check. -/
theorem check5 (s : ByteArray) (w : World) (hm : s.size ≤ 1000000) (q : Int) (h : chkE s = q) : Calls Tryz.prog 63 #[.string s] w fun e w' => e = .returned (.int .i64 q) ∧ Below w.heap.size w w' := by
  unfold chkE at h
  by_cases h1 : 16384 < s.size
  · rw [if_pos h1] at h
    subst h
    have d0 : decide ((16384 : Int) < (s.size : Int)) = true := by simp; omega
    clear hm
    go_enter Tryz.func63, Tryz.ntmps63
    go_wp2_with fail
    go_ret
    exact ⟨rfl, Below.refl _ _⟩
  · rw [if_neg h1] at h
    have d0 : decide ((16384 : Int) < (s.size : Int)) = false := by simp; omega
    have d1 : ¬ (16384 < s.size) := h1
    have HQ := Lib.hid h
    clear h hm
    go_enter Tryz.func63, Tryz.ntmps63
    go_wp2_with fail
    go_loopg [3, 4] s.size (fun g x y wr => ∃ pos : Nat, s.size ≤ pos + g ∧ wr = w.iter s pos ∧ (pts (s.data.toList.drop pos)).isSome = (pts s.data.toList).isSome)
    case atStart => exact ⟨0, by omega, rfl, rfl⟩
    case round =>
      obtain ⟨pos, hg, rfl, hp⟩ := hrel
      have HP := Lib.hid hp
      clear hp
      by_cases hlt : pos < s.size
      · have hnx : ∀ ty, (Instr.next (.pointer (some ⟨w.heap.size, 0, none⟩)) true ty).run Tryz.prog (w.iter s pos) = _ := fun ty => run_next_any w s pos ty hlt
        have b0 : (0 : Int) ≤ (pos : Int) ∧ (pos : Int) ≤ (s.size : Int) := by omega
        have b1 : pos ≤ s.size := by omega
        obtain ⟨c, hc⟩ : ∃ c, runeL (s.data.toList.drop pos) = c := ⟨_, rfl⟩
        have HX := Lib.hid (extract_drop s pos)
        have HC := Lib.hid hc
        rw [step_rune s pos hlt, hc] at hnx
        cases ho : one (s.data.toList.drop pos) with
        | none =>
          have hq := HQ.out
          rw [← HP.out, step_none s pos hlt ho] at hq
          obtain rfl : (50 : Int) = q := hq
          have HO : Hid ((one (s.data.toList.drop pos)).isSome = false) := by show _ = _; rw [ho]; rfl
          clear hc ho
          go_wp2_with (go_at_call 92; (with_reducible refine (begins5 (s.data.toList.drop pos) _ c false _ HX.out HC.out HO.out).mono ?_); rintro e w1 ⟨rfl, rfl⟩)
          go_ret
          exact ⟨rfl, below_iter w s _⟩
        | some x =>
          obtain ⟨p, k⟩ := x
          obtain ⟨e1, e2, e3, e4, e5⟩ := step_some s pos p k hlt ho
          have HO : Hid ((one (s.data.toList.drop pos)).isSome = true) := by show _ = _; rw [ho]; rfl
          rw [e1] at hnx
          have HN : Hid ((pts (s.data.toList.drop (pos + k))).isSome = (pts s.data.toList).isSome) := by
            show _ = _
            rw [← HP.out, e5]
            simp
          clear hc ho e1 e2 e5
          go_wp2_with (go_at_call 92; (with_reducible refine (begins5 (s.data.toList.drop pos) _ c true _ HX.out HC.out HO.out).mono ?_); rintro e w1 ⟨rfl, rfl⟩)
          go_roundg (gk - 1)
          case rel => exact ⟨pos + k, by omega, rfl, HN.out⟩
          case measure => omega
      · have hnx : ∀ ty, (Instr.next (.pointer (some ⟨w.heap.size, 0, none⟩)) true ty).run Tryz.prog (w.iter s pos) = _ := fun ty => run_next_end w s pos ty hlt
        have hq := HQ.out
        rw [← HP.out, pts_end s pos hlt] at hq
        obtain rfl : (0 : Int) = q := hq
        go_wp2_with fail
        go_ret
        exact ⟨rfl, below_iter w s _⟩
end Hx
end Go.Proofs.YtbjgfaflikgobaaGreatDoor
namespace Go.Proofs.YtbjgfaflikgobaaGreatDoor
open Go.RowKit
namespace Hx
open Tx Nmb Es
set_option linter.unusedVariables false
end Hx
end Go.Proofs.YtbjgfaflikgobaaGreatDoor
