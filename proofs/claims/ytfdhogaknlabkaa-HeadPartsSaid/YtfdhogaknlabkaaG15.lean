/-
  Texts of one seat, put together: BldA, BldK, HedH, HedI.
-/
import Derived.Test.YtfdhogaknlabkaaG00
import Derived.Test.YtfdhogaknlabkaaShelf
import Derived.Lib.OthersKept
import Derived.Lib.FrozenHead2
import Derived.Laws.Externs
import Derived.Test.YtfdhogaknlabkaaG14
set_option linter.unusedSimpArgs false
set_option linter.unusedVariables false
namespace Go.Proofs.Ytfdhogaknlabkaa
open Go.RowKit
namespace Hx
set_option linter.unusedVariables false
/-- The builder in block b holds these bytes; it and its row lie from block B on. -/
def Bld (B b : Nat) (l : List UInt8) (w : World) : Prop := Lib.IsBuilderF 83 5 B b (Lib.byteCells l) w
theorem bcells_len (l : List UInt8) : (Lib.byteCells l).length = l.length := by simp [Lib.byteCells]
theorem bcells_app (a b : List UInt8) : Lib.byteCells (a ++ b) = Lib.byteCells a ++ Lib.byteCells b := by simp [Lib.byteCells]
theorem bcells_str (x : ByteArray) : Lib.strCells x = Lib.byteCells x.data.toList := rfl
theorem Bld.alloc {B b : Nat} {l : List UInt8} {w : World} (h : Bld B b l w) (o : Obj) : Bld B b l (w.alloc o) := Lib.IsBuilderF.alloc h o
theorem Bld.lt {B b : Nat} {l : List UInt8} {w : World} (h : Bld B b l w) : B ≤ b ∧ b < w.heap.size := by
  rcases h with h | h <;>
  · obtain ⟨h1, v, h2, _⟩ := h
    refine ⟨h1, ?_⟩
    rcases Nat.lt_or_ge b w.heap.size with h' | h'
    · exact h'
    · rw [Array.getElem?_eq_none h'] at h2; cases h2
theorem bldAt_below {T e : TypeId} {B b : Nat} {p : Value} {bs : List Value} {w w' : World} {n : Nat} (h : Lib.BuilderAtF T e B b p bs w) (hb : Below n w w') (hn : w.heap.size ≤ n) : Lib.BuilderAtF T e B b p bs w' := by
  obtain ⟨h1, v, h2, h3, h4⟩ := h
  have hlt : ∀ {k : Nat} {o : Obj}, w.heap[k]? = some o → w'.heap[k]? = some o := fun {k o} hk => by
    have : k < w.heap.size := by
      rcases Nat.lt_or_ge k w.heap.size with h' | h'
      · exact h'
      · rw [Array.getElem?_eq_none h'] at hk; cases hk
    rw [hb.block k (Nat.lt_of_lt_of_le this hn)]
    exact hk
  refine ⟨h1, v, hlt h2, ⟨h3.1, ?_⟩, h4⟩
  rcases h3.2 with h | ⟨g, cap, cur, fz, q1, q2, q3, q4⟩
  · exact .inl h
  · exact .inr ⟨g, cap, cur, fz, q1, q2, hlt q3, q4⟩
theorem Bld.below {B b : Nat} {l : List UInt8} {w w' : World} (h : Bld B b l w) (hb : Below w.heap.size w w') : Bld B b l w' :=
  h.elim (fun x => .inl (bldAt_below x hb (Nat.le_refl _))) (fun x => .inr (bldAt_below x hb (Nat.le_refl _)))
/-- A new one. -/
theorem bld_new (w : World) : Bld w.heap.size w.heap.size [] (w.alloc (.cells #[.pointer none, .slice none 0 0] 83)) := Lib.IsBuilderF.of (Lib.fresh_isBuilder _ _ _)
theorem cc_size : ∃ j, Try.prog.info? 83 = some j ∧ j.size = 2 := Option.map_eq_some_iff.1 (show (Try.prog.info? 83).map (·.size) = some 2 by kernel_rfl)
theorem cc_lies : liesAt Try.prog Try.prog.depth 83 (2 / Try.prog.cellsOf 83) 0 83 1 = true := by kernel_rfl
theorem bld_u8 : (Try.prog.info? 5).map (fun i => (i.zero, i.size, i.bytes)) = some (some (.int .u8 0), 1, 1) := by kernel_rfl
set_option maxHeartbeats 1000000 in
set_option maxRecDepth 100000 in
theorem cc_used (b : Nat) (w : World) (h0 : w.cell? ⟨b, 0, none⟩ = some (.pointer (some ⟨b, 0, none⟩))) :
    Calls Try.prog 67 #[.pointer (some ⟨b, 0, none⟩)] w fun e w' => e = .returned (.tuple #[]) ∧ w' = w := by
  obtain ⟨j, hj, _⟩ := cc_size
  go_enter Try.func67, Try.ntmps67
  go_wp2
  rw [Lib.run_neq_ptr_same w _ Try.underlying81 hj]
  go_wp2
  go_end0
  exact ⟨rfl, rfl⟩
set_option maxHeartbeats 1000000 in
set_option maxRecDepth 100000 in
theorem cc_fresh (b : Nat) (w : World) (h0 : w.cell? ⟨b, 0, none⟩ = some (.pointer none)) (hsh : w.shape? b = some (83, 2)) (hfz : w.frozen? ⟨b, 0, none⟩ = false) :
    Calls Try.prog 67 #[.pointer (some ⟨b, 0, none⟩)] w fun e w' => e = .returned (.tuple #[]) ∧ w' = w.setCell ⟨b, 0, none⟩ (.pointer (some ⟨b, 0, none⟩)) := by
  obtain ⟨j, hj, hjs⟩ := cc_size
  go_enter Try.func67, Try.ntmps67
  go_wp2
  rw [Lib.run_to_unsafe w ⟨b, 0, none⟩ Try.underlying81 Try.underlying116 hj (by rw [hjs]; decide) hsh (Nat.zero_lt_succ 1)]
  simp only [Result.andThen]
  rw [Oper.upon_value]
  go_wp2
  rw [run_callFunc_extern Try.func82 (by kernel_rfl) (by kernel_rfl) (by kernel_rfl) (e := Extern.AbiNoEscape.same) (by kernel_rfl)]
  rw [Lib.run_noEscape]
  simp only [Result.andThen]
  rw [Oper.upon_value]
  go_wp2
  rw [Lib.run_from_unsafe w ⟨b, 0, none⟩ Try.underlying116 Try.underlying81 hj hsh cc_lies]
  simp only [Result.andThen]
  rw [Oper.upon_value]
  go_wp2
  go_end0
  exact ⟨rfl, rfl⟩
theorem ccheck (B b : Nat) (bs : List Value) (w : World) (h : Lib.IsBuilderF 83 5 B b bs w) :
    Calls Try.prog 67 #[.pointer (some ⟨b, 0, none⟩)] w fun e w' => e = .returned (.tuple #[]) ∧ Lib.BuilderAtF 83 5 B b (.pointer (some ⟨b, 0, none⟩)) bs w' ∧ Below B w w' := by
  rcases h with h | h
  · refine (cc_fresh b w h.cell0 h.shape h.frozen0).mono ?_
    rintro e w' ⟨rfl, rfl⟩
    exact ⟨rfl, h.used _, (Below.refl B w).setCell (p := ⟨b, 0, none⟩) h.1 _⟩
  · refine (cc_used b w h.cell0).mono ?_
    rintro e w' ⟨rfl, rfl⟩
    exact ⟨rfl, h, Below.refl B _⟩
set_option maxHeartbeats 2000000 in
set_option maxRecDepth 100000 in
theorem bws (B b : Nat) (l : List UInt8) (x : ByteArray) (w : World) (h : Bld B b l w) (hl : l.length + x.size ≤ 1000000000) (hBw : B ≤ w.heap.size) :
    Calls Try.prog 42 #[.pointer (some ⟨b, 0, none⟩), .string x] w fun e w' => e = .returned (.tuple #[.int .i64 x.size, .nilIface]) ∧ Bld B b (l ++ x.data.toList) w' ∧ Below B w w' := by
  obtain ⟨i0, hi, hz0, hz1, hz2⟩ := info_parts bld_u8
  obtain ⟨bs, hbs⟩ : ∃ bs, Lib.byteCells l = bs := ⟨_, rfl⟩
  have hbl : bs.length = l.length := by rw [← hbs, bcells_len]
  have HE : Hid (Lib.byteCells (l ++ x.data.toList) = bs ++ Lib.strCells x) := Lib.hid (by rw [bcells_app, hbs]; rfl)
  have h' : Lib.IsBuilderF 83 5 B b bs w := hbs ▸ h
  have hl' : bs.length + x.size ≤ 1000000000 := by omega
  clear h hbs hbl hl
  go_enter Try.func42, Try.ntmps42
  go_wp2_with (go_at_call 67; (with_reducible refine (ccheck B b bs w h').mono ?_))
  rintro e w1 ⟨rfl, h1, hb1⟩
  obtain ⟨hB, v, hbk, hown, hne⟩ := h1
  have c0 : w1.cell? ⟨b, 0, none⟩ = some (.pointer (some ⟨b, 0, none⟩)) := by rw [Lib.cell_of_heap hbk]; rfl
  have c1 : w1.cell? ⟨b, 1, none⟩ = some v := by rw [Lib.cell_of_heap hbk]; rfl
  go_wp2_with (at_builtin; refine Lib.wpList_append_own_stringF _ rfl _ _ 58 9 rfl B 5 i0 Try.underlying58 Try.underlying9 hi hz0 hz1 hz2 _ _ _ rfl hown x rfl ?c3 ?c4 ?c5 ?_)
  case c3 => unfold maxLen; omega
  case c4 => omega
  case c5 => have := hb1.size; omega
  intro v' w2 hown' hgrow _
  have hlt : b < w1.heap.size := by
    rcases Nat.lt_or_ge b w1.heap.size with h' | h'
    · exact h'
    · simp [Array.getElem?_eq_none h'] at hbk
  have hb2 : w2.heap[b]? = some (.cells #[.pointer (some ⟨b, 0, none⟩), v] 83 (0, 0)) := by
    rw [hgrow.block b hlt (fun e => hne e.symm)]
    exact hbk
  have d0 : w2.cell? ⟨b, 0, none⟩ = some (.pointer (some ⟨b, 0, none⟩)) := by rw [Lib.cell_of_heap hb2]; rfl
  have d1 : w2.cell? ⟨b, 1, none⟩ = some v := by rw [Lib.cell_of_heap hb2]; rfl
  have f1 : w2.frozen? ⟨b, 1, none⟩ = false := Lib.frozen_of_heap hb2 1
  obtain ⟨ao, n', cap, rfl⟩ : ∃ ao n' cap, v' = .slice ao n' cap := by
    rcases hown'.2 with ⟨hv, _⟩ | ⟨g, cap, cur, fz, hv, _⟩
    · exact ⟨_, _, _, hv⟩
    · exact ⟨_, _, _, hv⟩
  go_wp2
  go_ret2
  refine ⟨rfl, ?_, ?_⟩
  · unfold Bld
    rw [HE.out]
    exact .inr (Lib.BuilderAtF.put (T := 83) (e := 5) hB hb2 (bs' := bs ++ Lib.strCells x) (by simpa [Lib.strCells_length] using hown') (by decide))
  · exact (hb1.grown hgrow (by have := hb1.size; omega) (fun k hk => (hown.lt k hk).1)).setCell (p := ⟨b, 1, none⟩) hB _
theorem bst (B b : Nat) (x : ByteArray) (w : World) (h : Bld B b x.data.toList w) (hB : B ≤ w.heap.size) :
    Calls Try.prog 43 #[.pointer (some ⟨b, 0, none⟩)] w fun e w' => e = .returned (.string x) ∧ Bld B b x.data.toList w' ∧ Below B w w' :=
  (Try.Builder_String_any_k B b _ w h hB).mono fun e w' ⟨h1, h2, h3, _⟩ => ⟨h1, h2, h3⟩
end Hx
end Go.Proofs.Ytfdhogaknlabkaa
namespace Go.Proofs.Ytfdhogaknlabkaa
open Go.RowKit
namespace Hx
set_option linter.unusedVariables false
abbrev OK9 (b : Nat) (w w' : World) : Prop := Lib.OthersKept 5 (some b) w w'
theorem OK9.of_below {b : Nat} {w w' : World} (h : Below w.heap.size w w') : OK9 b w w' := fun k o hk _ _ => (h.block k (Array.getElem?_eq_some_iff.1 hk).1).trans hk
theorem OK9.stay {b g : Nat} {w w' : World} {cs : Array Value} {T : TypeId} {fr : Nat × Nat} (h : OK9 b w w') (hg : w.heap[g]? = some (.cells cs T fr)) (hb : g ≠ b) (hT : T ≠ 5) : w'.heap[g]? = some (.cells cs T fr) :=
  h g _ hg (fun e => hb (Option.some.inj e)) (fun c fz e => by injection e with _ e _; exact hT e)
theorem OK9.iter {b g : Nat} {w w' : World} {s : ByteArray} {p : Nat} (h : OK9 b w w') (hg : w.heap[g]? = some (.stringIter s p)) (hb : g ≠ b) : w'.heap[g]? = some (.stringIter s p) :=
  h g _ hg (fun e => hb (Option.some.inj e)) (fun c fz e => by cases e)
theorem ccheckK (B b : Nat) (bs : List Value) (w : World) (h : Lib.IsBuilderF 83 5 B b bs w) :
    Calls Try.prog 67 #[.pointer (some ⟨b, 0, none⟩)] w fun e w' => e = .returned (.tuple #[]) ∧ Lib.BuilderAtF 83 5 B b (.pointer (some ⟨b, 0, none⟩)) bs w' ∧ Below B w w' ∧ OK9 b w w' := by
  rcases h with h | h
  · refine (cc_fresh b w h.cell0 h.shape h.frozen0).mono ?_
    rintro e w' ⟨rfl, rfl⟩
    exact ⟨rfl, h.used _, (Below.refl B w).setCell (p := ⟨b, 0, none⟩) h.1 _, (Lib.OthersKept.refl _ _ _).setCell ⟨b, 0, none⟩ rfl _⟩
  · refine (cc_used b w h.cell0).mono ?_
    rintro e w' ⟨rfl, rfl⟩
    exact ⟨rfl, h, Below.refl B _, Lib.OthersKept.refl _ _ _⟩
set_option maxHeartbeats 2000000 in
set_option maxRecDepth 100000 in
theorem bwsK (B b : Nat) (l : List UInt8) (x : ByteArray) (w : World) (h : Bld B b l w) (hl : l.length + x.size ≤ 1000000000) (hBw : B ≤ w.heap.size) :
    Calls Try.prog 42 #[.pointer (some ⟨b, 0, none⟩), .string x] w fun e w' => e = .returned (.tuple #[.int .i64 x.size, .nilIface]) ∧ Bld B b (l ++ x.data.toList) w' ∧ Below B w w' ∧ OK9 b w w' := by
  obtain ⟨i0, hi, hz0, hz1, hz2⟩ := info_parts bld_u8
  obtain ⟨bs, hbs⟩ : ∃ bs, Lib.byteCells l = bs := ⟨_, rfl⟩
  have hbl : bs.length = l.length := by rw [← hbs, bcells_len]
  have HE : Hid (Lib.byteCells (l ++ x.data.toList) = bs ++ Lib.strCells x) := Lib.hid (by rw [bcells_app, hbs]; rfl)
  have h' : Lib.IsBuilderF 83 5 B b bs w := hbs ▸ h
  have hl' : bs.length + x.size ≤ 1000000000 := by omega
  clear h hbs hbl hl
  go_enter Try.func42, Try.ntmps42
  go_wp2_with (go_at_call 67; (with_reducible refine (ccheckK B b bs w h').mono ?_))
  rintro e w1 ⟨rfl, h1, hb1, hk1⟩
  obtain ⟨hB, v, hbk, hown, hne⟩ := h1
  have c0 : w1.cell? ⟨b, 0, none⟩ = some (.pointer (some ⟨b, 0, none⟩)) := by rw [Lib.cell_of_heap hbk]; rfl
  have c1 : w1.cell? ⟨b, 1, none⟩ = some v := by rw [Lib.cell_of_heap hbk]; rfl
  go_wp2_with (at_builtin; refine Lib.wpList_append_own_stringF _ rfl _ _ 58 9 rfl B 5 i0 Try.underlying58 Try.underlying9 hi hz0 hz1 hz2 _ _ _ rfl hown x rfl ?c3 ?c4 ?c5 ?_)
  case c3 => unfold maxLen; omega
  case c4 => omega
  case c5 => have := hb1.size; omega
  intro v' w2 hown' hgrow _
  have hlt : b < w1.heap.size := by
    rcases Nat.lt_or_ge b w1.heap.size with h' | h'
    · exact h'
    · simp [Array.getElem?_eq_none h'] at hbk
  have hb2 : w2.heap[b]? = some (.cells #[.pointer (some ⟨b, 0, none⟩), v] 83 (0, 0)) := by
    rw [hgrow.block b hlt (fun e => hne e.symm)]
    exact hbk
  have d0 : w2.cell? ⟨b, 0, none⟩ = some (.pointer (some ⟨b, 0, none⟩)) := by rw [Lib.cell_of_heap hb2]; rfl
  have d1 : w2.cell? ⟨b, 1, none⟩ = some v := by rw [Lib.cell_of_heap hb2]; rfl
  have f1 : w2.frozen? ⟨b, 1, none⟩ = false := Lib.frozen_of_heap hb2 1
  obtain ⟨ao, n', cap, rfl⟩ : ∃ ao n' cap, v' = .slice ao n' cap := by
    rcases hown'.2 with ⟨hv, _⟩ | ⟨g, cap, cur, fz, hv, _⟩
    · exact ⟨_, _, _, hv⟩
    · exact ⟨_, _, _, hv⟩
  go_wp2
  go_ret2
  refine ⟨rfl, ?_, ?_, ?_⟩
  · unfold Bld
    rw [HE.out]
    exact .inr (Lib.BuilderAtF.put (T := 83) (e := 5) hB hb2 (bs' := bs ++ Lib.strCells x) (by simpa [Lib.strCells_length] using hown') (by decide))
  · exact (hb1.grown hgrow (by have := hb1.size; omega) (fun k hk => (hown.lt k hk).1)).setCell (p := ⟨b, 1, none⟩) hB _
  · exact (hk1.grown hgrow (Lib.ownsRowF_kind hown)).setCell ⟨b, 1, none⟩ rfl _
/-- What a writer leaves. -/
abbrev Wrote (B b : Nat) (l : List UInt8) (w w' : World) : Prop := Bld B b l w' ∧ Below B w w' ∧ OK9 b w w'
theorem Wrote.trans {B b : Nat} {l m : List UInt8} {w w1 w2 : World} (h : Wrote B b l w w1) (k : Wrote B b m w1 w2) : Wrote B b m w w2 := ⟨k.1, h.2.1.trans k.2.1, h.2.2.trans k.2.2⟩
theorem Wrote.size {B b : Nat} {l : List UInt8} {w w1 : World} (h : Wrote B b l w w1) : w.heap.size ≤ w1.heap.size := h.2.1.size
theorem Wrote.of_below {B b : Nat} {l : List UInt8} {w w1 w2 : World} (h : Wrote B b l w w1) (k : Below w1.heap.size w1 w2) (hB : B ≤ w.heap.size) : Wrote B b l w w2 :=
  ⟨h.1.below k, h.2.1.trans (k.mono (Nat.le_trans hB h.size)), h.2.2.trans (OK9.of_below k)⟩
theorem bwsL (B b : Nat) (l L : List UInt8) (x : ByteArray) (w : World) (h : Bld B b l w) (hL : l ++ x.data.toList = L) (hl : L.length ≤ 1000000000) (hBw : B ≤ w.heap.size) :
    Calls Try.prog 42 #[.pointer (some ⟨b, 0, none⟩), .string x] w fun e w' => (∃ n : Int, e = .returned (.tuple #[.int .i64 n, .nilIface])) ∧ Wrote B b L w w' := by
  subst hL
  refine (bwsK B b l x w h ?_ hBw).mono fun e w' ⟨h1, h2, h3, h4⟩ => ⟨⟨_, h1⟩, h2, h3, h4⟩
  rw [List.length_append] at hl
  have : x.data.toList.length = x.size := by cases x; simp [ByteArray.size]
  omega
end Hx
end Go.Proofs.Ytfdhogaknlabkaa
namespace Go.Proofs.Ytfdhogaknlabkaa
open Go.RowKit
namespace Hx
open Lx Hd
set_option linter.unusedVariables false
theorem pr_at {w : World} {A : Option Addr} {l : List Pr} {k : Nat} (hr : RdC PrC w w.heap.size A l) (hk : k < l.length) :
    ∃ (b off : Nat) (x y : ByteArray), A = some ⟨b, off, none⟩ ∧ b < w.heap.size ∧ w.cell? ⟨b, off + k * 2, none⟩ = some (.string x) ∧ w.cell? ⟨b, off + k * 2 + 1, none⟩ = some (.string y) ∧ l[k]'hk = ⟨x.data.toList, y.data.toList⟩ := by
  obtain ⟨b, off, e, hb, hc⟩ := hr (by omega)
  obtain ⟨cs, ⟨x, y, rfl, hx, hy⟩, hcell⟩ := hc k hk
  exact ⟨b, off, x, y, e, hb, hcell 0 (by simp), hcell 1 (by simp), pr_eq hx.symm hy.symm⟩
theorem bap14 (a b : ByteArray) : (a ++ b).data.toList = a.data.toList ++ b.data.toList := by simp
/-- Fields that are small. -/
def SmP (ps : List Pr) : Prop := ∀ p ∈ ps, p.name.length ≤ 20000 ∧ p.value.length ≤ 20000
theorem lines_len : ∀ (ps : List Pr), SmP ps → (linesP ps).length ≤ ps.length * 40004
  | [], _ => by simp [linesP]
  | p :: ps, h => by
    have h1 := lines_len ps (fun q hq => h q (List.mem_cons_of_mem _ hq))
    have h2 := h p (by simp)
    unfold linesP at h1 ⊢
    rw [List.flatMap_cons, List.length_append, List.length_cons]
    have : (lineP p).length = p.name.length + p.value.length + 4 := by unfold lineP; simp; omega
    omega
theorem lines_next {ps : List Pr} {k : Nat} (hk : k < ps.length) {x y : ByteArray} (h : ps[k]'hk = ⟨x.data.toList, y.data.toList⟩) : linesP (ps.take (k + 1)) = linesP (ps.take k) ++ (x.data.toList ++ 58 :: 32 :: (y.data.toList ++ [13, 10])) := by
  unfold linesP
  rw [List.take_succ_eq_append_getElem hk, List.flatMap_append, h]
  simp [lineP]
theorem all_take_next {ps : List Pr} {k : Nat} (hk : k < ps.length) {x y : ByteArray} (h : ps[k]'hk = ⟨x.data.toList, y.data.toList⟩) (h1 : (ps.take k).all mayP = true) (h2 : mayP ⟨x.data.toList, y.data.toList⟩ = true) : (ps.take (k + 1)).all mayP = true := by
  rw [List.take_succ_eq_append_getElem hk, List.all_append, h1, h]
  simp [h2]
theorem all_no_at {ps : List Pr} {k : Nat} (hk : k < ps.length) {x y : ByteArray} (h : ps[k]'hk = ⟨x.data.toList, y.data.toList⟩) (h2 : mayP ⟨x.data.toList, y.data.toList⟩ = false) : ps.all mayP = false := by
  rw [List.all_eq_false]
  exact ⟨_, List.getElem_mem hk, by rw [h, h2]; simp⟩
set_option maxHeartbeats 8000000 in
set_option maxRecDepth 100000 in
theorem rlines14 (A : Option Addr) (n cp : Nat) (ps : List Pr) (w : World) (hr : RdC PrC w w.heap.size A ps) (hn : ps.length = n) (hm : n ≤ 1000) (hs : SmP ps) (t : ByteArray) (h : t.data.toList = linesP ps) :
    Calls Try.prog 45 #[.slice A n cp] w fun e w' => e = .returned (.string t) ∧ Below w.heap.size w w' := by
  have HR := Lib.hid hr
  have HN := Lib.hid hn
  have HM := Lib.hid hm
  have HS := Lib.hid hs
  have HT := Lib.hid h
  clear hr hn hm hs h
  go_enter Try.func45, Try.ntmps45
  go_wp2_with fail
  go_loopg [3, 4] n (fun gg v i wr => ∃ (k : Nat) (y : ByteArray), k + gg = n ∧ i = .int .i64 k ∧ v = .string y ∧ y.data.toList = linesP (ps.take k) ∧ Below w.heap.size w wr)
  case atStart => exact ⟨0, ⟨#[]⟩, by omega, rfl, rfl, rfl, Below.refl _ _⟩
  case round =>
    obtain ⟨k, z, hk, rfl, rfl, hz, hbw⟩ := hrel
    have HBW := Lib.hid hbw
    have HZ := Lib.hid hz
    by_cases hlt : k < n
    · have hk1 : k < ps.length := by rw [HN.out]; exact hlt
      obtain ⟨b0, off, x, y, rfl, hbB, c0, c1, he⟩ := pr_at (HR.out.on hbw) hk1
      have hse := HS.out _ (List.getElem_mem hk1)
      rw [he] at hse
      have hx1 : x.size ≤ 20000 := by rw [← ba_l]; exact hse.1
      have hy1 : y.size ≤ 20000 := by rw [← ba_l]; exact hse.2
      have hzl : z.size ≤ 1000 * 40004 := by
        have h1 := lines_len (ps.take k) (fun p hp => HS.out p (List.mem_of_mem_take hp))
        rw [← hz, ba_l, List.length_take] at h1
        have := HM.out
        have h3 : min k ps.length ≤ 1000 := by omega
        omega
      have HNX : Hid ((z ++ (((x ++ ⟨#[58, 32]⟩) ++ y) ++ ⟨#[13, 10]⟩)).data.toList = linesP (ps.take (k + 1))) := Lib.hid (by
        rw [lines_next hk1 he, ← hz, bap14, bap14, bap14, bap14]
        simp)
      have l1 : ¬ 9223372036854775807 < x.size + 2 := by omega
      have l2 : ¬ 9223372036854775807 < x.size + 2 + y.size := by omega
      have l3 : ¬ 9223372036854775807 < x.size + 2 + y.size + 2 := by omega
      have l4 : ¬ 9223372036854775807 < z.size + (x.size + 2 + y.size + 2) := by omega
      have bk : (0 : Int) ≤ (k : Int) ∧ (k : Int) < (n : Int) := by omega
      have hkb : (k : Int) ≤ 1000 := by have := HM.out; omega
      clear hbw hz hk1 he hse hx1 hy1 hzl
      go_wp2_with fail
      go_quiet (fail)
      go_wp2_with fail
      go_roundg (gk - 1)
      case rel => exact ⟨k + 1, _, by omega, by go_num, rfl, HNX.out, below_drewN HBW.out _⟩
      case measure => omega
    · obtain rfl : k = n := by omega
      have hd : decide ((k : Int) < (k : Int)) = false := by simp
      obtain rfl : z = t := ba_x (by rw [hz, HT.out, List.take_of_length_le (by rw [HN.out]; exact Nat.le_refl _)])
      clear hz hbw
      go_wp2_with fail
      go_ret
      exact ⟨rfl, HBW.out⟩
set_option maxHeartbeats 8000000 in
set_option maxRecDepth 100000 in
theorem rwrite14 (A : Option Addr) (n cp : Nat) (ps : List Pr) (w : World) (hr : RdC PrC w w.heap.size A ps) (hn : ps.length = n) (hm : n ≤ 1000) (hs : SmP ps) (t : ByteArray) (q : Int) (h : writeH ps = (t.data.toList, q)) :
    Calls Try.prog 22 #[.slice A n cp] w fun e w' => e = .returned (.tuple #[.string t, .int .i64 q]) ∧ Below w.heap.size w w' := by
  have HR := Lib.hid hr
  have HN := Lib.hid hn
  have HM := Lib.hid hm
  have HS := Lib.hid hs
  have HT := Lib.hid h
  clear hr hn hm hs h
  go_enter Try.func22, Try.ntmps22
  go_wp2_with fail
  go_loopg [4] n (fun gg i wr => ∃ (k : Nat), k + gg = n ∧ i = .int .i64 k ∧ (ps.take k).all mayP = true ∧ Below w.heap.size w wr)
  case atStart => exact ⟨0, by omega, rfl, rfl, Below.refl _ _⟩
  case round =>
    obtain ⟨k, hk, rfl, hall, hbw⟩ := hrel
    have HBW := Lib.hid hbw
    have HA := Lib.hid hall
    by_cases hlt : k < n
    · have hk1 : k < ps.length := by rw [HN.out]; exact hlt
      obtain ⟨b0, off, x, y, rfl, hbB, c0, c1, he⟩ := pr_at (HR.out.on hbw) hk1
      have hse := HS.out _ (List.getElem_mem hk1)
      rw [he] at hse
      have HX : Hid (x.size ≤ 1000000) := Lib.hid (by rw [← ba_l]; have := hse.1; dsimp only at this; omega)
      have HY : Hid (y.size ≤ 1000000) := Lib.hid (by rw [← ba_l]; have := hse.2; dsimp only at this; omega)
      have bk : (0 : Int) ≤ (k : Int) ∧ (k : Int) < (n : Int) := by omega
      have hkb : (k : Int) ≤ 1000 := by have := HM.out; omega
      cases hmy : mayP ⟨x.data.toList, y.data.toList⟩ with
      | true =>
        have HMY := Lib.hid hmy
        have HNX := Lib.hid (all_take_next hk1 he hall hmy)
        clear hbw hall hk1 he hse hmy
        go_wp2_with (first
          | (go_at_call 44; (with_reducible refine (rmay14 x y true wr HX.out HY.out HMY.out).mono ?_); rintro e w1 ⟨rfl, hb1⟩; have HB1 := Lib.hid (stp HBW.out hb1); clear hb1)
          | fail)
        go_roundg (gk - 1)
        case rel => exact ⟨k + 1, by omega, by go_num, HNX.out, HB1.out⟩
        case measure => omega
      | false =>
        have HMY := Lib.hid hmy
        have hno := all_no_at hk1 he hmy
        have hwr := HT.out
        unfold writeH at hwr
        rw [if_neg (by rw [hno]; simp)] at hwr
        obtain ⟨e1, e2⟩ := (Prod.mk.injEq _ _ _ _).mp hwr
        obtain rfl : (⟨#[]⟩ : ByteArray) = t := ba_x (by rw [← e1])
        subst e2
        clear hbw hall hk1 he hse hmy hno hwr e1
        go_wp2_with (first
          | (go_at_call 44; (with_reducible refine (rmay14 x y false wr HX.out HY.out HMY.out).mono ?_); rintro e w1 ⟨rfl, hb1⟩; have HB1 := Lib.hid (stp HBW.out hb1); clear hb1)
          | fail)
        go_ret2
        exact ⟨rfl, HB1.out⟩
    · obtain rfl : k = n := by omega
      have hd : decide ((k : Int) < (k : Int)) = false := by simp
      rw [List.take_of_length_le (by rw [HN.out]; exact Nat.le_refl _)] at hall
      have hwr := HT.out
      unfold writeH at hwr
      rw [if_pos hall, HN.out] at hwr
      by_cases hmany : 32 < k
      · rw [if_pos hmany] at hwr
        obtain ⟨e1, e2⟩ := (Prod.mk.injEq _ _ _ _).mp hwr
        obtain rfl : (⟨#[]⟩ : ByteArray) = t := ba_x (by rw [← e1])
        subst e2
        have d1 : decide ((32 : Int) < (k : Int)) = true := decide_eq_true (by omega)
        clear hbw hall hwr e1 hmany
        go_wp2_with fail
        go_ret2
        exact ⟨rfl, HBW.out⟩
      · rw [if_neg hmany] at hwr
        obtain ⟨e1, e2⟩ := (Prod.mk.injEq _ _ _ _).mp hwr
        subst e2
        have d1 : decide ((32 : Int) < (k : Int)) = false := decide_eq_false (by omega)
        have HL : Hid (Calls Try.prog 45 #[.slice A k cp] wr fun e w' => e = .returned (.string t) ∧ Below wr.heap.size wr w') := Lib.hid (rlines14 A k cp ps wr (HR.out.on hbw) HN.out HM.out HS.out t e1.symm)
        clear hbw hall hwr e1 hmany
        go_wp2_with (first
          | (go_at_call 45; (with_reducible refine (HL.out).mono ?_); rintro e w1 ⟨rfl, hb1⟩; have HB1 := Lib.hid (stp HBW.out hb1); clear hb1)
          | fail)
        go_ret2
        exact ⟨rfl, HB1.out⟩
set_option maxHeartbeats 8000000 in
set_option maxRecDepth 100000 in
theorem bad14 (x y : ByteArray) (q : Bool) (w : World) (hx : x.size ≤ 1000000) (hy : y.size ≤ 1000000) (h : mayP ⟨x.data.toList, y.data.toList⟩ = q) :
    Calls Try.prog 39 #[.agg #[.string x, .string y]] w fun e w' => e = .returned (.bool (!q)) ∧ Below w.heap.size w w' := by
  have HX := Lib.hid hx
  have HY := Lib.hid hy
  have HH := Lib.hid h
  clear hx hy h
  go_enter Try.func39, Try.ntmps39
  go_wp2_with (first
    | (go_at_call 40; (with_reducible refine (may14 x y q _ HX.out HY.out HH.out).mono ?_); rintro e w1 ⟨rfl, hb1⟩; have HB1 := Lib.hid (stp (stpA (Below.refl _ _) (.cells #[.string x, .string y] 25)) hb1); clear hb1)
    | fail)
  go_ret
  exact ⟨rfl, HB1.out⟩
set_option maxHeartbeats 8000000 in
set_option maxRecDepth 100000 in
theorem idxf14 (A : Option Addr) (n cp : Nat) (ps : List Pr) (w : World) (hr : RdC PrC w w.heap.size A ps) (hn : ps.length = n) (hm : n ≤ 1000) (hs : SmP ps) :
    Calls Try.prog 66 #[.slice A n cp, .func (.func 39) #[] #[]] w fun e w' => (∃ r : Int, e = .returned (.int .i64 r) ∧ decide (0 ≤ r) = !ps.all mayP) ∧ Below w.heap.size w w' := by
  have HR := Lib.hid hr
  have HN := Lib.hid hn
  have HM := Lib.hid hm
  have HS := Lib.hid hs
  clear hr hn hm hs
  go_enter Try.func66, Try.ntmps66
  go_wp2_with fail
  go_loopg [8] n (fun gg i wr => ∃ (k : Nat), k + gg = n ∧ i = .int .i64 k ∧ (ps.take k).all mayP = true ∧ Below w.heap.size w wr)
  case atStart => exact ⟨0, by omega, rfl, rfl, Below.refl _ _⟩
  case round =>
    obtain ⟨k, hk, rfl, hall, hbw⟩ := hrel
    have HBW := Lib.hid hbw
    have HA := Lib.hid hall
    by_cases hlt : k < n
    · have hk1 : k < ps.length := by rw [HN.out]; exact hlt
      obtain ⟨b0, off, x, y, rfl, hbB, c0, c1, he⟩ := pr_at (HR.out.on hbw) hk1
      have hse := HS.out _ (List.getElem_mem hk1)
      rw [he] at hse
      have HX : Hid (x.size ≤ 1000000) := Lib.hid (by rw [← ba_l]; have := hse.1; dsimp only at this; omega)
      have HY : Hid (y.size ≤ 1000000) := Lib.hid (by rw [← ba_l]; have := hse.2; dsimp only at this; omega)
      have bk : (0 : Int) ≤ (k : Int) ∧ (k : Int) < (n : Int) := by omega
      have hkb : (k : Int) ≤ 1000 := by have := HM.out; omega
      cases hmy : mayP ⟨x.data.toList, y.data.toList⟩ with
      | true =>
        have HMY := Lib.hid hmy
        have HNX := Lib.hid (all_take_next hk1 he hall hmy)
        have hmb : k < 1000 := by have := HM.out; omega
        clear hbw hall hk1 he hse hmy
        go_wp2_with (first
          | (go_at_call 39; (with_reducible refine (bad14 x y true wr HX.out HY.out HMY.out).mono ?_); rintro e w1 ⟨rfl, hb1⟩; have HB1 := Lib.hid (stp HBW.out hb1); clear hb1)
          | fail)
        go_roundg (gk - 1)
        case rel => exact ⟨k + 1, by omega, by go_num, HNX.out, HB1.out⟩
        case measure => omega
      | false =>
        have HMY := Lib.hid hmy
        have HNO := Lib.hid (all_no_at hk1 he hmy)
        clear hbw hall hk1 he hse hmy
        go_wp2_with (first
          | (go_at_call 39; (with_reducible refine (bad14 x y false wr HX.out HY.out HMY.out).mono ?_); rintro e w1 ⟨rfl, hb1⟩; have HB1 := Lib.hid (stp HBW.out hb1); clear hb1)
          | fail)
        go_ret
        exact ⟨⟨_, rfl, by rw [HNO.out]; simp⟩, HB1.out⟩
    · obtain rfl : k = n := by omega
      have hd : decide ((k : Int) < (k : Int)) = false := by simp
      rw [List.take_of_length_le (by rw [HN.out]; exact Nat.le_refl _)] at hall
      have HAL := Lib.hid hall
      clear hbw hall
      go_wp2_with fail
      go_ret
      exact ⟨⟨_, rfl, by rw [HAL.out]; simp⟩, HBW.out⟩
set_option maxHeartbeats 8000000 in
set_option maxRecDepth 100000 in
theorem contf14 (A : Option Addr) (n cp : Nat) (ps : List Pr) (q : Bool) (w : World) (hr : RdC PrC w w.heap.size A ps) (hn : ps.length = n) (hm : n ≤ 1000) (hs : SmP ps) (h : (!ps.all mayP) = q) :
    Calls Try.prog 41 #[.slice A n cp, .func (.func 39) #[] #[]] w fun e w' => e = .returned (.bool q) ∧ Below w.heap.size w w' := by
  have HC := Lib.hid (idxf14 A n cp ps w hr hn hm hs)
  have HQ := Lib.hid h
  clear hr hn hm hs h
  go_enter Try.func41, Try.ntmps41
  go_wp2_with (first
    | (go_at_call 66; (with_reducible refine (HC.out).mono ?_); rintro e w1 ⟨⟨r, rfl, hrq⟩, hb1⟩; rw [HQ.out] at hrq)
    | fail)
  go_ret
  exact ⟨rfl, hb1⟩
set_option maxHeartbeats 8000000 in
set_option maxRecDepth 100000 in
theorem write14 (A : Option Addr) (n cp : Nat) (ps : List Pr) (w : World) (hr : RdC PrC w w.heap.size A ps) (hn : ps.length = n) (hm : n ≤ 1000) (hs : SmP ps) (t : ByteArray) (q : Int) (h : writeH ps = (t.data.toList, q)) :
    Calls Try.prog 21 #[.slice A n cp] w fun e w' => e = .returned (.tuple #[.string t, .int .i64 q]) ∧ Below w.heap.size w w' := by
  have hmf : ∀ (fn : Fn) (first cap : Array Value) (w : World), (Instr.makeFunc fn first cap).run Try.prog w = .ok (.func fn first cap) w := fun _ _ _ _ => rfl
  have HR := Lib.hid hr
  have HN := Lib.hid hn
  have HM := Lib.hid hm
  have HS := Lib.hid hs
  unfold writeH at h
  cases hall : ps.all mayP with
  | false =>
    rw [if_neg (by rw [hall]; simp)] at h
    obtain ⟨e1, e2⟩ := (Prod.mk.injEq _ _ _ _).mp h
    obtain rfl : (⟨#[]⟩ : ByteArray) = t := ba_x (by rw [← e1])
    subst e2
    have HC := Lib.hid (contf14 A n cp ps true w hr hn hm hs (by rw [hall]; rfl))
    clear hr hn hm hs h hall e1
    go_enter Try.func21, Try.ntmps21
    go_wp2_with (first
      | (go_at_call 41; (with_reducible refine (HC.out).mono ?_); rintro e w1 ⟨rfl, hb1⟩)
      | fail)
    go_ret2
    exact ⟨rfl, hb1⟩
  | true =>
    rw [if_pos hall, hn] at h
    have HC := Lib.hid (contf14 A n cp ps false w hr hn hm hs (by rw [hall]; rfl))
    by_cases hmany : 32 < n
    · rw [if_pos hmany] at h
      obtain ⟨e1, e2⟩ := (Prod.mk.injEq _ _ _ _).mp h
      obtain rfl : (⟨#[]⟩ : ByteArray) = t := ba_x (by rw [← e1])
      subst e2
      have d1 : decide ((32 : Int) < (n : Int)) = true := decide_eq_true (by omega)
      clear hr hn hm hs h hall e1
      go_enter Try.func21, Try.ntmps21
      go_wp2_with (first
        | (go_at_call 41; (with_reducible refine (HC.out).mono ?_); rintro e w1 ⟨rfl, hb1⟩)
        | fail)
      go_ret2
      exact ⟨rfl, hb1⟩
    · rw [if_neg hmany] at h
      obtain ⟨e1, e2⟩ := (Prod.mk.injEq _ _ _ _).mp h
      subst e2
      have HT := Lib.hid e1
      have d1 : decide ((32 : Int) < (n : Int)) = false := decide_eq_false (by omega)
      clear hr hn hm hs h hall e1 hmany
      go_enter Try.func21, Try.ntmps21
      go_wp2_with (first
        | (go_at_call 41; (with_reducible refine (HC.out).mono ?_); rintro e w1 ⟨rfl, hb1⟩; have HB1 := Lib.hid hb1; clear hb1)
        | fail)
      go_loopg [16] n (fun gg i wr => ∃ (k : Nat), k + gg = n ∧ i = .int .i64 k ∧ Bld w1.heap.size w1.heap.size (linesP (ps.take k)) wr ∧ Below w1.heap.size w1 wr ∧ w1.heap.size < wr.heap.size)
      case atStart => exact ⟨0, by omega, rfl, bld_new w1, stpA (Below.refl _ _) _, by rw [World.size_alloc]; exact Nat.lt_succ_self _⟩
      case round =>
        obtain ⟨k, hk, rfl, hbl, hbw, hlt1⟩ := hrel
        have HBW := Lib.hid hbw
        have HBL := Lib.hid hbl
        have HL1 := Lib.hid hlt1
        by_cases hlt : k < n
        · have hk1 : k < ps.length := by rw [HN.out]; exact hlt
          obtain ⟨b0, off, x, y, rfl, hbB, c0, c1, he⟩ := pr_at ((HR.out.on HB1.out).on hbw) hk1
          have hse := HS.out _ (List.getElem_mem hk1)
          rw [he] at hse
          have hx1 : x.size ≤ 20000 := by rw [← ba_l]; exact hse.1
          have hy1 : y.size ≤ 20000 := by rw [← ba_l]; exact hse.2
          have l1 : ¬ 9223372036854775807 < x.size + 1 := by omega
          have l2 : ¬ 9223372036854775807 < x.size + 1 + 1 := by omega
          have l3 : ¬ 9223372036854775807 < x.size + 1 + 1 + y.size := by omega
          have l4 : ¬ 9223372036854775807 < x.size + 1 + 1 + y.size + 2 := by omega
          have bk : (0 : Int) ≤ (k : Int) ∧ (k : Int) < (n : Int) := by omega
          have hkb : (k : Int) ≤ 1000 := by have := HM.out; omega
          have hnl : (linesP (ps.take (k + 1))).length ≤ 1000000000 := by
            have h1 := lines_len (ps.take (k + 1)) (fun p hp => HS.out p (List.mem_of_mem_take hp))
            rw [List.length_take] at h1
            have := HM.out
            have h3 : min (k + 1) ps.length ≤ 1001 := by omega
            omega
          have HB : Hid (∀ o, Calls Try.prog 42 #[.pointer (some ⟨w1.heap.size, 0, none⟩), .string ((((x ++ ⟨#[58]⟩) ++ ⟨#[32]⟩) ++ y) ++ ⟨#[13, 10]⟩)] (wr.alloc o) fun e w' => (∃ n : Int, e = .returned (.tuple #[.int .i64 n, .nilIface])) ∧ Wrote w1.heap.size w1.heap.size (linesP (ps.take (k + 1))) (wr.alloc o) w') := Lib.hid fun o =>
            bwsL w1.heap.size w1.heap.size (linesP (ps.take k)) _ _ (wr.alloc o) (hbl.alloc o) (by rw [lines_next hk1 he, bap14, bap14, bap14, bap14]; simp) hnl (by rw [World.size_alloc]; omega)
          clear hbw hbl hk1 he hse hx1 hy1 hnl hlt1
          go_wp2_with (first
            | (go_at_call 42; (with_reducible refine (HB.out _).mono ?_); rintro e w2 ⟨⟨n2, rfl⟩, hw2⟩; have HW2 := Lib.hid hw2; clear hw2)
            | fail)
          go_roundg (gk - 1)
          case rel => exact ⟨k + 1, by omega, by go_num, HW2.out.1, ((HBW.out.alloc (Nat.le_of_lt HL1.out) _).trans HW2.out.2.1), HW2.out.1.lt.2⟩
          case measure => omega
        · obtain rfl : k = n := by omega
          have hd : decide ((k : Int) < (k : Int)) = false := by simp
          rw [List.take_of_length_le (by rw [HN.out]; exact Nat.le_refl _), HT.out] at hbl
          have HS2 : Hid (Calls Try.prog 43 #[.pointer (some ⟨w1.heap.size, 0, none⟩)] wr fun e w' => e = .returned (.string t) ∧ Bld w1.heap.size w1.heap.size t.data.toList w' ∧ Below w1.heap.size wr w') := Lib.hid (bst w1.heap.size w1.heap.size t wr hbl (Nat.le_of_lt hlt1))
          clear hbl hbw hlt1
          go_wp2_with (first
            | (go_at_call 43; (with_reducible refine (HS2.out).mono ?_); rintro e w2 ⟨rfl, _, hb2⟩)
            | fail)
          go_ret2
          exact ⟨rfl, stp HB1.out (HBW.out.trans hb2)⟩
end Hx
end Go.Proofs.Ytfdhogaknlabkaa
namespace Go.Proofs.Ytfdhogaknlabkaa
open Go.RowKit
namespace Hx
open Lx Hd
set_option linter.unusedVariables false
theorem mkB_id (s : ByteArray) : mkB s.data.toList = s := (ba_eq7 s).symm
theorem lowS_dec (s u : ByteArray) : decide (lowS s = lowS u) = decide (As.lows s.data.toList = As.lows u.data.toList) := by
  refine decide_eq_decide.2 ⟨fun h => congrArg (fun x : ByteArray => x.data.toList) h, fun h => ba_ext7 h⟩
theorem find_next {ps : List Pr} {k : Nat} (hk : k < ps.length) {x y nm : ByteArray} (h : ps[k]'hk = ⟨x.data.toList, y.data.toList⟩) :
    findH (ps.take (k + 1)) nm.data.toList = findH (ps.take k) nm.data.toList ++ (if lowS x = lowS nm then [y.data.toList] else []) := by
  unfold findH
  rw [List.take_succ_eq_append_getElem hk, List.filter_append, List.map_append, h]
  congr 1
  rw [List.filter_cons]
  dsimp only
  rw [← lowS_dec]
  by_cases e : lowS x = lowS nm
  · rw [if_pos e, decide_eq_true e]; rfl
  · rw [if_neg e, decide_eq_false e]; rfl
theorem find_len (ps : List Pr) (nm : List UInt8) : (findH ps nm).length ≤ ps.length := by
  unfold findH
  rw [List.length_map]
  exact List.length_filter_le _ _
theorem find_mem {ps : List Pr} {nm v : List UInt8} (h : v ∈ findH ps nm) (hs : SmP ps) : v.length ≤ 20000 := by
  unfold findH at h
  obtain ⟨p, hp, rfl⟩ := List.mem_map.1 h
  exact (hs p (List.mem_filter.1 hp).1).2
/-- What Find answers. -/
def FindTo (ps : List Pr) (nm : ByteArray) (w : World) (e : Ending) (w' : World) : Prop := Below w.heap.size w w' ∧ ∃ A c, e = .returned (.slice A (findH ps nm.data.toList).length c) ∧ (A = none → c = 0) ∧ RdG encS w' w'.heap.size A ((findH ps nm.data.toList).map mkB)
set_option maxHeartbeats 8000000 in
set_option maxRecDepth 100000 in
theorem rfind14 (A : Option Addr) (n cp : Nat) (ps : List Pr) (nm : ByteArray) (w : World) (hr : RdC PrC w w.heap.size A ps) (hn : ps.length = n) (hm : n ≤ 1000) (hs : SmP ps) (hnm : nm.size ≤ 1000000) :
    Calls Try.prog 31 #[.slice A n cp, .string nm] w (FindTo ps nm w) := by
  obtain ⟨i0, hi, hz0, hz1, hz2⟩ := info_parts infoS
  have HI := Lib.hid hi
  have HZ0 := Lib.hid hz0
  have HZ1 := Lib.hid hz1
  have HZ2 := Lib.hid hz2
  have HR := Lib.hid hr
  have HN := Lib.hid hn
  have HM := Lib.hid hm
  have HS := Lib.hid hs
  have HNM := Lib.hid hnm
  clear hr hn hm hs hnm hi hz0 hz1 hz2
  go_enter Try.func31, Try.ntmps31
  go_wp2_with fail
  go_loopg [5, 6] n (fun gg v i wr => ∃ (k : Nat) (done : List (List UInt8)), k + gg = n ∧ i = .int .i64 k ∧ done = findH (ps.take k) nm.data.toList ∧ wr.ownsRow w.heap.size 9 1 v done.length ((done.map mkB).map encS) ∧ Below w.heap.size w wr)
  case atStart => exact ⟨0, [], by omega, rfl, rfl, World.ownsRow_nil _ _ _ _, Below.refl _ _⟩
  case round =>
    obtain ⟨k, done, hk, rfl, hdone, hown, hbw⟩ := hrel
    have HO0 := Lib.hid hown
    have HBW := Lib.hid hbw
    have HD := Lib.hid hdone
    have hkb : (k : Int) ≤ 1000 := by have := HM.out; omega
    have hdl : done.length ≤ 1000 := by
      have h1 := find_len (ps.take k) nm.data.toList
      rw [← hdone, List.length_take] at h1
      omega
    obtain ⟨A0, C0, rfl⟩ := own_form2 hown
    by_cases hlt : k < n
    · have hk1 : k < ps.length := by rw [HN.out]; exact hlt
      obtain ⟨b0, off, x, y, rfl, hbB, c0, c1, he⟩ := pr_at (HR.out.on hbw) hk1
      have hse := HS.out _ (List.getElem_mem hk1)
      rw [he] at hse
      have HX : Hid (x.size ≤ 1000000) := Lib.hid (by rw [← ba_l]; have := hse.1; dsimp only at this; omega)
      have HY : Hid (y.size ≤ 1000000) := Lib.hid (by rw [← ba_l]; have := hse.2; dsimp only at this; omega)
      have bk : (0 : Int) ≤ (k : Int) ∧ (k : Int) < (n : Int) := by omega
      have hnx := find_next (nm := nm) hk1 he
      rw [← hdone] at hnx
      have HMB : Hid (done.length ≤ 1000) := Lib.hid hdl
      have HO := Lib.hid hown
      by_cases hsm : lowS x = lowS nm
      · rw [if_pos hsm] at hnx
        have HNX := Lib.hid hnx
        have HSM : Hid (∀ W, Calls Try.prog 52 #[.string x, .string nm] W fun e w' => e = .returned (.bool true) ∧ Below W.heap.size W w') := Lib.hid fun W => rsame7 x nm true W HX.out HNM.out (decide_eq_true hsm)
        clear hown hbw hdone hk1 he hse hnx hsm hdl
        go_wp2_with (first
          | (go_at_call 52; (with_reducible refine (HSM.out _).mono ?_); rintro e w1 ⟨rfl, hb1⟩; have HB1 := Lib.hid (stp HBW.out hb1); have O1 := Lib.hid (own_belowS HO.out hb1); have c1x : w1.cell? ⟨b0, off + k * 2 + 1, none⟩ = some (.string y) := (hb1.cell (p := ⟨b0, _, none⟩) hbB).trans c1; clear hb1)
          | (at_builtin; refine wpList_append_rdg encS_one rfl (.tmp 20) (.tmp 26) 55 rfl w.heap.size 9 i0 (.string ByteArray.empty) 16 Try.underlying55 HI.out HZ0.out HZ1.out HZ2.out (by decide) rfl _ done.length _ rfl (O1.out.alloc (.cells #[.string y] 9)) (w1.heap.size + 1) (some ⟨w1.heap.size, 0, none⟩) 1 1 [y] rfl (RdG.new (enc := encS) w1 9 [y]) rfl (fun h => by cases h) (by have := HMB.out; omega) (by rw [World.size_alloc]; have := HB1.out.size; omega) ?_; intro v4 w4 hown4 hgr4; have HO4 := Lib.hid hown4; have HB4 : Hid (Below w.heap.size w w4) := Lib.hid ((stpA HB1.out (.cells #[.string y] 9)).grown hgr4 (by rw [World.size_alloc]; have := HB1.out.size; omega) (fun g hg => (O1.out.lt g hg).1)); clear hown4 hgr4)
          | fail)
        go_roundg (gk - 1)
        case rel =>
          refine ⟨k + 1, done ++ [y.data.toList], by omega, by go_num, HNX.out.symm, ?_, HB4.out⟩
          rw [List.length_append, List.map_append, List.map_append]
          have := HO4.out
          rw [List.map_cons, List.map_nil, mkB_id]
          exact this
        case measure => omega
      · rw [if_neg hsm, List.append_nil] at hnx
        have HNX := Lib.hid hnx
        have HSM : Hid (∀ W, Calls Try.prog 52 #[.string x, .string nm] W fun e w' => e = .returned (.bool false) ∧ Below W.heap.size W w') := Lib.hid fun W => rsame7 x nm false W HX.out HNM.out (decide_eq_false hsm)
        clear hown hbw hdone hk1 he hse hnx hsm hdl
        go_wp2_with (first
          | (go_at_call 52; (with_reducible refine (HSM.out _).mono ?_); rintro e w1 ⟨rfl, hb1⟩; have HB1 := Lib.hid (stp HBW.out hb1); have O1 := Lib.hid (own_belowS HO.out hb1); have c1x : w1.cell? ⟨b0, off + k * 2 + 1, none⟩ = some (.string y) := (hb1.cell (p := ⟨b0, _, none⟩) hbB).trans c1; clear hb1)
          | fail)
        go_roundg (gk - 1)
        case rel => exact ⟨k + 1, done, by omega, by go_num, HNX.out.symm, O1.out, HB1.out⟩
        case measure => omega
    · obtain rfl : k = n := by omega
      have hd : decide ((k : Int) < (k : Int)) = false := by simp
      rw [List.take_of_length_le (by rw [HN.out]; exact Nat.le_refl _)] at hdone
      have hrd := RdG.of_own (enc := encS) hown
      have hnc : A0 = none → C0 = 0 := by
        rintro rfl
        rcases hown.2 with ⟨e1, _⟩ | ⟨g, cap, cur, e1, _⟩
        · injection e1 with _ _ e1
        · injection e1 with e1; cases e1
      subst hdone
      have HF : Hid (FindTo ps nm w (.returned (.slice A0 (findH ps nm.data.toList).length C0)) wr) := Lib.hid ⟨hbw, A0, C0, rfl, hnc, hrd.1⟩
      clear hown hbw hrd hnc hdl
      go_wp2_with fail
      go_ret
      exact HF.out
set_option maxHeartbeats 8000000 in
set_option maxRecDepth 100000 in
theorem find14 (A : Option Addr) (n cp : Nat) (ps : List Pr) (nm : ByteArray) (w : World) (hr : RdC PrC w w.heap.size A ps) (hn : ps.length = n) (hm : n ≤ 1000) (hs : SmP ps) (hnm : nm.size ≤ 1000000) :
    Calls Try.prog 30 #[.slice A n cp, .string nm] w (FindTo ps nm w) := by
  obtain ⟨i0, hi, hz0, hz1, hz2⟩ := info_parts infoS
  have HI := Lib.hid hi
  have HZ0 := Lib.hid hz0
  have HZ1 := Lib.hid hz1
  have HZ2 := Lib.hid hz2
  have HR := Lib.hid hr
  have HN := Lib.hid hn
  have HM := Lib.hid hm
  have HS := Lib.hid hs
  have HNM := Lib.hid hnm
  clear hr hn hm hs hnm hi hz0 hz1 hz2
  go_enter Try.func30, Try.ntmps30
  go_wp2_with fail
  go_loopg [5, 10] n (fun gg v i wr => ∃ (k : Nat) (done : List (List UInt8)), k + gg = n ∧ i = .int .i64 k ∧ done = findH (ps.take k) nm.data.toList ∧ wr.ownsRow w.heap.size 9 1 v done.length ((done.map mkB).map encS) ∧ Below w.heap.size w wr)
  case atStart => exact ⟨0, [], by omega, rfl, rfl, World.ownsRow_nil _ _ _ _, Below.refl _ _⟩
  case round =>
    obtain ⟨k, done, hk, rfl, hdone, hown, hbw⟩ := hrel
    have HO0 := Lib.hid hown
    have HBW := Lib.hid hbw
    have HD := Lib.hid hdone
    have hkb : (k : Int) ≤ 1000 := by have := HM.out; omega
    have hdl : done.length ≤ 1000 := by
      have h1 := find_len (ps.take k) nm.data.toList
      rw [← hdone, List.length_take] at h1
      omega
    obtain ⟨A0, C0, rfl⟩ := own_form2 hown
    by_cases hlt : k < n
    · have hk1 : k < ps.length := by rw [HN.out]; exact hlt
      obtain ⟨b0, off, x, y, rfl, hbB, c0, c1, he⟩ := pr_at (HR.out.on hbw) hk1
      have hse := HS.out _ (List.getElem_mem hk1)
      rw [he] at hse
      have HX : Hid (x.size ≤ 1000000) := Lib.hid (by rw [← ba_l]; have := hse.1; dsimp only at this; omega)
      have HY : Hid (y.size ≤ 1000000) := Lib.hid (by rw [← ba_l]; have := hse.2; dsimp only at this; omega)
      have bk : (0 : Int) ≤ (k : Int) ∧ (k : Int) < (n : Int) := by omega
      have hnx := find_next (nm := nm) hk1 he
      rw [← hdone] at hnx
      have HMB : Hid (done.length ≤ 1000) := Lib.hid hdl
      have HO := Lib.hid hown
      by_cases hsm : lowS x = lowS nm
      · rw [if_pos hsm] at hnx
        have HNX := Lib.hid hnx
        have HSM : Hid (∀ W, Calls Try.prog 32 #[.string x, .string nm] W fun e w' => e = .returned (.bool true) ∧ Below W.heap.size W w') := Lib.hid fun W => same7 x nm true W HX.out HNM.out (decide_eq_true hsm)
        clear hown hbw hdone hk1 he hse hnx hsm hdl
        go_wp2_with (first
          | (go_at_call 32; (with_reducible refine (HSM.out _).mono ?_); rintro e w1 ⟨rfl, hb1⟩; have HB1 := Lib.hid (stp (stpA HBW.out (.cells #[.string x, .string y] 25)) hb1); have O1 := Lib.hid (own_belowS (own_belowS HO.out (stpA (Below.refl _ _) (.cells #[.string x, .string y] 25))) hb1); have C1 := Lib.hid (cellV _ _ 1 _ _ _ (kept_heap (heap_alloc_new wr (.cells #[.string x, .string y] 25)) hb1)); have c1x : w1.cell? ⟨wr.heap.size, 1, none⟩ = some (.string y) := C1.out; clear hb1)
          | (go_at_call 51; (with_reducible refine (clone7 y _ HY.out).mono ?_); rintro e w2 ⟨rfl, hb2⟩; have HB2 := Lib.hid (stp HB1.out hb2); have O2 := Lib.hid (own_belowS O1.out hb2); clear hb2)
          | (at_builtin; refine wpList_append_rdg encS_one rfl (.tmp 18) (.tmp 22) 55 rfl w.heap.size 9 i0 (.string ByteArray.empty) 16 Try.underlying55 HI.out HZ0.out HZ1.out HZ2.out (by decide) rfl _ done.length _ rfl (O2.out.alloc (.cells #[.string y] 9)) (w2.heap.size + 1) (some ⟨w2.heap.size, 0, none⟩) 1 1 [y] rfl (RdG.new (enc := encS) w2 9 [y]) rfl (fun h => by cases h) (by have := HMB.out; omega) (by rw [World.size_alloc]; have := HB2.out.size; omega) ?_; intro v4 w4 hown4 hgr4; have HO4 := Lib.hid hown4; have HB4 : Hid (Below w.heap.size w w4) := Lib.hid ((stpA HB2.out (.cells #[.string y] 9)).grown hgr4 (by rw [World.size_alloc]; have := HB2.out.size; omega) (fun g hg => (O2.out.lt g hg).1)); clear hown4 hgr4)
          | fail)
        go_roundg (gk - 1)
        case rel =>
          refine ⟨k + 1, done ++ [y.data.toList], by omega, by go_num, HNX.out.symm, ?_, HB4.out⟩
          rw [List.length_append, List.map_append, List.map_append]
          have := HO4.out
          rw [List.map_cons, List.map_nil, mkB_id]
          exact this
        case measure => omega
      · rw [if_neg hsm, List.append_nil] at hnx
        have HNX := Lib.hid hnx
        have HSM : Hid (∀ W, Calls Try.prog 32 #[.string x, .string nm] W fun e w' => e = .returned (.bool false) ∧ Below W.heap.size W w') := Lib.hid fun W => same7 x nm false W HX.out HNM.out (decide_eq_false hsm)
        clear hown hbw hdone hk1 he hse hnx hsm hdl
        go_wp2_with (first
          | (go_at_call 32; (with_reducible refine (HSM.out _).mono ?_); rintro e w1 ⟨rfl, hb1⟩; have HB1 := Lib.hid (stp (stpA HBW.out (.cells #[.string x, .string y] 25)) hb1); have O1 := Lib.hid (own_belowS (own_belowS HO.out (stpA (Below.refl _ _) (.cells #[.string x, .string y] 25))) hb1); have C1 := Lib.hid (cellV _ _ 1 _ _ _ (kept_heap (heap_alloc_new wr (.cells #[.string x, .string y] 25)) hb1)); have c1x : w1.cell? ⟨wr.heap.size, 1, none⟩ = some (.string y) := C1.out; clear hb1)
          | fail)
        go_roundg (gk - 1)
        case rel => exact ⟨k + 1, done, by omega, by go_num, HNX.out.symm, O1.out, HB1.out⟩
        case measure => omega
    · obtain rfl : k = n := by omega
      have hd : decide ((k : Int) < (k : Int)) = false := by simp
      rw [List.take_of_length_le (by rw [HN.out]; exact Nat.le_refl _)] at hdone
      have hrd := RdG.of_own (enc := encS) hown
      have hnc : A0 = none → C0 = 0 := by
        rintro rfl
        rcases hown.2 with ⟨e1, _⟩ | ⟨g, cap, cur, e1, _⟩
        · injection e1 with _ _ e1
        · injection e1 with e1; cases e1
      subst hdone
      have HF : Hid (FindTo ps nm w (.returned (.slice A0 (findH ps nm.data.toList).length C0)) wr) := Lib.hid ⟨hbw, A0, C0, rfl, hnc, hrd.1⟩
      clear hown hbw hrd hnc hdl
      go_wp2_with fail
      go_ret
      exact HF.out
set_option maxHeartbeats 8000000 in
set_option maxRecDepth 100000 in
theorem rone14 (A : Option Addr) (n cp : Nat) (ps : List Pr) (nm : ByteArray) (w : World) (hr : RdC PrC w w.heap.size A ps) (hn : ps.length = n) (hm : n ≤ 1000) (hs : SmP ps) (hnm : nm.size ≤ 1000000) (v : ByteArray) (b : Bool) (q : Int) (h : oneH ps nm.data.toList = (v.data.toList, b, q)) :
    Calls Try.prog 24 #[.slice A n cp, .string nm] w fun e w' => e = .returned (.tuple #[.string v, .bool b, .int .i64 q]) ∧ Below w.heap.size w w' := by
  have HF := Lib.hid (rfind14 A n cp ps nm w hr hn hm hs hnm)
  unfold FindTo at HF
  have hfl := find_len ps nm.data.toList
  rw [hn] at hfl
  unfold oneH at h
  rcases hl : findH ps nm.data.toList with _ | ⟨u, _ | ⟨u2, r⟩⟩
  · rw [hl] at h HF
    obtain ⟨e1, e2⟩ := (Prod.mk.injEq _ _ _ _).mp h
    obtain ⟨e2, e3⟩ := (Prod.mk.injEq _ _ _ _).mp e2
    obtain rfl : (⟨#[]⟩ : ByteArray) = v := ba_x (by rw [← e1])
    subst e2 e3
    simp only [List.length_nil, List.map_nil] at HF
    clear hr hn hm hs hnm h hl hfl e1
    go_enter Try.func24, Try.ntmps24
    go_wp2_with (first
      | (go_at_call 31; (with_reducible refine (HF.out).mono ?_); rintro e w1 ⟨hb1, A1, c1, rfl, _, _⟩)
      | fail)
    go_ret3
    exact ⟨rfl, hb1⟩
  · rw [hl] at h HF
    obtain ⟨e1, e2⟩ := (Prod.mk.injEq _ _ _ _).mp h
    obtain ⟨e2, e3⟩ := (Prod.mk.injEq _ _ _ _).mp e2
    subst e2 e3
    obtain rfl : mkB u = v := ba_x (by rw [mkB_list]; exact e1)
    simp only [List.length_cons, List.length_nil, List.map_cons, List.map_nil] at HF
    clear hr hn hm hs hnm h hl hfl e1
    go_enter Try.func24, Try.ntmps24
    go_wp2_with (first
      | (go_at_call 31; (with_reducible refine (HF.out).mono ?_); rintro e w1 ⟨hb1, A1, c1, rfl, _, hr1⟩; obtain ⟨b1, o1, rfl, hlt1, hc1⟩ := hr1 (by simp); have d1 : w1.cell? ⟨b1, o1, none⟩ = some (.string (mkB u)) := hc1 0 (by simp); clear hc1)
      | fail)
    go_ret3
    exact ⟨rfl, hb1⟩
  · rw [hl] at h HF hfl
    obtain ⟨e1, e2⟩ := (Prod.mk.injEq _ _ _ _).mp h
    obtain ⟨e2, e3⟩ := (Prod.mk.injEq _ _ _ _).mp e2
    obtain rfl : (⟨#[]⟩ : ByteArray) = v := ba_x (by rw [← e1])
    subst e2 e3
    obtain ⟨m, hmm⟩ : ∃ m, (u :: u2 :: r).length = m := ⟨_, rfl⟩
    rw [hmm] at HF hfl
    have hm2 : 2 ≤ m := by rw [← hmm]; simp
    have g1 : decide ((1 : Int) < (m : Int)) = true := decide_eq_true (by omega)
    have g2 : ((m : Int) == 0) = false := by simp; omega
    have g3 : ((m : Int) == 1) = false := by simp; omega
    clear hr hn hm hs hnm h hl hfl e1 hmm hm2
    go_enter Try.func24, Try.ntmps24
    go_wp2_with (first
      | (go_at_call 31; (with_reducible refine (HF.out).mono ?_); rintro e w1 ⟨hb1, A1, c1, rfl, _, _⟩)
      | fail)
    go_ret3
    exact ⟨rfl, hb1⟩
set_option maxHeartbeats 8000000 in
set_option maxRecDepth 100000 in
theorem one14 (A : Option Addr) (n cp : Nat) (ps : List Pr) (nm : ByteArray) (w : World) (hr : RdC PrC w w.heap.size A ps) (hn : ps.length = n) (hm : n ≤ 1000) (hs : SmP ps) (hnm : nm.size ≤ 1000000) (v : ByteArray) (b : Bool) (q : Int) (h : oneH ps nm.data.toList = (v.data.toList, b, q)) :
    Calls Try.prog 23 #[.slice A n cp, .string nm] w fun e w' => e = .returned (.tuple #[.string v, .bool b, .int .i64 q]) ∧ Below w.heap.size w w' := by
  have HF := Lib.hid (find14 A n cp ps nm w hr hn hm hs hnm)
  unfold FindTo at HF
  have hfl := find_len ps nm.data.toList
  rw [hn] at hfl
  unfold oneH at h
  rcases hl : findH ps nm.data.toList with _ | ⟨u, _ | ⟨u2, r⟩⟩
  · rw [hl] at h HF
    obtain ⟨e1, e2⟩ := (Prod.mk.injEq _ _ _ _).mp h
    obtain ⟨e2, e3⟩ := (Prod.mk.injEq _ _ _ _).mp e2
    obtain rfl : (⟨#[]⟩ : ByteArray) = v := ba_x (by rw [← e1])
    subst e2 e3
    simp only [List.length_nil, List.map_nil] at HF
    clear hr hn hm hs hnm h hl hfl e1
    go_enter Try.func23, Try.ntmps23
    go_wp2_with (first
      | (go_at_call 30; (with_reducible refine (HF.out).mono ?_); rintro e w1 ⟨hb1, A1, c1, rfl, _, _⟩)
      | fail)
    go_ret3
    exact ⟨rfl, hb1⟩
  · rw [hl] at h HF
    obtain ⟨e1, e2⟩ := (Prod.mk.injEq _ _ _ _).mp h
    obtain ⟨e2, e3⟩ := (Prod.mk.injEq _ _ _ _).mp e2
    subst e2 e3
    obtain rfl : mkB u = v := ba_x (by rw [mkB_list]; exact e1)
    simp only [List.length_cons, List.length_nil, List.map_cons, List.map_nil] at HF
    clear hr hn hm hs hnm h hl hfl e1
    go_enter Try.func23, Try.ntmps23
    go_wp2_with (first
      | (go_at_call 30; (with_reducible refine (HF.out).mono ?_); rintro e w1 ⟨hb1, A1, c1, rfl, _, hr1⟩; obtain ⟨b1, o1, rfl, hlt1, hc1⟩ := hr1 (by simp); have d1 : w1.cell? ⟨b1, o1, none⟩ = some (.string (mkB u)) := hc1 0 (by simp); clear hc1)
      | fail)
    go_ret3
    exact ⟨rfl, hb1⟩
  · rw [hl] at h HF hfl
    obtain ⟨e1, e2⟩ := (Prod.mk.injEq _ _ _ _).mp h
    obtain ⟨e2, e3⟩ := (Prod.mk.injEq _ _ _ _).mp e2
    obtain rfl : (⟨#[]⟩ : ByteArray) = v := ba_x (by rw [← e1])
    subst e2 e3
    obtain ⟨m, hmm⟩ : ∃ m, (u :: u2 :: r).length = m := ⟨_, rfl⟩
    rw [hmm] at HF hfl
    have hm2 : 2 ≤ m := by rw [← hmm]; simp
    have g1 : decide ((1 : Int) < (m : Int)) = true := decide_eq_true (by omega)
    have g2 : ((m : Int) == 0) = false := by simp; omega
    have g3 : ((m : Int) == 1) = false := by simp; omega
    clear hr hn hm hs hnm h hl hfl e1 hmm hm2
    go_enter Try.func23, Try.ntmps23
    go_wp2_with (first
      | (go_at_call 30; (with_reducible refine (HF.out).mono ?_); rintro e w1 ⟨hb1, A1, c1, rfl, _, _⟩)
      | fail)
    go_ret3
    exact ⟨rfl, hb1⟩
end Hx
end Go.Proofs.Ytfdhogaknlabkaa
