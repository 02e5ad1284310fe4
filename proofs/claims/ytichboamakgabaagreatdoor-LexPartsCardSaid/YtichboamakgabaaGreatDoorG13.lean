/-
  Texts of one seat, put together: BldK, MapA, EscA, TextP.
-/
import Derived.Test.YtichboamakgabaaGreatDoorG12
import Derived.Test.YtichboamakgabaaGreatDoorG00
import Derived.MapKept
import Derived.Test.YtichboamakgabaaGreatDoorG01
import Derived.Test.YtichboamakgabaaGreatDoorG04
namespace Go.Proofs.YtichboamakgabaaGreatDoor
open Go.RowKit
namespace Hx
set_option linter.unusedVariables false
abbrev OK9 (b : Nat) (w w' : World) : Prop := Lib.OthersKept 5 (some b) w w'
theorem OK9.of_below {b : Nat} {w w' : World} (h : Below w.heap.size w w') : OK9 b w w' := fun k o hk _ _ => (h.block k (Array.getElem?_eq_some_iff.1 hk).1).trans hk
theorem OK9.stay {b g : Nat} {w w' : World} {cs : Array Value} {T : TypeId} {fr : Nat × Nat} (h : OK9 b w w') (hg : w.heap[g]? = some (.cells cs T fr)) (hb : g ≠ b) (hT : T ≠ 5) : w'.heap[g]? = some (.cells cs T fr) :=
  h g _ hg (fun e => hb (Option.some.inj e)) (fun c fz e => by injection e with _ e _; exact hT e)
theorem OK9.iter {b g : Nat} {w w' : World} {s : ByteArray} {p : Nat} (h : OK9 b w w') (hg : w.heap[g]? = some (.stringIter s p)) (hb : g ≠ b) : w'.heap[g]? = some (.stringIter s p) :=
  h g _ hg (fun e => hb (Option.some.inj e)) (fun c fz e => by cases e)
theorem ccheckK (B b : Nat) (bs : List Value) (w : World) (h : Lib.IsBuilderF 54 5 B b bs w) :
    Calls Tryz.prog 60 #[.pointer (some ⟨b, 0, none⟩)] w fun e w' => e = .returned (.tuple #[]) ∧ Lib.BuilderAtF 54 5 B b (.pointer (some ⟨b, 0, none⟩)) bs w' ∧ Below B w w' ∧ OK9 b w w' := by
  rcases h with h | h
  · refine (cc_fresh b w h.cell0 h.shape h.frozen0).mono ?_
    rintro e w' ⟨rfl, rfl⟩
    exact ⟨rfl, h.used _, (Below.refl B w).setCell (p := ⟨b, 0, none⟩) h.1 _, (Lib.OthersKept.refl _ _ _).setCell ⟨b, 0, none⟩ rfl _⟩
  · refine (cc_used b w h.cell0).mono ?_
    rintro e w' ⟨rfl, rfl⟩
    exact ⟨rfl, h, Below.refl B _, Lib.OthersKept.refl _ _ _⟩
set_option maxHeartbeats 2000000 in
set_option maxRecDepth 100000 in
theorem bwbK (B b : Nat) (l : List UInt8) (c : UInt8) (w : World) (h : Bld B b l w) (hl : l.length + 1 ≤ 1000000000) (hBw : B ≤ w.heap.size) :
    Calls Tryz.prog 82 #[.pointer (some ⟨b, 0, none⟩), .int .u8 (c.toNat : Int)] w fun e w' => e = .returned .nilIface ∧ Bld B b (l ++ [c]) w' ∧ Below B w w' ∧ OK9 b w w' := by
  obtain ⟨i0, hi, hz0, hz1, hz2⟩ := info_parts bld_u8
  obtain ⟨z, hz⟩ : ∃ z : Int, (c.toNat : Int) = z := ⟨_, rfl⟩
  obtain ⟨bs, hbs⟩ : ∃ bs, Lib.byteCells l = bs := ⟨_, rfl⟩
  have hbl : bs.length = l.length := by rw [← hbs, bcells_len]
  have HE : Hid (Lib.byteCells (l ++ [c]) = bs ++ [.int .u8 z]) := Lib.hid (by rw [bcells_app, hbs, ← hz]; rfl)
  have h' : Lib.IsBuilderF 54 5 B b bs w := hbs ▸ h
  have hl' : bs.length + 1 ≤ 1000000000 := by omega
  rw [hz]
  clear h hz hbs hbl hl
  go_enter Tryz.func82, Tryz.ntmps82
  go_wp2_with (go_at_call 60; (with_reducible refine (ccheckK B b bs w h').mono ?_))
  rintro e w1 ⟨rfl, h1, hb1, hk1⟩
  obtain ⟨hB, v, hbk, hown, hne⟩ := h1
  have c0 : w1.cell? ⟨b, 0, none⟩ = some (.pointer (some ⟨b, 0, none⟩)) := by rw [Lib.cell_of_heap hbk]; rfl
  have c1 : w1.cell? ⟨b, 1, none⟩ = some v := by rw [Lib.cell_of_heap hbk]; rfl
  go_wp2_with (at_builtin; refine wpList_append_ownF _ rfl _ _ 27 rfl B 5 i0 (.int .u8 0) 1 1 Tryz.underlying27 hi hz0 hz1 hz2 rfl (by decide) _ _ _ rfl (hown.alloc _) ⟨w1.heap.size, 0, none⟩ 1 1 [.int .u8 z] rfl rfl ?c1 ?c2 ?c3 ?c4 ?c5 ?_)
  case c1 =>
    intro j u hj
    match j, hj with
    | 0, hj => simp at hj; subst hj; simp [Addr.add]
  case c2 => intro u hu; simp at hu; subst hu; rfl
  case c3 => unfold maxLen; omega
  case c4 => omega
  case c5 => have := hb1.size; simp; omega
  intro v' w2 hown' hgrow _
  have hlt : b < w1.heap.size := by
    rcases Nat.lt_or_ge b w1.heap.size with h' | h'
    · exact h'
    · simp [Array.getElem?_eq_none h'] at hbk
  have hb2 : w2.heap[b]? = some (.cells #[.pointer (some ⟨b, 0, none⟩), v] 54 (0, 0)) := by
    rw [hgrow.block b (by simp; omega) (fun e => hne e.symm), Lib.alloc_old w1 _ b hlt]
    exact hbk
  have d0 : w2.cell? ⟨b, 0, none⟩ = some (.pointer (some ⟨b, 0, none⟩)) := by rw [Lib.cell_of_heap hb2]; rfl
  have d1 : w2.cell? ⟨b, 1, none⟩ = some v := by rw [Lib.cell_of_heap hb2]; rfl
  have f1 : w2.frozen? ⟨b, 1, none⟩ = false := Lib.frozen_of_heap hb2 1
  obtain ⟨g, cap, rfl⟩ : ∃ g cap, v' = .slice (some ⟨g, 0, none⟩) (bs.length + 1) cap := by
    rcases hown'.2 with ⟨_, h0⟩ | ⟨g, cap, cur, fz, hv, _⟩
    · omega
    · exact ⟨g, cap, hv⟩
  go_wp2
  go_ret
  refine ⟨rfl, ?_, ?_, ?_⟩
  · unfold Bld
    rw [HE.out]
    exact .inr (Lib.BuilderAtF.put (T := 54) (e := 5) hB hb2 (bs' := bs ++ [.int .u8 z]) (by simpa using hown') (by decide))
  · exact ((hb1.alloc (by have := hb1.size; omega) _).grown hgrow (by have := hb1.size; simp; omega) (fun k hk => (hown.lt k hk).1)).setCell (p := ⟨b, 1, none⟩) hB _
  · exact ((hk1.alloc _).grown hgrow (Lib.ownsRowF_kind (hown.alloc _))).setCell ⟨b, 1, none⟩ rfl _
set_option maxHeartbeats 2000000 in
set_option maxRecDepth 100000 in
theorem bwsK (B b : Nat) (l : List UInt8) (x : ByteArray) (w : World) (h : Bld B b l w) (hl : l.length + x.size ≤ 1000000000) (hBw : B ≤ w.heap.size) :
    Calls Tryz.prog 44 #[.pointer (some ⟨b, 0, none⟩), .string x] w fun e w' => e = .returned (.tuple #[.int .i64 x.size, .nilIface]) ∧ Bld B b (l ++ x.data.toList) w' ∧ Below B w w' ∧ OK9 b w w' := by
  obtain ⟨i0, hi, hz0, hz1, hz2⟩ := info_parts bld_u8
  obtain ⟨bs, hbs⟩ : ∃ bs, Lib.byteCells l = bs := ⟨_, rfl⟩
  have hbl : bs.length = l.length := by rw [← hbs, bcells_len]
  have HE : Hid (Lib.byteCells (l ++ x.data.toList) = bs ++ Lib.strCells x) := Lib.hid (by rw [bcells_app, hbs]; rfl)
  have h' : Lib.IsBuilderF 54 5 B b bs w := hbs ▸ h
  have hl' : bs.length + x.size ≤ 1000000000 := by omega
  clear h hbs hbl hl
  go_enter Tryz.func44, Tryz.ntmps44
  go_wp2_with (go_at_call 60; (with_reducible refine (ccheckK B b bs w h').mono ?_))
  rintro e w1 ⟨rfl, h1, hb1, hk1⟩
  obtain ⟨hB, v, hbk, hown, hne⟩ := h1
  have c0 : w1.cell? ⟨b, 0, none⟩ = some (.pointer (some ⟨b, 0, none⟩)) := by rw [Lib.cell_of_heap hbk]; rfl
  have c1 : w1.cell? ⟨b, 1, none⟩ = some v := by rw [Lib.cell_of_heap hbk]; rfl
  go_wp2_with (at_builtin; refine Lib.wpList_append_own_stringF _ rfl _ _ 27 9 rfl B 5 i0 Tryz.underlying27 Tryz.underlying9 hi hz0 hz1 hz2 _ _ _ rfl hown x rfl ?c3 ?c4 ?c5 ?_)
  case c3 => unfold maxLen; omega
  case c4 => omega
  case c5 => have := hb1.size; omega
  intro v' w2 hown' hgrow _
  have hlt : b < w1.heap.size := by
    rcases Nat.lt_or_ge b w1.heap.size with h' | h'
    · exact h'
    · simp [Array.getElem?_eq_none h'] at hbk
  have hb2 : w2.heap[b]? = some (.cells #[.pointer (some ⟨b, 0, none⟩), v] 54 (0, 0)) := by
    rw [hgrow.block b hlt (fun e => hne e.symm)]
    exact hbk
  have d0 : w2.cell? ⟨b, 0, none⟩ = some (.pointer (some ⟨b, 0, none⟩)) := by rw [Lib.cell_of_heap hb2]; rfl
  have d1 : w2.cell? ⟨b, 1, none⟩ = some v := by rw [Lib.cell_of_heap hb2]; rfl
  have f1 : w2.frozen? ⟨b, 1, none⟩ = false := Lib.frozen_of_heap hb2 1
  obtain ⟨ao, n', cap, rfl⟩ : ∃ ao n' cap, v' = .slice ao n' cap := by
    rcases hown'.2 with ⟨hv, _⟩ | ⟨g, cap, cur, fz, hv, _⟩
    · exact ⟨_, _, _, hv⟩
    · exact ⟨_, _, _, hv⟩
  go_wp2
  go_ret2
  refine ⟨rfl, ?_, ?_, ?_⟩
  · unfold Bld
    rw [HE.out]
    exact .inr (Lib.BuilderAtF.put (T := 54) (e := 5) hB hb2 (bs' := bs ++ Lib.strCells x) (by simpa [Lib.strCells_length] using hown') (by decide))
  · exact (hb1.grown hgrow (by have := hb1.size; omega) (fun k hk => (hown.lt k hk).1)).setCell (p := ⟨b, 1, none⟩) hB _
  · exact (hk1.grown hgrow (Lib.ownsRowF_kind hown)).setCell ⟨b, 1, none⟩ rfl _
/-- What a writer leaves. -/
abbrev Wrote (B b : Nat) (l : List UInt8) (w w' : World) : Prop := Bld B b l w' ∧ Below B w w' ∧ OK9 b w w'
theorem Wrote.trans {B b : Nat} {l m : List UInt8} {w w1 w2 : World} (h : Wrote B b l w w1) (k : Wrote B b m w1 w2) : Wrote B b m w w2 := ⟨k.1, h.2.1.trans k.2.1, h.2.2.trans k.2.2⟩
theorem Wrote.size {B b : Nat} {l : List UInt8} {w w1 : World} (h : Wrote B b l w w1) : w.heap.size ≤ w1.heap.size := h.2.1.size
theorem Wrote.of_below {B b : Nat} {l : List UInt8} {w w1 w2 : World} (h : Wrote B b l w w1) (k : Below w1.heap.size w1 w2) (hB : B ≤ w.heap.size) : Wrote B b l w w2 :=
  ⟨h.1.below k, h.2.1.trans (k.mono (Nat.le_trans hB h.size)), h.2.2.trans (OK9.of_below k)⟩
theorem bwsL (B b : Nat) (l L : List UInt8) (x : ByteArray) (w : World) (h : Bld B b l w) (hL : l ++ x.data.toList = L) (hl : L.length ≤ 1000000000) (hBw : B ≤ w.heap.size) :
    Calls Tryz.prog 44 #[.pointer (some ⟨b, 0, none⟩), .string x] w fun e w' => (∃ n : Int, e = .returned (.tuple #[.int .i64 n, .nilIface])) ∧ Wrote B b L w w' := by
  subst hL
  refine (bwsK B b l x w h ?_ hBw).mono fun e w' ⟨h1, h2, h3, h4⟩ => ⟨⟨_, h1⟩, h2, h3, h4⟩
  rw [List.length_append] at hl
  have : x.data.toList.length = x.size := by cases x; simp [ByteArray.size]
  omega
end Hx
end Go.Proofs.YtichboamakgabaaGreatDoor
namespace Go.Proofs.YtichboamakgabaaGreatDoor
open Go.RowKit
namespace Hx
set_option linter.unusedVariables false
theorem kept_at {w w' : World} {B M : Nat} {o : Obj} (h : w.heap[M]? = some o) (hb : Below B w w') (hM : M < B) : w'.heap[M]? = some o := (hb.block M hM).trans h
theorem bel_in {w w' w0 : World} {B n : Nat} (h0 : Below n w0 w) (h : Below B w w') (hn : n ≤ B) : Below n w0 w' := h0.trans (h.mono hn)
theorem push_set (w : World) (x y : Obj) : ({ w.alloc x with heap := (w.alloc x).heap.setIfInBounds w.heap.size y } : World) = w.alloc y := by
  have h : (w.heap.push x).setIfInBounds w.heap.size y = w.heap.push y := by
    apply Array.ext_getElem?
    intro i
    rw [Array.getElem?_setIfInBounds, Array.getElem?_push, Array.getElem?_push]
    by_cases e : i = w.heap.size
    · subst e; simp
    · rw [if_neg (fun h => e h.symm), if_neg e, if_neg e]
  show ({ w with heap := (w.heap.push x).setIfInBounds w.heap.size y } : World) = { w with heap := w.heap.push y }
  rw [h]
/-- A new entry in a map that lies in the last block. -/
theorem run_ins {P : Program} {w : World} {t k e : TypeId} {kd : TypeDesc} {es : Array MapEntry} {n : Nat} {key val : Value}
    (ht : P.underlying t = some (.map k e)) (hk : P.underlying k = some kd) (hkd : MapKept.IsKey kd key) (hf : Instr.findNow kd key es.toList 0 = some none) :
    (Instr.mapUpdate t (.map (some w.heap.size)) key val).run P (w.alloc (.map es n)) = .ok () (w.alloc (.map (es.push ⟨key, val, n⟩) (n + 1))) := by
  have hb : (w.alloc (.map es n)).heap[w.heap.size]? = some (.map es n) := heap_alloc_new w _
  have hc := MapKept.run_checkKey (w := w.alloc (.map es n)) hk hkd false 9999
  have hfk : (Instr.findKey k key es.toList).run P (w.alloc (.map es n)) = .ok none (w.alloc (.map es n)) := by
    simp [Instr.findKey, run_underlying hk, hf, Result.andThen]
  simp [Instr.mapUpdate, run_underlying ht, MapKept.run_getObj_map hb, hc, hfk, MapKept.run_setObj_map _ hb, Result.andThen]
  exact push_set w _ _
theorem run_ins_at {P : Program} {w : World} {t k e : TypeId} {kd : TypeDesc} {es : Array MapEntry} {n b : Nat} {key val : Value} (hb : w.heap.size = b)
    (ht : P.underlying t = some (.map k e)) (hk : P.underlying k = some kd) (hkd : MapKept.IsKey kd key) (hf : Instr.findNow kd key es.toList 0 = some none) :
    (Instr.mapUpdate t (.map (some b)) key val).run P (w.alloc (.map es n)) = .ok () (w.alloc (.map (es.push ⟨key, val, n⟩) (n + 1))) := by
  subst hb
  exact run_ins ht hk hkd hf
/-- What a look answers. -/
def lookV (z : Value) : Option (Nat × Value) → Value
  | some (_, v) => .tuple #[v, .bool true]
  | none => .tuple #[z, .bool false]
theorem run_look {P : Program} {w : World} {t k e : TypeId} {kd : TypeDesc} {b : Nat} {es : Array MapEntry} {n : Nat} {key z : Value} {r : Option (Nat × Value)}
    (ht : P.underlying t = some (.map k e)) (hk : P.underlying k = some kd) (hkd : MapKept.IsKey kd key) (hb : w.heap[b]? = some (.map es n)) (he : es.isEmpty = false)
    (hz : (zeroValue e).run P w = .ok z w) (hf : Instr.findNow kd key es.toList 0 = some r) :
    (Instr.lookup t (.map (some b)) key true).run P w = .ok (lookV z r) w := by
  have hc := MapKept.run_checkKey (w := w) hk hkd es.isEmpty 9999
  have hfk : (Instr.findKey k key es.toList).run P w = .ok r w := by
    simp [Instr.findKey, run_underlying hk, hf, Result.andThen]
  cases r with
  | none => simp [Instr.lookup, run_underlying ht, MapKept.run_getObj_map hb, hc, hfk, hz, Result.andThen, lookV]
  | some p => simp [Instr.lookup, run_underlying ht, MapKept.run_getObj_map hb, hc, hfk, Result.andThen, lookV]
/-- .. at the operation. -/
theorem wpList_ins {P : Program} {w : World} {ops : Array Oper} {rest : List Oper} {o : Oper} {a : Act} {Q : Exit → Act → World → Prop}
    (hg : o.guard = none) (m x v : Operand) (t : TypeId) (hop : o.op = Op.insert t m x v) {w' : World} {mv kv vv : Value} (hm : a.eval m = mv) (hx : a.eval x = kv) (hv : a.eval v = vv)
    (hrun : (Instr.mapUpdate t mv kv vv).run P w = .ok () w') (hK : wpList P ops Q rest (a.put o.dst undef) w') : wpList P ops Q (o :: rest) a w := by
  refine wpList_plain hg fun K' hK' => ?_
  unfold Oper.wp
  simp [execOp, hop, hm, hx, hv, hrun, Result.andThen]
  exact hK' _ _ hK
theorem wpList_look {P : Program} {w : World} {ops : Array Oper} {rest : List Oper} {o : Oper} {a : Act} {Q : Exit → Act → World → Prop}
    (hg : o.guard = none) (m x : Operand) (t : TypeId) (hop : o.op = Op.lookup t m x true) {mv kv v : Value} (hm : a.eval m = mv) (hx : a.eval x = kv)
    (hrun : (Instr.lookup t mv kv true).run P w = .ok v w) (hK : wpList P ops Q rest (a.put o.dst v) w) : wpList P ops Q (o :: rest) a w := by
  refine wpList_plain hg fun K' hK' => ?_
  unfold Oper.wp
  simp [execOp, hop, hm, hx, hrun, Result.andThen]
  exact hK' _ _ hK
end Hx
end Go.Proofs.YtichboamakgabaaGreatDoor
namespace Go.Proofs.YtichboamakgabaaGreatDoor
open Go.RowKit
namespace Hx
open Tx Nmb Es
set_option linter.unusedVariables false
/-- What is written for a byte: the reference; whether just where it is quoted. -/
def sgV (l : List UInt8) (q : Bool) : Value := .agg #[.string ⟨l.toArray⟩, .bool q]
def sgK (c : Int) : Value := .int .u8 c
def SG : Array MapEntry := #[⟨sgK 38, sgV [38, 97, 109, 112, 59] false, 0⟩, ⟨sgK 60, sgV [38, 108, 116, 59] false, 1⟩, ⟨sgK 62, sgV [38, 103, 116, 59] false, 2⟩, ⟨sgK 13, sgV [38, 35, 49, 51, 59] false, 3⟩,
  ⟨sgK 34, sgV [38, 113, 117, 111, 116, 59] true, 4⟩, ⟨sgK 9, sgV [38, 35, 57, 59] true, 5⟩, ⟨sgK 10, sgV [38, 35, 49, 48, 59] true, 6⟩]
theorem u8_key (c : Int) : MapKept.IsKey (.int .u8) (.int .u8 c) := by simp [MapKept.IsKey]
set_option maxRecDepth 100000 in
theorem signs8 (w : World) :
    Calls Tryz.prog 81 #[] w fun e w' => e = .returned (.map (some w.heap.size)) ∧ w' = w.alloc (.map SG 7) := by
  have hmm := @run_makeMap Tryz.prog
  go_enter Tryz.func81, Tryz.ntmps81
  go_wp2_with (refine wpList_ins rfl _ _ _ _ rfl rfl rfl rfl (run_ins (w := w) Tryz.underlying104 Tryz.underlying5 (u8_key _) rfl) ?_)
  go_ret
  exact ⟨rfl, rfl⟩
/-- What the map tells of a byte: which reference, whether just where it is quoted, whether any. -/
def sgT (c : UInt8) : ByteArray × Bool × Bool :=
  if c = 38 then (⟨#[38, 97, 109, 112, 59]⟩, false, true) else if c = 60 then (⟨#[38, 108, 116, 59]⟩, false, true) else if c = 62 then (⟨#[38, 103, 116, 59]⟩, false, true) else if c = 13 then (⟨#[38, 35, 49, 51, 59]⟩, false, true)
  else if c = 34 then (⟨#[38, 113, 117, 111, 116, 59]⟩, true, true) else if c = 9 then (⟨#[38, 35, 57, 59]⟩, true, true) else if c = 10 then (⟨#[38, 35, 49, 48, 59]⟩, true, true) else (⟨#[]⟩, false, false)
theorem sgT_escb (c : UInt8) (q : Bool) : escb q c = if (sgT c).2.2 && (q || !(sgT c).2.1) then (sgT c).1.data.toList else [c] := by
  cases q
  · exact u8_every (fun c => escb false c = if (sgT c).2.2 && (false || !(sgT c).2.1) then (sgT c).1.data.toList else [c]) (by decide +kernel) c
  · exact u8_every (fun c => escb true c = if (sgT c).2.2 && (true || !(sgT c).2.1) then (sgT c).1.data.toList else [c]) (by decide +kernel) c
def sgF (c : UInt8) : Option (Nat × Value) :=
  if c = 38 then some (0, sgV [38, 97, 109, 112, 59] false) else if c = 60 then some (1, sgV [38, 108, 116, 59] false) else if c = 62 then some (2, sgV [38, 103, 116, 59] false) else if c = 13 then some (3, sgV [38, 35, 49, 51, 59] false)
  else if c = 34 then some (4, sgV [38, 113, 117, 111, 116, 59] true) else if c = 9 then some (5, sgV [38, 35, 57, 59] true) else if c = 10 then some (6, sgV [38, 35, 49, 48, 59] true) else none
theorem int_beq (c : UInt8) (n : Nat) (hn : n < 256) : ((c.toNat : Int) == (n : Int)) = decide (c = UInt8.ofNat n) := by
  rw [Bool.eq_iff_iff, beq_iff_eq, decide_eq_true_eq]
  constructor
  · intro h
    have h : c.toNat = n := by omega
    apply UInt8.toNat_inj.1
    rw [h]
    simp
    omega
  · intro h
    rw [h]
    simp
    omega
theorem sg_one (c : UInt8) (n : Nat) (hn : n < 256) (v : Value) (b : Nat) (l : List MapEntry) (i : Nat) :
    Instr.findNow (.int .u8) (.int .u8 (c.toNat : Int)) (⟨sgK n, v, b⟩ :: l) i = if c = UInt8.ofNat n then some (some (i, v)) else Instr.findNow (.int .u8) (.int .u8 (c.toNat : Int)) l (i + 1) := by
  rw [Instr.findNow]
  show (match (if IntKind.u8 = IntKind.u8 then some ((c.toNat : Int) == (n : Int)) else none) with | some true => _ | some false => _ | none => _) = _
  rw [if_pos rfl, int_beq c n hn]
  by_cases h : c = UInt8.ofNat n
  · rw [if_pos h, decide_eq_true h]
  · rw [if_neg h, decide_eq_false h]
theorem sg_find (c : UInt8) : Instr.findNow (.int .u8) (.int .u8 (c.toNat : Int)) SG.toList 0 = some (sgF c) := by
  show Instr.findNow (.int .u8) (.int .u8 (c.toNat : Int)) [⟨sgK (38 : Nat), _, 0⟩, ⟨sgK (60 : Nat), _, 1⟩, ⟨sgK (62 : Nat), _, 2⟩, ⟨sgK (13 : Nat), _, 3⟩, ⟨sgK (34 : Nat), _, 4⟩, ⟨sgK (9 : Nat), _, 5⟩, ⟨sgK (10 : Nat), _, 6⟩] 0 = _
  rw [sg_one c 38 (by decide), sg_one c 60 (by decide), sg_one c 62 (by decide), sg_one c 13 (by decide), sg_one c 34 (by decide), sg_one c 9 (by decide), sg_one c 10 (by decide)]
  unfold sgF
  show (if c = 38 then _ else if c = 60 then _ else if c = 62 then _ else if c = 13 then _ else if c = 34 then _ else if c = 9 then _ else if c = 10 then _ else _) = _
  split
  · rfl
  split
  · rfl
  split
  · rfl
  split
  · rfl
  split
  · rfl
  split
  · rfl
  split
  · rfl
  · rfl
theorem sgF_T (c : UInt8) : lookV (sgV [] false) (sgF c) = .tuple #[.agg #[.string (sgT c).1, .bool (sgT c).2.1], .bool (sgT c).2.2] := by
  unfold sgF sgT
  split
  · rfl
  split
  · rfl
  split
  · rfl
  split
  · rfl
  split
  · rfl
  split
  · rfl
  split
  · rfl
  · rfl
theorem zero_sign (w : World) : (zeroValue 107).run Tryz.prog w = .ok (sgV [] false) w := by kernel_rfl
theorem look8 (c : UInt8) (w : World) (b : Nat) (hb : w.heap[b]? = some (.map SG 7)) :
    (Instr.lookup 104 (.map (some b)) (.int .u8 (c.toNat : Int)) true).run Tryz.prog w = .ok (.tuple #[.agg #[.string (sgT c).1, .bool (sgT c).2.1], .bool (sgT c).2.2]) w := by
  rw [run_look Tryz.underlying104 Tryz.underlying5 (u8_key _) hb rfl (zero_sign w) (sg_find c), sgF_T]
end Hx
end Go.Proofs.YtichboamakgabaaGreatDoor
namespace Go.Proofs.YtichboamakgabaaGreatDoor
open Go.RowKit
namespace Hx
open Tx
set_option linter.unusedVariables false
set_option maxHeartbeats 1000000 in
set_option maxRecDepth 100000 in
/-- text.May. -/
theorem may5w (n : Int) (b : Bool) (w : World) (hb : may n = b) :
    Calls Tryz.prog 51 #[.int .i64 n] w fun e w' => e = .returned (.bool b) ∧ w = w' := by
  by_cases a : n = 9
  · subst a
    obtain rfl : true = b := hb
    go_enter Tryz.func51, Tryz.ntmps51
    go_wp2
    go_ret
    exact ⟨rfl, rfl⟩
  have q1 : (n == 9) = false := by simpa using a
  by_cases a2 : n = 10
  · subst a2
    obtain rfl : true = b := hb
    go_enter Tryz.func51, Tryz.ntmps51
    go_wp2
    go_ret
    exact ⟨rfl, rfl⟩
  have q2 : (n == 10) = false := by simpa using a2
  by_cases a3 : n = 13
  · subst a3
    obtain rfl : true = b := hb
    go_enter Tryz.func51, Tryz.ntmps51
    go_wp2
    go_ret
    exact ⟨rfl, rfl⟩
  have q3 : (n == 13) = false := by simpa using a3
  by_cases a6 : n = 65534
  · subst a6
    obtain rfl : false = b := hb
    go_enter Tryz.func51, Tryz.ntmps51
    go_wp2
    go_ret
    exact ⟨rfl, rfl⟩
  have q6 : (n == 65534) = false := by simpa using a6
  by_cases a7 : n = 65535
  · subst a7
    obtain rfl : false = b := hb
    go_enter Tryz.func51, Tryz.ntmps51
    go_wp2
    go_ret
    exact ⟨rfl, rfl⟩
  have q7 : (n == 65535) = false := by simpa using a7
  by_cases a4 : 55296 ≤ n
  · have d4 : decide (55296 ≤ n) = true := by simpa using a4
    have d8 : decide (32 ≤ n) = true := by simp; omega
    by_cases a5 : n ≤ 57343
    · have d5 : decide (n ≤ 57343) = true := by simpa using a5
      obtain rfl : false = b := by
        rw [← hb, may_high (by omega)]
        have e1 : decide (n < 55296) = false := by simp; omega
        have e2 : decide (57343 < n) = false := by simp; omega
        rw [e1, e2]; simp
      clear hb a4 a5
      go_enter Tryz.func51, Tryz.ntmps51
      go_wp2
      go_ret
      exact ⟨rfl, rfl⟩
    · have d5 : decide (n ≤ 57343) = false := by simpa using a5
      have hb2 : decide (n ≤ 1114111) = b := by
        rw [← hb, may_high (by omega)]
        have e1 : decide (n < 55296) = false := by simp; omega
        have e2 : decide (57343 < n) = true := by simp; omega
        rw [e1, e2]; simp [a6, a7]
      clear hb a4 a5 a a2 a3 a6 a7
      go_enter Tryz.func51, Tryz.ntmps51
      go_wp2
      go_ret
      exact ⟨rfl, rfl⟩
  · have d4 : decide (55296 ≤ n) = false := by simpa using a4
    by_cases a8 : 32 ≤ n
    · have d8 : decide (32 ≤ n) = true := by simpa using a8
      have d9 : decide (n ≤ 1114111) = true := by simp; omega
      obtain rfl : true = b := by
        rw [← hb, may_high (by omega), d9]
        have e1 : decide (n < 55296) = true := by simp; omega
        rw [e1]; simp [a6, a7]
      clear hb a4 a8 a a2 a3 a6 a7
      go_enter Tryz.func51, Tryz.ntmps51
      go_wp2
      go_ret
      exact ⟨rfl, rfl⟩
    · have d8 : decide (32 ≤ n) = false := by simpa using a8
      obtain rfl : false = b := by
        rw [← hb, may_low (by omega)]
        simp [a, a2, a3]
      clear hb a4 a8 a a2 a3 a6 a7
      go_enter Tryz.func51, Tryz.ntmps51
      go_wp2
      go_ret
      exact ⟨rfl, rfl⟩
theorem may5 (n : Int) (b : Bool) (w : World) (hb : may n = b) : Calls Tryz.prog 51 #[.int .i64 n] w fun e w' => e = .returned (.bool b) ∧ Below w.heap.size w w' :=
  (may5w n b w hb).mono fun e w' ⟨h1, h2⟩ => ⟨h1, by subst h2; exact Below.refl _ _⟩
set_option maxHeartbeats 1000000 in
set_option maxRecDepth 100000 in
/-- strings.HasPrefix, of a prefix that is there, or not. -/
theorem slpre (s p : ByteArray) (q : Bool) (w : World) (hq : (decide (p.size ≤ s.size) && decide ((s.extract 0 p.size) = p)) = q) :
    Calls Tryz.prog 69 #[.string s, .string p] w fun e w' => e = .returned (.bool q) ∧ w = w' := by
  by_cases h : p.size ≤ s.size
  · have d0 : decide ((p.size : Int) ≤ (s.size : Int)) = true := by simp; omega
    have e : ((s.extract 0 p.size).toList == p.toList) = q := by rw [seq_b5, ← hq]; simp [h]
    clear hq
    go_enter Tryz.func69, Tryz.ntmps69
    go_wp2
    go_ret
    exact ⟨rfl, rfl⟩
  · have d0 : decide ((p.size : Int) ≤ (s.size : Int)) = false := by simp; omega
    obtain rfl : false = q := by rw [← hq]; simp [h]
    clear hq
    go_enter Tryz.func69, Tryz.ntmps69
    go_wp2
    go_ret
    exact ⟨rfl, rfl⟩
set_option maxRecDepth 100000 in
theorem pre5 (s p : ByteArray) (q : Bool) (w : World) (hq : (decide (p.size ≤ s.size) && decide ((s.extract 0 p.size) = p)) = q) :
    Calls Tryz.prog 50 #[.string s, .string p] w fun e w' => e = .returned (.bool q) ∧ w = w' := by
  have HQ := Lib.hid hq
  clear hq
  go_enter Tryz.func50, Tryz.ntmps50
  go_wp2_with (go_at_call 69; (with_reducible refine (slpre s p q w HQ.out).mono ?_); rintro e w1 ⟨rfl, rfl⟩)
  go_ret
  exact ⟨rfl, rfl⟩
/-- The bytes of the code point that stands for none. -/
def stnd : ByteArray := ⟨#[239, 191, 189]⟩
theorem enc_stnd : enc 65533 = [239, 191, 189] := by decide +kernel
theorem extract_take (s : ByteArray) (n : Nat) : s.extract 0 n = ⟨(s.data.toList.take n).toArray⟩ := by
  have := ByteArray.extract_mk s.data.toList 0 n
  rw [← ba_eq5] at this
  rw [this]
  simp
theorem stnd_pre (l : List UInt8) : (decide (stnd.size ≤ (⟨l.toArray⟩ : ByteArray).size) && decide (((⟨l.toArray⟩ : ByteArray).extract 0 stnd.size) = stnd)) = decide (l.take 3 = [239, 191, 189]) := by
  rw [extract_take]
  show (decide (3 ≤ l.length) && decide ((⟨(l.take 3).toArray⟩ : ByteArray) = ⟨#[239, 191, 189]⟩)) = _
  rw [Bool.eq_iff_iff]
  simp only [Bool.and_eq_true, decide_eq_true_eq]
  constructor
  · rintro ⟨_, h⟩
    have := congrArg (fun x : ByteArray => x.data.toList) h
    simpa using this
  · intro h
    refine ⟨?_, by rw [h]⟩
    have := congrArg List.length h
    rw [List.length_take] at this
    simp at this
    omega
/-- The rune that a range tells of bytes. -/
def runeL (l : List UInt8) : Nat := match decL l with | some p => p.1 | none => 65533
theorem dec_stnd (l : List UInt8) : l.take 3 = [239, 191, 189] ↔ decL l = some (65533, 3) := by
  constructor
  · intro h
    have e : l = enc 65533 ++ l.drop 3 := by rw [enc_stnd, ← h, List.take_append_drop]
    rw [e, dec_enc 65533 (by decide), enc_stnd]
    rfl
  · intro h
    obtain ⟨_, _, r, e⟩ := dec_sound l _ _ h
    rw [e, enc_stnd]
    rfl
theorem runeL_le (l : List UInt8) : runeL l ≤ 1114111 := by
  unfold runeL
  cases h : decL l with
  | none => simp
  | some p =>
    obtain ⟨p, k⟩ := p
    exact sv_le (dec_sound l _ _ h).1
theorem one_rune (l : List UInt8) : (one l).isSome = if runeL l = 65533 then decide (l.take 3 = [239, 191, 189]) else may (runeL l) := by
  unfold runeL one
  cases h : decL l with
  | none =>
    have : ¬ l.take 3 = [239, 191, 189] := by rw [dec_stnd, h]; simp
    simp [this]
  | some p =>
    obtain ⟨p, k⟩ := p
    simp only
    by_cases hp : p = 65533
    · subst hp
      have hs := (dec_sound l _ _ h).2.1
      rw [enc_stnd] at hs
      obtain rfl : k = 3 := hs
      rw [if_pos rfl, decide_eq_true ((dec_stnd l).2 h)]
      decide
    · rw [if_neg hp]
      cases hm : may p <;> simp [hm]
set_option maxHeartbeats 1000000 in
set_option maxRecDepth 100000 in
/-- text.begins. -/
theorem begins5 (l : List UInt8) (s : ByteArray) (c : Nat) (b : Bool) (w : World) (hs : s = ⟨l.toArray⟩) (hc : runeL l = c) (hb : (one l).isSome = b) :
    Calls Tryz.prog 37 #[.string s, .int .i32 c] w fun e w' => e = .returned (.bool b) ∧ w = w' := by
  have hle := runeL_le l
  rw [one_rune, hc] at hb
  rw [hc] at hle
  have g1 : IntKind.i64.wrap (c : Int) = (c : Int) := IntWalk.i64_in _ (by omega)
  have hpre := stnd_pre l
  rw [← hs] at hpre
  by_cases h : c = 65533
  · rw [if_pos h] at hb
    rw [hb] at hpre
    have HP : Hid (∀ W : World, Calls Tryz.prog 50 #[.string s, .string ⟨#[239, 191, 189]⟩] W fun e w' => e = .returned (.bool b) ∧ W = w') := fun W => pre5 s stnd b W hpre
    subst h
    clear hle hc hb hs hpre
    cases b
    · go_enter Tryz.func37, Tryz.ntmps37
      go_wp2_with (go_at_call 50; (with_reducible refine (HP.out _).mono ?_); rintro e w1 ⟨rfl, rfl⟩)
      go_ret
      exact ⟨rfl, rfl⟩
    · go_enter Tryz.func37, Tryz.ntmps37
      go_wp2_with (first
        | (go_at_call 50; (with_reducible refine (HP.out _).mono ?_); rintro e w1 ⟨rfl, rfl⟩)
        | (go_at_call 51; (with_reducible refine (may5w 65533 true w rfl).mono ?_); rintro e w1 ⟨rfl, rfl⟩)
        | fail)
      go_ret
      exact ⟨rfl, rfl⟩
  · rw [if_neg h] at hb
    have d0 : ((c : Int) == 65533) = false := by simp; omega
    have HB := Lib.hid hb
    clear hle hc hb hs hpre h
    go_enter Tryz.func37, Tryz.ntmps37
    go_wp2_with (first
      | (go_at_call 51; (with_reducible refine (may5w c b w HB.out).mono ?_); rintro e w1 ⟨rfl, rfl⟩)
      | fail)
    go_ret
    exact ⟨rfl, rfl⟩
theorem i64_and63 (n : Int) : bits .and .i64 n 63 = n % 64 := by
  have h63 : (BitVec.ofInt 64 63).toNat = 2 ^ 6 - 1 := by decide
  have key : (BitVec.ofInt 64 n &&& BitVec.ofInt 64 63).toNat = (n % ((2 ^ 64 : Nat) : Int)).toNat % 2 ^ 6 := by
    rw [BitVec.toNat_and, BitVec.toNat_ofInt, h63, Nat.and_two_pow_sub_one_eq_mod]
  show IntKind.i64.wrap ((BitVec.ofInt 64 n &&& BitVec.ofInt 64 63).toNat : Nat) = n % 64
  rw [key, IntKind.wrap_i64]
  omega
set_option maxHeartbeats 1000000 in
set_option maxRecDepth 100000 in
/-- text.six. -/
theorem sixT (n : Nat) (b : UInt8) (w : World) (hn : n ≤ 1114111) (hb : bt (128 + n % 64) = b) :
    Calls Tryz.prog 115 #[.int .i64 n] w fun e w' => e = .returned (.int .u8 b.toNat) ∧ w = w' := by
  have hbn : b.toNat = 128 + n % 64 := by rw [← hb, bt_nat _ (by omega)]
  have ha := i64_and63 (n : Int)
  obtain ⟨q, hq⟩ : ∃ q : Nat, n % 64 = q := ⟨_, rfl⟩
  have ha2 : bits .and .i64 (n : Int) 63 = (q : Int) := by rw [ha]; omega
  have g1 : IntKind.u8.wrap (q : Int) = (q : Int) := IntWalk.u8_in _ (by omega)
  have g2 : IntKind.u8.wrap (128 + (q : Int)) = (b.toNat : Int) := by rw [IntWalk.u8_in _ (by omega)]; omega
  clear ha hq hbn hb
  go_enter Tryz.func115, Tryz.ntmps115
  go_wp2
  go_ret
  exact ⟨rfl, rfl⟩
end Hx
end Go.Proofs.YtichboamakgabaaGreatDoor
