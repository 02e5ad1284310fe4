/-
  Package line as it landed: what two readers tell of a text's two parts.
-/
import Derived.Test.YtagngohemlkkoaaDoorLinB
import Derived.Test.YtagngohemlkkoaaDoorMemV
import Derived.Deep.RegionWith
import Derived.Deep.Cut
import Derived.Tactics
import Derived.Tactics2
import Derived.Defers
namespace Go.Proofs.YtagngohemlkkoaaDoor
open Go.RowKit
namespace Hx
open As Ln Nmb
set_option linter.unusedVariables false
/-- The three variables that are told. -/
structure St (B : Nat) (V : World) (co : Array Value) (to : TypeId) (ct : Array Value) (tt : TypeId) (q : Int) : Prop where
  o : V.heap[B]? = some (.cells co to (0, 0))
  t : V.heap[B + 1]? = some (.cells ct tt (0, 0))
  e : V.heap[B + 1 + 1]? = some (.cells #[.int .i64 q] 24 (0, 0))
variable {B : Nat} {V W : World} {co ct : Array Value} {to tt : TypeId} {q : Int}
theorem St.kept (h : St B V co to ct tt q) (hb : Below V.heap.size V W) : St B W co to ct tt q := ⟨kept_heap h.o hb, kept_heap h.t hb, kept_heap h.e hb⟩
theorem St.alloc (h : St B V co to ct tt q) (x : Obj) : St B (V.alloc x) co to ct tt q := h.kept (stpA (Below.refl _ _) _)
theorem St.drew (h : St B V co to ct tt q) : St B V.drew co to ct tt q := ⟨h.o, h.t, h.e⟩
theorem St.setO (h : St B V co to ct tt q) (i : Nat) (v : Value) : St B (V.setCell ⟨B, i, none⟩ v) (co.setIfInBounds i v) to ct tt q :=
  ⟨heap_setCell_same V B i _ _ v h.o, (heap_setCell_other _ _ _ _ (by simp)).trans h.t, (heap_setCell_other _ _ _ _ (by simp; omega)).trans h.e⟩
theorem St.setT (h : St B V co to ct tt q) (i : Nat) (v : Value) : St B (V.setCell ⟨B + 1, i, none⟩ v) co to (ct.setIfInBounds i v) tt q :=
  ⟨(heap_setCell_other _ _ _ _ (by simp)).trans h.o, heap_setCell_same V (B + 1) i _ _ v h.t, (heap_setCell_other _ _ _ _ (by simp)).trans h.e⟩
theorem St.setE (h : St B V co to ct tt q) (p : Int) : St B (V.setCell ⟨B + 1 + 1, 0, none⟩ (.int .i64 p)) co to ct tt p :=
  ⟨(heap_setCell_other _ _ _ _ (by simp; omega)).trans h.o, (heap_setCell_other _ _ _ _ (by simp)).trans h.t, heap_setCell_same V (B + 1 + 1) 0 _ _ _ h.e⟩
theorem St.rowT (h : St B V co to ct tt q) (cs : Array Value) : St B (V.setRow (B + 1) cs) co to cs tt q :=
  ⟨(setRow_other _ _ _ _ (by omega)).trans h.o, setRow_heap _ _ _ _ _ _ h.t, (setRow_other _ _ _ _ (by omega)).trans h.e⟩
theorem St.cellO (h : St B V co to ct tt q) (i : Nat) (v : Value) (hv : co[i]? = some v) : V.cell? ⟨B, i, none⟩ = some v := cell_of_row V B i _ _ _ h.o |>.trans hv
theorem opn3 (w : World) (a t e : Obj) : ∃ W, (((w.alloc a).alloc t).alloc e) = W ∧ W.heap[w.heap.size]? = some a ∧ W.heap[w.heap.size + 1]? = some t ∧ W.heap[w.heap.size + 1 + 1]? = some e ∧ Below w.heap.size w W := by
  have k : ∀ (x : World) (o : Obj), Below x.heap.size x (x.alloc o) := fun x o => stpA (Below.refl _ _) _
  have r1 := heap_alloc_new w a
  have r2 := heap_alloc_new (w.alloc a) t
  have r3 := heap_alloc_new ((w.alloc a).alloc t) e
  rw [World.size_alloc] at r2 r3
  rw [World.size_alloc] at r3
  exact ⟨_, rfl, kept_heap (kept_heap r1 (k _ _)) (k _ _), kept_heap r2 (k _ _), r3, stp (stp (k w a) (k _ _)) (k _ _)⟩
set_option maxHeartbeats 4000000 in
set_option maxRecDepth 100000 in
theorem zno_ii (vo x0 : Value) (u : FrameMode) (w : World) (h : St B w #[vo] 3 #[x0] 3 0) :
    CallsD Tryd.prog 59 #[.pointer (some ⟨B + 1 + 1, 0, none⟩), .pointer (some ⟨B, 0, none⟩), .pointer (some ⟨B + 1, 0, none⟩)] u w fun e u' w' => u' = u ∧ (e = .returned (.tuple #[]) ∧ w = w') := by
  have c10 : w.cell? ⟨B + 1 + 1, 0, none⟩ = some (.int .i64 0) := cell_of_row _ _ 0 _ _ _ h.e
  clear h
  go_enter_d Tryd.func59, Tryd.ntmps59
  go_wp2
  go_end0
  exact ⟨rfl, rfl⟩
set_option maxHeartbeats 4000000 in
set_option maxRecDepth 100000 in
theorem zyes_ii (vo x0 : Value) (u : FrameMode) (w : World) (h : St B w #[vo] 3 #[x0] 3 150) :
    CallsD Tryd.prog 59 #[.pointer (some ⟨B + 1 + 1, 0, none⟩), .pointer (some ⟨B, 0, none⟩), .pointer (some ⟨B + 1, 0, none⟩)] u w fun e u' w' => u' = u ∧ (e = .returned (.tuple #[]) ∧ St B w' #[.int .i64 0] 3 #[.int .i64 0] 3 150 ∧ Below B w w') := by
  have H := h
  have c8 : w.cell? ⟨B, 0, none⟩ = some (vo) := cell_of_row _ _ 0 _ _ _ H.o
  have f8 : w.frozen? ⟨B, 0, none⟩ = false := frozen_of_row _ _ 0 _ _ H.o
  have c90 : w.cell? ⟨B + 1, 0, none⟩ = some (x0) := cell_of_row _ _ 0 _ _ _ H.t
  have f90 : w.frozen? ⟨B + 1, 0, none⟩ = false := frozen_of_row _ _ 0 _ _ H.t
  have c10 : w.cell? ⟨B + 1 + 1, 0, none⟩ = some (.int .i64 150) := cell_of_row _ _ 0 _ _ _ H.e
  have f10 : w.frozen? ⟨B + 1 + 1, 0, none⟩ = false := frozen_of_row _ _ 0 _ _ H.e
  have lo : B < w.heap.size := lt_heap h.o
  have lt : B + 1 < w.heap.size := lt_heap h.t
  have HH := Lib.hid h
  clear h H
  go_enter_d Tryd.func59, Tryd.ntmps59
  go_wp2
  go_region
  all_goals
    go_end0
    have H := HH.out
    have hz := fun a b => ((((H.setO 0 (.int .i64 0)).setT 0 (.int .i64 0)).alloc a).alloc b).drew
    refine ⟨rfl, by simpa using hz _ _, ?_⟩
    exact (((((Below.refl B w).setCell (p := ⟨B, 0, none⟩) (Nat.le_refl _) _).setCell (p := ⟨B + 1, 0, none⟩) (Nat.le_succ _) _).alloc (by simp; omega) _).alloc (by simp; omega) _).drew
theorem ends_ii (vo x0 : Value) {P : Ending → World → Prop} (tmps : Array Value) (h : St B V #[vo] 3 #[x0] 3 q)
    (p8 : tmps.getD 8 undef = .pointer (some ⟨B, 0, none⟩)) (p9 : tmps.getD 9 undef = .pointer (some ⟨B + 1, 0, none⟩)) (p10 : tmps.getD 10 undef = .pointer (some ⟨B + 1 + 1, 0, none⟩)) (hP : P (.returned (.tuple #[vo, x0, .int .i64 q])) V) :
    Leaves Tryd.prog Tryd.f50 tmps P [] .returning V := by
  have c8 : V.cell? ⟨B, 0, none⟩ = some vo := cell_of_row _ _ 0 _ _ _ h.o
  have c10 : V.cell? ⟨B + 1 + 1, 0, none⟩ = some (.int .i64 q) := cell_of_row _ _ 0 _ _ _ h.e
  have c90 : V.cell? ⟨B + 1, 0, none⟩ = some x0 := cell_of_row _ _ 0 _ _ _ h.t
  simp only [Array.getD_eq_getD_getElem?] at p8 p9 p10
  simp [Leaves, results, Tryd.results50, go_sem, p8, p9, p10, asAddr, c8, c90, c10, hP]
set_option maxHeartbeats 4000000 in
set_option maxRecDepth 100000 in
theorem none_ii (s : ByteArray) (w : World) (h : cutAt 46 s.data.toList = none) :
    Calls Tryd.prog 50 #[.string s, .string ⟨#[46]⟩, .func (.func 51) #[] #[], .func (.func 51) #[] #[]] w fun e w' => e = .returned (.tuple #[.int .i64 0, .int .i64 0, .int .i64 150]) ∧ Below w.heap.size w w' := by
  have hmf : ∀ (fn : Fn) (first cap : Array Value) (w : World), (Instr.makeFunc fn first cap).run Tryd.prog w = .ok (.func fn first cap) w := fun _ _ _ _ => rfl
  have HC : Hid (∀ W, Calls Tryd.prog 36 #[.string s, .string ⟨#[46]⟩] W (LCutAt s ⟨#[]⟩ false W)) := Lib.hid fun W => lcut_46_none s W (cutAt_none h)
  clear h
  go_enter_defers Tryd.func50, Tryd.ntmps50
  go_upto_region 1 with fail
  obtain ⟨W3, hW3, r8, r9, r10, hb3⟩ := opn3 w (.cells #[.int .i64 0] 3) (.cells #[.int .i64 0] 3) (.cells #[.int .i64 0] 24)
  rw [hW3]
  have S3 : Hid (St w.heap.size W3 #[.int .i64 0] 3 #[.int .i64 0] 3 0) := Lib.hid ⟨r8, r9, r10⟩
  have HB3 := Lib.hid hb3
  clear hW3 r8 r9 r10 hb3
  go_wp2_with (first
    | (go_at_call 36; (with_reducible refine (HC.out _).mono ?_); rintro e w1 ⟨rfl, hb1⟩; have S4 := Lib.hid (S3.out.kept hb1); have HB4 := Lib.hid (stp HB3.out hb1); clear hb1; have c8 : w1.cell? ⟨w.heap.size, 0, none⟩ = some (.int .i64 0) := cell_of_row _ _ 0 _ _ _ S4.out.o; have f8 : w1.frozen? ⟨w.heap.size, 0, none⟩ = false := frozen_of_row _ _ 0 _ _ S4.out.o; have c90 : w1.cell? ⟨w.heap.size + 1, 0, none⟩ = some (.int .i64 0) := cell_of_row _ _ 0 _ _ _ S4.out.t; have f90 : w1.frozen? ⟨w.heap.size + 1, 0, none⟩ = false := frozen_of_row _ _ 0 _ _ S4.out.t; have c10 : w1.cell? ⟨w.heap.size + 1 + 1, 0, none⟩ = some (.int .i64 0) := cell_of_row _ _ 0 _ _ _ S4.out.e; have f10 : w1.frozen? ⟨w.heap.size + 1 + 1, 0, none⟩ = false := frozen_of_row _ _ 0 _ _ S4.out.e)
    | fail)
  go_region
  go_wp2_with fail
  obtain ⟨V, hV, hS, hbV⟩ : ∃ V, _ = V ∧ St w.heap.size V #[.int .i64 0] 3 #[.int .i64 0] 3 150 ∧ Below w.heap.size w V := ⟨_, rfl, by simpa using (((S4.out.setO 0 (.int .i64 0)).setT 0 (.int .i64 0)).setE 150).drew, (((HB4.out.setCell (p := ⟨w.heap.size, 0, none⟩) (Nat.le_refl _) _).setCell (p := ⟨w.heap.size + 1, 0, none⟩) (by simp) _).setCell (p := ⟨w.heap.size + 1 + 1, 0, none⟩) (by simp; omega) _).drew⟩
  rw [hV]
  refine leaves_cons (f := 59) (args := #[.pointer (some ⟨w.heap.size + 1 + 1, 0, none⟩), .pointer (some ⟨w.heap.size, 0, none⟩), .pointer (some ⟨w.heap.size + 1, 0, none⟩)]) (by simp) (by simp [go_sem]) ?_
  refine (zyes_ii (B := w.heap.size) _ _ .returning V hS).mono ?_
  rintro e u' w'' ⟨rfl, rfl, hz, hbz⟩
  exact ends_ii _ _ _ hz rfl rfl rfl ⟨rfl, hbV.trans hbz⟩
set_option maxHeartbeats 4000000 in
set_option maxRecDepth 100000 in
theorem first_ii (s p r : ByteArray) (n1 : Nat) (w : World) (hm : s.size ≤ 1000000) (hc : cutAt 46 s.data.toList = some (p.data.toList, r.data.toList)) (h1 : ∀ W, Calls Tryd.prog 51 #[.string p] W fun e w' => e = .returned (.tuple #[.int .i64 n1, .int .i64 150]) ∧ Below W.heap.size W w') :
    Calls Tryd.prog 50 #[.string s, .string ⟨#[46]⟩, .func (.func 51) #[] #[], .func (.func 51) #[] #[]] w fun e w' => e = .returned (.tuple #[.int .i64 0, .int .i64 0, .int .i64 150]) ∧ Below w.heap.size w w' := by
  have hmf : ∀ (fn : Fn) (first cap : Array Value) (w : World), (Instr.makeFunc fn first cap).run Tryd.prog w = .ok (.func fn first cap) w := fun _ _ _ _ => rfl
  have HC : Hid (∀ W, Calls Tryd.prog 36 #[.string s, .string ⟨#[46]⟩] W (LCutAt p r true W)) := Lib.hid fun W => lcut_46_some s p r W hm (cutAt_some hc).1 (cutAt_some hc).2
  have H1 := Lib.hid h1
  clear hm hc h1
  go_enter_defers Tryd.func50, Tryd.ntmps50
  go_upto_region 1 with fail
  obtain ⟨W3, hW3, r8, r9, r10, hb3⟩ := opn3 w (.cells #[.int .i64 0] 3) (.cells #[.int .i64 0] 3) (.cells #[.int .i64 0] 24)
  rw [hW3]
  have S3 : Hid (St w.heap.size W3 #[.int .i64 0] 3 #[.int .i64 0] 3 0) := Lib.hid ⟨r8, r9, r10⟩
  have HB3 := Lib.hid hb3
  clear hW3 r8 r9 r10 hb3
  go_wp2_with (first
    | (go_at_call 36; (with_reducible refine (HC.out _).mono ?_); rintro e w1 ⟨rfl, hb1⟩; have S4 := Lib.hid (S3.out.kept hb1); have HB4 := Lib.hid (stp HB3.out hb1); clear hb1)
    | (go_at_call 51; (with_reducible refine (H1.out w1).mono ?_); rintro e w2 ⟨rfl, hb2⟩; have S5 := Lib.hid (S4.out.kept hb2); have HB5 := Lib.hid (stp HB4.out hb2); clear hb2; have c8 : w2.cell? ⟨w.heap.size, 0, none⟩ = some (.int .i64 0) := cell_of_row _ _ 0 _ _ _ S5.out.o; have f8 : w2.frozen? ⟨w.heap.size, 0, none⟩ = false := frozen_of_row _ _ 0 _ _ S5.out.o; have c90 : w2.cell? ⟨w.heap.size + 1, 0, none⟩ = some (.int .i64 0) := cell_of_row _ _ 0 _ _ _ S5.out.t; have f90 : w2.frozen? ⟨w.heap.size + 1, 0, none⟩ = false := frozen_of_row _ _ 0 _ _ S5.out.t; have c10 : w2.cell? ⟨w.heap.size + 1 + 1, 0, none⟩ = some (.int .i64 0) := cell_of_row _ _ 0 _ _ _ S5.out.e; have f10 : w2.frozen? ⟨w.heap.size + 1 + 1, 0, none⟩ = false := frozen_of_row _ _ 0 _ _ S5.out.e)
    | fail)
  obtain ⟨X, hX, hSX, hBX⟩ : ∃ X, (w2.setCell ⟨w.heap.size, 0, none⟩ (.int .i64 n1)).setCell ⟨w.heap.size + 1 + 1, 0, none⟩ (.int .i64 150) = X ∧ St w.heap.size X #[.int .i64 n1] 3 #[.int .i64 0] 3 150 ∧ Below w.heap.size w X := ⟨_, rfl, by simpa using (S5.out.setO 0 (.int .i64 n1)).setE 150, (HB5.out.setCell (p := ⟨w.heap.size, 0, none⟩) (Nat.le_refl _) _).setCell (p := ⟨w.heap.size + 1 + 1, 0, none⟩) (by simp; omega) _⟩
  rw [hX]
  have SX := Lib.hid hSX
  have HBX := Lib.hid hBX
  clear hX hSX hBX
  have c8 : X.cell? ⟨w.heap.size, 0, none⟩ = some (.int .i64 n1) := cell_of_row _ _ 0 _ _ _ SX.out.o
  have f8 : X.frozen? ⟨w.heap.size, 0, none⟩ = false := frozen_of_row _ _ 0 _ _ SX.out.o
  have c90 : X.cell? ⟨w.heap.size + 1, 0, none⟩ = some (.int .i64 0) := cell_of_row _ _ 0 _ _ _ SX.out.t
  have f90 : X.frozen? ⟨w.heap.size + 1, 0, none⟩ = false := frozen_of_row _ _ 0 _ _ SX.out.t
  have c10 : X.cell? ⟨w.heap.size + 1 + 1, 0, none⟩ = some (.int .i64 150) := cell_of_row _ _ 0 _ _ _ SX.out.e
  have f10 : X.frozen? ⟨w.heap.size + 1 + 1, 0, none⟩ = false := frozen_of_row _ _ 0 _ _ SX.out.e
  go_region
  go_wp2_with fail
  obtain ⟨V, hV, hS, hbV⟩ : ∃ V, _ = V ∧ St w.heap.size V #[.int .i64 n1] 3 #[.int .i64 0] 3 150 ∧ Below w.heap.size w V := ⟨_, rfl, by simpa using (((SX.out.setO 0 (.int .i64 n1)).setT 0 (.int .i64 0)).setE 150).drew, (((HBX.out.setCell (p := ⟨w.heap.size, 0, none⟩) (Nat.le_refl _) _).setCell (p := ⟨w.heap.size + 1, 0, none⟩) (by simp) _).setCell (p := ⟨w.heap.size + 1 + 1, 0, none⟩) (by simp; omega) _).drew⟩
  rw [hV]
  refine leaves_cons (f := 59) (args := #[.pointer (some ⟨w.heap.size + 1 + 1, 0, none⟩), .pointer (some ⟨w.heap.size, 0, none⟩), .pointer (some ⟨w.heap.size + 1, 0, none⟩)]) (by simp) (by simp [go_sem]) ?_
  refine (zyes_ii (B := w.heap.size) _ _ .returning V hS).mono ?_
  rintro e u' w'' ⟨rfl, rfl, hz, hbz⟩
  exact ends_ii _ _ _ hz rfl rfl rfl ⟨rfl, hbV.trans hbz⟩
set_option maxHeartbeats 4000000 in
set_option maxRecDepth 100000 in
theorem second_ii (s p r : ByteArray) (n1 : Nat) (n2 : Nat) (w : World) (hm : s.size ≤ 1000000) (hc : cutAt 46 s.data.toList = some (p.data.toList, r.data.toList)) (h1 : ∀ W, Calls Tryd.prog 51 #[.string p] W fun e w' => e = .returned (.tuple #[.int .i64 n1, .int .i64 0]) ∧ Below W.heap.size W w') (h2 : ∀ W, Calls Tryd.prog 51 #[.string r] W fun e w' => e = .returned (.tuple #[.int .i64 n2, .int .i64 150]) ∧ Below W.heap.size W w') :
    Calls Tryd.prog 50 #[.string s, .string ⟨#[46]⟩, .func (.func 51) #[] #[], .func (.func 51) #[] #[]] w fun e w' => e = .returned (.tuple #[.int .i64 0, .int .i64 0, .int .i64 150]) ∧ Below w.heap.size w w' := by
  have hmf : ∀ (fn : Fn) (first cap : Array Value) (w : World), (Instr.makeFunc fn first cap).run Tryd.prog w = .ok (.func fn first cap) w := fun _ _ _ _ => rfl
  have HC : Hid (∀ W, Calls Tryd.prog 36 #[.string s, .string ⟨#[46]⟩] W (LCutAt p r true W)) := Lib.hid fun W => lcut_46_some s p r W hm (cutAt_some hc).1 (cutAt_some hc).2
  have H1 := Lib.hid h1
  have H2 := Lib.hid h2
  clear hm hc h1 h2
  go_enter_defers Tryd.func50, Tryd.ntmps50
  go_upto_region 1 with fail
  obtain ⟨W3, hW3, r8, r9, r10, hb3⟩ := opn3 w (.cells #[.int .i64 0] 3) (.cells #[.int .i64 0] 3) (.cells #[.int .i64 0] 24)
  rw [hW3]
  have S3 : Hid (St w.heap.size W3 #[.int .i64 0] 3 #[.int .i64 0] 3 0) := Lib.hid ⟨r8, r9, r10⟩
  have HB3 := Lib.hid hb3
  clear hW3 r8 r9 r10 hb3
  go_wp2_with (first
    | (go_at_call 36; (with_reducible refine (HC.out _).mono ?_); rintro e w1 ⟨rfl, hb1⟩; have S4 := Lib.hid (S3.out.kept hb1); have HB4 := Lib.hid (stp HB3.out hb1); clear hb1)
    | (go_at_call 51; (with_reducible refine (H1.out w1).mono ?_); rintro e w2 ⟨rfl, hb2⟩; have S5 := Lib.hid (S4.out.kept hb2); have HB5 := Lib.hid (stp HB4.out hb2); clear hb2; have c8 : w2.cell? ⟨w.heap.size, 0, none⟩ = some (.int .i64 0) := cell_of_row _ _ 0 _ _ _ S5.out.o; have f8 : w2.frozen? ⟨w.heap.size, 0, none⟩ = false := frozen_of_row _ _ 0 _ _ S5.out.o; have c90 : w2.cell? ⟨w.heap.size + 1, 0, none⟩ = some (.int .i64 0) := cell_of_row _ _ 0 _ _ _ S5.out.t; have f90 : w2.frozen? ⟨w.heap.size + 1, 0, none⟩ = false := frozen_of_row _ _ 0 _ _ S5.out.t; have c10 : w2.cell? ⟨w.heap.size + 1 + 1, 0, none⟩ = some (.int .i64 0) := cell_of_row _ _ 0 _ _ _ S5.out.e; have f10 : w2.frozen? ⟨w.heap.size + 1 + 1, 0, none⟩ = false := frozen_of_row _ _ 0 _ _ S5.out.e)
    | (go_at_call 51; (with_reducible refine (H2.out _).mono ?_); rintro e w3 ⟨rfl, hb3⟩; have S6 : Hid (St w.heap.size w3 #[.int .i64 n1] 3 #[.int .i64 0] 3 0) := Lib.hid (by simpa using ((S5.out.setO 0 (.int .i64 n1)).setE 0).kept hb3); have HB6 := Lib.hid (stp ((HB5.out.setCell (p := ⟨w.heap.size, 0, none⟩) (Nat.le_refl _) _).setCell (p := ⟨w.heap.size + 1 + 1, 0, none⟩) (by simp; omega) _) hb3); clear hb3; have c8 : w3.cell? ⟨w.heap.size, 0, none⟩ = some (.int .i64 n1) := cell_of_row _ _ 0 _ _ _ S6.out.o; have f8 : w3.frozen? ⟨w.heap.size, 0, none⟩ = false := frozen_of_row _ _ 0 _ _ S6.out.o; have c90 : w3.cell? ⟨w.heap.size + 1, 0, none⟩ = some (.int .i64 0) := cell_of_row _ _ 0 _ _ _ S6.out.t; have f90 : w3.frozen? ⟨w.heap.size + 1, 0, none⟩ = false := frozen_of_row _ _ 0 _ _ S6.out.t; have c10 : w3.cell? ⟨w.heap.size + 1 + 1, 0, none⟩ = some (.int .i64 0) := cell_of_row _ _ 0 _ _ _ S6.out.e; have f10 : w3.frozen? ⟨w.heap.size + 1 + 1, 0, none⟩ = false := frozen_of_row _ _ 0 _ _ S6.out.e)
    | fail)
  obtain ⟨X, hX, hSX, hBX⟩ : ∃ X, (w3.setCell ⟨w.heap.size + 1, 0, none⟩ (.int .i64 n2)).setCell ⟨w.heap.size + 1 + 1, 0, none⟩ (.int .i64 150) = X ∧ St w.heap.size X #[.int .i64 n1] 3 #[.int .i64 n2] 3 150 ∧ Below w.heap.size w X := ⟨_, rfl, by simpa using (S6.out.setT 0 (.int .i64 n2)).setE 150, (HB6.out.setCell (p := ⟨w.heap.size + 1, 0, none⟩) (by simp) _).setCell (p := ⟨w.heap.size + 1 + 1, 0, none⟩) (by simp; omega) _⟩
  rw [hX]
  have SX := Lib.hid hSX
  have HBX := Lib.hid hBX
  clear hX hSX hBX
  have c8 : X.cell? ⟨w.heap.size, 0, none⟩ = some (.int .i64 n1) := cell_of_row _ _ 0 _ _ _ SX.out.o
  have f8 : X.frozen? ⟨w.heap.size, 0, none⟩ = false := frozen_of_row _ _ 0 _ _ SX.out.o
  have c90 : X.cell? ⟨w.heap.size + 1, 0, none⟩ = some (.int .i64 n2) := cell_of_row _ _ 0 _ _ _ SX.out.t
  have f90 : X.frozen? ⟨w.heap.size + 1, 0, none⟩ = false := frozen_of_row _ _ 0 _ _ SX.out.t
  have c10 : X.cell? ⟨w.heap.size + 1 + 1, 0, none⟩ = some (.int .i64 150) := cell_of_row _ _ 0 _ _ _ SX.out.e
  have f10 : X.frozen? ⟨w.heap.size + 1 + 1, 0, none⟩ = false := frozen_of_row _ _ 0 _ _ SX.out.e
  go_region
  go_wp2_with fail
  obtain ⟨V, hV, hS, hbV⟩ : ∃ V, _ = V ∧ St w.heap.size V #[.int .i64 n1] 3 #[.int .i64 n2] 3 150 ∧ Below w.heap.size w V := ⟨_, rfl, by simpa using (((SX.out.setO 0 (.int .i64 n1)).setT 0 (.int .i64 n2)).setE 150).drew, (((HBX.out.setCell (p := ⟨w.heap.size, 0, none⟩) (Nat.le_refl _) _).setCell (p := ⟨w.heap.size + 1, 0, none⟩) (by simp) _).setCell (p := ⟨w.heap.size + 1 + 1, 0, none⟩) (by simp; omega) _).drew⟩
  rw [hV]
  refine leaves_cons (f := 59) (args := #[.pointer (some ⟨w.heap.size + 1 + 1, 0, none⟩), .pointer (some ⟨w.heap.size, 0, none⟩), .pointer (some ⟨w.heap.size + 1, 0, none⟩)]) (by simp) (by simp [go_sem]) ?_
  refine (zyes_ii (B := w.heap.size) _ _ .returning V hS).mono ?_
  rintro e u' w'' ⟨rfl, rfl, hz, hbz⟩
  exact ends_ii _ _ _ hz rfl rfl rfl ⟨rfl, hbV.trans hbz⟩
set_option maxHeartbeats 4000000 in
set_option maxRecDepth 100000 in
theorem both_ii (s p r : ByteArray) (n1 : Nat) (n2 : Nat) (w : World) (hm : s.size ≤ 1000000) (hc : cutAt 46 s.data.toList = some (p.data.toList, r.data.toList)) (h1 : ∀ W, Calls Tryd.prog 51 #[.string p] W fun e w' => e = .returned (.tuple #[.int .i64 n1, .int .i64 0]) ∧ Below W.heap.size W w') (h2 : ∀ W, Calls Tryd.prog 51 #[.string r] W fun e w' => e = .returned (.tuple #[.int .i64 n2, .int .i64 0]) ∧ Below W.heap.size W w') :
    Calls Tryd.prog 50 #[.string s, .string ⟨#[46]⟩, .func (.func 51) #[] #[], .func (.func 51) #[] #[]] w fun e w' => e = .returned (.tuple #[.int .i64 n1, .int .i64 n2, .int .i64 0]) ∧ Below w.heap.size w w' := by
  have hmf : ∀ (fn : Fn) (first cap : Array Value) (w : World), (Instr.makeFunc fn first cap).run Tryd.prog w = .ok (.func fn first cap) w := fun _ _ _ _ => rfl
  have HC : Hid (∀ W, Calls Tryd.prog 36 #[.string s, .string ⟨#[46]⟩] W (LCutAt p r true W)) := Lib.hid fun W => lcut_46_some s p r W hm (cutAt_some hc).1 (cutAt_some hc).2
  have H1 := Lib.hid h1
  have H2 := Lib.hid h2
  clear hm hc h1 h2
  go_enter_defers Tryd.func50, Tryd.ntmps50
  go_upto_region 1 with fail
  obtain ⟨W3, hW3, r8, r9, r10, hb3⟩ := opn3 w (.cells #[.int .i64 0] 3) (.cells #[.int .i64 0] 3) (.cells #[.int .i64 0] 24)
  rw [hW3]
  have S3 : Hid (St w.heap.size W3 #[.int .i64 0] 3 #[.int .i64 0] 3 0) := Lib.hid ⟨r8, r9, r10⟩
  have HB3 := Lib.hid hb3
  clear hW3 r8 r9 r10 hb3
  go_wp2_with (first
    | (go_at_call 36; (with_reducible refine (HC.out _).mono ?_); rintro e w1 ⟨rfl, hb1⟩; have S4 := Lib.hid (S3.out.kept hb1); have HB4 := Lib.hid (stp HB3.out hb1); clear hb1)
    | (go_at_call 51; (with_reducible refine (H1.out w1).mono ?_); rintro e w2 ⟨rfl, hb2⟩; have S5 := Lib.hid (S4.out.kept hb2); have HB5 := Lib.hid (stp HB4.out hb2); clear hb2; have c8 : w2.cell? ⟨w.heap.size, 0, none⟩ = some (.int .i64 0) := cell_of_row _ _ 0 _ _ _ S5.out.o; have f8 : w2.frozen? ⟨w.heap.size, 0, none⟩ = false := frozen_of_row _ _ 0 _ _ S5.out.o; have c90 : w2.cell? ⟨w.heap.size + 1, 0, none⟩ = some (.int .i64 0) := cell_of_row _ _ 0 _ _ _ S5.out.t; have f90 : w2.frozen? ⟨w.heap.size + 1, 0, none⟩ = false := frozen_of_row _ _ 0 _ _ S5.out.t; have c10 : w2.cell? ⟨w.heap.size + 1 + 1, 0, none⟩ = some (.int .i64 0) := cell_of_row _ _ 0 _ _ _ S5.out.e; have f10 : w2.frozen? ⟨w.heap.size + 1 + 1, 0, none⟩ = false := frozen_of_row _ _ 0 _ _ S5.out.e)
    | (go_at_call 51; (with_reducible refine (H2.out _).mono ?_); rintro e w3 ⟨rfl, hb3⟩; have S6 : Hid (St w.heap.size w3 #[.int .i64 n1] 3 #[.int .i64 0] 3 0) := Lib.hid (by simpa using ((S5.out.setO 0 (.int .i64 n1)).setE 0).kept hb3); have HB6 := Lib.hid (stp ((HB5.out.setCell (p := ⟨w.heap.size, 0, none⟩) (Nat.le_refl _) _).setCell (p := ⟨w.heap.size + 1 + 1, 0, none⟩) (by simp; omega) _) hb3); clear hb3; have c8 : w3.cell? ⟨w.heap.size, 0, none⟩ = some (.int .i64 n1) := cell_of_row _ _ 0 _ _ _ S6.out.o; have f8 : w3.frozen? ⟨w.heap.size, 0, none⟩ = false := frozen_of_row _ _ 0 _ _ S6.out.o; have c90 : w3.cell? ⟨w.heap.size + 1, 0, none⟩ = some (.int .i64 0) := cell_of_row _ _ 0 _ _ _ S6.out.t; have f90 : w3.frozen? ⟨w.heap.size + 1, 0, none⟩ = false := frozen_of_row _ _ 0 _ _ S6.out.t; have c10 : w3.cell? ⟨w.heap.size + 1 + 1, 0, none⟩ = some (.int .i64 0) := cell_of_row _ _ 0 _ _ _ S6.out.e; have f10 : w3.frozen? ⟨w.heap.size + 1 + 1, 0, none⟩ = false := frozen_of_row _ _ 0 _ _ S6.out.e)
    | fail)
  obtain ⟨X, hX, hSX, hBX⟩ : ∃ X, (w3.setCell ⟨w.heap.size + 1, 0, none⟩ (.int .i64 n2)).setCell ⟨w.heap.size + 1 + 1, 0, none⟩ (.int .i64 0) = X ∧ St w.heap.size X #[.int .i64 n1] 3 #[.int .i64 n2] 3 0 ∧ Below w.heap.size w X := ⟨_, rfl, by simpa using (S6.out.setT 0 (.int .i64 n2)).setE 0, (HB6.out.setCell (p := ⟨w.heap.size + 1, 0, none⟩) (by simp) _).setCell (p := ⟨w.heap.size + 1 + 1, 0, none⟩) (by simp; omega) _⟩
  rw [hX]
  have SX := Lib.hid hSX
  have HBX := Lib.hid hBX
  clear hX hSX hBX
  have c8 : X.cell? ⟨w.heap.size, 0, none⟩ = some (.int .i64 n1) := cell_of_row _ _ 0 _ _ _ SX.out.o
  have f8 : X.frozen? ⟨w.heap.size, 0, none⟩ = false := frozen_of_row _ _ 0 _ _ SX.out.o
  have c90 : X.cell? ⟨w.heap.size + 1, 0, none⟩ = some (.int .i64 n2) := cell_of_row _ _ 0 _ _ _ SX.out.t
  have f90 : X.frozen? ⟨w.heap.size + 1, 0, none⟩ = false := frozen_of_row _ _ 0 _ _ SX.out.t
  have c10 : X.cell? ⟨w.heap.size + 1 + 1, 0, none⟩ = some (.int .i64 0) := cell_of_row _ _ 0 _ _ _ SX.out.e
  have f10 : X.frozen? ⟨w.heap.size + 1 + 1, 0, none⟩ = false := frozen_of_row _ _ 0 _ _ SX.out.e
  go_region
  go_wp2_with fail
  obtain ⟨V, hV, hS, hbV⟩ : ∃ V, _ = V ∧ St w.heap.size V #[.int .i64 n1] 3 #[.int .i64 n2] 3 0 ∧ Below w.heap.size w V := ⟨_, rfl, by simpa using (((SX.out.setO 0 (.int .i64 n1)).setT 0 (.int .i64 n2)).setE 0).drew, (((HBX.out.setCell (p := ⟨w.heap.size, 0, none⟩) (Nat.le_refl _) _).setCell (p := ⟨w.heap.size + 1, 0, none⟩) (by simp) _).setCell (p := ⟨w.heap.size + 1 + 1, 0, none⟩) (by simp; omega) _).drew⟩
  rw [hV]
  refine leaves_cons (f := 59) (args := #[.pointer (some ⟨w.heap.size + 1 + 1, 0, none⟩), .pointer (some ⟨w.heap.size, 0, none⟩), .pointer (some ⟨w.heap.size + 1, 0, none⟩)]) (by simp) (by simp [go_sem]) ?_
  refine (zno_ii (B := w.heap.size) _ _ .returning V hS).mono ?_
  rintro e u' w'' ⟨rfl, rfl, rfl⟩
  exact ends_ii _ _ _ hS rfl rfl rfl ⟨rfl, hbV⟩
theorem size_sv : (Tryd.prog.info? 67).map (·.size) = some 2 := by kernel_rfl
theorem one_sv (n2 n3 : Nat) : (#[.int .i64 n2, .int .i64 n3] : Array Value).all (·.oneCell') = true := by simp [Value.oneCell']
set_option maxHeartbeats 4000000 in
set_option maxRecDepth 100000 in
theorem zno_sv (vo x0 x1 : Value) (u : FrameMode) (w : World) (h : St B w #[vo] 9 #[x0, x1] 67 0) :
    CallsD Tryd.prog 48 #[.pointer (some ⟨B + 1 + 1, 0, none⟩), .pointer (some ⟨B, 0, none⟩), .pointer (some ⟨B + 1, 0, none⟩)] u w fun e u' w' => u' = u ∧ (e = .returned (.tuple #[]) ∧ w = w') := by
  have c10 : w.cell? ⟨B + 1 + 1, 0, none⟩ = some (.int .i64 0) := cell_of_row _ _ 0 _ _ _ h.e
  clear h
  go_enter_d Tryd.func48, Tryd.ntmps48
  go_wp2
  go_end0
  exact ⟨rfl, rfl⟩
set_option maxHeartbeats 4000000 in
set_option maxRecDepth 100000 in
theorem zyes_sv (vo x0 x1 : Value) (u : FrameMode) (w : World) (h : St B w #[vo] 9 #[x0, x1] 67 150) :
    CallsD Tryd.prog 48 #[.pointer (some ⟨B + 1 + 1, 0, none⟩), .pointer (some ⟨B, 0, none⟩), .pointer (some ⟨B + 1, 0, none⟩)] u w fun e u' w' => u' = u ∧ (e = .returned (.tuple #[]) ∧ St B w' #[.string ⟨#[]⟩] 9 #[.int .i64 0, .int .i64 0] 67 150 ∧ Below B w w') := by
  have H := h
  have c8 : w.cell? ⟨B, 0, none⟩ = some (vo) := cell_of_row _ _ 0 _ _ _ H.o
  have f8 : w.frozen? ⟨B, 0, none⟩ = false := frozen_of_row _ _ 0 _ _ H.o
  have c90 : w.cell? ⟨B + 1, 0, none⟩ = some (x0) := cell_of_row _ _ 0 _ _ _ H.t
  have f90 : w.frozen? ⟨B + 1, 0, none⟩ = false := frozen_of_row _ _ 0 _ _ H.t
  have c91 : w.cell? ⟨B + 1, 1, none⟩ = some (x1) := cell_of_row _ _ 1 _ _ _ H.t
  have f91 : w.frozen? ⟨B + 1, 1, none⟩ = false := frozen_of_row _ _ 1 _ _ H.t
  have c10 : w.cell? ⟨B + 1 + 1, 0, none⟩ = some (.int .i64 150) := cell_of_row _ _ 0 _ _ _ H.e
  have f10 : w.frozen? ⟨B + 1 + 1, 0, none⟩ = false := frozen_of_row _ _ 0 _ _ H.e
  have lo : B < w.heap.size := lt_heap h.o
  have lt : B + 1 < w.heap.size := lt_heap h.t
  have HH := Lib.hid h
  clear h H
  go_enter_d Tryd.func48, Tryd.ntmps48
  go_wp2
  go_region
  all_goals
    go_end0
    have H := HH.out
    have hz := fun a b => (((((H.setO 0 (.string ⟨#[]⟩)).setT 0 (.int .i64 0)).setT 1 (.int .i64 0)).alloc a).alloc b).drew
    refine ⟨rfl, by simpa using hz _ _, ?_⟩
    exact ((((((Below.refl B w).setCell (p := ⟨B, 0, none⟩) (Nat.le_refl _) _).setCell (p := ⟨B + 1, 0, none⟩) (Nat.le_succ _) _).setCell (p := ⟨B + 1, 1, none⟩) (Nat.le_succ _) _).alloc (by simp; omega) _).alloc (by simp; omega) _).drew
theorem ends_sv (vo x0 x1 : Value) {P : Ending → World → Prop} (tmps : Array Value) (h : St B V #[vo] 9 #[x0, x1] 67 q)
    (p8 : tmps.getD 8 undef = .pointer (some ⟨B, 0, none⟩)) (p9 : tmps.getD 9 undef = .pointer (some ⟨B + 1, 0, none⟩)) (p10 : tmps.getD 10 undef = .pointer (some ⟨B + 1 + 1, 0, none⟩)) (hP : P (.returned (.tuple #[vo, .agg #[x0, x1], .int .i64 q])) V) :
    Leaves Tryd.prog Tryd.f38 tmps P [] .returning V := by
  have c8 : V.cell? ⟨B, 0, none⟩ = some vo := cell_of_row _ _ 0 _ _ _ h.o
  have c10 : V.cell? ⟨B + 1 + 1, 0, none⟩ = some (.int .i64 q) := cell_of_row _ _ 0 _ _ _ h.e
  have c90 : V.cell? ⟨B + 1, 0, none⟩ = some x0 := cell_of_row _ _ 0 _ _ _ h.t
  have c91 : V.cell? ⟨B + 1, 1, none⟩ = some x1 := cell_of_row _ _ 1 _ _ _ h.t
  simp only [Array.getD_eq_getD_getElem?] at p8 p9 p10
  simp [Leaves, results, Tryd.results38, go_sem, p8, p9, p10, asAddr, c8, c90, c91, c10, hP]
set_option maxHeartbeats 4000000 in
set_option maxRecDepth 100000 in
theorem none_sv (s : ByteArray) (w : World) (h : cutAt 32 s.data.toList = none) :
    Calls Tryd.prog 38 #[.string s, .string ⟨#[32]⟩, .func (.func 39) #[] #[], .func (.func 40) #[] #[]] w fun e w' => e = .returned (.tuple #[.string ⟨#[]⟩, .agg #[.int .i64 0, .int .i64 0], .int .i64 150]) ∧ Below w.heap.size w w' := by
  have hmf : ∀ (fn : Fn) (first cap : Array Value) (w : World), (Instr.makeFunc fn first cap).run Tryd.prog w = .ok (.func fn first cap) w := fun _ _ _ _ => rfl
  have HC : Hid (∀ W, Calls Tryd.prog 36 #[.string s, .string ⟨#[32]⟩] W (LCutAt s ⟨#[]⟩ false W)) := Lib.hid fun W => lcut_32_none s W (cutAt_none h)
  clear h
  go_enter_defers Tryd.func38, Tryd.ntmps38
  go_upto_region 1 with fail
  obtain ⟨W3, hW3, r8, r9, r10, hb3⟩ := opn3 w (.cells #[.string ⟨#[]⟩] 9) (.cells #[.int .i64 0, .int .i64 0] 67) (.cells #[.int .i64 0] 24)
  rw [hW3]
  have S3 : Hid (St w.heap.size W3 #[.string ⟨#[]⟩] 9 #[.int .i64 0, .int .i64 0] 67 0) := Lib.hid ⟨r8, r9, r10⟩
  have HB3 := Lib.hid hb3
  clear hW3 r8 r9 r10 hb3
  go_wp2_with (first
    | (go_at_call 36; (with_reducible refine (HC.out _).mono ?_); rintro e w1 ⟨rfl, hb1⟩; have S4 := Lib.hid (S3.out.kept hb1); have HB4 := Lib.hid (stp HB3.out hb1); clear hb1; have c8 : w1.cell? ⟨w.heap.size, 0, none⟩ = some (.string ⟨#[]⟩) := cell_of_row _ _ 0 _ _ _ S4.out.o; have f8 : w1.frozen? ⟨w.heap.size, 0, none⟩ = false := frozen_of_row _ _ 0 _ _ S4.out.o; have c90 : w1.cell? ⟨w.heap.size + 1, 0, none⟩ = some (.int .i64 0) := cell_of_row _ _ 0 _ _ _ S4.out.t; have f90 : w1.frozen? ⟨w.heap.size + 1, 0, none⟩ = false := frozen_of_row _ _ 0 _ _ S4.out.t; have c91 : w1.cell? ⟨w.heap.size + 1, 1, none⟩ = some (.int .i64 0) := cell_of_row _ _ 1 _ _ _ S4.out.t; have f91 : w1.frozen? ⟨w.heap.size + 1, 1, none⟩ = false := frozen_of_row _ _ 1 _ _ S4.out.t; have c10 : w1.cell? ⟨w.heap.size + 1 + 1, 0, none⟩ = some (.int .i64 0) := cell_of_row _ _ 0 _ _ _ S4.out.e; have f10 : w1.frozen? ⟨w.heap.size + 1 + 1, 0, none⟩ = false := frozen_of_row _ _ 0 _ _ S4.out.e)
    | fail)
  go_region
  go_wp2_with fail
  obtain ⟨V, hV, hS, hbV⟩ : ∃ V, _ = V ∧ St w.heap.size V #[.string ⟨#[]⟩] 9 #[.int .i64 0, .int .i64 0] 67 150 ∧ Below w.heap.size w V := ⟨_, rfl, by simpa using ((((S4.out.setO 0 (.string ⟨#[]⟩)).setT 0 (.int .i64 0)).setT 1 (.int .i64 0)).setE 150).drew, ((((HB4.out.setCell (p := ⟨w.heap.size, 0, none⟩) (Nat.le_refl _) _).setCell (p := ⟨w.heap.size + 1, 0, none⟩) (by simp) _).setCell (p := ⟨w.heap.size + 1, 1, none⟩) (by simp) _).setCell (p := ⟨w.heap.size + 1 + 1, 0, none⟩) (by simp; omega) _).drew⟩
  rw [hV]
  refine leaves_cons (f := 48) (args := #[.pointer (some ⟨w.heap.size + 1 + 1, 0, none⟩), .pointer (some ⟨w.heap.size, 0, none⟩), .pointer (some ⟨w.heap.size + 1, 0, none⟩)]) (by simp) (by simp [go_sem]) ?_
  refine (zyes_sv (B := w.heap.size) _ _ _ .returning V hS).mono ?_
  rintro e u' w'' ⟨rfl, rfl, hz, hbz⟩
  exact ends_sv _ _ _ _ hz rfl rfl rfl ⟨rfl, hbV.trans hbz⟩
set_option maxHeartbeats 4000000 in
set_option maxRecDepth 100000 in
theorem first_sv (s p r : ByteArray) (t1 : ByteArray) (w : World) (hm : s.size ≤ 1000000) (hc : cutAt 32 s.data.toList = some (p.data.toList, r.data.toList)) (h1 : ∀ W, Calls Tryd.prog 39 #[.string p] W fun e w' => e = .returned (.tuple #[.string t1, .int .i64 150]) ∧ Below W.heap.size W w') :
    Calls Tryd.prog 38 #[.string s, .string ⟨#[32]⟩, .func (.func 39) #[] #[], .func (.func 40) #[] #[]] w fun e w' => e = .returned (.tuple #[.string ⟨#[]⟩, .agg #[.int .i64 0, .int .i64 0], .int .i64 150]) ∧ Below w.heap.size w w' := by
  have hmf : ∀ (fn : Fn) (first cap : Array Value) (w : World), (Instr.makeFunc fn first cap).run Tryd.prog w = .ok (.func fn first cap) w := fun _ _ _ _ => rfl
  have HC : Hid (∀ W, Calls Tryd.prog 36 #[.string s, .string ⟨#[32]⟩] W (LCutAt p r true W)) := Lib.hid fun W => lcut_32_some s p r W hm (cutAt_some hc).1 (cutAt_some hc).2
  have H1 := Lib.hid h1
  clear hm hc h1
  go_enter_defers Tryd.func38, Tryd.ntmps38
  go_upto_region 1 with fail
  obtain ⟨W3, hW3, r8, r9, r10, hb3⟩ := opn3 w (.cells #[.string ⟨#[]⟩] 9) (.cells #[.int .i64 0, .int .i64 0] 67) (.cells #[.int .i64 0] 24)
  rw [hW3]
  have S3 : Hid (St w.heap.size W3 #[.string ⟨#[]⟩] 9 #[.int .i64 0, .int .i64 0] 67 0) := Lib.hid ⟨r8, r9, r10⟩
  have HB3 := Lib.hid hb3
  clear hW3 r8 r9 r10 hb3
  go_wp2_with (first
    | (go_at_call 36; (with_reducible refine (HC.out _).mono ?_); rintro e w1 ⟨rfl, hb1⟩; have S4 := Lib.hid (S3.out.kept hb1); have HB4 := Lib.hid (stp HB3.out hb1); clear hb1)
    | (go_at_call 39; (with_reducible refine (H1.out w1).mono ?_); rintro e w2 ⟨rfl, hb2⟩; have S5 := Lib.hid (S4.out.kept hb2); have HB5 := Lib.hid (stp HB4.out hb2); clear hb2; have c8 : w2.cell? ⟨w.heap.size, 0, none⟩ = some (.string ⟨#[]⟩) := cell_of_row _ _ 0 _ _ _ S5.out.o; have f8 : w2.frozen? ⟨w.heap.size, 0, none⟩ = false := frozen_of_row _ _ 0 _ _ S5.out.o; have c90 : w2.cell? ⟨w.heap.size + 1, 0, none⟩ = some (.int .i64 0) := cell_of_row _ _ 0 _ _ _ S5.out.t; have f90 : w2.frozen? ⟨w.heap.size + 1, 0, none⟩ = false := frozen_of_row _ _ 0 _ _ S5.out.t; have c91 : w2.cell? ⟨w.heap.size + 1, 1, none⟩ = some (.int .i64 0) := cell_of_row _ _ 1 _ _ _ S5.out.t; have f91 : w2.frozen? ⟨w.heap.size + 1, 1, none⟩ = false := frozen_of_row _ _ 1 _ _ S5.out.t; have c10 : w2.cell? ⟨w.heap.size + 1 + 1, 0, none⟩ = some (.int .i64 0) := cell_of_row _ _ 0 _ _ _ S5.out.e; have f10 : w2.frozen? ⟨w.heap.size + 1 + 1, 0, none⟩ = false := frozen_of_row _ _ 0 _ _ S5.out.e)
    | fail)
  obtain ⟨X, hX, hSX, hBX⟩ : ∃ X, (w2.setCell ⟨w.heap.size, 0, none⟩ (.string t1)).setCell ⟨w.heap.size + 1 + 1, 0, none⟩ (.int .i64 150) = X ∧ St w.heap.size X #[.string t1] 9 #[.int .i64 0, .int .i64 0] 67 150 ∧ Below w.heap.size w X := ⟨_, rfl, by simpa using (S5.out.setO 0 (.string t1)).setE 150, (HB5.out.setCell (p := ⟨w.heap.size, 0, none⟩) (Nat.le_refl _) _).setCell (p := ⟨w.heap.size + 1 + 1, 0, none⟩) (by simp; omega) _⟩
  rw [hX]
  have SX := Lib.hid hSX
  have HBX := Lib.hid hBX
  clear hX hSX hBX
  have c8 : X.cell? ⟨w.heap.size, 0, none⟩ = some (.string t1) := cell_of_row _ _ 0 _ _ _ SX.out.o
  have f8 : X.frozen? ⟨w.heap.size, 0, none⟩ = false := frozen_of_row _ _ 0 _ _ SX.out.o
  have c90 : X.cell? ⟨w.heap.size + 1, 0, none⟩ = some (.int .i64 0) := cell_of_row _ _ 0 _ _ _ SX.out.t
  have f90 : X.frozen? ⟨w.heap.size + 1, 0, none⟩ = false := frozen_of_row _ _ 0 _ _ SX.out.t
  have c91 : X.cell? ⟨w.heap.size + 1, 1, none⟩ = some (.int .i64 0) := cell_of_row _ _ 1 _ _ _ SX.out.t
  have f91 : X.frozen? ⟨w.heap.size + 1, 1, none⟩ = false := frozen_of_row _ _ 1 _ _ SX.out.t
  have c10 : X.cell? ⟨w.heap.size + 1 + 1, 0, none⟩ = some (.int .i64 150) := cell_of_row _ _ 0 _ _ _ SX.out.e
  have f10 : X.frozen? ⟨w.heap.size + 1 + 1, 0, none⟩ = false := frozen_of_row _ _ 0 _ _ SX.out.e
  go_region
  go_wp2_with fail
  obtain ⟨V, hV, hS, hbV⟩ : ∃ V, _ = V ∧ St w.heap.size V #[.string t1] 9 #[.int .i64 0, .int .i64 0] 67 150 ∧ Below w.heap.size w V := ⟨_, rfl, by simpa using ((((SX.out.setO 0 (.string t1)).setT 0 (.int .i64 0)).setT 1 (.int .i64 0)).setE 150).drew, ((((HBX.out.setCell (p := ⟨w.heap.size, 0, none⟩) (Nat.le_refl _) _).setCell (p := ⟨w.heap.size + 1, 0, none⟩) (by simp) _).setCell (p := ⟨w.heap.size + 1, 1, none⟩) (by simp) _).setCell (p := ⟨w.heap.size + 1 + 1, 0, none⟩) (by simp; omega) _).drew⟩
  rw [hV]
  refine leaves_cons (f := 48) (args := #[.pointer (some ⟨w.heap.size + 1 + 1, 0, none⟩), .pointer (some ⟨w.heap.size, 0, none⟩), .pointer (some ⟨w.heap.size + 1, 0, none⟩)]) (by simp) (by simp [go_sem]) ?_
  refine (zyes_sv (B := w.heap.size) _ _ _ .returning V hS).mono ?_
  rintro e u' w'' ⟨rfl, rfl, hz, hbz⟩
  exact ends_sv _ _ _ _ hz rfl rfl rfl ⟨rfl, hbV.trans hbz⟩
set_option maxHeartbeats 4000000 in
set_option maxRecDepth 100000 in
theorem second_sv (s p r : ByteArray) (t1 : ByteArray) (n2 n3 : Nat) (w : World) (hm : s.size ≤ 1000000) (hc : cutAt 32 s.data.toList = some (p.data.toList, r.data.toList)) (h1 : ∀ W, Calls Tryd.prog 39 #[.string p] W fun e w' => e = .returned (.tuple #[.string t1, .int .i64 0]) ∧ Below W.heap.size W w') (h2 : ∀ W, Calls Tryd.prog 40 #[.string r] W fun e w' => e = .returned (.tuple #[.agg #[.int .i64 n2, .int .i64 n3], .int .i64 150]) ∧ Below W.heap.size W w') :
    Calls Tryd.prog 38 #[.string s, .string ⟨#[32]⟩, .func (.func 39) #[] #[], .func (.func 40) #[] #[]] w fun e w' => e = .returned (.tuple #[.string ⟨#[]⟩, .agg #[.int .i64 0, .int .i64 0], .int .i64 150]) ∧ Below w.heap.size w w' := by
  have hmf : ∀ (fn : Fn) (first cap : Array Value) (w : World), (Instr.makeFunc fn first cap).run Tryd.prog w = .ok (.func fn first cap) w := fun _ _ _ _ => rfl
  have HC : Hid (∀ W, Calls Tryd.prog 36 #[.string s, .string ⟨#[32]⟩] W (LCutAt p r true W)) := Lib.hid fun W => lcut_32_some s p r W hm (cutAt_some hc).1 (cutAt_some hc).2
  have H1 := Lib.hid h1
  have H2 := Lib.hid h2
  clear hm hc h1 h2
  go_enter_defers Tryd.func38, Tryd.ntmps38
  go_upto_region 1 with fail
  obtain ⟨W3, hW3, r8, r9, r10, hb3⟩ := opn3 w (.cells #[.string ⟨#[]⟩] 9) (.cells #[.int .i64 0, .int .i64 0] 67) (.cells #[.int .i64 0] 24)
  rw [hW3]
  have S3 : Hid (St w.heap.size W3 #[.string ⟨#[]⟩] 9 #[.int .i64 0, .int .i64 0] 67 0) := Lib.hid ⟨r8, r9, r10⟩
  have HB3 := Lib.hid hb3
  clear hW3 r8 r9 r10 hb3
  go_wp2_with (first
    | (go_at_call 36; (with_reducible refine (HC.out _).mono ?_); rintro e w1 ⟨rfl, hb1⟩; have S4 := Lib.hid (S3.out.kept hb1); have HB4 := Lib.hid (stp HB3.out hb1); clear hb1)
    | (go_at_call 39; (with_reducible refine (H1.out w1).mono ?_); rintro e w2 ⟨rfl, hb2⟩; have S5 := Lib.hid (S4.out.kept hb2); have HB5 := Lib.hid (stp HB4.out hb2); clear hb2; have c8 : w2.cell? ⟨w.heap.size, 0, none⟩ = some (.string ⟨#[]⟩) := cell_of_row _ _ 0 _ _ _ S5.out.o; have f8 : w2.frozen? ⟨w.heap.size, 0, none⟩ = false := frozen_of_row _ _ 0 _ _ S5.out.o; have c90 : w2.cell? ⟨w.heap.size + 1, 0, none⟩ = some (.int .i64 0) := cell_of_row _ _ 0 _ _ _ S5.out.t; have f90 : w2.frozen? ⟨w.heap.size + 1, 0, none⟩ = false := frozen_of_row _ _ 0 _ _ S5.out.t; have c91 : w2.cell? ⟨w.heap.size + 1, 1, none⟩ = some (.int .i64 0) := cell_of_row _ _ 1 _ _ _ S5.out.t; have f91 : w2.frozen? ⟨w.heap.size + 1, 1, none⟩ = false := frozen_of_row _ _ 1 _ _ S5.out.t; have c10 : w2.cell? ⟨w.heap.size + 1 + 1, 0, none⟩ = some (.int .i64 0) := cell_of_row _ _ 0 _ _ _ S5.out.e; have f10 : w2.frozen? ⟨w.heap.size + 1 + 1, 0, none⟩ = false := frozen_of_row _ _ 0 _ _ S5.out.e)
    | (go_at_call 40; (with_reducible refine (H2.out _).mono ?_); rintro e w3 ⟨rfl, hb3⟩; have S6 : Hid (St w.heap.size w3 #[.string t1] 9 #[.int .i64 0, .int .i64 0] 67 0) := Lib.hid (by simpa using ((S5.out.setO 0 (.string t1)).setE 0).kept hb3); have HB6 := Lib.hid (stp ((HB5.out.setCell (p := ⟨w.heap.size, 0, none⟩) (Nat.le_refl _) _).setCell (p := ⟨w.heap.size + 1 + 1, 0, none⟩) (by simp; omega) _) hb3); clear hb3; have c8 : w3.cell? ⟨w.heap.size, 0, none⟩ = some (.string t1) := cell_of_row _ _ 0 _ _ _ S6.out.o; have f8 : w3.frozen? ⟨w.heap.size, 0, none⟩ = false := frozen_of_row _ _ 0 _ _ S6.out.o; have c90 : w3.cell? ⟨w.heap.size + 1, 0, none⟩ = some (.int .i64 0) := cell_of_row _ _ 0 _ _ _ S6.out.t; have f90 : w3.frozen? ⟨w.heap.size + 1, 0, none⟩ = false := frozen_of_row _ _ 0 _ _ S6.out.t; have c91 : w3.cell? ⟨w.heap.size + 1, 1, none⟩ = some (.int .i64 0) := cell_of_row _ _ 1 _ _ _ S6.out.t; have f91 : w3.frozen? ⟨w.heap.size + 1, 1, none⟩ = false := frozen_of_row _ _ 1 _ _ S6.out.t; have c10 : w3.cell? ⟨w.heap.size + 1 + 1, 0, none⟩ = some (.int .i64 0) := cell_of_row _ _ 0 _ _ _ S6.out.e; have f10 : w3.frozen? ⟨w.heap.size + 1 + 1, 0, none⟩ = false := frozen_of_row _ _ 0 _ _ S6.out.e)
    | (refine wpList_store_row rfl _ _ _ rfl (w.heap.size + 1) #[.int .i64 n2, .int .i64 n3] rfl rfl 67 #[.int .i64 0, .int .i64 0] S6.out.t size_sv rfl (one_sv n2 n3) ?_; obtain ⟨w4, hw4, s7, b7⟩ : ∃ W, w3.setRow (w.heap.size + 1) #[.int .i64 n2, .int .i64 n3] = W ∧ St w.heap.size W #[.string t1] 9 #[.int .i64 n2, .int .i64 n3] 67 0 ∧ Below w.heap.size w W := ⟨_, rfl, S6.out.rowT _, below_setRowV HB6.out (by omega) _⟩; rw [hw4]; have S7 := Lib.hid s7; have HB7 := Lib.hid b7; clear hw4 s7 b7; have c8 : w4.cell? ⟨w.heap.size, 0, none⟩ = some (.string t1) := cell_of_row _ _ 0 _ _ _ S7.out.o; have f8 : w4.frozen? ⟨w.heap.size, 0, none⟩ = false := frozen_of_row _ _ 0 _ _ S7.out.o; have c90 : w4.cell? ⟨w.heap.size + 1, 0, none⟩ = some (.int .i64 n2) := cell_of_row _ _ 0 _ _ _ S7.out.t; have f90 : w4.frozen? ⟨w.heap.size + 1, 0, none⟩ = false := frozen_of_row _ _ 0 _ _ S7.out.t; have c91 : w4.cell? ⟨w.heap.size + 1, 1, none⟩ = some (.int .i64 n3) := cell_of_row _ _ 1 _ _ _ S7.out.t; have f91 : w4.frozen? ⟨w.heap.size + 1, 1, none⟩ = false := frozen_of_row _ _ 1 _ _ S7.out.t; have c10 : w4.cell? ⟨w.heap.size + 1 + 1, 0, none⟩ = some (.int .i64 0) := cell_of_row _ _ 0 _ _ _ S7.out.e; have f10 : w4.frozen? ⟨w.heap.size + 1 + 1, 0, none⟩ = false := frozen_of_row _ _ 0 _ _ S7.out.e)
    | fail)
  obtain ⟨X, hX, hSX, hBX⟩ : ∃ X, w4.setCell ⟨w.heap.size + 1 + 1, 0, none⟩ (.int .i64 150) = X ∧ St w.heap.size X #[.string t1] 9 #[.int .i64 n2, .int .i64 n3] 67 150 ∧ Below w.heap.size w X := ⟨_, rfl, S7.out.setE 150, HB7.out.setCell (p := ⟨w.heap.size + 1 + 1, 0, none⟩) (by simp; omega) _⟩
  rw [hX]
  have SX := Lib.hid hSX
  have HBX := Lib.hid hBX
  clear hX hSX hBX
  have c8 : X.cell? ⟨w.heap.size, 0, none⟩ = some (.string t1) := cell_of_row _ _ 0 _ _ _ SX.out.o
  have f8 : X.frozen? ⟨w.heap.size, 0, none⟩ = false := frozen_of_row _ _ 0 _ _ SX.out.o
  have c90 : X.cell? ⟨w.heap.size + 1, 0, none⟩ = some (.int .i64 n2) := cell_of_row _ _ 0 _ _ _ SX.out.t
  have f90 : X.frozen? ⟨w.heap.size + 1, 0, none⟩ = false := frozen_of_row _ _ 0 _ _ SX.out.t
  have c91 : X.cell? ⟨w.heap.size + 1, 1, none⟩ = some (.int .i64 n3) := cell_of_row _ _ 1 _ _ _ SX.out.t
  have f91 : X.frozen? ⟨w.heap.size + 1, 1, none⟩ = false := frozen_of_row _ _ 1 _ _ SX.out.t
  have c10 : X.cell? ⟨w.heap.size + 1 + 1, 0, none⟩ = some (.int .i64 150) := cell_of_row _ _ 0 _ _ _ SX.out.e
  have f10 : X.frozen? ⟨w.heap.size + 1 + 1, 0, none⟩ = false := frozen_of_row _ _ 0 _ _ SX.out.e
  go_region
  go_wp2_with fail
  obtain ⟨V, hV, hS, hbV⟩ : ∃ V, _ = V ∧ St w.heap.size V #[.string t1] 9 #[.int .i64 n2, .int .i64 n3] 67 150 ∧ Below w.heap.size w V := ⟨_, rfl, by simpa using ((((SX.out.setO 0 (.string t1)).setT 0 (.int .i64 n2)).setT 1 (.int .i64 n3)).setE 150).drew, ((((HBX.out.setCell (p := ⟨w.heap.size, 0, none⟩) (Nat.le_refl _) _).setCell (p := ⟨w.heap.size + 1, 0, none⟩) (by simp) _).setCell (p := ⟨w.heap.size + 1, 1, none⟩) (by simp) _).setCell (p := ⟨w.heap.size + 1 + 1, 0, none⟩) (by simp; omega) _).drew⟩
  rw [hV]
  refine leaves_cons (f := 48) (args := #[.pointer (some ⟨w.heap.size + 1 + 1, 0, none⟩), .pointer (some ⟨w.heap.size, 0, none⟩), .pointer (some ⟨w.heap.size + 1, 0, none⟩)]) (by simp) (by simp [go_sem]) ?_
  refine (zyes_sv (B := w.heap.size) _ _ _ .returning V hS).mono ?_
  rintro e u' w'' ⟨rfl, rfl, hz, hbz⟩
  exact ends_sv _ _ _ _ hz rfl rfl rfl ⟨rfl, hbV.trans hbz⟩
set_option maxHeartbeats 4000000 in
set_option maxRecDepth 100000 in
theorem both_sv (s p r : ByteArray) (t1 : ByteArray) (n2 n3 : Nat) (w : World) (hm : s.size ≤ 1000000) (hc : cutAt 32 s.data.toList = some (p.data.toList, r.data.toList)) (h1 : ∀ W, Calls Tryd.prog 39 #[.string p] W fun e w' => e = .returned (.tuple #[.string t1, .int .i64 0]) ∧ Below W.heap.size W w') (h2 : ∀ W, Calls Tryd.prog 40 #[.string r] W fun e w' => e = .returned (.tuple #[.agg #[.int .i64 n2, .int .i64 n3], .int .i64 0]) ∧ Below W.heap.size W w') :
    Calls Tryd.prog 38 #[.string s, .string ⟨#[32]⟩, .func (.func 39) #[] #[], .func (.func 40) #[] #[]] w fun e w' => e = .returned (.tuple #[.string t1, .agg #[.int .i64 n2, .int .i64 n3], .int .i64 0]) ∧ Below w.heap.size w w' := by
  have hmf : ∀ (fn : Fn) (first cap : Array Value) (w : World), (Instr.makeFunc fn first cap).run Tryd.prog w = .ok (.func fn first cap) w := fun _ _ _ _ => rfl
  have HC : Hid (∀ W, Calls Tryd.prog 36 #[.string s, .string ⟨#[32]⟩] W (LCutAt p r true W)) := Lib.hid fun W => lcut_32_some s p r W hm (cutAt_some hc).1 (cutAt_some hc).2
  have H1 := Lib.hid h1
  have H2 := Lib.hid h2
  clear hm hc h1 h2
  go_enter_defers Tryd.func38, Tryd.ntmps38
  go_upto_region 1 with fail
  obtain ⟨W3, hW3, r8, r9, r10, hb3⟩ := opn3 w (.cells #[.string ⟨#[]⟩] 9) (.cells #[.int .i64 0, .int .i64 0] 67) (.cells #[.int .i64 0] 24)
  rw [hW3]
  have S3 : Hid (St w.heap.size W3 #[.string ⟨#[]⟩] 9 #[.int .i64 0, .int .i64 0] 67 0) := Lib.hid ⟨r8, r9, r10⟩
  have HB3 := Lib.hid hb3
  clear hW3 r8 r9 r10 hb3
  go_wp2_with (first
    | (go_at_call 36; (with_reducible refine (HC.out _).mono ?_); rintro e w1 ⟨rfl, hb1⟩; have S4 := Lib.hid (S3.out.kept hb1); have HB4 := Lib.hid (stp HB3.out hb1); clear hb1)
    | (go_at_call 39; (with_reducible refine (H1.out w1).mono ?_); rintro e w2 ⟨rfl, hb2⟩; have S5 := Lib.hid (S4.out.kept hb2); have HB5 := Lib.hid (stp HB4.out hb2); clear hb2; have c8 : w2.cell? ⟨w.heap.size, 0, none⟩ = some (.string ⟨#[]⟩) := cell_of_row _ _ 0 _ _ _ S5.out.o; have f8 : w2.frozen? ⟨w.heap.size, 0, none⟩ = false := frozen_of_row _ _ 0 _ _ S5.out.o; have c90 : w2.cell? ⟨w.heap.size + 1, 0, none⟩ = some (.int .i64 0) := cell_of_row _ _ 0 _ _ _ S5.out.t; have f90 : w2.frozen? ⟨w.heap.size + 1, 0, none⟩ = false := frozen_of_row _ _ 0 _ _ S5.out.t; have c91 : w2.cell? ⟨w.heap.size + 1, 1, none⟩ = some (.int .i64 0) := cell_of_row _ _ 1 _ _ _ S5.out.t; have f91 : w2.frozen? ⟨w.heap.size + 1, 1, none⟩ = false := frozen_of_row _ _ 1 _ _ S5.out.t; have c10 : w2.cell? ⟨w.heap.size + 1 + 1, 0, none⟩ = some (.int .i64 0) := cell_of_row _ _ 0 _ _ _ S5.out.e; have f10 : w2.frozen? ⟨w.heap.size + 1 + 1, 0, none⟩ = false := frozen_of_row _ _ 0 _ _ S5.out.e)
    | (go_at_call 40; (with_reducible refine (H2.out _).mono ?_); rintro e w3 ⟨rfl, hb3⟩; have S6 : Hid (St w.heap.size w3 #[.string t1] 9 #[.int .i64 0, .int .i64 0] 67 0) := Lib.hid (by simpa using ((S5.out.setO 0 (.string t1)).setE 0).kept hb3); have HB6 := Lib.hid (stp ((HB5.out.setCell (p := ⟨w.heap.size, 0, none⟩) (Nat.le_refl _) _).setCell (p := ⟨w.heap.size + 1 + 1, 0, none⟩) (by simp; omega) _) hb3); clear hb3; have c8 : w3.cell? ⟨w.heap.size, 0, none⟩ = some (.string t1) := cell_of_row _ _ 0 _ _ _ S6.out.o; have f8 : w3.frozen? ⟨w.heap.size, 0, none⟩ = false := frozen_of_row _ _ 0 _ _ S6.out.o; have c90 : w3.cell? ⟨w.heap.size + 1, 0, none⟩ = some (.int .i64 0) := cell_of_row _ _ 0 _ _ _ S6.out.t; have f90 : w3.frozen? ⟨w.heap.size + 1, 0, none⟩ = false := frozen_of_row _ _ 0 _ _ S6.out.t; have c91 : w3.cell? ⟨w.heap.size + 1, 1, none⟩ = some (.int .i64 0) := cell_of_row _ _ 1 _ _ _ S6.out.t; have f91 : w3.frozen? ⟨w.heap.size + 1, 1, none⟩ = false := frozen_of_row _ _ 1 _ _ S6.out.t; have c10 : w3.cell? ⟨w.heap.size + 1 + 1, 0, none⟩ = some (.int .i64 0) := cell_of_row _ _ 0 _ _ _ S6.out.e; have f10 : w3.frozen? ⟨w.heap.size + 1 + 1, 0, none⟩ = false := frozen_of_row _ _ 0 _ _ S6.out.e)
    | (refine wpList_store_row rfl _ _ _ rfl (w.heap.size + 1) #[.int .i64 n2, .int .i64 n3] rfl rfl 67 #[.int .i64 0, .int .i64 0] S6.out.t size_sv rfl (one_sv n2 n3) ?_; obtain ⟨w4, hw4, s7, b7⟩ : ∃ W, w3.setRow (w.heap.size + 1) #[.int .i64 n2, .int .i64 n3] = W ∧ St w.heap.size W #[.string t1] 9 #[.int .i64 n2, .int .i64 n3] 67 0 ∧ Below w.heap.size w W := ⟨_, rfl, S6.out.rowT _, below_setRowV HB6.out (by omega) _⟩; rw [hw4]; have S7 := Lib.hid s7; have HB7 := Lib.hid b7; clear hw4 s7 b7; have c8 : w4.cell? ⟨w.heap.size, 0, none⟩ = some (.string t1) := cell_of_row _ _ 0 _ _ _ S7.out.o; have f8 : w4.frozen? ⟨w.heap.size, 0, none⟩ = false := frozen_of_row _ _ 0 _ _ S7.out.o; have c90 : w4.cell? ⟨w.heap.size + 1, 0, none⟩ = some (.int .i64 n2) := cell_of_row _ _ 0 _ _ _ S7.out.t; have f90 : w4.frozen? ⟨w.heap.size + 1, 0, none⟩ = false := frozen_of_row _ _ 0 _ _ S7.out.t; have c91 : w4.cell? ⟨w.heap.size + 1, 1, none⟩ = some (.int .i64 n3) := cell_of_row _ _ 1 _ _ _ S7.out.t; have f91 : w4.frozen? ⟨w.heap.size + 1, 1, none⟩ = false := frozen_of_row _ _ 1 _ _ S7.out.t; have c10 : w4.cell? ⟨w.heap.size + 1 + 1, 0, none⟩ = some (.int .i64 0) := cell_of_row _ _ 0 _ _ _ S7.out.e; have f10 : w4.frozen? ⟨w.heap.size + 1 + 1, 0, none⟩ = false := frozen_of_row _ _ 0 _ _ S7.out.e)
    | fail)
  obtain ⟨X, hX, hSX, hBX⟩ : ∃ X, w4.setCell ⟨w.heap.size + 1 + 1, 0, none⟩ (.int .i64 0) = X ∧ St w.heap.size X #[.string t1] 9 #[.int .i64 n2, .int .i64 n3] 67 0 ∧ Below w.heap.size w X := ⟨_, rfl, S7.out.setE 0, HB7.out.setCell (p := ⟨w.heap.size + 1 + 1, 0, none⟩) (by simp; omega) _⟩
  rw [hX]
  have SX := Lib.hid hSX
  have HBX := Lib.hid hBX
  clear hX hSX hBX
  have c8 : X.cell? ⟨w.heap.size, 0, none⟩ = some (.string t1) := cell_of_row _ _ 0 _ _ _ SX.out.o
  have f8 : X.frozen? ⟨w.heap.size, 0, none⟩ = false := frozen_of_row _ _ 0 _ _ SX.out.o
  have c90 : X.cell? ⟨w.heap.size + 1, 0, none⟩ = some (.int .i64 n2) := cell_of_row _ _ 0 _ _ _ SX.out.t
  have f90 : X.frozen? ⟨w.heap.size + 1, 0, none⟩ = false := frozen_of_row _ _ 0 _ _ SX.out.t
  have c91 : X.cell? ⟨w.heap.size + 1, 1, none⟩ = some (.int .i64 n3) := cell_of_row _ _ 1 _ _ _ SX.out.t
  have f91 : X.frozen? ⟨w.heap.size + 1, 1, none⟩ = false := frozen_of_row _ _ 1 _ _ SX.out.t
  have c10 : X.cell? ⟨w.heap.size + 1 + 1, 0, none⟩ = some (.int .i64 0) := cell_of_row _ _ 0 _ _ _ SX.out.e
  have f10 : X.frozen? ⟨w.heap.size + 1 + 1, 0, none⟩ = false := frozen_of_row _ _ 0 _ _ SX.out.e
  go_region
  go_wp2_with fail
  obtain ⟨V, hV, hS, hbV⟩ : ∃ V, _ = V ∧ St w.heap.size V #[.string t1] 9 #[.int .i64 n2, .int .i64 n3] 67 0 ∧ Below w.heap.size w V := ⟨_, rfl, by simpa using ((((SX.out.setO 0 (.string t1)).setT 0 (.int .i64 n2)).setT 1 (.int .i64 n3)).setE 0).drew, ((((HBX.out.setCell (p := ⟨w.heap.size, 0, none⟩) (Nat.le_refl _) _).setCell (p := ⟨w.heap.size + 1, 0, none⟩) (by simp) _).setCell (p := ⟨w.heap.size + 1, 1, none⟩) (by simp) _).setCell (p := ⟨w.heap.size + 1 + 1, 0, none⟩) (by simp; omega) _).drew⟩
  rw [hV]
  refine leaves_cons (f := 48) (args := #[.pointer (some ⟨w.heap.size + 1 + 1, 0, none⟩), .pointer (some ⟨w.heap.size, 0, none⟩), .pointer (some ⟨w.heap.size + 1, 0, none⟩)]) (by simp) (by simp [go_sem]) ?_
  refine (zno_sv (B := w.heap.size) _ _ _ .returning V hS).mono ?_
  rintro e u' w'' ⟨rfl, rfl, rfl⟩
  exact ends_sv _ _ _ _ hS rfl rfl rfl ⟨rfl, hbV⟩
theorem size_sl : (Tryd.prog.info? 30).map (·.size) = some 4 := by kernel_rfl
theorem one_sl (t2 : ByteArray) (n2 n3 : Nat) : (#[.string ⟨#[]⟩, .string t2, .int .i64 n2, .int .i64 n3] : Array Value).all (·.oneCell') = true := by simp [Value.oneCell']
set_option maxHeartbeats 4000000 in
set_option maxRecDepth 100000 in
theorem zno_sl (vo x0 x1 x2 x3 : Value) (u : FrameMode) (w : World) (h : St B w #[vo] 9 #[x0, x1, x2, x3] 30 0) :
    CallsD Tryd.prog 35 #[.pointer (some ⟨B + 1 + 1, 0, none⟩), .pointer (some ⟨B, 0, none⟩), .pointer (some ⟨B + 1, 0, none⟩)] u w fun e u' w' => u' = u ∧ (e = .returned (.tuple #[]) ∧ w = w') := by
  have c10 : w.cell? ⟨B + 1 + 1, 0, none⟩ = some (.int .i64 0) := cell_of_row _ _ 0 _ _ _ h.e
  clear h
  go_enter_d Tryd.func35, Tryd.ntmps35
  go_wp2
  go_end0
  exact ⟨rfl, rfl⟩
set_option maxHeartbeats 4000000 in
set_option maxRecDepth 100000 in
theorem zyes_sl (vo x0 x1 x2 x3 : Value) (u : FrameMode) (w : World) (h : St B w #[vo] 9 #[x0, x1, x2, x3] 30 150) :
    CallsD Tryd.prog 35 #[.pointer (some ⟨B + 1 + 1, 0, none⟩), .pointer (some ⟨B, 0, none⟩), .pointer (some ⟨B + 1, 0, none⟩)] u w fun e u' w' => u' = u ∧ (e = .returned (.tuple #[]) ∧ St B w' #[.string ⟨#[]⟩] 9 #[.string ⟨#[]⟩, .string ⟨#[]⟩, .int .i64 0, .int .i64 0] 30 150 ∧ Below B w w') := by
  have H := h
  have c8 : w.cell? ⟨B, 0, none⟩ = some (vo) := cell_of_row _ _ 0 _ _ _ H.o
  have f8 : w.frozen? ⟨B, 0, none⟩ = false := frozen_of_row _ _ 0 _ _ H.o
  have c90 : w.cell? ⟨B + 1, 0, none⟩ = some (x0) := cell_of_row _ _ 0 _ _ _ H.t
  have f90 : w.frozen? ⟨B + 1, 0, none⟩ = false := frozen_of_row _ _ 0 _ _ H.t
  have c91 : w.cell? ⟨B + 1, 1, none⟩ = some (x1) := cell_of_row _ _ 1 _ _ _ H.t
  have f91 : w.frozen? ⟨B + 1, 1, none⟩ = false := frozen_of_row _ _ 1 _ _ H.t
  have c92 : w.cell? ⟨B + 1, 2, none⟩ = some (x2) := cell_of_row _ _ 2 _ _ _ H.t
  have f92 : w.frozen? ⟨B + 1, 2, none⟩ = false := frozen_of_row _ _ 2 _ _ H.t
  have c93 : w.cell? ⟨B + 1, 3, none⟩ = some (x3) := cell_of_row _ _ 3 _ _ _ H.t
  have f93 : w.frozen? ⟨B + 1, 3, none⟩ = false := frozen_of_row _ _ 3 _ _ H.t
  have c10 : w.cell? ⟨B + 1 + 1, 0, none⟩ = some (.int .i64 150) := cell_of_row _ _ 0 _ _ _ H.e
  have f10 : w.frozen? ⟨B + 1 + 1, 0, none⟩ = false := frozen_of_row _ _ 0 _ _ H.e
  have lo : B < w.heap.size := lt_heap h.o
  have lt : B + 1 < w.heap.size := lt_heap h.t
  have HH := Lib.hid h
  clear h H
  go_enter_d Tryd.func35, Tryd.ntmps35
  go_wp2
  go_region
  all_goals
    go_end0
    have H := HH.out
    have hz := fun a b => (((((((H.setO 0 (.string ⟨#[]⟩)).setT 0 (.string ⟨#[]⟩)).setT 1 (.string ⟨#[]⟩)).setT 2 (.int .i64 0)).setT 3 (.int .i64 0)).alloc a).alloc b).drew
    refine ⟨rfl, by simpa using hz _ _, ?_⟩
    exact ((((((((Below.refl B w).setCell (p := ⟨B, 0, none⟩) (Nat.le_refl _) _).setCell (p := ⟨B + 1, 0, none⟩) (Nat.le_succ _) _).setCell (p := ⟨B + 1, 1, none⟩) (Nat.le_succ _) _).setCell (p := ⟨B + 1, 2, none⟩) (Nat.le_succ _) _).setCell (p := ⟨B + 1, 3, none⟩) (Nat.le_succ _) _).alloc (by simp; omega) _).alloc (by simp; omega) _).drew
theorem ends_sl (vo x0 x1 x2 x3 : Value) {P : Ending → World → Prop} (tmps : Array Value) (h : St B V #[vo] 9 #[x0, x1, x2, x3] 30 q)
    (p8 : tmps.getD 8 undef = .pointer (some ⟨B, 0, none⟩)) (p9 : tmps.getD 9 undef = .pointer (some ⟨B + 1, 0, none⟩)) (p10 : tmps.getD 10 undef = .pointer (some ⟨B + 1 + 1, 0, none⟩)) (hP : P (.returned (.tuple #[vo, .agg #[x0, x1, x2, x3], .int .i64 q])) V) :
    Leaves Tryd.prog Tryd.f22 tmps P [] .returning V := by
  have c8 : V.cell? ⟨B, 0, none⟩ = some vo := cell_of_row _ _ 0 _ _ _ h.o
  have c10 : V.cell? ⟨B + 1 + 1, 0, none⟩ = some (.int .i64 q) := cell_of_row _ _ 0 _ _ _ h.e
  have c90 : V.cell? ⟨B + 1, 0, none⟩ = some x0 := cell_of_row _ _ 0 _ _ _ h.t
  have c91 : V.cell? ⟨B + 1, 1, none⟩ = some x1 := cell_of_row _ _ 1 _ _ _ h.t
  have c92 : V.cell? ⟨B + 1, 2, none⟩ = some x2 := cell_of_row _ _ 2 _ _ _ h.t
  have c93 : V.cell? ⟨B + 1, 3, none⟩ = some x3 := cell_of_row _ _ 3 _ _ _ h.t
  simp only [Array.getD_eq_getD_getElem?] at p8 p9 p10
  simp [Leaves, results, Tryd.results22, go_sem, p8, p9, p10, asAddr, c8, c90, c91, c92, c93, c10, hP]
set_option maxHeartbeats 4000000 in
set_option maxRecDepth 100000 in
theorem none_sl (s : ByteArray) (w : World) (h : cutAt 32 s.data.toList = none) :
    Calls Tryd.prog 22 #[.string s, .string ⟨#[32]⟩, .func (.func 23) #[] #[], .func (.func 24) #[] #[]] w fun e w' => e = .returned (.tuple #[.string ⟨#[]⟩, .agg #[.string ⟨#[]⟩, .string ⟨#[]⟩, .int .i64 0, .int .i64 0], .int .i64 150]) ∧ Below w.heap.size w w' := by
  have hmf : ∀ (fn : Fn) (first cap : Array Value) (w : World), (Instr.makeFunc fn first cap).run Tryd.prog w = .ok (.func fn first cap) w := fun _ _ _ _ => rfl
  have HC : Hid (∀ W, Calls Tryd.prog 36 #[.string s, .string ⟨#[32]⟩] W (LCutAt s ⟨#[]⟩ false W)) := Lib.hid fun W => lcut_32_none s W (cutAt_none h)
  clear h
  go_enter_defers Tryd.func22, Tryd.ntmps22
  go_upto_region 1 with fail
  obtain ⟨W3, hW3, r8, r9, r10, hb3⟩ := opn3 w (.cells #[.string ⟨#[]⟩] 9) (.cells #[.string ⟨#[]⟩, .string ⟨#[]⟩, .int .i64 0, .int .i64 0] 30) (.cells #[.int .i64 0] 24)
  rw [hW3]
  have S3 : Hid (St w.heap.size W3 #[.string ⟨#[]⟩] 9 #[.string ⟨#[]⟩, .string ⟨#[]⟩, .int .i64 0, .int .i64 0] 30 0) := Lib.hid ⟨r8, r9, r10⟩
  have HB3 := Lib.hid hb3
  clear hW3 r8 r9 r10 hb3
  go_wp2_with (first
    | (go_at_call 36; (with_reducible refine (HC.out _).mono ?_); rintro e w1 ⟨rfl, hb1⟩; have S4 := Lib.hid (S3.out.kept hb1); have HB4 := Lib.hid (stp HB3.out hb1); clear hb1; have c8 : w1.cell? ⟨w.heap.size, 0, none⟩ = some (.string ⟨#[]⟩) := cell_of_row _ _ 0 _ _ _ S4.out.o; have f8 : w1.frozen? ⟨w.heap.size, 0, none⟩ = false := frozen_of_row _ _ 0 _ _ S4.out.o; have c90 : w1.cell? ⟨w.heap.size + 1, 0, none⟩ = some (.string ⟨#[]⟩) := cell_of_row _ _ 0 _ _ _ S4.out.t; have f90 : w1.frozen? ⟨w.heap.size + 1, 0, none⟩ = false := frozen_of_row _ _ 0 _ _ S4.out.t; have c91 : w1.cell? ⟨w.heap.size + 1, 1, none⟩ = some (.string ⟨#[]⟩) := cell_of_row _ _ 1 _ _ _ S4.out.t; have f91 : w1.frozen? ⟨w.heap.size + 1, 1, none⟩ = false := frozen_of_row _ _ 1 _ _ S4.out.t; have c92 : w1.cell? ⟨w.heap.size + 1, 2, none⟩ = some (.int .i64 0) := cell_of_row _ _ 2 _ _ _ S4.out.t; have f92 : w1.frozen? ⟨w.heap.size + 1, 2, none⟩ = false := frozen_of_row _ _ 2 _ _ S4.out.t; have c93 : w1.cell? ⟨w.heap.size + 1, 3, none⟩ = some (.int .i64 0) := cell_of_row _ _ 3 _ _ _ S4.out.t; have f93 : w1.frozen? ⟨w.heap.size + 1, 3, none⟩ = false := frozen_of_row _ _ 3 _ _ S4.out.t; have c10 : w1.cell? ⟨w.heap.size + 1 + 1, 0, none⟩ = some (.int .i64 0) := cell_of_row _ _ 0 _ _ _ S4.out.e; have f10 : w1.frozen? ⟨w.heap.size + 1 + 1, 0, none⟩ = false := frozen_of_row _ _ 0 _ _ S4.out.e)
    | fail)
  go_region
  go_wp2_with fail
  obtain ⟨V, hV, hS, hbV⟩ : ∃ V, _ = V ∧ St w.heap.size V #[.string ⟨#[]⟩] 9 #[.string ⟨#[]⟩, .string ⟨#[]⟩, .int .i64 0, .int .i64 0] 30 150 ∧ Below w.heap.size w V := ⟨_, rfl, by simpa using ((((((S4.out.setO 0 (.string ⟨#[]⟩)).setT 0 (.string ⟨#[]⟩)).setT 1 (.string ⟨#[]⟩)).setT 2 (.int .i64 0)).setT 3 (.int .i64 0)).setE 150).drew, ((((((HB4.out.setCell (p := ⟨w.heap.size, 0, none⟩) (Nat.le_refl _) _).setCell (p := ⟨w.heap.size + 1, 0, none⟩) (by simp) _).setCell (p := ⟨w.heap.size + 1, 1, none⟩) (by simp) _).setCell (p := ⟨w.heap.size + 1, 2, none⟩) (by simp) _).setCell (p := ⟨w.heap.size + 1, 3, none⟩) (by simp) _).setCell (p := ⟨w.heap.size + 1 + 1, 0, none⟩) (by simp; omega) _).drew⟩
  rw [hV]
  refine leaves_cons (f := 35) (args := #[.pointer (some ⟨w.heap.size + 1 + 1, 0, none⟩), .pointer (some ⟨w.heap.size, 0, none⟩), .pointer (some ⟨w.heap.size + 1, 0, none⟩)]) (by simp) (by simp [go_sem]) ?_
  refine (zyes_sl (B := w.heap.size) _ _ _ _ _ .returning V hS).mono ?_
  rintro e u' w'' ⟨rfl, rfl, hz, hbz⟩
  exact ends_sl _ _ _ _ _ _ hz rfl rfl rfl ⟨rfl, hbV.trans hbz⟩
set_option maxHeartbeats 4000000 in
set_option maxRecDepth 100000 in
theorem first_sl (s p r : ByteArray) (t1 : ByteArray) (w : World) (hm : s.size ≤ 1000000) (hc : cutAt 32 s.data.toList = some (p.data.toList, r.data.toList)) (h1 : ∀ W, Calls Tryd.prog 23 #[.string p] W fun e w' => e = .returned (.tuple #[.string t1, .int .i64 150]) ∧ Below W.heap.size W w') :
    Calls Tryd.prog 22 #[.string s, .string ⟨#[32]⟩, .func (.func 23) #[] #[], .func (.func 24) #[] #[]] w fun e w' => e = .returned (.tuple #[.string ⟨#[]⟩, .agg #[.string ⟨#[]⟩, .string ⟨#[]⟩, .int .i64 0, .int .i64 0], .int .i64 150]) ∧ Below w.heap.size w w' := by
  have hmf : ∀ (fn : Fn) (first cap : Array Value) (w : World), (Instr.makeFunc fn first cap).run Tryd.prog w = .ok (.func fn first cap) w := fun _ _ _ _ => rfl
  have HC : Hid (∀ W, Calls Tryd.prog 36 #[.string s, .string ⟨#[32]⟩] W (LCutAt p r true W)) := Lib.hid fun W => lcut_32_some s p r W hm (cutAt_some hc).1 (cutAt_some hc).2
  have H1 := Lib.hid h1
  clear hm hc h1
  go_enter_defers Tryd.func22, Tryd.ntmps22
  go_upto_region 1 with fail
  obtain ⟨W3, hW3, r8, r9, r10, hb3⟩ := opn3 w (.cells #[.string ⟨#[]⟩] 9) (.cells #[.string ⟨#[]⟩, .string ⟨#[]⟩, .int .i64 0, .int .i64 0] 30) (.cells #[.int .i64 0] 24)
  rw [hW3]
  have S3 : Hid (St w.heap.size W3 #[.string ⟨#[]⟩] 9 #[.string ⟨#[]⟩, .string ⟨#[]⟩, .int .i64 0, .int .i64 0] 30 0) := Lib.hid ⟨r8, r9, r10⟩
  have HB3 := Lib.hid hb3
  clear hW3 r8 r9 r10 hb3
  go_wp2_with (first
    | (go_at_call 36; (with_reducible refine (HC.out _).mono ?_); rintro e w1 ⟨rfl, hb1⟩; have S4 := Lib.hid (S3.out.kept hb1); have HB4 := Lib.hid (stp HB3.out hb1); clear hb1)
    | (go_at_call 23; (with_reducible refine (H1.out w1).mono ?_); rintro e w2 ⟨rfl, hb2⟩; have S5 := Lib.hid (S4.out.kept hb2); have HB5 := Lib.hid (stp HB4.out hb2); clear hb2; have c8 : w2.cell? ⟨w.heap.size, 0, none⟩ = some (.string ⟨#[]⟩) := cell_of_row _ _ 0 _ _ _ S5.out.o; have f8 : w2.frozen? ⟨w.heap.size, 0, none⟩ = false := frozen_of_row _ _ 0 _ _ S5.out.o; have c90 : w2.cell? ⟨w.heap.size + 1, 0, none⟩ = some (.string ⟨#[]⟩) := cell_of_row _ _ 0 _ _ _ S5.out.t; have f90 : w2.frozen? ⟨w.heap.size + 1, 0, none⟩ = false := frozen_of_row _ _ 0 _ _ S5.out.t; have c91 : w2.cell? ⟨w.heap.size + 1, 1, none⟩ = some (.string ⟨#[]⟩) := cell_of_row _ _ 1 _ _ _ S5.out.t; have f91 : w2.frozen? ⟨w.heap.size + 1, 1, none⟩ = false := frozen_of_row _ _ 1 _ _ S5.out.t; have c92 : w2.cell? ⟨w.heap.size + 1, 2, none⟩ = some (.int .i64 0) := cell_of_row _ _ 2 _ _ _ S5.out.t; have f92 : w2.frozen? ⟨w.heap.size + 1, 2, none⟩ = false := frozen_of_row _ _ 2 _ _ S5.out.t; have c93 : w2.cell? ⟨w.heap.size + 1, 3, none⟩ = some (.int .i64 0) := cell_of_row _ _ 3 _ _ _ S5.out.t; have f93 : w2.frozen? ⟨w.heap.size + 1, 3, none⟩ = false := frozen_of_row _ _ 3 _ _ S5.out.t; have c10 : w2.cell? ⟨w.heap.size + 1 + 1, 0, none⟩ = some (.int .i64 0) := cell_of_row _ _ 0 _ _ _ S5.out.e; have f10 : w2.frozen? ⟨w.heap.size + 1 + 1, 0, none⟩ = false := frozen_of_row _ _ 0 _ _ S5.out.e)
    | fail)
  obtain ⟨X, hX, hSX, hBX⟩ : ∃ X, (w2.setCell ⟨w.heap.size, 0, none⟩ (.string t1)).setCell ⟨w.heap.size + 1 + 1, 0, none⟩ (.int .i64 150) = X ∧ St w.heap.size X #[.string t1] 9 #[.string ⟨#[]⟩, .string ⟨#[]⟩, .int .i64 0, .int .i64 0] 30 150 ∧ Below w.heap.size w X := ⟨_, rfl, by simpa using (S5.out.setO 0 (.string t1)).setE 150, (HB5.out.setCell (p := ⟨w.heap.size, 0, none⟩) (Nat.le_refl _) _).setCell (p := ⟨w.heap.size + 1 + 1, 0, none⟩) (by simp; omega) _⟩
  rw [hX]
  have SX := Lib.hid hSX
  have HBX := Lib.hid hBX
  clear hX hSX hBX
  have c8 : X.cell? ⟨w.heap.size, 0, none⟩ = some (.string t1) := cell_of_row _ _ 0 _ _ _ SX.out.o
  have f8 : X.frozen? ⟨w.heap.size, 0, none⟩ = false := frozen_of_row _ _ 0 _ _ SX.out.o
  have c90 : X.cell? ⟨w.heap.size + 1, 0, none⟩ = some (.string ⟨#[]⟩) := cell_of_row _ _ 0 _ _ _ SX.out.t
  have f90 : X.frozen? ⟨w.heap.size + 1, 0, none⟩ = false := frozen_of_row _ _ 0 _ _ SX.out.t
  have c91 : X.cell? ⟨w.heap.size + 1, 1, none⟩ = some (.string ⟨#[]⟩) := cell_of_row _ _ 1 _ _ _ SX.out.t
  have f91 : X.frozen? ⟨w.heap.size + 1, 1, none⟩ = false := frozen_of_row _ _ 1 _ _ SX.out.t
  have c92 : X.cell? ⟨w.heap.size + 1, 2, none⟩ = some (.int .i64 0) := cell_of_row _ _ 2 _ _ _ SX.out.t
  have f92 : X.frozen? ⟨w.heap.size + 1, 2, none⟩ = false := frozen_of_row _ _ 2 _ _ SX.out.t
  have c93 : X.cell? ⟨w.heap.size + 1, 3, none⟩ = some (.int .i64 0) := cell_of_row _ _ 3 _ _ _ SX.out.t
  have f93 : X.frozen? ⟨w.heap.size + 1, 3, none⟩ = false := frozen_of_row _ _ 3 _ _ SX.out.t
  have c10 : X.cell? ⟨w.heap.size + 1 + 1, 0, none⟩ = some (.int .i64 150) := cell_of_row _ _ 0 _ _ _ SX.out.e
  have f10 : X.frozen? ⟨w.heap.size + 1 + 1, 0, none⟩ = false := frozen_of_row _ _ 0 _ _ SX.out.e
  go_region
  go_wp2_with fail
  obtain ⟨V, hV, hS, hbV⟩ : ∃ V, _ = V ∧ St w.heap.size V #[.string t1] 9 #[.string ⟨#[]⟩, .string ⟨#[]⟩, .int .i64 0, .int .i64 0] 30 150 ∧ Below w.heap.size w V := ⟨_, rfl, by simpa using ((((((SX.out.setO 0 (.string t1)).setT 0 (.string ⟨#[]⟩)).setT 1 (.string ⟨#[]⟩)).setT 2 (.int .i64 0)).setT 3 (.int .i64 0)).setE 150).drew, ((((((HBX.out.setCell (p := ⟨w.heap.size, 0, none⟩) (Nat.le_refl _) _).setCell (p := ⟨w.heap.size + 1, 0, none⟩) (by simp) _).setCell (p := ⟨w.heap.size + 1, 1, none⟩) (by simp) _).setCell (p := ⟨w.heap.size + 1, 2, none⟩) (by simp) _).setCell (p := ⟨w.heap.size + 1, 3, none⟩) (by simp) _).setCell (p := ⟨w.heap.size + 1 + 1, 0, none⟩) (by simp; omega) _).drew⟩
  rw [hV]
  refine leaves_cons (f := 35) (args := #[.pointer (some ⟨w.heap.size + 1 + 1, 0, none⟩), .pointer (some ⟨w.heap.size, 0, none⟩), .pointer (some ⟨w.heap.size + 1, 0, none⟩)]) (by simp) (by simp [go_sem]) ?_
  refine (zyes_sl (B := w.heap.size) _ _ _ _ _ .returning V hS).mono ?_
  rintro e u' w'' ⟨rfl, rfl, hz, hbz⟩
  exact ends_sl _ _ _ _ _ _ hz rfl rfl rfl ⟨rfl, hbV.trans hbz⟩
set_option maxHeartbeats 4000000 in
set_option maxRecDepth 100000 in
theorem second_sl (s p r : ByteArray) (t1 : ByteArray) (t2 : ByteArray) (n2 n3 : Nat) (w : World) (hm : s.size ≤ 1000000) (hc : cutAt 32 s.data.toList = some (p.data.toList, r.data.toList)) (h1 : ∀ W, Calls Tryd.prog 23 #[.string p] W fun e w' => e = .returned (.tuple #[.string t1, .int .i64 0]) ∧ Below W.heap.size W w') (h2 : ∀ W, Calls Tryd.prog 24 #[.string r] W fun e w' => e = .returned (.tuple #[.agg #[.string ⟨#[]⟩, .string t2, .int .i64 n2, .int .i64 n3], .int .i64 150]) ∧ Below W.heap.size W w') :
    Calls Tryd.prog 22 #[.string s, .string ⟨#[32]⟩, .func (.func 23) #[] #[], .func (.func 24) #[] #[]] w fun e w' => e = .returned (.tuple #[.string ⟨#[]⟩, .agg #[.string ⟨#[]⟩, .string ⟨#[]⟩, .int .i64 0, .int .i64 0], .int .i64 150]) ∧ Below w.heap.size w w' := by
  have hmf : ∀ (fn : Fn) (first cap : Array Value) (w : World), (Instr.makeFunc fn first cap).run Tryd.prog w = .ok (.func fn first cap) w := fun _ _ _ _ => rfl
  have HC : Hid (∀ W, Calls Tryd.prog 36 #[.string s, .string ⟨#[32]⟩] W (LCutAt p r true W)) := Lib.hid fun W => lcut_32_some s p r W hm (cutAt_some hc).1 (cutAt_some hc).2
  have H1 := Lib.hid h1
  have H2 := Lib.hid h2
  clear hm hc h1 h2
  go_enter_defers Tryd.func22, Tryd.ntmps22
  go_upto_region 1 with fail
  obtain ⟨W3, hW3, r8, r9, r10, hb3⟩ := opn3 w (.cells #[.string ⟨#[]⟩] 9) (.cells #[.string ⟨#[]⟩, .string ⟨#[]⟩, .int .i64 0, .int .i64 0] 30) (.cells #[.int .i64 0] 24)
  rw [hW3]
  have S3 : Hid (St w.heap.size W3 #[.string ⟨#[]⟩] 9 #[.string ⟨#[]⟩, .string ⟨#[]⟩, .int .i64 0, .int .i64 0] 30 0) := Lib.hid ⟨r8, r9, r10⟩
  have HB3 := Lib.hid hb3
  clear hW3 r8 r9 r10 hb3
  go_wp2_with (first
    | (go_at_call 36; (with_reducible refine (HC.out _).mono ?_); rintro e w1 ⟨rfl, hb1⟩; have S4 := Lib.hid (S3.out.kept hb1); have HB4 := Lib.hid (stp HB3.out hb1); clear hb1)
    | (go_at_call 23; (with_reducible refine (H1.out w1).mono ?_); rintro e w2 ⟨rfl, hb2⟩; have S5 := Lib.hid (S4.out.kept hb2); have HB5 := Lib.hid (stp HB4.out hb2); clear hb2; have c8 : w2.cell? ⟨w.heap.size, 0, none⟩ = some (.string ⟨#[]⟩) := cell_of_row _ _ 0 _ _ _ S5.out.o; have f8 : w2.frozen? ⟨w.heap.size, 0, none⟩ = false := frozen_of_row _ _ 0 _ _ S5.out.o; have c90 : w2.cell? ⟨w.heap.size + 1, 0, none⟩ = some (.string ⟨#[]⟩) := cell_of_row _ _ 0 _ _ _ S5.out.t; have f90 : w2.frozen? ⟨w.heap.size + 1, 0, none⟩ = false := frozen_of_row _ _ 0 _ _ S5.out.t; have c91 : w2.cell? ⟨w.heap.size + 1, 1, none⟩ = some (.string ⟨#[]⟩) := cell_of_row _ _ 1 _ _ _ S5.out.t; have f91 : w2.frozen? ⟨w.heap.size + 1, 1, none⟩ = false := frozen_of_row _ _ 1 _ _ S5.out.t; have c92 : w2.cell? ⟨w.heap.size + 1, 2, none⟩ = some (.int .i64 0) := cell_of_row _ _ 2 _ _ _ S5.out.t; have f92 : w2.frozen? ⟨w.heap.size + 1, 2, none⟩ = false := frozen_of_row _ _ 2 _ _ S5.out.t; have c93 : w2.cell? ⟨w.heap.size + 1, 3, none⟩ = some (.int .i64 0) := cell_of_row _ _ 3 _ _ _ S5.out.t; have f93 : w2.frozen? ⟨w.heap.size + 1, 3, none⟩ = false := frozen_of_row _ _ 3 _ _ S5.out.t; have c10 : w2.cell? ⟨w.heap.size + 1 + 1, 0, none⟩ = some (.int .i64 0) := cell_of_row _ _ 0 _ _ _ S5.out.e; have f10 : w2.frozen? ⟨w.heap.size + 1 + 1, 0, none⟩ = false := frozen_of_row _ _ 0 _ _ S5.out.e)
    | (go_at_call 24; (with_reducible refine (H2.out _).mono ?_); rintro e w3 ⟨rfl, hb3⟩; have S6 : Hid (St w.heap.size w3 #[.string t1] 9 #[.string ⟨#[]⟩, .string ⟨#[]⟩, .int .i64 0, .int .i64 0] 30 0) := Lib.hid (by simpa using ((S5.out.setO 0 (.string t1)).setE 0).kept hb3); have HB6 := Lib.hid (stp ((HB5.out.setCell (p := ⟨w.heap.size, 0, none⟩) (Nat.le_refl _) _).setCell (p := ⟨w.heap.size + 1 + 1, 0, none⟩) (by simp; omega) _) hb3); clear hb3; have c8 : w3.cell? ⟨w.heap.size, 0, none⟩ = some (.string t1) := cell_of_row _ _ 0 _ _ _ S6.out.o; have f8 : w3.frozen? ⟨w.heap.size, 0, none⟩ = false := frozen_of_row _ _ 0 _ _ S6.out.o; have c90 : w3.cell? ⟨w.heap.size + 1, 0, none⟩ = some (.string ⟨#[]⟩) := cell_of_row _ _ 0 _ _ _ S6.out.t; have f90 : w3.frozen? ⟨w.heap.size + 1, 0, none⟩ = false := frozen_of_row _ _ 0 _ _ S6.out.t; have c91 : w3.cell? ⟨w.heap.size + 1, 1, none⟩ = some (.string ⟨#[]⟩) := cell_of_row _ _ 1 _ _ _ S6.out.t; have f91 : w3.frozen? ⟨w.heap.size + 1, 1, none⟩ = false := frozen_of_row _ _ 1 _ _ S6.out.t; have c92 : w3.cell? ⟨w.heap.size + 1, 2, none⟩ = some (.int .i64 0) := cell_of_row _ _ 2 _ _ _ S6.out.t; have f92 : w3.frozen? ⟨w.heap.size + 1, 2, none⟩ = false := frozen_of_row _ _ 2 _ _ S6.out.t; have c93 : w3.cell? ⟨w.heap.size + 1, 3, none⟩ = some (.int .i64 0) := cell_of_row _ _ 3 _ _ _ S6.out.t; have f93 : w3.frozen? ⟨w.heap.size + 1, 3, none⟩ = false := frozen_of_row _ _ 3 _ _ S6.out.t; have c10 : w3.cell? ⟨w.heap.size + 1 + 1, 0, none⟩ = some (.int .i64 0) := cell_of_row _ _ 0 _ _ _ S6.out.e; have f10 : w3.frozen? ⟨w.heap.size + 1 + 1, 0, none⟩ = false := frozen_of_row _ _ 0 _ _ S6.out.e)
    | (refine wpList_store_row rfl _ _ _ rfl (w.heap.size + 1) #[.string ⟨#[]⟩, .string t2, .int .i64 n2, .int .i64 n3] rfl rfl 30 #[.string ⟨#[]⟩, .string ⟨#[]⟩, .int .i64 0, .int .i64 0] S6.out.t size_sl rfl (one_sl t2 n2 n3) ?_; obtain ⟨w4, hw4, s7, b7⟩ : ∃ W, w3.setRow (w.heap.size + 1) #[.string ⟨#[]⟩, .string t2, .int .i64 n2, .int .i64 n3] = W ∧ St w.heap.size W #[.string t1] 9 #[.string ⟨#[]⟩, .string t2, .int .i64 n2, .int .i64 n3] 30 0 ∧ Below w.heap.size w W := ⟨_, rfl, S6.out.rowT _, below_setRowV HB6.out (by omega) _⟩; rw [hw4]; have S7 := Lib.hid s7; have HB7 := Lib.hid b7; clear hw4 s7 b7; have c8 : w4.cell? ⟨w.heap.size, 0, none⟩ = some (.string t1) := cell_of_row _ _ 0 _ _ _ S7.out.o; have f8 : w4.frozen? ⟨w.heap.size, 0, none⟩ = false := frozen_of_row _ _ 0 _ _ S7.out.o; have c90 : w4.cell? ⟨w.heap.size + 1, 0, none⟩ = some (.string ⟨#[]⟩) := cell_of_row _ _ 0 _ _ _ S7.out.t; have f90 : w4.frozen? ⟨w.heap.size + 1, 0, none⟩ = false := frozen_of_row _ _ 0 _ _ S7.out.t; have c91 : w4.cell? ⟨w.heap.size + 1, 1, none⟩ = some (.string t2) := cell_of_row _ _ 1 _ _ _ S7.out.t; have f91 : w4.frozen? ⟨w.heap.size + 1, 1, none⟩ = false := frozen_of_row _ _ 1 _ _ S7.out.t; have c92 : w4.cell? ⟨w.heap.size + 1, 2, none⟩ = some (.int .i64 n2) := cell_of_row _ _ 2 _ _ _ S7.out.t; have f92 : w4.frozen? ⟨w.heap.size + 1, 2, none⟩ = false := frozen_of_row _ _ 2 _ _ S7.out.t; have c93 : w4.cell? ⟨w.heap.size + 1, 3, none⟩ = some (.int .i64 n3) := cell_of_row _ _ 3 _ _ _ S7.out.t; have f93 : w4.frozen? ⟨w.heap.size + 1, 3, none⟩ = false := frozen_of_row _ _ 3 _ _ S7.out.t; have c10 : w4.cell? ⟨w.heap.size + 1 + 1, 0, none⟩ = some (.int .i64 0) := cell_of_row _ _ 0 _ _ _ S7.out.e; have f10 : w4.frozen? ⟨w.heap.size + 1 + 1, 0, none⟩ = false := frozen_of_row _ _ 0 _ _ S7.out.e)
    | fail)
  obtain ⟨X, hX, hSX, hBX⟩ : ∃ X, w4.setCell ⟨w.heap.size + 1 + 1, 0, none⟩ (.int .i64 150) = X ∧ St w.heap.size X #[.string t1] 9 #[.string ⟨#[]⟩, .string t2, .int .i64 n2, .int .i64 n3] 30 150 ∧ Below w.heap.size w X := ⟨_, rfl, S7.out.setE 150, HB7.out.setCell (p := ⟨w.heap.size + 1 + 1, 0, none⟩) (by simp; omega) _⟩
  rw [hX]
  have SX := Lib.hid hSX
  have HBX := Lib.hid hBX
  clear hX hSX hBX
  have c8 : X.cell? ⟨w.heap.size, 0, none⟩ = some (.string t1) := cell_of_row _ _ 0 _ _ _ SX.out.o
  have f8 : X.frozen? ⟨w.heap.size, 0, none⟩ = false := frozen_of_row _ _ 0 _ _ SX.out.o
  have c90 : X.cell? ⟨w.heap.size + 1, 0, none⟩ = some (.string ⟨#[]⟩) := cell_of_row _ _ 0 _ _ _ SX.out.t
  have f90 : X.frozen? ⟨w.heap.size + 1, 0, none⟩ = false := frozen_of_row _ _ 0 _ _ SX.out.t
  have c91 : X.cell? ⟨w.heap.size + 1, 1, none⟩ = some (.string t2) := cell_of_row _ _ 1 _ _ _ SX.out.t
  have f91 : X.frozen? ⟨w.heap.size + 1, 1, none⟩ = false := frozen_of_row _ _ 1 _ _ SX.out.t
  have c92 : X.cell? ⟨w.heap.size + 1, 2, none⟩ = some (.int .i64 n2) := cell_of_row _ _ 2 _ _ _ SX.out.t
  have f92 : X.frozen? ⟨w.heap.size + 1, 2, none⟩ = false := frozen_of_row _ _ 2 _ _ SX.out.t
  have c93 : X.cell? ⟨w.heap.size + 1, 3, none⟩ = some (.int .i64 n3) := cell_of_row _ _ 3 _ _ _ SX.out.t
  have f93 : X.frozen? ⟨w.heap.size + 1, 3, none⟩ = false := frozen_of_row _ _ 3 _ _ SX.out.t
  have c10 : X.cell? ⟨w.heap.size + 1 + 1, 0, none⟩ = some (.int .i64 150) := cell_of_row _ _ 0 _ _ _ SX.out.e
  have f10 : X.frozen? ⟨w.heap.size + 1 + 1, 0, none⟩ = false := frozen_of_row _ _ 0 _ _ SX.out.e
  go_region
  go_wp2_with fail
  obtain ⟨V, hV, hS, hbV⟩ : ∃ V, _ = V ∧ St w.heap.size V #[.string t1] 9 #[.string ⟨#[]⟩, .string t2, .int .i64 n2, .int .i64 n3] 30 150 ∧ Below w.heap.size w V := ⟨_, rfl, by simpa using ((((((SX.out.setO 0 (.string t1)).setT 0 (.string ⟨#[]⟩)).setT 1 (.string t2)).setT 2 (.int .i64 n2)).setT 3 (.int .i64 n3)).setE 150).drew, ((((((HBX.out.setCell (p := ⟨w.heap.size, 0, none⟩) (Nat.le_refl _) _).setCell (p := ⟨w.heap.size + 1, 0, none⟩) (by simp) _).setCell (p := ⟨w.heap.size + 1, 1, none⟩) (by simp) _).setCell (p := ⟨w.heap.size + 1, 2, none⟩) (by simp) _).setCell (p := ⟨w.heap.size + 1, 3, none⟩) (by simp) _).setCell (p := ⟨w.heap.size + 1 + 1, 0, none⟩) (by simp; omega) _).drew⟩
  rw [hV]
  refine leaves_cons (f := 35) (args := #[.pointer (some ⟨w.heap.size + 1 + 1, 0, none⟩), .pointer (some ⟨w.heap.size, 0, none⟩), .pointer (some ⟨w.heap.size + 1, 0, none⟩)]) (by simp) (by simp [go_sem]) ?_
  refine (zyes_sl (B := w.heap.size) _ _ _ _ _ .returning V hS).mono ?_
  rintro e u' w'' ⟨rfl, rfl, hz, hbz⟩
  exact ends_sl _ _ _ _ _ _ hz rfl rfl rfl ⟨rfl, hbV.trans hbz⟩
set_option maxHeartbeats 4000000 in
set_option maxRecDepth 100000 in
theorem both_sl (s p r : ByteArray) (t1 : ByteArray) (t2 : ByteArray) (n2 n3 : Nat) (w : World) (hm : s.size ≤ 1000000) (hc : cutAt 32 s.data.toList = some (p.data.toList, r.data.toList)) (h1 : ∀ W, Calls Tryd.prog 23 #[.string p] W fun e w' => e = .returned (.tuple #[.string t1, .int .i64 0]) ∧ Below W.heap.size W w') (h2 : ∀ W, Calls Tryd.prog 24 #[.string r] W fun e w' => e = .returned (.tuple #[.agg #[.string ⟨#[]⟩, .string t2, .int .i64 n2, .int .i64 n3], .int .i64 0]) ∧ Below W.heap.size W w') :
    Calls Tryd.prog 22 #[.string s, .string ⟨#[32]⟩, .func (.func 23) #[] #[], .func (.func 24) #[] #[]] w fun e w' => e = .returned (.tuple #[.string t1, .agg #[.string ⟨#[]⟩, .string t2, .int .i64 n2, .int .i64 n3], .int .i64 0]) ∧ Below w.heap.size w w' := by
  have hmf : ∀ (fn : Fn) (first cap : Array Value) (w : World), (Instr.makeFunc fn first cap).run Tryd.prog w = .ok (.func fn first cap) w := fun _ _ _ _ => rfl
  have HC : Hid (∀ W, Calls Tryd.prog 36 #[.string s, .string ⟨#[32]⟩] W (LCutAt p r true W)) := Lib.hid fun W => lcut_32_some s p r W hm (cutAt_some hc).1 (cutAt_some hc).2
  have H1 := Lib.hid h1
  have H2 := Lib.hid h2
  clear hm hc h1 h2
  go_enter_defers Tryd.func22, Tryd.ntmps22
  go_upto_region 1 with fail
  obtain ⟨W3, hW3, r8, r9, r10, hb3⟩ := opn3 w (.cells #[.string ⟨#[]⟩] 9) (.cells #[.string ⟨#[]⟩, .string ⟨#[]⟩, .int .i64 0, .int .i64 0] 30) (.cells #[.int .i64 0] 24)
  rw [hW3]
  have S3 : Hid (St w.heap.size W3 #[.string ⟨#[]⟩] 9 #[.string ⟨#[]⟩, .string ⟨#[]⟩, .int .i64 0, .int .i64 0] 30 0) := Lib.hid ⟨r8, r9, r10⟩
  have HB3 := Lib.hid hb3
  clear hW3 r8 r9 r10 hb3
  go_wp2_with (first
    | (go_at_call 36; (with_reducible refine (HC.out _).mono ?_); rintro e w1 ⟨rfl, hb1⟩; have S4 := Lib.hid (S3.out.kept hb1); have HB4 := Lib.hid (stp HB3.out hb1); clear hb1)
    | (go_at_call 23; (with_reducible refine (H1.out w1).mono ?_); rintro e w2 ⟨rfl, hb2⟩; have S5 := Lib.hid (S4.out.kept hb2); have HB5 := Lib.hid (stp HB4.out hb2); clear hb2; have c8 : w2.cell? ⟨w.heap.size, 0, none⟩ = some (.string ⟨#[]⟩) := cell_of_row _ _ 0 _ _ _ S5.out.o; have f8 : w2.frozen? ⟨w.heap.size, 0, none⟩ = false := frozen_of_row _ _ 0 _ _ S5.out.o; have c90 : w2.cell? ⟨w.heap.size + 1, 0, none⟩ = some (.string ⟨#[]⟩) := cell_of_row _ _ 0 _ _ _ S5.out.t; have f90 : w2.frozen? ⟨w.heap.size + 1, 0, none⟩ = false := frozen_of_row _ _ 0 _ _ S5.out.t; have c91 : w2.cell? ⟨w.heap.size + 1, 1, none⟩ = some (.string ⟨#[]⟩) := cell_of_row _ _ 1 _ _ _ S5.out.t; have f91 : w2.frozen? ⟨w.heap.size + 1, 1, none⟩ = false := frozen_of_row _ _ 1 _ _ S5.out.t; have c92 : w2.cell? ⟨w.heap.size + 1, 2, none⟩ = some (.int .i64 0) := cell_of_row _ _ 2 _ _ _ S5.out.t; have f92 : w2.frozen? ⟨w.heap.size + 1, 2, none⟩ = false := frozen_of_row _ _ 2 _ _ S5.out.t; have c93 : w2.cell? ⟨w.heap.size + 1, 3, none⟩ = some (.int .i64 0) := cell_of_row _ _ 3 _ _ _ S5.out.t; have f93 : w2.frozen? ⟨w.heap.size + 1, 3, none⟩ = false := frozen_of_row _ _ 3 _ _ S5.out.t; have c10 : w2.cell? ⟨w.heap.size + 1 + 1, 0, none⟩ = some (.int .i64 0) := cell_of_row _ _ 0 _ _ _ S5.out.e; have f10 : w2.frozen? ⟨w.heap.size + 1 + 1, 0, none⟩ = false := frozen_of_row _ _ 0 _ _ S5.out.e)
    | (go_at_call 24; (with_reducible refine (H2.out _).mono ?_); rintro e w3 ⟨rfl, hb3⟩; have S6 : Hid (St w.heap.size w3 #[.string t1] 9 #[.string ⟨#[]⟩, .string ⟨#[]⟩, .int .i64 0, .int .i64 0] 30 0) := Lib.hid (by simpa using ((S5.out.setO 0 (.string t1)).setE 0).kept hb3); have HB6 := Lib.hid (stp ((HB5.out.setCell (p := ⟨w.heap.size, 0, none⟩) (Nat.le_refl _) _).setCell (p := ⟨w.heap.size + 1 + 1, 0, none⟩) (by simp; omega) _) hb3); clear hb3; have c8 : w3.cell? ⟨w.heap.size, 0, none⟩ = some (.string t1) := cell_of_row _ _ 0 _ _ _ S6.out.o; have f8 : w3.frozen? ⟨w.heap.size, 0, none⟩ = false := frozen_of_row _ _ 0 _ _ S6.out.o; have c90 : w3.cell? ⟨w.heap.size + 1, 0, none⟩ = some (.string ⟨#[]⟩) := cell_of_row _ _ 0 _ _ _ S6.out.t; have f90 : w3.frozen? ⟨w.heap.size + 1, 0, none⟩ = false := frozen_of_row _ _ 0 _ _ S6.out.t; have c91 : w3.cell? ⟨w.heap.size + 1, 1, none⟩ = some (.string ⟨#[]⟩) := cell_of_row _ _ 1 _ _ _ S6.out.t; have f91 : w3.frozen? ⟨w.heap.size + 1, 1, none⟩ = false := frozen_of_row _ _ 1 _ _ S6.out.t; have c92 : w3.cell? ⟨w.heap.size + 1, 2, none⟩ = some (.int .i64 0) := cell_of_row _ _ 2 _ _ _ S6.out.t; have f92 : w3.frozen? ⟨w.heap.size + 1, 2, none⟩ = false := frozen_of_row _ _ 2 _ _ S6.out.t; have c93 : w3.cell? ⟨w.heap.size + 1, 3, none⟩ = some (.int .i64 0) := cell_of_row _ _ 3 _ _ _ S6.out.t; have f93 : w3.frozen? ⟨w.heap.size + 1, 3, none⟩ = false := frozen_of_row _ _ 3 _ _ S6.out.t; have c10 : w3.cell? ⟨w.heap.size + 1 + 1, 0, none⟩ = some (.int .i64 0) := cell_of_row _ _ 0 _ _ _ S6.out.e; have f10 : w3.frozen? ⟨w.heap.size + 1 + 1, 0, none⟩ = false := frozen_of_row _ _ 0 _ _ S6.out.e)
    | (refine wpList_store_row rfl _ _ _ rfl (w.heap.size + 1) #[.string ⟨#[]⟩, .string t2, .int .i64 n2, .int .i64 n3] rfl rfl 30 #[.string ⟨#[]⟩, .string ⟨#[]⟩, .int .i64 0, .int .i64 0] S6.out.t size_sl rfl (one_sl t2 n2 n3) ?_; obtain ⟨w4, hw4, s7, b7⟩ : ∃ W, w3.setRow (w.heap.size + 1) #[.string ⟨#[]⟩, .string t2, .int .i64 n2, .int .i64 n3] = W ∧ St w.heap.size W #[.string t1] 9 #[.string ⟨#[]⟩, .string t2, .int .i64 n2, .int .i64 n3] 30 0 ∧ Below w.heap.size w W := ⟨_, rfl, S6.out.rowT _, below_setRowV HB6.out (by omega) _⟩; rw [hw4]; have S7 := Lib.hid s7; have HB7 := Lib.hid b7; clear hw4 s7 b7; have c8 : w4.cell? ⟨w.heap.size, 0, none⟩ = some (.string t1) := cell_of_row _ _ 0 _ _ _ S7.out.o; have f8 : w4.frozen? ⟨w.heap.size, 0, none⟩ = false := frozen_of_row _ _ 0 _ _ S7.out.o; have c90 : w4.cell? ⟨w.heap.size + 1, 0, none⟩ = some (.string ⟨#[]⟩) := cell_of_row _ _ 0 _ _ _ S7.out.t; have f90 : w4.frozen? ⟨w.heap.size + 1, 0, none⟩ = false := frozen_of_row _ _ 0 _ _ S7.out.t; have c91 : w4.cell? ⟨w.heap.size + 1, 1, none⟩ = some (.string t2) := cell_of_row _ _ 1 _ _ _ S7.out.t; have f91 : w4.frozen? ⟨w.heap.size + 1, 1, none⟩ = false := frozen_of_row _ _ 1 _ _ S7.out.t; have c92 : w4.cell? ⟨w.heap.size + 1, 2, none⟩ = some (.int .i64 n2) := cell_of_row _ _ 2 _ _ _ S7.out.t; have f92 : w4.frozen? ⟨w.heap.size + 1, 2, none⟩ = false := frozen_of_row _ _ 2 _ _ S7.out.t; have c93 : w4.cell? ⟨w.heap.size + 1, 3, none⟩ = some (.int .i64 n3) := cell_of_row _ _ 3 _ _ _ S7.out.t; have f93 : w4.frozen? ⟨w.heap.size + 1, 3, none⟩ = false := frozen_of_row _ _ 3 _ _ S7.out.t; have c10 : w4.cell? ⟨w.heap.size + 1 + 1, 0, none⟩ = some (.int .i64 0) := cell_of_row _ _ 0 _ _ _ S7.out.e; have f10 : w4.frozen? ⟨w.heap.size + 1 + 1, 0, none⟩ = false := frozen_of_row _ _ 0 _ _ S7.out.e)
    | fail)
  obtain ⟨X, hX, hSX, hBX⟩ : ∃ X, w4.setCell ⟨w.heap.size + 1 + 1, 0, none⟩ (.int .i64 0) = X ∧ St w.heap.size X #[.string t1] 9 #[.string ⟨#[]⟩, .string t2, .int .i64 n2, .int .i64 n3] 30 0 ∧ Below w.heap.size w X := ⟨_, rfl, S7.out.setE 0, HB7.out.setCell (p := ⟨w.heap.size + 1 + 1, 0, none⟩) (by simp; omega) _⟩
  rw [hX]
  have SX := Lib.hid hSX
  have HBX := Lib.hid hBX
  clear hX hSX hBX
  have c8 : X.cell? ⟨w.heap.size, 0, none⟩ = some (.string t1) := cell_of_row _ _ 0 _ _ _ SX.out.o
  have f8 : X.frozen? ⟨w.heap.size, 0, none⟩ = false := frozen_of_row _ _ 0 _ _ SX.out.o
  have c90 : X.cell? ⟨w.heap.size + 1, 0, none⟩ = some (.string ⟨#[]⟩) := cell_of_row _ _ 0 _ _ _ SX.out.t
  have f90 : X.frozen? ⟨w.heap.size + 1, 0, none⟩ = false := frozen_of_row _ _ 0 _ _ SX.out.t
  have c91 : X.cell? ⟨w.heap.size + 1, 1, none⟩ = some (.string t2) := cell_of_row _ _ 1 _ _ _ SX.out.t
  have f91 : X.frozen? ⟨w.heap.size + 1, 1, none⟩ = false := frozen_of_row _ _ 1 _ _ SX.out.t
  have c92 : X.cell? ⟨w.heap.size + 1, 2, none⟩ = some (.int .i64 n2) := cell_of_row _ _ 2 _ _ _ SX.out.t
  have f92 : X.frozen? ⟨w.heap.size + 1, 2, none⟩ = false := frozen_of_row _ _ 2 _ _ SX.out.t
  have c93 : X.cell? ⟨w.heap.size + 1, 3, none⟩ = some (.int .i64 n3) := cell_of_row _ _ 3 _ _ _ SX.out.t
  have f93 : X.frozen? ⟨w.heap.size + 1, 3, none⟩ = false := frozen_of_row _ _ 3 _ _ SX.out.t
  have c10 : X.cell? ⟨w.heap.size + 1 + 1, 0, none⟩ = some (.int .i64 0) := cell_of_row _ _ 0 _ _ _ SX.out.e
  have f10 : X.frozen? ⟨w.heap.size + 1 + 1, 0, none⟩ = false := frozen_of_row _ _ 0 _ _ SX.out.e
  go_region
  go_wp2_with fail
  obtain ⟨V, hV, hS, hbV⟩ : ∃ V, _ = V ∧ St w.heap.size V #[.string t1] 9 #[.string ⟨#[]⟩, .string t2, .int .i64 n2, .int .i64 n3] 30 0 ∧ Below w.heap.size w V := ⟨_, rfl, by simpa using ((((((SX.out.setO 0 (.string t1)).setT 0 (.string ⟨#[]⟩)).setT 1 (.string t2)).setT 2 (.int .i64 n2)).setT 3 (.int .i64 n3)).setE 0).drew, ((((((HBX.out.setCell (p := ⟨w.heap.size, 0, none⟩) (Nat.le_refl _) _).setCell (p := ⟨w.heap.size + 1, 0, none⟩) (by simp) _).setCell (p := ⟨w.heap.size + 1, 1, none⟩) (by simp) _).setCell (p := ⟨w.heap.size + 1, 2, none⟩) (by simp) _).setCell (p := ⟨w.heap.size + 1, 3, none⟩) (by simp) _).setCell (p := ⟨w.heap.size + 1 + 1, 0, none⟩) (by simp; omega) _).drew⟩
  rw [hV]
  refine leaves_cons (f := 35) (args := #[.pointer (some ⟨w.heap.size + 1 + 1, 0, none⟩), .pointer (some ⟨w.heap.size, 0, none⟩), .pointer (some ⟨w.heap.size + 1, 0, none⟩)]) (by simp) (by simp [go_sem]) ?_
  refine (zno_sl (B := w.heap.size) _ _ _ _ _ .returning V hS).mono ?_
  rintro e u' w'' ⟨rfl, rfl, rfl⟩
  exact ends_sl _ _ _ _ _ _ hS rfl rfl rfl ⟨rfl, hbV⟩
end Hx
end Go.Proofs.YtagngohemlkkoaaDoor
