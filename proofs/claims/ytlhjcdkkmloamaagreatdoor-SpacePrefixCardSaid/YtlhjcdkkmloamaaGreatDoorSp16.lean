/-
  Texts of one seat, put together: TextY, TextZ, TextV, EscE.
-/
import Derived.Test.YtlhjcdkkmloamaaGreatDoorSp07
import Derived.OwnWalk
import Derived.OneCell
import Derived.Deep.AppendLies
import Derived.Test.YtlhjcdkkmloamaaGreatDoorSp15
import Derived.Test.YtlhjcdkkmloamaaGreatDoorSp08
set_option linter.unusedSimpArgs false
namespace Go.Proofs.YtlhjcdkkmloamaaGreatDoor
open Go.RowKit
namespace Hx
open Tx
set_option maxRecDepth 100000
set_option maxHeartbeats 16000000
set_option linter.unusedVariables false
def Box (B g : Nat) (l : List UInt8) (w : World) : Prop := ∃ v, w.heap[g]? = some (.cells #[v] 96 (0, 0)) ∧ w.ownsRow B 5 1 v l.length (Lib.byteCells l)
def PutTo (B g : Nat) (l : List UInt8) (w : World) (e : Ending) (w' : World) : Prop := e = .returned (.tuple #[]) ∧ Below B w w' ∧ Box B g l w'
theorem own_nbox {w : World} {B n g : Nat} {v u : Value} {xs : List Value} (h : w.ownsRow B 5 1 v n xs) (hk : w.heap[g]? = some (.cells #[u] 96 (0, 0))) : some g ≠ v.ownBlock := by
  rcases h.2 with ⟨rfl, _⟩ | ⟨g', cap, cur, rfl, hb, hg, rest⟩
  · simp [Value.ownBlock]
  · intro e
    simp only [Value.ownBlock, Option.some.injEq] at e
    subst e
    rw [hk] at hg
    cases hg
theorem box_grown {w w' : World} {row : Option Nat} {g : Nat} {o : Obj} (hk : w.heap[g]? = some o) (hg : w.grownBy w' row) (hne : some g ≠ row) : w'.heap[g]? = some o :=
  (hg.block g (lt_of_block hk) hne).trans hk
theorem box_alloc {w : World} {g : Nat} {o' : Obj} (hk : w.heap[g]? = some o') (o : Obj) : (w.alloc o).heap[g]? = some o' :=
  box_grown hk (World.grownBy_alloc w o none) (by simp)
theorem box_put {w w4 : World} {B g m : Nat} {v v4 : Value} {E : List UInt8} {l : List UInt8} (hg : w4.heap[g]? = some (.cells #[v] 96 (0, 0))) (hown : w4.ownsRow B 5 1 v4 (l.length + m) (Lib.byteCells l ++ Lib.byteCells E)) (hE : E.length = m) (hB : B ≤ g) (hb : Below B w w4) :
    PutTo B g (l ++ E) w (.returned (.tuple #[])) (w4.setCell ⟨g, 0, none⟩ v4) := by
  refine ⟨rfl, hb.setCell hB _, v4, one_setCell hg, ?_⟩
  rw [List.length_append, hE, Lib.byteCells_append]
  exact ownsRow_setCell_other hown (fun h => own_nbox hown hg h.symm) _
theorem put_1 (n : Nat) (b : UInt8) (B g : Nat) (l : List UInt8) (w : World) (h : n < 128) (hb : bt n = b) (hbx : Box B g l w) (hB : B ≤ g) (hl : l.length ≤ 1000000) (hBw : B ≤ w.heap.size) :
    Calls Tryz.prog 137 #[.int .i64 n, .pointer (some ⟨g, 0, none⟩)] w (PutTo B g (l ++ [b]) w) := by
  obtain ⟨i0, hi, hz0, hz1, hz2⟩ := info_parts infoU8
  obtain ⟨v, hg, hown⟩ := hbx
  have d1 : decide ((n : Int) < 128) = true := by simp; omega
  have g1 : IntKind.u8.wrap (n : Int) = (b.toNat : Int) := by rw [IntWalk.u8_in _ (by omega), ← hb, bt_nat _ (by omega)]
  have c0 := cell_of_one hg
  have HG := Lib.hid hg
  have HO := Lib.hid hown
  have HI := Lib.hid hi
  have HZ0 := Lib.hid hz0
  have HZ1 := Lib.hid hz1
  have HZ2 := Lib.hid hz2
  obtain ⟨A0, k0, rfl⟩ := own_form hown
  clear hg hown hi hz0 hz1 hz2 hb
  go_enter Tryz.func137, Tryz.ntmps137
  go_wp2_with (first
    | (at_builtin; refine wpList_append_rd rfl (.tmp 21) (.tmp 24) 96 rfl B 5 i0 (.int .u8 0) Tryz.underlying96 HI.out HZ0.out HZ1.out HZ2.out rfl _ l.length _ rfl (HO.out.alloc (.cells #[.int .u8 b.toNat] 5)) (w.heap.size + 1) (some ⟨w.heap.size, 0, none⟩) 1 1 [b] rfl (RdA.new w 5 [b]) rfl (fun h => by cases h) (by omega) (by rw [World.size_alloc]; omega) ?_; intro v4 w4 hown4 hgr4; obtain ⟨A4, k4, rfl⟩ := own_form hown4; have HG4 := Lib.hid (box_grown (box_alloc HG.out _) hgr4 (own_nbox HO.out HG.out)); have HB4 : Hid (Below B w w4) := Lib.hid (((Below.refl B w).alloc hBw _).grown hgr4 (by rw [World.size_alloc]; omega) (fun g hg => (HO.out.lt g hg).1)); have HO4 := Lib.hid hown4; have c4 := cell_of_one HG4.out; have f4 := free_of_one HG4.out; clear hown4 hgr4)
    | fail)
  go_end0
  exact box_put HG4.out HO4.out rfl hB HB4.out
theorem row_drew {w : World} {B g n : Nat} {v : Value} {l : List UInt8} (hg : w.heap[g]? = some (.cells #[v] 96 (0, 0))) (hown : w.ownsRow B 5 1 v n (Lib.byteCells l)) (hBw : B ≤ w.heap.size) (E : List UInt8) :
    ∃ W, (w.alloc (.cells (Lib.byteCells E).toArray 5)).drew = W ∧ W.heap[g]? = some (.cells #[v] 96 (0, 0)) ∧ W.ownsRow B 5 1 v n (Lib.byteCells l) ∧ RdA W W.heap.size (some ⟨w.heap.size, 0, none⟩) E ∧ Below B w W ∧ B ≤ W.heap.size :=
  ⟨_, rfl, box_alloc hg _, hown.alloc _, RdA.newS w 5 E, ((Below.refl B w).alloc hBw _).drew, by show B ≤ (w.alloc _).heap.size; rw [World.size_alloc]; omega⟩
theorem step_append_rda {P : Program} {w : World} {ops : Array Oper} {o : Oper} {a : Act} {K : Act → World → Prop} {Q : Exit → Act → World → Prop} {E' : Prop} (hgd : o.guard = none) (s x : Operand) (t : TypeId)
    (ho : o.op = .call { callee := .builtin .append, args := #[s, x], argTypes := #[t, t] })
    (base : Nat) (e : TypeId) (i : TypeInfo) (z : Value) (ht : P.underlying t = some (.slice e)) (hi : P.info? e = some i) (hz : i.zero = some z) (hsize : i.size = 1) (hby : i.bytes = 1) (hzs : z.cells.size = 1)
    (v : Value) (n : Nat) (xs : List Value) (hs : a.eval s = v) (hown : w.ownsRow base e 1 v n xs)
    (B : Nat) (A : Option Addr) (m c : Nat) (l : List UInt8) (hx : a.eval x = .slice A m c) (hr : RdA w B A l) (hl : l.length = m) (hc0 : A = none → c = 0) (hb : n + m ≤ 1000000000000) (hbase : base ≤ w.heap.size)
    (h : ∀ v' w', w'.ownsRow base e 1 v' (n + m) (xs ++ Lib.byteCells l) → w.grownBy w' v.ownBlock → K (a.put o.dst v') w') : if Region.wanted o (yielded ops a.tmps) = true then Oper.wp P o a w K Q else E' :=
  step_append_rdg (enc := fun b : UInt8 => Value.int .u8 b.toNat) (fun _ => rfl) hgd s x t ho base e i z 1 ht hi hz hsize hby (by decide) hzs v n xs hs hown B A m c l hx hr hl hc0 hb hbase h
theorem put_2 (n : Nat) (b0 b1 : UInt8) (B g : Nat) (l : List UInt8) (w : World) (h : 128 ≤ n) (h2 : n < 2048) (hb0 : bt (192 + n / 64) = b0) (hb1 : bt (128 + n % 64) = b1) (hbx : Box B g l w) (hB : B ≤ g) (hl : l.length ≤ 1000000) (hBw : B ≤ w.heap.size) :
    Calls Tryz.prog 137 #[.int .i64 n, .pointer (some ⟨g, 0, none⟩)] w (PutTo B g (l ++ [b0, b1]) w) := by
  obtain ⟨i0, hi, hz0, hz1, hz2⟩ := info_parts infoU8
  obtain ⟨v, hg, hown⟩ := hbx
  have d1 : decide ((n : Int) < 128) = false := by simp; omega
  have d2 : decide ((n : Int) < 2048) = true := by simp; omega
  have c0 := cell_of_one hg
  obtain ⟨A0, k0, rfl⟩ := own_form hown
  obtain ⟨W, hW, hWg, hWo, hWr, hWb, hWB⟩ := row_drew hg hown hBw [b0, b1]
  have hW' : (w.alloc (.cells #[.int .u8 b0.toNat, .int .u8 b1.toNat] 5)).drew = W := hW
  have HG := Lib.hid hg
  have HWG := Lib.hid hWg
  have HWO := Lib.hid hWo
  have HWR := Lib.hid hWr
  have HWB := Lib.hid hWb
  have HI := Lib.hid hi
  have HZ0 := Lib.hid hz0
  have HZ1 := Lib.hid hz1
  have HZ2 := Lib.hid hz2
  have HN : Hid (n ≤ 1114111) := Lib.hid (by omega)
  obtain ⟨q6, hq6⟩ : ∃ q6 : Nat, n / 64 = q6 := ⟨_, rfl⟩
  have eq6 : (n : Int) / 64 = (q6 : Int) := by omega
  have hb0' := hb0
  have k0' : (b0.toNat : Int) = 192 + (q6 : Int) := by rw [← hb0, bt_nat _ (by omega)]; omega
  have g1 : IntKind.u8.wrap (q6 : Int) = (q6 : Int) := IntWalk.u8_in _ (by omega)
  have g2 : IntKind.u8.wrap (192 + (q6 : Int)) = (b0.toNat : Int) := by rw [IntWalk.u8_in _ (by omega)]; omega
  have H1 : Hid (bt (128 + n % 64) = b1) := by show _ = _; rw [← hb1]
  have N1 : Hid (n ≤ 1114111) := Lib.hid (by omega)
  have cW := cell_of_one hWg
  clear hg hown hi hz0 hz1 hz2 hb0 hb1 hb0' k0' hW hWg hWo hWr hWb hq6
  go_enter Tryz.func137, Tryz.ntmps137
  go_wp2_with fail
  refine wp_region_noPanic ?_
  refine wp_region_Z (fun w' => w'.cell? ⟨g, 0, none⟩ = some (.slice A0 l.length k0)) 9 (by kernel_rfl) ?_
  have hS : w.drew.cell? ⟨g, 0, none⟩ = some (.slice A0 l.length k0) := c0
  refine takeZ (i := 0) (v := .slice A0 l.length k0) rfl (by kernel_rfl) (by kernel_rfl) (by kernel_rfl) (by kernel_rfl) (fun _ _ _ h => h) (Or.inl ⟨by rfl, ?_⟩) hS ?_
  · intro w' hSw; (try dsimp only at hSw); go_simp
  try simp only [Act.put, List.setIfInBounds_toArray, List.set_cons_zero, List.set_cons_succ]
  refine takeZ (i := 1) (v := .int .i64 n) rfl (by kernel_rfl) (by kernel_rfl) (by kernel_rfl) (by kernel_rfl) (fun _ _ _ h => h) (Or.inl ⟨by rfl, ?_⟩) hS ?_
  · intro w' hSw; (try dsimp only at hSw); go_simp
  try simp only [Act.put, List.setIfInBounds_toArray, List.set_cons_zero, List.set_cons_succ]
  refine takeZ (i := 2) (v := .int .i64 q6) rfl (by kernel_rfl) (by kernel_rfl) (by kernel_rfl) (by kernel_rfl) (fun _ _ _ h => h) (Or.inl ⟨by rfl, ?_⟩) hS ?_
  · intro w' hSw; (try dsimp only at hSw); go_simp
  try simp only [Act.put, List.setIfInBounds_toArray, List.set_cons_zero, List.set_cons_succ]
  refine takeZ (i := 3) (v := .int .u8 q6) rfl (by kernel_rfl) (by kernel_rfl) (by kernel_rfl) (by kernel_rfl) (fun _ _ _ h => h) (Or.inl ⟨by rfl, ?_⟩) hS ?_
  · intro w' hSw; (try dsimp only at hSw); go_simp
  try simp only [Act.put, List.setIfInBounds_toArray, List.set_cons_zero, List.set_cons_succ]
  refine takeZ (i := 4) (v := .int .u8 b0.toNat) rfl (by kernel_rfl) (by kernel_rfl) (by kernel_rfl) (by kernel_rfl) (fun _ _ _ h => h) (Or.inl ⟨by rfl, ?_⟩) hS ?_
  · intro w' hSw; (try dsimp only at hSw); go_simp
  try simp only [Act.put, List.setIfInBounds_toArray, List.set_cons_zero, List.set_cons_succ]
  refine takeZ (i := 5) (v := .int .i64 n) rfl (by kernel_rfl) (by kernel_rfl) (by kernel_rfl) (by kernel_rfl) (fun _ _ _ h => h) (Or.inl ⟨by rfl, ?_⟩) hS ?_
  · intro w' hSw; (try dsimp only at hSw); go_simp
  try simp only [Act.put, List.setIfInBounds_toArray, List.set_cons_zero, List.set_cons_succ]
  refine stepZ (i := 6) (by kernel_rfl) rfl (fun K hK => ?_)
  go_simp
  go_at_call 138; (with_reducible refine (sixT n b1 _ N1.out H1.out).mono ?_); rintro e w1 ⟨rfl, rfl⟩
  go_wp2_with fail
  refine hK.out _ _ (fun _ => hS) (fun _ => ?_)
  clear hK K
  try simp only [Act.put, List.setIfInBounds_toArray, List.set_cons_zero, List.set_cons_succ]
  refine stepZ (i := 7) (by kernel_rfl) rfl (fun K hK => ?_)
  go_simp
  refine hK.out _ _ (fun _ => cW) (fun _ => ?_)
  clear hK K
  try simp only [Act.put, List.setIfInBounds_toArray, List.set_cons_zero, List.set_cons_succ]
  refine stepZ (i := 8) (by kernel_rfl) rfl (fun K hK => ?_)
  refine step_append_rda rfl (.tmp 29) (.tmp 36) 96 rfl B 5 i0 (.int .u8 0) Tryz.underlying96 HI.out HZ0.out HZ1.out HZ2.out rfl _ l.length _ rfl HWO.out W.heap.size (some ⟨w.heap.size, 0, none⟩) 2 2 [b0, b1] rfl HWR.out rfl (fun h => by cases h) (by omega) hWB ?_
  intro v4 w4 hown4 hgr4
  obtain ⟨A4, k4, rfl⟩ := own_form hown4
  have HG4 := Lib.hid (box_grown HWG.out hgr4 (own_nbox HWO.out HWG.out))
  have HB4 : Hid (Below B w w4) := Lib.hid (HWB.out.grown hgr4 hWB (fun g hg => (HWO.out.lt g hg).1))
  have HO4 := Lib.hid hown4
  have c4 := cell_of_one HG4.out
  have f4 := free_of_one HG4.out
  clear hown4 hgr4
  refine hK.out _ _ (fun _ => c4) (fun _ => ?_)
  clear hK K
  try simp only [Act.put, List.setIfInBounds_toArray, List.set_cons_zero, List.set_cons_succ]
  refine stepZ (i := 9) (by kernel_rfl) rfl (fun K hK => ?_)
  go_simp
  refine hK.out _ _ (fun h => absurd rfl h) (fun _ => ?_)
  clear hK K
  try simp only [Act.put, List.setIfInBounds_toArray, List.set_cons_zero, List.set_cons_succ]
  refine doneZ (by kernel_rfl) ?_ _
  refine NoPanic.normal ?_
  go_wp2_with fail
  go_end0
  exact box_put HG4.out HO4.out rfl hB HB4.out
theorem put_3 (n : Nat) (b0 b1 b2 : UInt8) (B g : Nat) (l : List UInt8) (w : World) (h : 2048 ≤ n) (h2 : n < 65536) (hb0 : bt (224 + n / 4096) = b0) (hb1 : bt (128 + n / 64 % 64) = b1) (hb2 : bt (128 + n % 64) = b2) (hbx : Box B g l w) (hB : B ≤ g) (hl : l.length ≤ 1000000) (hBw : B ≤ w.heap.size) :
    Calls Tryz.prog 137 #[.int .i64 n, .pointer (some ⟨g, 0, none⟩)] w (PutTo B g (l ++ [b0, b1, b2]) w) := by
  obtain ⟨i0, hi, hz0, hz1, hz2⟩ := info_parts infoU8
  obtain ⟨v, hg, hown⟩ := hbx
  have d1 : decide ((n : Int) < 128) = false := by simp; omega
  have d2 : decide ((n : Int) < 2048) = false := by simp; omega
  have d3 : decide ((n : Int) < 65536) = true := by simp; omega
  have c0 := cell_of_one hg
  obtain ⟨A0, k0, rfl⟩ := own_form hown
  obtain ⟨W, hW, hWg, hWo, hWr, hWb, hWB⟩ := row_drew hg hown hBw [b0, b1, b2]
  have hW' : (w.alloc (.cells #[.int .u8 b0.toNat, .int .u8 b1.toNat, .int .u8 b2.toNat] 5)).drew = W := hW
  have HG := Lib.hid hg
  have HWG := Lib.hid hWg
  have HWO := Lib.hid hWo
  have HWR := Lib.hid hWr
  have HWB := Lib.hid hWb
  have HI := Lib.hid hi
  have HZ0 := Lib.hid hz0
  have HZ1 := Lib.hid hz1
  have HZ2 := Lib.hid hz2
  have HN : Hid (n ≤ 1114111) := Lib.hid (by omega)
  obtain ⟨q6, hq6⟩ : ∃ q6 : Nat, n / 64 = q6 := ⟨_, rfl⟩
  have eq6 : (n : Int) / 64 = (q6 : Int) := by omega
  obtain ⟨q12, hq12⟩ : ∃ q12 : Nat, n / 4096 = q12 := ⟨_, rfl⟩
  have eq12 : (n : Int) / 4096 = (q12 : Int) := by omega
  have hb0' := hb0
  have k0' : (b0.toNat : Int) = 224 + (q12 : Int) := by rw [← hb0, bt_nat _ (by omega)]; omega
  have g1 : IntKind.u8.wrap (q12 : Int) = (q12 : Int) := IntWalk.u8_in _ (by omega)
  have g2 : IntKind.u8.wrap (224 + (q12 : Int)) = (b0.toNat : Int) := by rw [IntWalk.u8_in _ (by omega)]; omega
  have H1 : Hid (bt (128 + q6 % 64) = b1) := by show _ = _; rw [← hb1, ← hq6]
  have N1 : Hid (q6 ≤ 1114111) := Lib.hid (by omega)
  have H2 : Hid (bt (128 + n % 64) = b2) := by show _ = _; rw [← hb2]
  have N2 : Hid (n ≤ 1114111) := Lib.hid (by omega)
  have cW := cell_of_one hWg
  clear hg hown hi hz0 hz1 hz2 hb0 hb1 hb2 hb0' k0' hW hWg hWo hWr hWb hq6 hq12
  go_enter Tryz.func137, Tryz.ntmps137
  go_wp2_with fail
  refine wp_region_noPanic ?_
  refine wp_region_Z (fun w' => w'.cell? ⟨g, 0, none⟩ = some (.slice A0 l.length k0)) 12 (by kernel_rfl) ?_
  have hS : w.drew.cell? ⟨g, 0, none⟩ = some (.slice A0 l.length k0) := c0
  refine takeZ (i := 0) (v := .slice A0 l.length k0) rfl (by kernel_rfl) (by kernel_rfl) (by kernel_rfl) (by kernel_rfl) (fun _ _ _ h => h) (Or.inl ⟨by rfl, ?_⟩) hS ?_
  · intro w' hSw; (try dsimp only at hSw); go_simp
  try simp only [Act.put, List.setIfInBounds_toArray, List.set_cons_zero, List.set_cons_succ]
  refine takeZ (i := 1) (v := .int .i64 n) rfl (by kernel_rfl) (by kernel_rfl) (by kernel_rfl) (by kernel_rfl) (fun _ _ _ h => h) (Or.inl ⟨by rfl, ?_⟩) hS ?_
  · intro w' hSw; (try dsimp only at hSw); go_simp
  try simp only [Act.put, List.setIfInBounds_toArray, List.set_cons_zero, List.set_cons_succ]
  refine takeZ (i := 2) (v := .int .i64 q12) rfl (by kernel_rfl) (by kernel_rfl) (by kernel_rfl) (by kernel_rfl) (fun _ _ _ h => h) (Or.inl ⟨by rfl, ?_⟩) hS ?_
  · intro w' hSw; (try dsimp only at hSw); go_simp
  try simp only [Act.put, List.setIfInBounds_toArray, List.set_cons_zero, List.set_cons_succ]
  refine takeZ (i := 3) (v := .int .u8 q12) rfl (by kernel_rfl) (by kernel_rfl) (by kernel_rfl) (by kernel_rfl) (fun _ _ _ h => h) (Or.inl ⟨by rfl, ?_⟩) hS ?_
  · intro w' hSw; (try dsimp only at hSw); go_simp
  try simp only [Act.put, List.setIfInBounds_toArray, List.set_cons_zero, List.set_cons_succ]
  refine takeZ (i := 4) (v := .int .u8 b0.toNat) rfl (by kernel_rfl) (by kernel_rfl) (by kernel_rfl) (by kernel_rfl) (fun _ _ _ h => h) (Or.inl ⟨by rfl, ?_⟩) hS ?_
  · intro w' hSw; (try dsimp only at hSw); go_simp
  try simp only [Act.put, List.setIfInBounds_toArray, List.set_cons_zero, List.set_cons_succ]
  refine takeZ (i := 5) (v := .int .i64 n) rfl (by kernel_rfl) (by kernel_rfl) (by kernel_rfl) (by kernel_rfl) (fun _ _ _ h => h) (Or.inl ⟨by rfl, ?_⟩) hS ?_
  · intro w' hSw; (try dsimp only at hSw); go_simp
  try simp only [Act.put, List.setIfInBounds_toArray, List.set_cons_zero, List.set_cons_succ]
  refine takeZ (i := 6) (v := .int .i64 q6) rfl (by kernel_rfl) (by kernel_rfl) (by kernel_rfl) (by kernel_rfl) (fun _ _ _ h => h) (Or.inl ⟨by rfl, ?_⟩) hS ?_
  · intro w' hSw; (try dsimp only at hSw); go_simp
  try simp only [Act.put, List.setIfInBounds_toArray, List.set_cons_zero, List.set_cons_succ]
  refine takeZ (i := 8) (v := .int .i64 n) rfl (by kernel_rfl) (by kernel_rfl) (by kernel_rfl) (by kernel_rfl) (fun _ _ _ h => h) (Or.inl ⟨by rfl, ?_⟩) hS ?_
  · intro w' hSw; (try dsimp only at hSw); go_simp
  try simp only [Act.put, List.setIfInBounds_toArray, List.set_cons_zero, List.set_cons_succ]
  refine stepZ (i := 7) (by kernel_rfl) rfl (fun K hK => ?_)
  go_simp
  go_at_call 138; (with_reducible refine (sixT q6 b1 _ N1.out H1.out).mono ?_); rintro e w1 ⟨rfl, rfl⟩
  go_wp2_with fail
  refine hK.out _ _ (fun _ => hS) (fun _ => ?_)
  clear hK K
  try simp only [Act.put, List.setIfInBounds_toArray, List.set_cons_zero, List.set_cons_succ]
  refine stepZ (i := 9) (by kernel_rfl) rfl (fun K hK => ?_)
  go_simp
  go_at_call 138; (with_reducible refine (sixT n b2 _ N2.out H2.out).mono ?_); rintro e w1 ⟨rfl, rfl⟩
  go_wp2_with fail
  refine hK.out _ _ (fun _ => hS) (fun _ => ?_)
  clear hK K
  try simp only [Act.put, List.setIfInBounds_toArray, List.set_cons_zero, List.set_cons_succ]
  refine stepZ (i := 10) (by kernel_rfl) rfl (fun K hK => ?_)
  go_simp
  refine hK.out _ _ (fun _ => cW) (fun _ => ?_)
  clear hK K
  try simp only [Act.put, List.setIfInBounds_toArray, List.set_cons_zero, List.set_cons_succ]
  refine stepZ (i := 11) (by kernel_rfl) rfl (fun K hK => ?_)
  refine step_append_rda rfl (.tmp 41) (.tmp 51) 96 rfl B 5 i0 (.int .u8 0) Tryz.underlying96 HI.out HZ0.out HZ1.out HZ2.out rfl _ l.length _ rfl HWO.out W.heap.size (some ⟨w.heap.size, 0, none⟩) 3 3 [b0, b1, b2] rfl HWR.out rfl (fun h => by cases h) (by omega) hWB ?_
  intro v4 w4 hown4 hgr4
  obtain ⟨A4, k4, rfl⟩ := own_form hown4
  have HG4 := Lib.hid (box_grown HWG.out hgr4 (own_nbox HWO.out HWG.out))
  have HB4 : Hid (Below B w w4) := Lib.hid (HWB.out.grown hgr4 hWB (fun g hg => (HWO.out.lt g hg).1))
  have HO4 := Lib.hid hown4
  have c4 := cell_of_one HG4.out
  have f4 := free_of_one HG4.out
  clear hown4 hgr4
  refine hK.out _ _ (fun _ => c4) (fun _ => ?_)
  clear hK K
  try simp only [Act.put, List.setIfInBounds_toArray, List.set_cons_zero, List.set_cons_succ]
  refine stepZ (i := 12) (by kernel_rfl) rfl (fun K hK => ?_)
  go_simp
  refine hK.out _ _ (fun h => absurd rfl h) (fun _ => ?_)
  clear hK K
  try simp only [Act.put, List.setIfInBounds_toArray, List.set_cons_zero, List.set_cons_succ]
  refine doneZ (by kernel_rfl) ?_ _
  refine NoPanic.normal ?_
  go_wp2_with fail
  go_end0
  exact box_put HG4.out HO4.out rfl hB HB4.out
theorem put_4 (n : Nat) (b0 b1 b2 b3 : UInt8) (B g : Nat) (l : List UInt8) (w : World) (h : 65536 ≤ n) (h2 : n ≤ 1114111) (hb0 : bt (240 + n / 262144) = b0) (hb1 : bt (128 + n / 4096 % 64) = b1) (hb2 : bt (128 + n / 64 % 64) = b2) (hb3 : bt (128 + n % 64) = b3) (hbx : Box B g l w) (hB : B ≤ g) (hl : l.length ≤ 1000000) (hBw : B ≤ w.heap.size) :
    Calls Tryz.prog 137 #[.int .i64 n, .pointer (some ⟨g, 0, none⟩)] w (PutTo B g (l ++ [b0, b1, b2, b3]) w) := by
  obtain ⟨i0, hi, hz0, hz1, hz2⟩ := info_parts infoU8
  obtain ⟨v, hg, hown⟩ := hbx
  have d1 : decide ((n : Int) < 128) = false := by simp; omega
  have d2 : decide ((n : Int) < 2048) = false := by simp; omega
  have d3 : decide ((n : Int) < 65536) = false := by simp; omega
  have c0 := cell_of_one hg
  obtain ⟨A0, k0, rfl⟩ := own_form hown
  obtain ⟨W, hW, hWg, hWo, hWr, hWb, hWB⟩ := row_drew hg hown hBw [b0, b1, b2, b3]
  have hW' : (w.alloc (.cells #[.int .u8 b0.toNat, .int .u8 b1.toNat, .int .u8 b2.toNat, .int .u8 b3.toNat] 5)).drew = W := hW
  have HG := Lib.hid hg
  have HWG := Lib.hid hWg
  have HWO := Lib.hid hWo
  have HWR := Lib.hid hWr
  have HWB := Lib.hid hWb
  have HI := Lib.hid hi
  have HZ0 := Lib.hid hz0
  have HZ1 := Lib.hid hz1
  have HZ2 := Lib.hid hz2
  have HN : Hid (n ≤ 1114111) := Lib.hid (by omega)
  obtain ⟨q6, hq6⟩ : ∃ q6 : Nat, n / 64 = q6 := ⟨_, rfl⟩
  have eq6 : (n : Int) / 64 = (q6 : Int) := by omega
  obtain ⟨q12, hq12⟩ : ∃ q12 : Nat, n / 4096 = q12 := ⟨_, rfl⟩
  have eq12 : (n : Int) / 4096 = (q12 : Int) := by omega
  obtain ⟨q18, hq18⟩ : ∃ q18 : Nat, n / 262144 = q18 := ⟨_, rfl⟩
  have eq18 : (n : Int) / 262144 = (q18 : Int) := by omega
  have hb0' := hb0
  have k0' : (b0.toNat : Int) = 240 + (q18 : Int) := by rw [← hb0, bt_nat _ (by omega)]; omega
  have g1 : IntKind.u8.wrap (q18 : Int) = (q18 : Int) := IntWalk.u8_in _ (by omega)
  have g2 : IntKind.u8.wrap (240 + (q18 : Int)) = (b0.toNat : Int) := by rw [IntWalk.u8_in _ (by omega)]; omega
  have H1 : Hid (bt (128 + q12 % 64) = b1) := by show _ = _; rw [← hb1, ← hq12]
  have N1 : Hid (q12 ≤ 1114111) := Lib.hid (by omega)
  have H2 : Hid (bt (128 + q6 % 64) = b2) := by show _ = _; rw [← hb2, ← hq6]
  have N2 : Hid (q6 ≤ 1114111) := Lib.hid (by omega)
  have H3 : Hid (bt (128 + n % 64) = b3) := by show _ = _; rw [← hb3]
  have N3 : Hid (n ≤ 1114111) := Lib.hid (by omega)
  have cW := cell_of_one hWg
  clear hg hown hi hz0 hz1 hz2 hb0 hb1 hb2 hb3 hb0' k0' hW hWg hWo hWr hWb hq6 hq12 hq18
  go_enter Tryz.func137, Tryz.ntmps137
  go_wp2_with fail
  refine wp_region_noPanic ?_
  refine wp_region_Z (fun w' => w'.cell? ⟨g, 0, none⟩ = some (.slice A0 l.length k0)) 15 (by kernel_rfl) ?_
  have hS : w.drew.cell? ⟨g, 0, none⟩ = some (.slice A0 l.length k0) := c0
  refine takeZ (i := 0) (v := .slice A0 l.length k0) rfl (by kernel_rfl) (by kernel_rfl) (by kernel_rfl) (by kernel_rfl) (fun _ _ _ h => h) (Or.inl ⟨by rfl, ?_⟩) hS ?_
  · intro w' hSw; (try dsimp only at hSw); go_simp
  try simp only [Act.put, List.setIfInBounds_toArray, List.set_cons_zero, List.set_cons_succ]
  refine takeZ (i := 1) (v := .int .i64 n) rfl (by kernel_rfl) (by kernel_rfl) (by kernel_rfl) (by kernel_rfl) (fun _ _ _ h => h) (Or.inl ⟨by rfl, ?_⟩) hS ?_
  · intro w' hSw; (try dsimp only at hSw); go_simp
  try simp only [Act.put, List.setIfInBounds_toArray, List.set_cons_zero, List.set_cons_succ]
  refine takeZ (i := 2) (v := .int .i64 q18) rfl (by kernel_rfl) (by kernel_rfl) (by kernel_rfl) (by kernel_rfl) (fun _ _ _ h => h) (Or.inl ⟨by rfl, ?_⟩) hS ?_
  · intro w' hSw; (try dsimp only at hSw); go_simp
  try simp only [Act.put, List.setIfInBounds_toArray, List.set_cons_zero, List.set_cons_succ]
  refine takeZ (i := 3) (v := .int .u8 q18) rfl (by kernel_rfl) (by kernel_rfl) (by kernel_rfl) (by kernel_rfl) (fun _ _ _ h => h) (Or.inl ⟨by rfl, ?_⟩) hS ?_
  · intro w' hSw; (try dsimp only at hSw); go_simp
  try simp only [Act.put, List.setIfInBounds_toArray, List.set_cons_zero, List.set_cons_succ]
  refine takeZ (i := 4) (v := .int .u8 b0.toNat) rfl (by kernel_rfl) (by kernel_rfl) (by kernel_rfl) (by kernel_rfl) (fun _ _ _ h => h) (Or.inl ⟨by rfl, ?_⟩) hS ?_
  · intro w' hSw; (try dsimp only at hSw); go_simp
  try simp only [Act.put, List.setIfInBounds_toArray, List.set_cons_zero, List.set_cons_succ]
  refine takeZ (i := 5) (v := .int .i64 n) rfl (by kernel_rfl) (by kernel_rfl) (by kernel_rfl) (by kernel_rfl) (fun _ _ _ h => h) (Or.inl ⟨by rfl, ?_⟩) hS ?_
  · intro w' hSw; (try dsimp only at hSw); go_simp
  try simp only [Act.put, List.setIfInBounds_toArray, List.set_cons_zero, List.set_cons_succ]
  refine takeZ (i := 6) (v := .int .i64 q12) rfl (by kernel_rfl) (by kernel_rfl) (by kernel_rfl) (by kernel_rfl) (fun _ _ _ h => h) (Or.inl ⟨by rfl, ?_⟩) hS ?_
  · intro w' hSw; (try dsimp only at hSw); go_simp
  try simp only [Act.put, List.setIfInBounds_toArray, List.set_cons_zero, List.set_cons_succ]
  refine takeZ (i := 8) (v := .int .i64 n) rfl (by kernel_rfl) (by kernel_rfl) (by kernel_rfl) (by kernel_rfl) (fun _ _ _ h => h) (Or.inl ⟨by rfl, ?_⟩) hS ?_
  · intro w' hSw; (try dsimp only at hSw); go_simp
  try simp only [Act.put, List.setIfInBounds_toArray, List.set_cons_zero, List.set_cons_succ]
  refine takeZ (i := 9) (v := .int .i64 q6) rfl (by kernel_rfl) (by kernel_rfl) (by kernel_rfl) (by kernel_rfl) (fun _ _ _ h => h) (Or.inl ⟨by rfl, ?_⟩) hS ?_
  · intro w' hSw; (try dsimp only at hSw); go_simp
  try simp only [Act.put, List.setIfInBounds_toArray, List.set_cons_zero, List.set_cons_succ]
  refine takeZ (i := 11) (v := .int .i64 n) rfl (by kernel_rfl) (by kernel_rfl) (by kernel_rfl) (by kernel_rfl) (fun _ _ _ h => h) (Or.inl ⟨by rfl, ?_⟩) hS ?_
  · intro w' hSw; (try dsimp only at hSw); go_simp
  try simp only [Act.put, List.setIfInBounds_toArray, List.set_cons_zero, List.set_cons_succ]
  refine stepZ (i := 7) (by kernel_rfl) rfl (fun K hK => ?_)
  go_simp
  go_at_call 138; (with_reducible refine (sixT q12 b1 _ N1.out H1.out).mono ?_); rintro e w1 ⟨rfl, rfl⟩
  go_wp2_with fail
  refine hK.out _ _ (fun _ => hS) (fun _ => ?_)
  clear hK K
  try simp only [Act.put, List.setIfInBounds_toArray, List.set_cons_zero, List.set_cons_succ]
  refine stepZ (i := 10) (by kernel_rfl) rfl (fun K hK => ?_)
  go_simp
  go_at_call 138; (with_reducible refine (sixT q6 b2 _ N2.out H2.out).mono ?_); rintro e w1 ⟨rfl, rfl⟩
  go_wp2_with fail
  refine hK.out _ _ (fun _ => hS) (fun _ => ?_)
  clear hK K
  try simp only [Act.put, List.setIfInBounds_toArray, List.set_cons_zero, List.set_cons_succ]
  refine stepZ (i := 12) (by kernel_rfl) rfl (fun K hK => ?_)
  go_simp
  go_at_call 138; (with_reducible refine (sixT n b3 _ N3.out H3.out).mono ?_); rintro e w1 ⟨rfl, rfl⟩
  go_wp2_with fail
  refine hK.out _ _ (fun _ => hS) (fun _ => ?_)
  clear hK K
  try simp only [Act.put, List.setIfInBounds_toArray, List.set_cons_zero, List.set_cons_succ]
  refine stepZ (i := 13) (by kernel_rfl) rfl (fun K hK => ?_)
  go_simp
  refine hK.out _ _ (fun _ => cW) (fun _ => ?_)
  clear hK K
  try simp only [Act.put, List.setIfInBounds_toArray, List.set_cons_zero, List.set_cons_succ]
  refine stepZ (i := 14) (by kernel_rfl) rfl (fun K hK => ?_)
  refine step_append_rda rfl (.tmp 3) (.tmp 16) 96 rfl B 5 i0 (.int .u8 0) Tryz.underlying96 HI.out HZ0.out HZ1.out HZ2.out rfl _ l.length _ rfl HWO.out W.heap.size (some ⟨w.heap.size, 0, none⟩) 4 4 [b0, b1, b2, b3] rfl HWR.out rfl (fun h => by cases h) (by omega) hWB ?_
  intro v4 w4 hown4 hgr4
  obtain ⟨A4, k4, rfl⟩ := own_form hown4
  have HG4 := Lib.hid (box_grown HWG.out hgr4 (own_nbox HWO.out HWG.out))
  have HB4 : Hid (Below B w w4) := Lib.hid (HWB.out.grown hgr4 hWB (fun g hg => (HWO.out.lt g hg).1))
  have HO4 := Lib.hid hown4
  have c4 := cell_of_one HG4.out
  have f4 := free_of_one HG4.out
  clear hown4 hgr4
  refine hK.out _ _ (fun _ => c4) (fun _ => ?_)
  clear hK K
  try simp only [Act.put, List.setIfInBounds_toArray, List.set_cons_zero, List.set_cons_succ]
  refine stepZ (i := 15) (by kernel_rfl) rfl (fun K hK => ?_)
  go_simp
  refine hK.out _ _ (fun h => absurd rfl h) (fun _ => ?_)
  clear hK K
  try simp only [Act.put, List.setIfInBounds_toArray, List.set_cons_zero, List.set_cons_succ]
  refine doneZ (by kernel_rfl) ?_ _
  refine NoPanic.normal ?_
  go_wp2_with fail
  go_end0
  exact box_put HG4.out HO4.out rfl hB HB4.out
end Hx
end Go.Proofs.YtlhjcdkkmloamaaGreatDoor
namespace Go.Proofs.YtlhjcdkkmloamaaGreatDoor
open Go.RowKit
namespace Hx
open Tx
set_option linter.unusedVariables false
end Hx
end Go.Proofs.YtlhjcdkkmloamaaGreatDoor
namespace Go.Proofs.YtlhjcdkkmloamaaGreatDoor
open Go.RowKit
namespace Hx
open Tx
set_option maxRecDepth 100000
set_option maxHeartbeats 16000000
set_option linter.unusedVariables false
theorem put5 (n : Nat) (E : List UInt8) (hE : enc n = E) (B g : Nat) (l : List UInt8) (w : World) (hm : may n = true) (hbx : Box B g l w) (hB : B ≤ g) (hl : l.length ≤ 1000000) (hBw : B ≤ w.heap.size) :
    Calls Tryz.prog 137 #[.int .i64 n, .pointer (some ⟨g, 0, none⟩)] w (PutTo B g (l ++ E) w) := by
  have h0 := (may_sv hm).2.1
  rw [← hE]
  unfold enc
  by_cases h1 : n < 128
  · rw [if_pos h1]; exact put_1 n _ B g l w h1 rfl hbx hB hl hBw
  · rw [if_neg h1]
    by_cases h2 : n < 2048
    · rw [if_pos h2]; exact put_2 n _ _ B g l w (by omega) h2 rfl rfl hbx hB hl hBw
    · rw [if_neg h2]
      by_cases h3 : n < 65536
      · rw [if_pos h3]; exact put_3 n _ _ _ B g l w (by omega) h3 rfl rfl rfl hbx hB hl hBw
      · rw [if_neg h3]; exact put_4 n _ _ _ _ B g l w (by omega) (by omega) rfl rfl rfl rfl hbx hB hl hBw
theorem byL_take_le (l : List Int) (k : Nat) : (byL (l.take k)).length ≤ (byL l).length := by
  have h : byL l = byL (l.take k) ++ byL (l.drop k) := by
    unfold byL
    rw [← encs_append, ← List.map_append, List.take_append_drop]
  rw [h, List.length_append]
  omega
theorem ofR_no (l : List Int) (k : Nat) (h : k < l.length) (h2 : may (l[k]'h) = false) : ofR l = (⟨#[]⟩, 50) := by
  unfold ofR
  rw [not_all_may l k h h2]
  rfl
theorem ofR_many (l : List Int) (h : l.all may = true) (h2 : 16384 < (byL l).length) : ofR l = (⟨#[]⟩, 4) := by
  unfold ofR
  rw [if_pos h, if_pos h2]
theorem ofR_ok (l : List Int) (h : l.all may = true) (h2 : ¬ 16384 < (byL l).length) : ofR l = (⟨(byL l).toArray⟩, 0) := by
  unfold ofR
  rw [if_pos h, if_neg h2]
theorem of5 (A : Option Addr) (n cp : Nat) (l : List Int) (w : World) (hr : RdZ w w.heap.size A l) (hn : l.length = n) (hm : n ≤ 100000) (t : ByteArray) (q : Int) (hq : ofR l = (t, q)) :
    Calls Tryz.prog 121 #[.slice A n cp] w fun e w' => e = .returned (.tuple #[.string t, .int .i64 q]) ∧ Below w.heap.size w w' := by
  have hmf : ∀ (fn : Fn) (first cap : Array Value) (w : World), (Instr.makeFunc fn first cap).run Tryz.prog w = .ok (.func fn first cap) w := fun _ _ _ _ => rfl
  have HR := Lib.hid hr
  have HN := Lib.hid hn
  have HM := Lib.hid hm
  have HQ := Lib.hid hq
  clear hr hn hm hq
  go_enter Tryz.func121, Tryz.ntmps121
  go_wp2_with fail
  go_loopg [5, 12] n (fun gg x5 i wr => ∃ k : Nat, k + gg = n ∧ i = .int .i64 k ∧ w = wr ∧ (l.take k).all may = true)
  case atStart => exact ⟨0, by omega, rfl, rfl, rfl⟩
  case round =>
    obtain ⟨k, hk, rfl, rfl, hall⟩ := hrel
    have HALL := Lib.hid hall
    clear hall
    have hMM := HM.out
    by_cases hlt : k < n
    · obtain ⟨g, o, rfl, hg, hc⟩ := HR.out (by rw [HN.out]; omega)
      have hkl : k < l.length := by rw [HN.out]; exact hlt
      have hcell0 := hc k hkl
      obtain ⟨z, hzv⟩ : ∃ z, l[k]'hkl = z := ⟨_, rfl⟩
      rw [hzv] at hcell0
      have hcell : w.cell? ⟨g, o + k, none⟩ = some (.int .i64 z) := hcell0
      have bk : (0 : Int) ≤ (k : Int) ∧ (k : Int) < (n : Int) := by omega
      cases hmz : may z
      · have hq0 := HQ.out
        rw [ofR_no l k hkl (by rw [hzv]; exact hmz)] at hq0
        obtain ⟨rfl, rfl⟩ : (⟨#[]⟩ : ByteArray) = t ∧ (50 : Int) = q := by cases hq0; exact ⟨rfl, rfl⟩
        have HMZ := Lib.hid hmz
        clear hmz hzv hcell0 hc HQ hq0
        go_wp2_with (first
          | (go_at_call 78; (with_reducible refine (may5w z false w HMZ.out).mono ?_); rintro e w1 ⟨rfl, rfl⟩)
          | fail)
        go_ret2
        exact ⟨rfl, Below.refl _ _⟩
      · have HMZ := Lib.hid hmz
        have HALL2 := Lib.hid (all_take l k hkl HALL.out (by rw [hzv]; exact hmz))
        clear hmz hzv hcell0 hc
        go_wp2_with (first
          | (go_at_call 78; (with_reducible refine (may5w z true w HMZ.out).mono ?_); rintro e w1 ⟨rfl, rfl⟩)
          | fail)
        go_roundg (gk - 1)
        case rel => exact ⟨k + 1, by omega, by go_num, rfl, HALL2.out⟩
        case measure => omega
    · obtain rfl : n = k := by omega
      have hall : l.all may = true := by
        have := HALL.out
        rwa [List.take_of_length_le (by rw [HN.out]; omega)] at this
      have HA := Lib.hid hall
      have hbox0 : Box w.heap.size w.heap.size [] (w.alloc (.cells #[.slice none 0 0] 96)) := ⟨_, heap_alloc_new w _, World.ownsRow_nil _ _ _ _⟩
      have HBX0 := Lib.hid hbox0
      clear hall HALL hbox0
      go_wp2_with fail
      go_loopg [9, 23] n (fun gg x9 i wr => ∃ k : Nat, k + gg = n ∧ i = .int .i64 k ∧ Below w.heap.size w wr ∧ Box w.heap.size w.heap.size (byL (l.take k)) wr ∧ (byL (l.take k)).length ≤ 16384 ∧ w.heap.size ≤ wr.heap.size)
      case atStart => exact ⟨0, by omega, rfl, stpA (Below.refl _ _) _, HBX0.out, by simp [byL, encs], by rw [World.size_alloc]; omega⟩
      case round =>
        obtain ⟨k, hk2, rfl, hbw, hbox, hlen, hsz⟩ := hrel
        have HBW := Lib.hid hbw
        have HBX := Lib.hid hbox
        by_cases hlt2 : k < n
        · obtain ⟨g, o, rfl, hg, hc⟩ := HR.out (by rw [HN.out]; omega)
          have hkl : k < l.length := by rw [HN.out]; exact hlt2
          have hcell0 := (hbw.cell (p := ⟨g, o + k, none⟩) hg).trans (hc k hkl)
          obtain ⟨z, hzv⟩ : ∃ z, l[k]'hkl = z := ⟨_, rfl⟩
          rw [hzv] at hcell0
          have hcell : wr.cell? ⟨g, o + k, none⟩ = some (.int .i64 z) := hcell0
          have bk : (0 : Int) ≤ (k : Int) ∧ (k : Int) < (n : Int) := by omega
          have hmz : may z = true := by
            have := HA.out
            rw [List.all_eq_true] at this
            rw [← hzv]
            exact this _ (List.getElem_mem hkl)
          obtain ⟨m, rfl⟩ : ∃ m : Nat, z = m := ⟨z.toNat, by have := (may_sv hmz).1; omega⟩
          obtain ⟨E, hE⟩ : ∃ E, enc m = E := ⟨_, rfl⟩
          have hnx : byL (l.take (k + 1)) = byL (l.take k) ++ E := by
            rw [List.take_succ_eq_append_getElem hkl, byL_snoc, hzv, ← hE]
            rfl
          obtain ⟨bl, hbl⟩ : ∃ bl, (byL (l.take k) ++ E).length = bl := ⟨_, rfl⟩
          have hble := byL_take_le l (k + 1)
          rw [hnx, hbl] at hble
          have HMZ := Lib.hid hmz
          have HE := Lib.hid hE
          have HNX := Lib.hid hnx
          have HBL := Lib.hid hbl
          have HBLE := Lib.hid hble
          have HLEN : Hid ((byL (l.take k)).length ≤ 1000000) := Lib.hid (by omega)
          by_cases h16 : 16384 < bl
          · have d0 : decide ((16384 : Int) < (bl : Int)) = true := by simp; omega
            have hq0 := HQ.out
            rw [ofR_many l HA.out (by omega)] at hq0
            obtain ⟨rfl, rfl⟩ : (⟨#[]⟩ : ByteArray) = t ∧ (4 : Int) = q := by cases hq0; exact ⟨rfl, rfl⟩
            clear hmz hzv hcell0 hc HQ hq0 hE hnx hbl hble hbw hbox hlen
            go_wp2_with (first
              | (go_at_call 137; (with_reducible refine (put5 m E HE.out w.heap.size w.heap.size (byL (l.take k)) wr HMZ.out HBX.out (Nat.le_refl _) HLEN.out hsz).mono ?_); rintro e w2 ⟨rfl, hb2, v2, hg2, hown2⟩; obtain ⟨A2, k2, rfl⟩ := own_form hown2; have HG2 := Lib.hid hg2; have HO2 := Lib.hid hown2; have HB2 := Lib.hid hb2; have hc2 := cell_of_one hg2; rw [HBL.out] at hc2; clear hg2 hown2 hb2)
              | fail)
            go_ret2
            exact ⟨rfl, HBW.out.trans HB2.out⟩
          · have d0 : decide ((16384 : Int) < (bl : Int)) = false := by simp; omega
            clear hmz hzv hcell0 hc hE hnx hbl hble hbw hbox hlen
            go_wp2_with (first
              | (go_at_call 137; (with_reducible refine (put5 m E HE.out w.heap.size w.heap.size (byL (l.take k)) wr HMZ.out HBX.out (Nat.le_refl _) HLEN.out hsz).mono ?_); rintro e w2 ⟨rfl, hb2, v2, hg2, hown2⟩; obtain ⟨A2, k2, rfl⟩ := own_form hown2; have HG2 := Lib.hid hg2; have HO2 := Lib.hid hown2; have HB2 := Lib.hid hb2; have hc2 := cell_of_one hg2; rw [HBL.out] at hc2; clear hg2 hown2 hb2)
              | fail)
            go_roundg (gk - 1)
            case rel =>
              have hb3 := HBW.out.trans HB2.out
              exact ⟨k + 1, by omega, by go_num, hb3, ⟨_, HG2.out, by rw [HNX.out]; exact HO2.out⟩, by rw [HNX.out, HBL.out]; omega, hb3.size⟩
            case measure => omega
        · obtain rfl : n = k := by omega
          have htk : l.take n = l := List.take_of_length_le (by rw [HN.out]; omega)
          rw [htk] at hbox hlen
          obtain ⟨v2, hg2, hown2⟩ := hbox
          obtain ⟨A2, k2, rfl⟩ := own_form hown2
          have hq0 := HQ.out
          rw [ofR_ok l HA.out (by omega)] at hq0
          obtain ⟨rfl, rfl⟩ : (⟨(byL l).toArray⟩ : ByteArray) = t ∧ (0 : Int) = q := by cases hq0; exact ⟨rfl, rfl⟩
          obtain ⟨bl, hbl⟩ : ∃ bl, (byL l).length = bl := ⟨_, rfl⟩
          have hc2 := cell_of_one hg2
          rw [hbl] at hc2
          have cv := conv_str (P := Tryz.prog) (n := bl) (c := k2) (RdA.of_own hown2).1 hbl Tryz.underlying96 Tryz.underlying5 Tryz.underlying9
          rw [hbl] at hown2
          clear hbw hg2 hown2 hq0 hbl HQ hlen htk HBX
          go_wp2_with fail
          go_ret2
          exact ⟨rfl, HBW.out⟩
end Hx
end Go.Proofs.YtlhjcdkkmloamaaGreatDoor
namespace Go.Proofs.YtlhjcdkkmloamaaGreatDoor
open Go.RowKit
namespace Hx
open Tx Nmb Es
set_option maxRecDepth 100000
set_option maxHeartbeats 16000000
set_option linter.unusedVariables false
def wdK (l : List UInt8) : Value := .string ⟨l.toArray⟩
def WD : Array MapEntry := #[⟨wdK [97, 109, 112], .int .i64 38, 0⟩, ⟨wdK [108, 116], .int .i64 60, 1⟩, ⟨wdK [103, 116], .int .i64 62, 2⟩, ⟨wdK [113, 117, 111, 116], .int .i64 34, 3⟩, ⟨wdK [97, 112, 111, 115], .int .i64 39, 4⟩]
theorem str_key (s : ByteArray) : MapKept.IsKey .string (.string s) := by simp [MapKept.IsKey]
def RdV (M G : Nat) : Value := .agg #[.map (some M), .slice (some ⟨G, 0, none⟩) 2 2]
def BS : Array Value := #[.string ⟨#[35, 120]⟩, .func (.func 118) #[] #[], .string ⟨#[35]⟩, .func (.func 119) #[] #[]]
def Rdr (M G : Nat) (w : World) : Prop := w.heap[M]? = some (.map WD 5) ∧ w.heap[G]? = some (.cells BS 147)
theorem heap_lt {w : World} {k : Nat} {o : Obj} (h : w.heap[k]? = some o) : k < w.heap.size := by
  rcases Nat.lt_or_ge k w.heap.size with h' | h'
  · exact h'
  · rw [Array.getElem?_eq_none h'] at h; cases h
theorem Rdr.to {M G : Nat} {w w' : World} (h : Rdr M G w) (hb : Below w.heap.size w w') : Rdr M G w' :=
  ⟨kept_at h.1 hb (heap_lt h.1), kept_at h.2 hb (heap_lt h.2)⟩
theorem reader8 (w : World) :
    Calls Tryz.prog 104 #[] w fun e w' => ∃ M G, e = .returned (RdV M G) ∧ Rdr M G w' ∧ Below w.heap.size w w' := by
  have hmm := @run_makeMap Tryz.prog
  go_enter Tryz.func104, Tryz.ntmps104
  go_wp2_with (refine wpList_ins rfl _ _ _ _ rfl rfl rfl rfl (run_ins_at (w := w.alloc _) (by simp) Tryz.underlying122 Tryz.underlying9 (str_key _) rfl) ?_)
  refine bodyPost_ret (v := RdV (w.heap.size + 1) (w.heap.size + 1 + 1)) ?_ rfl ⟨w.heap.size + 1, w.heap.size + 1 + 1, rfl, ⟨?_, ?_⟩, ?_⟩
  · simp [results, Tryz.results104, go_sem, RdV]
  · rw [heap_alloc_old]
    · have := heap_alloc_new (w.alloc (.cells #[.map (some (w.heap.size + 1)), .slice (some ⟨w.heap.size + 1 + 1, 0, none⟩) 2 2] 126)) (.map WD 5)
      rw [show (w.alloc (.cells #[.map (some (w.heap.size + 1)), .slice (some ⟨w.heap.size + 1 + 1, 0, none⟩) 2 2] 126)).heap.size = w.heap.size + 1 by simp] at this
      exact this
    · simp
  · have := heap_alloc_new ((w.alloc (.cells #[.map (some (w.heap.size + 1)), .slice (some ⟨w.heap.size + 1 + 1, 0, none⟩) 2 2] 126)).alloc (.map WD 5)) (.cells BS 147)
    rw [show ((w.alloc (.cells #[.map (some (w.heap.size + 1)), .slice (some ⟨w.heap.size + 1 + 1, 0, none⟩) 2 2] 126)).alloc (.map WD 5)).heap.size = w.heap.size + 1 + 1 by simp] at this
    exact this
  · exact (((Below.refl _ _).alloc (Nat.le_refl _) _).alloc (by simp) _).alloc (by simp; omega) _
def wdO (l : List UInt8) : Option Int := if l = [97, 109, 112] then some 38 else if l = [108, 116] then some 60 else if l = [103, 116] then some 62 else if l = [113, 117, 111, 116] then some 34 else if l = [97, 112, 111, 115] then some 39 else none
def wdF (l : List UInt8) : Option (Nat × Value) := if l = [97, 109, 112] then some (0, .int .i64 38) else if l = [108, 116] then some (1, .int .i64 60) else if l = [103, 116] then some (2, .int .i64 62) else if l = [113, 117, 111, 116] then some (3, .int .i64 34) else if l = [97, 112, 111, 115] then some (4, .int .i64 39) else none
theorem bytes_same (s : ByteArray) (l : List UInt8) : (s == (⟨l.toArray⟩ : ByteArray)) = decide (s.data.toList = l) := by
  rw [Bool.eq_iff_iff, MapKept.bytes_beq, decide_eq_true_eq]
  constructor
  · intro h; rw [h]
  · intro h; rw [← h]
theorem wd_one (s : ByteArray) (k : List UInt8) (v : Value) (b : Nat) (l : List MapEntry) (i : Nat) :
    Instr.findNow .string (.string s) (⟨wdK k, v, b⟩ :: l) i = if s.data.toList = k then some (some (i, v)) else Instr.findNow .string (.string s) l (i + 1) := by
  rw [Instr.findNow]
  show (match some (s == (⟨k.toArray⟩ : ByteArray)) with | some true => _ | some false => _ | none => _) = _
  rw [bytes_same]
  by_cases h : s.data.toList = k
  · rw [if_pos h, decide_eq_true h]
  · rw [if_neg h, decide_eq_false h]
theorem wd_find (s : ByteArray) : Instr.findNow .string (.string s) WD.toList 0 = some (wdF s.data.toList) := by
  show Instr.findNow .string (.string s) [⟨wdK [97, 109, 112], _, 0⟩, ⟨wdK [108, 116], _, 1⟩, ⟨wdK [103, 116], _, 2⟩, ⟨wdK [113, 117, 111, 116], _, 3⟩, ⟨wdK [97, 112, 111, 115], _, 4⟩] 0 = _
  rw [wd_one, wd_one, wd_one, wd_one, wd_one]
  unfold wdF
  split
  · rfl
  split
  · rfl
  split
  · rfl
  split
  · rfl
  split
  · rfl
  · rfl
def wdV (o : Option Int) : Value := match o with | some n => .tuple #[.int .i64 n, .bool true] | none => .tuple #[.int .i64 0, .bool false]
theorem wdF_O (l : List UInt8) : lookV (.int .i64 0) (wdF l) = wdV (wdO l) := by
  unfold wdF wdO
  split
  · rfl
  split
  · rfl
  split
  · rfl
  split
  · rfl
  split
  · rfl
  · rfl
theorem zero_int (w : World) : (zeroValue 3).run Tryz.prog w = .ok (.int .i64 0) w := by kernel_rfl
theorem lookw (s : ByteArray) (w : World) (M : Nat) (hb : w.heap[M]? = some (.map WD 5)) :
    (Instr.lookup 122 (.map (some M)) (.string s) true).run Tryz.prog w = .ok (wdV (wdO s.data.toList)) w := by
  rw [run_look Tryz.underlying122 Tryz.underlying9 (str_key _) hb rfl (zero_int w) (wd_find s), wdF_O]
end Hx
end Go.Proofs.YtlhjcdkkmloamaaGreatDoor
