/-
  Contracts of package text: the closure of Of.
-/
import Derived.Test.YtjdeomlpipdopaaDoorTextP
import Derived.OwnWalk
import Derived.OneCell
import Derived.Deep.AppendLies
import Derived.Test.YtjdeomlpipdopaaDoorRegZ
namespace Go.Proofs.YtjdeomlpipdopaaDoor
open Go.RowKit
namespace Hx
open Tx
set_option linter.unusedVariables false
/-- A box with the bytes put so far. -/
def Box (B g : Nat) (l : List UInt8) (w : World) : Prop := ∃ v, w.heap[g]? = some (.cells #[v] 22 (0, 0)) ∧ w.ownsRow B 5 1 v l.length (Lib.byteCells l)
/-- What the closure does. -/
def PutTo (B g : Nat) (l : List UInt8) (w : World) (e : Ending) (w' : World) : Prop := e = .returned (.tuple #[]) ∧ Below B w w' ∧ Box B g l w'
theorem own_nbox {w : World} {B n g : Nat} {v u : Value} {xs : List Value} (h : w.ownsRow B 5 1 v n xs) (hk : w.heap[g]? = some (.cells #[u] 22 (0, 0))) : some g ≠ v.ownBlock := by
  rcases h.2 with ⟨rfl, _⟩ | ⟨g', cap, cur, rfl, hb, hg, rest⟩
  · simp [Value.ownBlock]
  · intro e
    simp only [Value.ownBlock, Option.some.injEq] at e
    subst e
    rw [hk] at hg
    cases hg
theorem box_grown {w w' : World} {row : Option Nat} {g : Nat} {o : Obj} (hk : w.heap[g]? = some o) (hg : w.grownBy w' row) (hne : some g ≠ row) : w'.heap[g]? = some o :=
  (hg.block g (lt_of_block hk) hne).trans hk
theorem box_alloc {w : World} {g : Nat} {o' : Obj} (hk : w.heap[g]? = some o') (o : Obj) : (w.alloc o).heap[g]? = some o' :=
  box_grown hk (World.grownBy_alloc w o none) (by simp)
/-- Behind the store. -/
theorem box_put {w w4 : World} {B g m : Nat} {v v4 : Value} {E : List UInt8} {l : List UInt8} (hg : w4.heap[g]? = some (.cells #[v] 22 (0, 0))) (hown : w4.ownsRow B 5 1 v4 (l.length + m) (Lib.byteCells l ++ Lib.byteCells E)) (hE : E.length = m) (hB : B ≤ g) (hb : Below B w w4) :
    PutTo B g (l ++ E) w (.returned (.tuple #[])) (w4.setCell ⟨g, 0, none⟩ v4) := by
  refine ⟨rfl, hb.setCell hB _, v4, one_setCell hg, ?_⟩
  rw [List.length_append, hE, Lib.byteCells_append]
  exact ownsRow_setCell_other hown (fun h => own_nbox hown hg h.symm) _
set_option maxHeartbeats 2000000 in
set_option maxRecDepth 100000 in
theorem put_1 (n : Nat) (b : UInt8) (B g : Nat) (l : List UInt8) (w : World) (h : n < 128) (hb : bt n = b) (hbx : Box B g l w) (hB : B ≤ g) (hl : l.length ≤ 1000000) (hBw : B ≤ w.heap.size) :
    Calls Tryd.prog 37 #[.int .i64 n, .pointer (some ⟨g, 0, none⟩)] w (PutTo B g (l ++ [b]) w) := by
  obtain ⟨i0, hi, hz0, hz1, hz2⟩ := info_parts infoU8
  obtain ⟨v, hg, hown⟩ := hbx
  have d1 : decide ((n : Int) < 128) = true := by simp; omega
  have g1 : IntKind.u8.wrap (n : Int) = (b.toNat : Int) := by rw [IntWalk.u8_in _ (by omega), ← hb, bt_nat _ (by omega)]
  have c0 := cell_of_one hg
  have HG := Lib.hid hg
  have HO := Lib.hid hown
  have HI := Lib.hid hi
  have HZ0 := Lib.hid hz0
  have HZ1 := Lib.hid hz1
  have HZ2 := Lib.hid hz2
  obtain ⟨A0, k0, rfl⟩ := own_form hown
  clear hg hown hi hz0 hz1 hz2 hb
  go_enter Tryd.func37, Tryd.ntmps37
  go_wp2_with (first
    | (at_builtin; refine wpList_append_rd rfl (.tmp 21) (.tmp 24) 22 rfl B 5 i0 (.int .u8 0) Tryd.underlying22 HI.out HZ0.out HZ1.out HZ2.out rfl _ l.length _ rfl (HO.out.alloc (.cells #[.int .u8 b.toNat] 5)) (w.heap.size + 1) (some ⟨w.heap.size, 0, none⟩) 1 1 [b] rfl (RdA.new w 5 [b]) rfl (fun h => by cases h) (by omega) (by rw [World.size_alloc]; omega) ?_; intro v4 w4 hown4 hgr4; obtain ⟨A4, k4, rfl⟩ := own_form hown4; have HG4 := Lib.hid (box_grown (box_alloc HG.out _) hgr4 (own_nbox HO.out HG.out)); have HB4 : Hid (Below B w w4) := Lib.hid (((Below.refl B w).alloc hBw _).grown hgr4 (by rw [World.size_alloc]; omega) (fun g hg => (HO.out.lt g hg).1)); have HO4 := Lib.hid hown4; have c4 := cell_of_one HG4.out; have f4 := free_of_one HG4.out; clear hown4 hgr4)
    | fail)
  go_end0
  exact box_put HG4.out HO4.out rfl hB HB4.out
/-- The world with a new row of bytes in which the append is met. -/
theorem row_drew {w : World} {B g n : Nat} {v : Value} {l : List UInt8} (hg : w.heap[g]? = some (.cells #[v] 22 (0, 0))) (hown : w.ownsRow B 5 1 v n (Lib.byteCells l)) (hBw : B ≤ w.heap.size) (E : List UInt8) :
    ∃ W, (w.alloc (.cells (Lib.byteCells E).toArray 5)).drew = W ∧ W.heap[g]? = some (.cells #[v] 22 (0, 0)) ∧ W.ownsRow B 5 1 v n (Lib.byteCells l) ∧ RdA W W.heap.size (some ⟨w.heap.size, 0, none⟩) E ∧ Below B w W ∧ B ≤ W.heap.size :=
  ⟨_, rfl, box_alloc hg _, hown.alloc _, RdA.newS w 5 E, ((Below.refl B w).alloc hBw _).drew, by show B ≤ (w.alloc _).heap.size; rw [World.size_alloc]; omega⟩
/-- The append at a step of a region. -/
theorem step_append_rda {P : Program} {w : World} {ops : Array Oper} {o : Oper} {a : Act} {K : Act → World → Prop} {Q : Exit → Act → World → Prop} {E' : Prop} (hgd : o.guard = none) (s x : Operand) (t : TypeId)
    (ho : o.op = .call { callee := .builtin .append, args := #[s, x], argTypes := #[t, t] })
    (base : Nat) (e : TypeId) (i : TypeInfo) (z : Value) (ht : P.underlying t = some (.slice e)) (hi : P.info? e = some i) (hz : i.zero = some z) (hsize : i.size = 1) (hby : i.bytes = 1) (hzs : z.cells.size = 1)
    (v : Value) (n : Nat) (xs : List Value) (hs : a.eval s = v) (hown : w.ownsRow base e 1 v n xs)
    (B : Nat) (A : Option Addr) (m c : Nat) (l : List UInt8) (hx : a.eval x = .slice A m c) (hr : RdA w B A l) (hl : l.length = m) (hc0 : A = none → c = 0) (hb : n + m ≤ 1000000000000) (hbase : base ≤ w.heap.size)
    (h : ∀ v' w', w'.ownsRow base e 1 v' (n + m) (xs ++ Lib.byteCells l) → w.grownBy w' v.ownBlock → K (a.put o.dst v') w') : if Region.wanted o (yielded ops a.tmps) = true then Oper.wp P o a w K Q else E' :=
  step_append_rdg (enc := fun b : UInt8 => Value.int .u8 b.toNat) (fun _ => rfl) hgd s x t ho base e i z 1 ht hi hz hsize hby (by decide) hzs v n xs hs hown B A m c l hx hr hl hc0 hb hbase h
set_option maxHeartbeats 4000000 in
set_option maxRecDepth 100000 in
theorem put_2 (n : Nat) (b0 b1 : UInt8) (B g : Nat) (l : List UInt8) (w : World) (h : 128 ≤ n) (h2 : n < 2048) (hb0 : bt (192 + n / 64) = b0) (hb1 : bt (128 + n % 64) = b1) (hbx : Box B g l w) (hB : B ≤ g) (hl : l.length ≤ 1000000) (hBw : B ≤ w.heap.size) :
    Calls Tryd.prog 37 #[.int .i64 n, .pointer (some ⟨g, 0, none⟩)] w (PutTo B g (l ++ [b0, b1]) w) := by
  obtain ⟨i0, hi, hz0, hz1, hz2⟩ := info_parts infoU8
  obtain ⟨v, hg, hown⟩ := hbx
  have d1 : decide ((n : Int) < 128) = false := by simp; omega
  have d2 : decide ((n : Int) < 2048) = true := by simp; omega
  have c0 := cell_of_one hg
  obtain ⟨A0, k0, rfl⟩ := own_form hown
  obtain ⟨W, hW, hWg, hWo, hWr, hWb, hWB⟩ := row_drew hg hown hBw [b0, b1]
  have hW' : (w.alloc (.cells #[.int .u8 b0.toNat, .int .u8 b1.toNat] 5)).drew = W := hW
  have HG := Lib.hid hg
  have HWG := Lib.hid hWg
  have HWO := Lib.hid hWo
  have HWR := Lib.hid hWr
  have HWB := Lib.hid hWb
  have HI := Lib.hid hi
  have HZ0 := Lib.hid hz0
  have HZ1 := Lib.hid hz1
  have HZ2 := Lib.hid hz2
  have HN : Hid (n ≤ 1114111) := Lib.hid (by omega)
  obtain ⟨q6, hq6⟩ : ∃ q6 : Nat, n / 64 = q6 := ⟨_, rfl⟩
  have eq6 : (n : Int) / 64 = (q6 : Int) := by omega
  have hb0' := hb0
  have k0' : (b0.toNat : Int) = 192 + (q6 : Int) := by rw [← hb0, bt_nat _ (by omega)]; omega
  have g1 : IntKind.u8.wrap (q6 : Int) = (q6 : Int) := IntWalk.u8_in _ (by omega)
  have g2 : IntKind.u8.wrap (192 + (q6 : Int)) = (b0.toNat : Int) := by rw [IntWalk.u8_in _ (by omega)]; omega
  have H1 : Hid (bt (128 + n % 64) = b1) := by show _ = _; rw [← hb1]
  have N1 : Hid (n ≤ 1114111) := Lib.hid (by omega)
  have cW := cell_of_one hWg
  clear hg hown hi hz0 hz1 hz2 hb0 hb1 hb0' k0' hW hWg hWo hWr hWb hq6
  go_enter Tryd.func37, Tryd.ntmps37
  go_wp2_with fail
  refine wp_region_noPanic ?_
  refine wp_region_Z (fun w' => w'.cell? ⟨g, 0, none⟩ = some (.slice A0 l.length k0)) 9 (by kernel_rfl) ?_
  have hS : w.drew.cell? ⟨g, 0, none⟩ = some (.slice A0 l.length k0) := c0
  refine takeZ (i := 0) (v := .slice A0 l.length k0) rfl (by kernel_rfl) (by kernel_rfl) (by kernel_rfl) (by kernel_rfl) (fun _ _ _ h => h) (Or.inl ⟨by rfl, ?_⟩) hS ?_
  · intro w' hSw; (try dsimp only at hSw); go_simp
  try simp only [Act.put, List.setIfInBounds_toArray, List.set_cons_zero, List.set_cons_succ]
  refine takeZ (i := 1) (v := .int .i64 n) rfl (by kernel_rfl) (by kernel_rfl) (by kernel_rfl) (by kernel_rfl) (fun _ _ _ h => h) (Or.inl ⟨by rfl, ?_⟩) hS ?_
  · intro w' hSw; (try dsimp only at hSw); go_simp
  try simp only [Act.put, List.setIfInBounds_toArray, List.set_cons_zero, List.set_cons_succ]
  refine takeZ (i := 2) (v := .int .i64 q6) rfl (by kernel_rfl) (by kernel_rfl) (by kernel_rfl) (by kernel_rfl) (fun _ _ _ h => h) (Or.inl ⟨by rfl, ?_⟩) hS ?_
  · intro w' hSw; (try dsimp only at hSw); go_simp
  try simp only [Act.put, List.setIfInBounds_toArray, List.set_cons_zero, List.set_cons_succ]
  refine takeZ (i := 3) (v := .int .u8 q6) rfl (by kernel_rfl) (by kernel_rfl) (by kernel_rfl) (by kernel_rfl) (fun _ _ _ h => h) (Or.inl ⟨by rfl, ?_⟩) hS ?_
  · intro w' hSw; (try dsimp only at hSw); go_simp
  try simp only [Act.put, List.setIfInBounds_toArray, List.set_cons_zero, List.set_cons_succ]
  refine takeZ (i := 4) (v := .int .u8 b0.toNat) rfl (by kernel_rfl) (by kernel_rfl) (by kernel_rfl) (by kernel_rfl) (fun _ _ _ h => h) (Or.inl ⟨by rfl, ?_⟩) hS ?_
  · intro w' hSw; (try dsimp only at hSw); go_simp
  try simp only [Act.put, List.setIfInBounds_toArray, List.set_cons_zero, List.set_cons_succ]
  refine takeZ (i := 5) (v := .int .i64 n) rfl (by kernel_rfl) (by kernel_rfl) (by kernel_rfl) (by kernel_rfl) (fun _ _ _ h => h) (Or.inl ⟨by rfl, ?_⟩) hS ?_
  · intro w' hSw; (try dsimp only at hSw); go_simp
  try simp only [Act.put, List.setIfInBounds_toArray, List.set_cons_zero, List.set_cons_succ]
  refine stepZ (i := 6) (by kernel_rfl) rfl (fun K hK => ?_)
  go_simp
  go_at_call 38; (with_reducible refine (sixT n b1 _ N1.out H1.out).mono ?_); rintro e w1 ⟨rfl, rfl⟩
  go_wp2_with fail
  refine hK.out _ _ (fun _ => hS) (fun _ => ?_)
  clear hK K
  try simp only [Act.put, List.setIfInBounds_toArray, List.set_cons_zero, List.set_cons_succ]
  refine stepZ (i := 7) (by kernel_rfl) rfl (fun K hK => ?_)
  go_simp
  refine hK.out _ _ (fun _ => cW) (fun _ => ?_)
  clear hK K
  try simp only [Act.put, List.setIfInBounds_toArray, List.set_cons_zero, List.set_cons_succ]
  refine stepZ (i := 8) (by kernel_rfl) rfl (fun K hK => ?_)
  refine step_append_rda rfl (.tmp 29) (.tmp 36) 22 rfl B 5 i0 (.int .u8 0) Tryd.underlying22 HI.out HZ0.out HZ1.out HZ2.out rfl _ l.length _ rfl HWO.out W.heap.size (some ⟨w.heap.size, 0, none⟩) 2 2 [b0, b1] rfl HWR.out rfl (fun h => by cases h) (by omega) hWB ?_
  intro v4 w4 hown4 hgr4
  obtain ⟨A4, k4, rfl⟩ := own_form hown4
  have HG4 := Lib.hid (box_grown HWG.out hgr4 (own_nbox HWO.out HWG.out))
  have HB4 : Hid (Below B w w4) := Lib.hid (HWB.out.grown hgr4 hWB (fun g hg => (HWO.out.lt g hg).1))
  have HO4 := Lib.hid hown4
  have c4 := cell_of_one HG4.out
  have f4 := free_of_one HG4.out
  clear hown4 hgr4
  refine hK.out _ _ (fun _ => c4) (fun _ => ?_)
  clear hK K
  try simp only [Act.put, List.setIfInBounds_toArray, List.set_cons_zero, List.set_cons_succ]
  refine stepZ (i := 9) (by kernel_rfl) rfl (fun K hK => ?_)
  go_simp
  refine hK.out _ _ (fun h => absurd rfl h) (fun _ => ?_)
  clear hK K
  try simp only [Act.put, List.setIfInBounds_toArray, List.set_cons_zero, List.set_cons_succ]
  refine doneZ (by kernel_rfl) ?_ _
  refine NoPanic.normal ?_
  go_wp2_with fail
  go_end0
  exact box_put HG4.out HO4.out rfl hB HB4.out
set_option maxHeartbeats 4000000 in
set_option maxRecDepth 100000 in
theorem put_3 (n : Nat) (b0 b1 b2 : UInt8) (B g : Nat) (l : List UInt8) (w : World) (h : 2048 ≤ n) (h2 : n < 65536) (hb0 : bt (224 + n / 4096) = b0) (hb1 : bt (128 + n / 64 % 64) = b1) (hb2 : bt (128 + n % 64) = b2) (hbx : Box B g l w) (hB : B ≤ g) (hl : l.length ≤ 1000000) (hBw : B ≤ w.heap.size) :
    Calls Tryd.prog 37 #[.int .i64 n, .pointer (some ⟨g, 0, none⟩)] w (PutTo B g (l ++ [b0, b1, b2]) w) := by
  obtain ⟨i0, hi, hz0, hz1, hz2⟩ := info_parts infoU8
  obtain ⟨v, hg, hown⟩ := hbx
  have d1 : decide ((n : Int) < 128) = false := by simp; omega
  have d2 : decide ((n : Int) < 2048) = false := by simp; omega
  have d3 : decide ((n : Int) < 65536) = true := by simp; omega
  have c0 := cell_of_one hg
  obtain ⟨A0, k0, rfl⟩ := own_form hown
  obtain ⟨W, hW, hWg, hWo, hWr, hWb, hWB⟩ := row_drew hg hown hBw [b0, b1, b2]
  have hW' : (w.alloc (.cells #[.int .u8 b0.toNat, .int .u8 b1.toNat, .int .u8 b2.toNat] 5)).drew = W := hW
  have HG := Lib.hid hg
  have HWG := Lib.hid hWg
  have HWO := Lib.hid hWo
  have HWR := Lib.hid hWr
  have HWB := Lib.hid hWb
  have HI := Lib.hid hi
  have HZ0 := Lib.hid hz0
  have HZ1 := Lib.hid hz1
  have HZ2 := Lib.hid hz2
  have HN : Hid (n ≤ 1114111) := Lib.hid (by omega)
  obtain ⟨q6, hq6⟩ : ∃ q6 : Nat, n / 64 = q6 := ⟨_, rfl⟩
  have eq6 : (n : Int) / 64 = (q6 : Int) := by omega
  obtain ⟨q12, hq12⟩ : ∃ q12 : Nat, n / 4096 = q12 := ⟨_, rfl⟩
  have eq12 : (n : Int) / 4096 = (q12 : Int) := by omega
  have hb0' := hb0
  have k0' : (b0.toNat : Int) = 224 + (q12 : Int) := by rw [← hb0, bt_nat _ (by omega)]; omega
  have g1 : IntKind.u8.wrap (q12 : Int) = (q12 : Int) := IntWalk.u8_in _ (by omega)
  have g2 : IntKind.u8.wrap (224 + (q12 : Int)) = (b0.toNat : Int) := by rw [IntWalk.u8_in _ (by omega)]; omega
  have H1 : Hid (bt (128 + q6 % 64) = b1) := by show _ = _; rw [← hb1, ← hq6]
  have N1 : Hid (q6 ≤ 1114111) := Lib.hid (by omega)
  have H2 : Hid (bt (128 + n % 64) = b2) := by show _ = _; rw [← hb2]
  have N2 : Hid (n ≤ 1114111) := Lib.hid (by omega)
  have cW := cell_of_one hWg
  clear hg hown hi hz0 hz1 hz2 hb0 hb1 hb2 hb0' k0' hW hWg hWo hWr hWb hq6 hq12
  go_enter Tryd.func37, Tryd.ntmps37
  go_wp2_with fail
  refine wp_region_noPanic ?_
  refine wp_region_Z (fun w' => w'.cell? ⟨g, 0, none⟩ = some (.slice A0 l.length k0)) 12 (by kernel_rfl) ?_
  have hS : w.drew.cell? ⟨g, 0, none⟩ = some (.slice A0 l.length k0) := c0
  refine takeZ (i := 0) (v := .slice A0 l.length k0) rfl (by kernel_rfl) (by kernel_rfl) (by kernel_rfl) (by kernel_rfl) (fun _ _ _ h => h) (Or.inl ⟨by rfl, ?_⟩) hS ?_
  · intro w' hSw; (try dsimp only at hSw); go_simp
  try simp only [Act.put, List.setIfInBounds_toArray, List.set_cons_zero, List.set_cons_succ]
  refine takeZ (i := 1) (v := .int .i64 n) rfl (by kernel_rfl) (by kernel_rfl) (by kernel_rfl) (by kernel_rfl) (fun _ _ _ h => h) (Or.inl ⟨by rfl, ?_⟩) hS ?_
  · intro w' hSw; (try dsimp only at hSw); go_simp
  try simp only [Act.put, List.setIfInBounds_toArray, List.set_cons_zero, List.set_cons_succ]
  refine takeZ (i := 2) (v := .int .i64 q12) rfl (by kernel_rfl) (by kernel_rfl) (by kernel_rfl) (by kernel_rfl) (fun _ _ _ h => h) (Or.inl ⟨by rfl, ?_⟩) hS ?_
  · intro w' hSw; (try dsimp only at hSw); go_simp
  try simp only [Act.put, List.setIfInBounds_toArray, List.set_cons_zero, List.set_cons_succ]
  refine takeZ (i := 3) (v := .int .u8 q12) rfl (by kernel_rfl) (by kernel_rfl) (by kernel_rfl) (by kernel_rfl) (fun _ _ _ h => h) (Or.inl ⟨by rfl, ?_⟩) hS ?_
  · intro w' hSw; (try dsimp only at hSw); go_simp
  try simp only [Act.put, List.setIfInBounds_toArray, List.set_cons_zero, List.set_cons_succ]
  refine takeZ (i := 4) (v := .int .u8 b0.toNat) rfl (by kernel_rfl) (by kernel_rfl) (by kernel_rfl) (by kernel_rfl) (fun _ _ _ h => h) (Or.inl ⟨by rfl, ?_⟩) hS ?_
  · intro w' hSw; (try dsimp only at hSw); go_simp
  try simp only [Act.put, List.setIfInBounds_toArray, List.set_cons_zero, List.set_cons_succ]
  refine takeZ (i := 5) (v := .int .i64 n) rfl (by kernel_rfl) (by kernel_rfl) (by kernel_rfl) (by kernel_rfl) (fun _ _ _ h => h) (Or.inl ⟨by rfl, ?_⟩) hS ?_
  · intro w' hSw; (try dsimp only at hSw); go_simp
  try simp only [Act.put, List.setIfInBounds_toArray, List.set_cons_zero, List.set_cons_succ]
  refine takeZ (i := 6) (v := .int .i64 q6) rfl (by kernel_rfl) (by kernel_rfl) (by kernel_rfl) (by kernel_rfl) (fun _ _ _ h => h) (Or.inl ⟨by rfl, ?_⟩) hS ?_
  · intro w' hSw; (try dsimp only at hSw); go_simp
  try simp only [Act.put, List.setIfInBounds_toArray, List.set_cons_zero, List.set_cons_succ]
  refine takeZ (i := 8) (v := .int .i64 n) rfl (by kernel_rfl) (by kernel_rfl) (by kernel_rfl) (by kernel_rfl) (fun _ _ _ h => h) (Or.inl ⟨by rfl, ?_⟩) hS ?_
  · intro w' hSw; (try dsimp only at hSw); go_simp
  try simp only [Act.put, List.setIfInBounds_toArray, List.set_cons_zero, List.set_cons_succ]
  refine stepZ (i := 7) (by kernel_rfl) rfl (fun K hK => ?_)
  go_simp
  go_at_call 38; (with_reducible refine (sixT q6 b1 _ N1.out H1.out).mono ?_); rintro e w1 ⟨rfl, rfl⟩
  go_wp2_with fail
  refine hK.out _ _ (fun _ => hS) (fun _ => ?_)
  clear hK K
  try simp only [Act.put, List.setIfInBounds_toArray, List.set_cons_zero, List.set_cons_succ]
  refine stepZ (i := 9) (by kernel_rfl) rfl (fun K hK => ?_)
  go_simp
  go_at_call 38; (with_reducible refine (sixT n b2 _ N2.out H2.out).mono ?_); rintro e w1 ⟨rfl, rfl⟩
  go_wp2_with fail
  refine hK.out _ _ (fun _ => hS) (fun _ => ?_)
  clear hK K
  try simp only [Act.put, List.setIfInBounds_toArray, List.set_cons_zero, List.set_cons_succ]
  refine stepZ (i := 10) (by kernel_rfl) rfl (fun K hK => ?_)
  go_simp
  refine hK.out _ _ (fun _ => cW) (fun _ => ?_)
  clear hK K
  try simp only [Act.put, List.setIfInBounds_toArray, List.set_cons_zero, List.set_cons_succ]
  refine stepZ (i := 11) (by kernel_rfl) rfl (fun K hK => ?_)
  refine step_append_rda rfl (.tmp 41) (.tmp 51) 22 rfl B 5 i0 (.int .u8 0) Tryd.underlying22 HI.out HZ0.out HZ1.out HZ2.out rfl _ l.length _ rfl HWO.out W.heap.size (some ⟨w.heap.size, 0, none⟩) 3 3 [b0, b1, b2] rfl HWR.out rfl (fun h => by cases h) (by omega) hWB ?_
  intro v4 w4 hown4 hgr4
  obtain ⟨A4, k4, rfl⟩ := own_form hown4
  have HG4 := Lib.hid (box_grown HWG.out hgr4 (own_nbox HWO.out HWG.out))
  have HB4 : Hid (Below B w w4) := Lib.hid (HWB.out.grown hgr4 hWB (fun g hg => (HWO.out.lt g hg).1))
  have HO4 := Lib.hid hown4
  have c4 := cell_of_one HG4.out
  have f4 := free_of_one HG4.out
  clear hown4 hgr4
  refine hK.out _ _ (fun _ => c4) (fun _ => ?_)
  clear hK K
  try simp only [Act.put, List.setIfInBounds_toArray, List.set_cons_zero, List.set_cons_succ]
  refine stepZ (i := 12) (by kernel_rfl) rfl (fun K hK => ?_)
  go_simp
  refine hK.out _ _ (fun h => absurd rfl h) (fun _ => ?_)
  clear hK K
  try simp only [Act.put, List.setIfInBounds_toArray, List.set_cons_zero, List.set_cons_succ]
  refine doneZ (by kernel_rfl) ?_ _
  refine NoPanic.normal ?_
  go_wp2_with fail
  go_end0
  exact box_put HG4.out HO4.out rfl hB HB4.out
set_option maxHeartbeats 4000000 in
set_option maxRecDepth 100000 in
theorem put_4 (n : Nat) (b0 b1 b2 b3 : UInt8) (B g : Nat) (l : List UInt8) (w : World) (h : 65536 ≤ n) (h2 : n ≤ 1114111) (hb0 : bt (240 + n / 262144) = b0) (hb1 : bt (128 + n / 4096 % 64) = b1) (hb2 : bt (128 + n / 64 % 64) = b2) (hb3 : bt (128 + n % 64) = b3) (hbx : Box B g l w) (hB : B ≤ g) (hl : l.length ≤ 1000000) (hBw : B ≤ w.heap.size) :
    Calls Tryd.prog 37 #[.int .i64 n, .pointer (some ⟨g, 0, none⟩)] w (PutTo B g (l ++ [b0, b1, b2, b3]) w) := by
  obtain ⟨i0, hi, hz0, hz1, hz2⟩ := info_parts infoU8
  obtain ⟨v, hg, hown⟩ := hbx
  have d1 : decide ((n : Int) < 128) = false := by simp; omega
  have d2 : decide ((n : Int) < 2048) = false := by simp; omega
  have d3 : decide ((n : Int) < 65536) = false := by simp; omega
  have c0 := cell_of_one hg
  obtain ⟨A0, k0, rfl⟩ := own_form hown
  obtain ⟨W, hW, hWg, hWo, hWr, hWb, hWB⟩ := row_drew hg hown hBw [b0, b1, b2, b3]
  have hW' : (w.alloc (.cells #[.int .u8 b0.toNat, .int .u8 b1.toNat, .int .u8 b2.toNat, .int .u8 b3.toNat] 5)).drew = W := hW
  have HG := Lib.hid hg
  have HWG := Lib.hid hWg
  have HWO := Lib.hid hWo
  have HWR := Lib.hid hWr
  have HWB := Lib.hid hWb
  have HI := Lib.hid hi
  have HZ0 := Lib.hid hz0
  have HZ1 := Lib.hid hz1
  have HZ2 := Lib.hid hz2
  have HN : Hid (n ≤ 1114111) := Lib.hid (by omega)
  obtain ⟨q6, hq6⟩ : ∃ q6 : Nat, n / 64 = q6 := ⟨_, rfl⟩
  have eq6 : (n : Int) / 64 = (q6 : Int) := by omega
  obtain ⟨q12, hq12⟩ : ∃ q12 : Nat, n / 4096 = q12 := ⟨_, rfl⟩
  have eq12 : (n : Int) / 4096 = (q12 : Int) := by omega
  obtain ⟨q18, hq18⟩ : ∃ q18 : Nat, n / 262144 = q18 := ⟨_, rfl⟩
  have eq18 : (n : Int) / 262144 = (q18 : Int) := by omega
  have hb0' := hb0
  have k0' : (b0.toNat : Int) = 240 + (q18 : Int) := by rw [← hb0, bt_nat _ (by omega)]; omega
  have g1 : IntKind.u8.wrap (q18 : Int) = (q18 : Int) := IntWalk.u8_in _ (by omega)
  have g2 : IntKind.u8.wrap (240 + (q18 : Int)) = (b0.toNat : Int) := by rw [IntWalk.u8_in _ (by omega)]; omega
  have H1 : Hid (bt (128 + q12 % 64) = b1) := by show _ = _; rw [← hb1, ← hq12]
  have N1 : Hid (q12 ≤ 1114111) := Lib.hid (by omega)
  have H2 : Hid (bt (128 + q6 % 64) = b2) := by show _ = _; rw [← hb2, ← hq6]
  have N2 : Hid (q6 ≤ 1114111) := Lib.hid (by omega)
  have H3 : Hid (bt (128 + n % 64) = b3) := by show _ = _; rw [← hb3]
  have N3 : Hid (n ≤ 1114111) := Lib.hid (by omega)
  have cW := cell_of_one hWg
  clear hg hown hi hz0 hz1 hz2 hb0 hb1 hb2 hb3 hb0' k0' hW hWg hWo hWr hWb hq6 hq12 hq18
  go_enter Tryd.func37, Tryd.ntmps37
  go_wp2_with fail
  refine wp_region_noPanic ?_
  refine wp_region_Z (fun w' => w'.cell? ⟨g, 0, none⟩ = some (.slice A0 l.length k0)) 15 (by kernel_rfl) ?_
  have hS : w.drew.cell? ⟨g, 0, none⟩ = some (.slice A0 l.length k0) := c0
  refine takeZ (i := 0) (v := .slice A0 l.length k0) rfl (by kernel_rfl) (by kernel_rfl) (by kernel_rfl) (by kernel_rfl) (fun _ _ _ h => h) (Or.inl ⟨by rfl, ?_⟩) hS ?_
  · intro w' hSw; (try dsimp only at hSw); go_simp
  try simp only [Act.put, List.setIfInBounds_toArray, List.set_cons_zero, List.set_cons_succ]
  refine takeZ (i := 1) (v := .int .i64 n) rfl (by kernel_rfl) (by kernel_rfl) (by kernel_rfl) (by kernel_rfl) (fun _ _ _ h => h) (Or.inl ⟨by rfl, ?_⟩) hS ?_
  · intro w' hSw; (try dsimp only at hSw); go_simp
  try simp only [Act.put, List.setIfInBounds_toArray, List.set_cons_zero, List.set_cons_succ]
  refine takeZ (i := 2) (v := .int .i64 q18) rfl (by kernel_rfl) (by kernel_rfl) (by kernel_rfl) (by kernel_rfl) (fun _ _ _ h => h) (Or.inl ⟨by rfl, ?_⟩) hS ?_
  · intro w' hSw; (try dsimp only at hSw); go_simp
  try simp only [Act.put, List.setIfInBounds_toArray, List.set_cons_zero, List.set_cons_succ]
  refine takeZ (i := 3) (v := .int .u8 q18) rfl (by kernel_rfl) (by kernel_rfl) (by kernel_rfl) (by kernel_rfl) (fun _ _ _ h => h) (Or.inl ⟨by rfl, ?_⟩) hS ?_
  · intro w' hSw; (try dsimp only at hSw); go_simp
  try simp only [Act.put, List.setIfInBounds_toArray, List.set_cons_zero, List.set_cons_succ]
  refine takeZ (i := 4) (v := .int .u8 b0.toNat) rfl (by kernel_rfl) (by kernel_rfl) (by kernel_rfl) (by kernel_rfl) (fun _ _ _ h => h) (Or.inl ⟨by rfl, ?_⟩) hS ?_
  · intro w' hSw; (try dsimp only at hSw); go_simp
  try simp only [Act.put, List.setIfInBounds_toArray, List.set_cons_zero, List.set_cons_succ]
  refine takeZ (i := 5) (v := .int .i64 n) rfl (by kernel_rfl) (by kernel_rfl) (by kernel_rfl) (by kernel_rfl) (fun _ _ _ h => h) (Or.inl ⟨by rfl, ?_⟩) hS ?_
  · intro w' hSw; (try dsimp only at hSw); go_simp
  try simp only [Act.put, List.setIfInBounds_toArray, List.set_cons_zero, List.set_cons_succ]
  refine takeZ (i := 6) (v := .int .i64 q12) rfl (by kernel_rfl) (by kernel_rfl) (by kernel_rfl) (by kernel_rfl) (fun _ _ _ h => h) (Or.inl ⟨by rfl, ?_⟩) hS ?_
  · intro w' hSw; (try dsimp only at hSw); go_simp
  try simp only [Act.put, List.setIfInBounds_toArray, List.set_cons_zero, List.set_cons_succ]
  refine takeZ (i := 8) (v := .int .i64 n) rfl (by kernel_rfl) (by kernel_rfl) (by kernel_rfl) (by kernel_rfl) (fun _ _ _ h => h) (Or.inl ⟨by rfl, ?_⟩) hS ?_
  · intro w' hSw; (try dsimp only at hSw); go_simp
  try simp only [Act.put, List.setIfInBounds_toArray, List.set_cons_zero, List.set_cons_succ]
  refine takeZ (i := 9) (v := .int .i64 q6) rfl (by kernel_rfl) (by kernel_rfl) (by kernel_rfl) (by kernel_rfl) (fun _ _ _ h => h) (Or.inl ⟨by rfl, ?_⟩) hS ?_
  · intro w' hSw; (try dsimp only at hSw); go_simp
  try simp only [Act.put, List.setIfInBounds_toArray, List.set_cons_zero, List.set_cons_succ]
  refine takeZ (i := 11) (v := .int .i64 n) rfl (by kernel_rfl) (by kernel_rfl) (by kernel_rfl) (by kernel_rfl) (fun _ _ _ h => h) (Or.inl ⟨by rfl, ?_⟩) hS ?_
  · intro w' hSw; (try dsimp only at hSw); go_simp
  try simp only [Act.put, List.setIfInBounds_toArray, List.set_cons_zero, List.set_cons_succ]
  refine stepZ (i := 7) (by kernel_rfl) rfl (fun K hK => ?_)
  go_simp
  go_at_call 38; (with_reducible refine (sixT q12 b1 _ N1.out H1.out).mono ?_); rintro e w1 ⟨rfl, rfl⟩
  go_wp2_with fail
  refine hK.out _ _ (fun _ => hS) (fun _ => ?_)
  clear hK K
  try simp only [Act.put, List.setIfInBounds_toArray, List.set_cons_zero, List.set_cons_succ]
  refine stepZ (i := 10) (by kernel_rfl) rfl (fun K hK => ?_)
  go_simp
  go_at_call 38; (with_reducible refine (sixT q6 b2 _ N2.out H2.out).mono ?_); rintro e w1 ⟨rfl, rfl⟩
  go_wp2_with fail
  refine hK.out _ _ (fun _ => hS) (fun _ => ?_)
  clear hK K
  try simp only [Act.put, List.setIfInBounds_toArray, List.set_cons_zero, List.set_cons_succ]
  refine stepZ (i := 12) (by kernel_rfl) rfl (fun K hK => ?_)
  go_simp
  go_at_call 38; (with_reducible refine (sixT n b3 _ N3.out H3.out).mono ?_); rintro e w1 ⟨rfl, rfl⟩
  go_wp2_with fail
  refine hK.out _ _ (fun _ => hS) (fun _ => ?_)
  clear hK K
  try simp only [Act.put, List.setIfInBounds_toArray, List.set_cons_zero, List.set_cons_succ]
  refine stepZ (i := 13) (by kernel_rfl) rfl (fun K hK => ?_)
  go_simp
  refine hK.out _ _ (fun _ => cW) (fun _ => ?_)
  clear hK K
  try simp only [Act.put, List.setIfInBounds_toArray, List.set_cons_zero, List.set_cons_succ]
  refine stepZ (i := 14) (by kernel_rfl) rfl (fun K hK => ?_)
  refine step_append_rda rfl (.tmp 3) (.tmp 16) 22 rfl B 5 i0 (.int .u8 0) Tryd.underlying22 HI.out HZ0.out HZ1.out HZ2.out rfl _ l.length _ rfl HWO.out W.heap.size (some ⟨w.heap.size, 0, none⟩) 4 4 [b0, b1, b2, b3] rfl HWR.out rfl (fun h => by cases h) (by omega) hWB ?_
  intro v4 w4 hown4 hgr4
  obtain ⟨A4, k4, rfl⟩ := own_form hown4
  have HG4 := Lib.hid (box_grown HWG.out hgr4 (own_nbox HWO.out HWG.out))
  have HB4 : Hid (Below B w w4) := Lib.hid (HWB.out.grown hgr4 hWB (fun g hg => (HWO.out.lt g hg).1))
  have HO4 := Lib.hid hown4
  have c4 := cell_of_one HG4.out
  have f4 := free_of_one HG4.out
  clear hown4 hgr4
  refine hK.out _ _ (fun _ => c4) (fun _ => ?_)
  clear hK K
  try simp only [Act.put, List.setIfInBounds_toArray, List.set_cons_zero, List.set_cons_succ]
  refine stepZ (i := 15) (by kernel_rfl) rfl (fun K hK => ?_)
  go_simp
  refine hK.out _ _ (fun h => absurd rfl h) (fun _ => ?_)
  clear hK K
  try simp only [Act.put, List.setIfInBounds_toArray, List.set_cons_zero, List.set_cons_succ]
  refine doneZ (by kernel_rfl) ?_ _
  refine NoPanic.normal ?_
  go_wp2_with fail
  go_end0
  exact box_put HG4.out HO4.out rfl hB HB4.out
end Hx
end Go.Proofs.YtjdeomlpipdopaaDoor
