/-
  The contract of chain.Take.
-/
import Derived.Test.YtmjcmlaeajglmaaChnA
import Derived.Deep.RegionWith
namespace Go.Proofs.Ytmjcmlaeajglmaa
open Go.RowKit
namespace Hx
open Go Wd Sh
set_option linter.unusedVariables false

/-- What is stored, and the error. -/
def takeS (stored key fresh : ByteArray) (has : Bool) : ByteArray := if !fitB stored key || (has && !isK fresh) then ⟨#[]⟩ else if has then fresh else key
def takeE (stored key fresh : ByteArray) (has : Bool) : Int := if !fitB stored key || (has && !isK fresh) then 40 else 0

set_option maxRecDepth 100000 in
theorem put_err (pe pn ph pf pk : Addr) (n : Int) (x : ByteArray) (u : FrameMode) (w : World) (he : w.cell? pe = some (.int .i64 n)) (hn : (n == 0) = false) (hx : w.cell? pn = some (.string x)) (hz : w.frozen? pn = false) :
    CallsD Try.prog 38 #[.pointer (some pe), .pointer (some pn), .pointer (some ph), .pointer (some pf), .pointer (some pk)] u w fun e u' w' => u' = u ∧ (e = .returned (.tuple #[]) ∧ w' = w.setCell pn (.string ⟨#[]⟩)) := by
  go_enter_d Try.func38, Try.ntmps38
  go_wp2
  go_end0
  exact ⟨rfl, rfl⟩
set_option maxRecDepth 100000 in
theorem put_new (pe pn ph pf pk : Addr) (x f : ByteArray) (u : FrameMode) (w : World) (he : w.cell? pe = some (.int .i64 0)) (hx : w.cell? pn = some (.string x)) (hz : w.frozen? pn = false) (hh : w.cell? ph = some (.bool true)) (hf : w.cell? pf = some (.string f)) :
    CallsD Try.prog 38 #[.pointer (some pe), .pointer (some pn), .pointer (some ph), .pointer (some pf), .pointer (some pk)] u w fun e u' w' => u' = u ∧ (e = .returned (.tuple #[]) ∧ w' = w.setCell pn (.string f)) := by
  go_enter_d Try.func38, Try.ntmps38
  go_wp2
  go_end0
  exact ⟨rfl, rfl⟩
set_option maxRecDepth 100000 in
theorem put_old (pe pn ph pf pk : Addr) (x f : ByteArray) (u : FrameMode) (w : World) (he : w.cell? pe = some (.int .i64 0)) (hx : w.cell? pn = some (.string x)) (hz : w.frozen? pn = false) (hh : w.cell? ph = some (.bool false)) (hf : w.cell? pk = some (.string f)) :
    CallsD Try.prog 38 #[.pointer (some pe), .pointer (some pn), .pointer (some ph), .pointer (some pf), .pointer (some pk)] u w fun e u' w' => u' = u ∧ (e = .returned (.tuple #[]) ∧ w' = w.setCell pn (.string f)) := by
  go_enter_d Try.func38, Try.ntmps38
  go_wp2
  go_end0
  exact ⟨rfl, rfl⟩

theorem free_row {w : World} {g : Nat} {v : Value} {t : TypeId} (h : w.heap[g]? = some (.cells #[v] t (0, 0))) : w.frozen? ⟨g, 0, none⟩ = false := frozen_of_row w g 0 _ t h
theorem cell_row1 {w : World} {g : Nat} {v : Value} {t : TypeId} (h : w.heap[g]? = some (.cells #[v] t (0, 0))) : w.cell? ⟨g, 0, none⟩ = some v := cell_of_row w g 0 _ t _ h
theorem opn5 (w : World) (A B C D E : Value) (tA tB tC tD tE : TypeId) : ∃ W, (((((w.alloc (.cells #[A] tA)).alloc (.cells #[B] tB)).alloc (.cells #[C] tC)).alloc (.cells #[D] tD)).alloc (.cells #[E] tE)) = W ∧ W.heap.size = w.heap.size + 1 + 1 + 1 + 1 + 1 ∧
    W.cell? ⟨w.heap.size, 0, none⟩ = some A ∧ W.cell? ⟨w.heap.size + 1, 0, none⟩ = some B ∧ W.cell? ⟨w.heap.size + 1 + 1, 0, none⟩ = some C ∧
    W.heap[w.heap.size + 1 + 1 + 1]? = some (.cells #[D] tD (0, 0)) ∧ W.heap[w.heap.size + 1 + 1 + 1 + 1]? = some (.cells #[E] tE (0, 0)) ∧ Below w.heap.size w W := by
  have k : ∀ (x : World) (o : Obj), Below x.heap.size x (x.alloc o) := fun x o => stpA (Below.refl _ _) _
  obtain ⟨w1, h1⟩ : ∃ w1, w.alloc (.cells #[A] tA) = w1 := ⟨_, rfl⟩
  obtain ⟨w2, h2⟩ : ∃ w2, w1.alloc (.cells #[B] tB) = w2 := ⟨_, rfl⟩
  obtain ⟨w3, h3⟩ : ∃ w3, w2.alloc (.cells #[C] tC) = w3 := ⟨_, rfl⟩
  obtain ⟨w4, h4⟩ : ∃ w4, w3.alloc (.cells #[D] tD) = w4 := ⟨_, rfl⟩
  obtain ⟨w5, h5⟩ : ∃ w5, w4.alloc (.cells #[E] tE) = w5 := ⟨_, rfl⟩
  rw [h1, h2, h3, h4, h5]
  have s1 : w1.heap.size = w.heap.size + 1 := by rw [← h1]; simp
  have s2 : w2.heap.size = w.heap.size + 1 + 1 := by rw [← h2, World.size_alloc, s1]
  have s3 : w3.heap.size = w.heap.size + 1 + 1 + 1 := by rw [← h3, World.size_alloc, s2]
  have s4 : w4.heap.size = w.heap.size + 1 + 1 + 1 + 1 := by rw [← h4, World.size_alloc, s3]
  have s5 : w5.heap.size = w.heap.size + 1 + 1 + 1 + 1 + 1 := by rw [← h5, World.size_alloc, s4]
  have r1 := heap_alloc_new w (.cells #[A] tA)
  have r2 := heap_alloc_new w1 (.cells #[B] tB)
  have r3 := heap_alloc_new w2 (.cells #[C] tC)
  have r4 := heap_alloc_new w3 (.cells #[D] tD)
  have r5 := heap_alloc_new w4 (.cells #[E] tE)
  rw [h1] at r1; rw [h2, s1] at r2; rw [h3, s2] at r3; rw [h4, s3] at r4; rw [h5, s4] at r5
  have b1 := k w (.cells #[A] tA)
  have b2 := k w1 (.cells #[B] tB)
  have b3 := k w2 (.cells #[C] tC)
  have b4 := k w3 (.cells #[D] tD)
  have b5 := k w4 (.cells #[E] tE)
  rw [h1] at b1; rw [h2] at b2; rw [h3] at b3; rw [h4] at b4; rw [h5] at b5
  exact ⟨w5, rfl, s5, cell_row1 (heap_kept (heap_kept (heap_kept (heap_kept r1 b2) b3) b4) b5), cell_row1 (heap_kept (heap_kept (heap_kept r2 b3) b4) b5), cell_row1 (heap_kept (heap_kept r3 b4) b5), heap_kept r4 b5, r5, stp (stp (stp (stp b1 b2) b3) b4) b5⟩
theorem row_set {w : World} {g : Nat} {v : Value} {t : TypeId} (h : w.heap[g]? = some (.cells #[v] t (0, 0))) (x : Value) : (w.setCell ⟨g, 0, none⟩ x).heap[g]? = some (.cells #[x] t (0, 0)) := heap_setCell_same w g 0 _ t x h

/-- The two last stores. -/
theorem last2 {w W : World} {B : Nat} {n m : Int} {x y : ByteArray} {t3 t4 : TypeId} (h3 : W.heap[B + 1 + 1 + 1]? = some (.cells #[.string x] t3 (0, 0))) (h4 : W.heap[B + 1 + 1 + 1 + 1]? = some (.cells #[.int .i64 n] t4 (0, 0))) (hb : Below B w W) :
    ∃ V, V.heap[B + 1 + 1 + 1]? = some (.cells #[.string y] t3 (0, 0)) ∧ V.heap[B + 1 + 1 + 1 + 1]? = some (.cells #[.int .i64 m] t4 (0, 0)) ∧ (Below B w V ∧ ∀ k, k < B + 1 + 1 + 1 → V.heap[k]? = W.heap[k]?) ∧ ((W.setCell ⟨B + 1 + 1 + 1, 0, none⟩ (.string y)).setCell ⟨B + 1 + 1 + 1 + 1, 0, none⟩ (.int .i64 m)).drew = V := by
  refine ⟨_, ?_, ?_, ⟨((hb.setCell (by simp; omega) _).setCell (by simp; omega) _).drew, fun k hk => ?_⟩, rfl⟩
  · show (World.setCell _ _ _).heap[_]? = _
    rw [heap_setCell_other _ _ _ _ (by simp)]
    exact row_set h3 _
  · show (World.setCell _ _ _).heap[_]? = _
    exact row_set ((heap_setCell_other _ _ _ _ (by simp)).trans h4) _
  · show (World.setCell _ _ _).heap[_]? = _
    rw [heap_setCell_other _ _ _ _ (by simp; omega), heap_setCell_other _ _ _ _ (by simp; omega)]
/-- The end: what Take answers is read where it lies. -/
theorem ends {P : Ending → World → Prop} (tmps : Array Value) (V : World) (g3 g4 : Nat) {r : ByteArray} {n : Int} (h3 : V.heap[g3]? = some (.cells #[.string r] 9 (0, 0))) (h4 : V.heap[g4]? = some (.cells #[.int .i64 n] 24 (0, 0)))
    (p3 : tmps.getD 8 undef = .pointer (some ⟨g3, 0, none⟩)) (p4 : tmps.getD 9 undef = .pointer (some ⟨g4, 0, none⟩)) (h : P (.returned (.tuple #[.string r, .int .i64 n])) V) :
    Leaves Try.prog Try.f20 tmps P [] .returning V := by
  have d3 := cell_row1 h3
  have d4 := cell_row1 h4
  simp only [Array.getD_eq_getD_getElem?] at p3 p4
  simp [Leaves, results, Try.results20, go_sem, p3, p4, asAddr, d3, d4, h]

set_option maxHeartbeats 2000000 in
set_option maxRecDepth 100000 in
theorem take_no (stored key fresh : ByteArray) (has : Bool) (w : World) (h : fitB stored key = false) :
    Calls Try.prog 20 #[.string stored, .string key, .string fresh, .bool has] w fun e w' => e = .returned (.tuple #[.string ⟨#[]⟩, .int .i64 40]) ∧ Below w.heap.size w w' := by
  have hmf : ∀ (fn : Fn) (first cap : Array Value) (w : World), (Instr.makeFunc fn first cap).run Try.prog w = .ok (.func fn first cap) w := fun _ _ _ _ => rfl
  have H := Lib.hid h
  clear h
  go_enter_defers Try.func20, Try.ntmps20
  go_upto_region 1 with fail
  obtain ⟨W5, hW5, hs5, c0, c1, c2, r3, r4, hb5⟩ := opn5 w (.string key) (.string fresh) (.bool has) (.string ⟨#[]⟩) (.int .i64 0) 9 9 4 9 24
  rw [hW5]
  have R3 := Lib.hid r3
  have R4 := Lib.hid r4
  have C0 := Lib.hid c0
  have C1 := Lib.hid c1
  have C2 := Lib.hid c2
  clear hW5 hs5 r3 r4
  go_wp2_with (first
    | (go_at_call 26; (with_reducible refine (fits_b stored key W5 false H.out).mono ?_); rintro e w1 ⟨rfl, hb1⟩; have K0 := Lib.hid (cell_kept2 C0.out hb1); have K1 := Lib.hid (cell_kept2 C1.out hb1); have K2 := Lib.hid (cell_kept2 C2.out hb1); have k1 := K1.out; have k2 := K2.out; have q3 := Lib.hid (heap_kept R3.out hb1); have q4 := Lib.hid (heap_kept R4.out hb1); have c3 := cell_row1 q3.out; have c4 := cell_row1 q4.out; have f3 := free_row q3.out; have f4 := free_row q4.out)
    | fail)
  obtain ⟨W6, hW6⟩ : ∃ W6, w1.setCell ⟨w.heap.size + 1 + 1 + 1 + 1, 0, none⟩ (.int .i64 40) = W6 := ⟨_, rfl⟩
  rw [hW6]
  have s3 : W6.heap[w.heap.size + 1 + 1 + 1]? = some (.cells #[.string ⟨#[]⟩] 9 (0, 0)) := by rw [← hW6, heap_setCell_other _ _ _ _ (by simp)]; exact q3.out
  have s4 : W6.heap[w.heap.size + 1 + 1 + 1 + 1]? = some (.cells #[.int .i64 40] 24 (0, 0)) := by rw [← hW6]; exact row_set q4.out _
  have b6 : Below w.heap.size w W6 := by rw [← hW6]; exact (stp hb5 hb1).setCell (by simp; omega) _
  have S3 := Lib.hid s3
  have S4 := Lib.hid s4
  have B6 := Lib.hid b6
  have d3 := cell_row1 s3
  have d4 := cell_row1 s4
  have e3 := free_row s3
  have e4 := free_row s4
  clear c0 c1 c2 c3 c4 f3 f4 hW6 q3 q4 s3 s4 b6 hb1 hb5 R3 R4
  go_region
  go_wp2_with fail
  obtain ⟨V, v3, v4, bV, hV⟩ := last2 (n := 40) (m := 40) (x := ⟨#[]⟩) (y := ⟨#[]⟩) S3.out S4.out B6.out
  rw [hV]
  refine leaves_cons (f := 38) (args := #[.pointer (some ⟨w.heap.size + 1 + 1 + 1 + 1, 0, none⟩), .pointer (some ⟨w.heap.size + 1 + 1 + 1, 0, none⟩), .pointer (some ⟨w.heap.size + 1 + 1, 0, none⟩), .pointer (some ⟨w.heap.size + 1, 0, none⟩), .pointer (some ⟨w.heap.size, 0, none⟩)]) (by simp) (by simp [go_sem]) ?_
  refine (put_err _ _ _ _ _ 40 _ .returning V (cell_row1 v4) rfl (cell_row1 v3) (free_row v3)).mono ?_
  rintro e u' w'' ⟨rfl, rfl, rfl⟩
  exact ends _ _ _ _ (row_set v3 _) ((heap_setCell_other _ _ _ _ (by simp)).trans v4) rfl rfl ⟨rfl, bV.1.setCell (by simp; omega) _⟩
set_option maxHeartbeats 2000000 in
set_option maxRecDepth 100000 in
theorem take_bad (stored key fresh : ByteArray) (w : World) (h : fitB stored key = true) (hf : isK fresh = false) :
    Calls Try.prog 20 #[.string stored, .string key, .string fresh, .bool true] w fun e w' => e = .returned (.tuple #[.string ⟨#[]⟩, .int .i64 40]) ∧ Below w.heap.size w w' := by
  have hmf : ∀ (fn : Fn) (first cap : Array Value) (w : World), (Instr.makeFunc fn first cap).run Try.prog w = .ok (.func fn first cap) w := fun _ _ _ _ => rfl
  have H := Lib.hid h
  have HF := Lib.hid hf
  clear h hf
  go_enter_defers Try.func20, Try.ntmps20
  go_upto_region 1 with fail
  obtain ⟨W5, hW5, hs5, c0, c1, c2, r3, r4, hb5⟩ := opn5 w (.string key) (.string fresh) (.bool true) (.string ⟨#[]⟩) (.int .i64 0) 9 9 4 9 24
  rw [hW5]
  have R3 := Lib.hid r3
  have R4 := Lib.hid r4
  have C0 := Lib.hid c0
  have C1 := Lib.hid c1
  have C2 := Lib.hid c2
  clear hW5 hs5 r3 r4
  go_wp2_with (first
    | (go_at_call 26; (with_reducible refine (fits_b stored key W5 true H.out).mono ?_); rintro e w1 ⟨rfl, hb1⟩; have K0 := Lib.hid (cell_kept2 C0.out hb1); have K1 := Lib.hid (cell_kept2 C1.out hb1); have K2 := Lib.hid (cell_kept2 C2.out hb1); have k1 := K1.out; have k2 := K2.out)
    | (go_at_call 39; (with_reducible refine (iskey_b fresh w1 false HF.out).mono ?_); rintro e w2 ⟨rfl, hb2⟩; have q3 := Lib.hid (heap_kept (heap_kept R3.out hb1) hb2); have q4 := Lib.hid (heap_kept (heap_kept R4.out hb1) hb2); have c3 := cell_row1 q3.out; have c4 := cell_row1 q4.out; have f3 := free_row q3.out; have f4 := free_row q4.out)
    | fail)
  obtain ⟨W6, hW6⟩ : ∃ W6, w2.setCell ⟨w.heap.size + 1 + 1 + 1 + 1, 0, none⟩ (.int .i64 40) = W6 := ⟨_, rfl⟩
  rw [hW6]
  have s3 : W6.heap[w.heap.size + 1 + 1 + 1]? = some (.cells #[.string ⟨#[]⟩] 9 (0, 0)) := by rw [← hW6, heap_setCell_other _ _ _ _ (by simp)]; exact q3.out
  have s4 : W6.heap[w.heap.size + 1 + 1 + 1 + 1]? = some (.cells #[.int .i64 40] 24 (0, 0)) := by rw [← hW6]; exact row_set q4.out _
  have b6 : Below w.heap.size w W6 := by rw [← hW6]; exact (stp (stp hb5 hb1) hb2).setCell (by simp; omega) _
  have S3 := Lib.hid s3
  have S4 := Lib.hid s4
  have B6 := Lib.hid b6
  have d3 := cell_row1 s3
  have d4 := cell_row1 s4
  have e3 := free_row s3
  have e4 := free_row s4
  clear c0 c1 c2 c3 c4 f3 f4 hW6 q3 q4 s3 s4 b6 hb1 hb5 R3 R4
  go_region
  go_wp2_with fail
  obtain ⟨V, v3, v4, bV, hV⟩ := last2 (n := 40) (m := 40) (x := ⟨#[]⟩) (y := ⟨#[]⟩) S3.out S4.out B6.out
  rw [hV]
  refine leaves_cons (f := 38) (args := #[.pointer (some ⟨w.heap.size + 1 + 1 + 1 + 1, 0, none⟩), .pointer (some ⟨w.heap.size + 1 + 1 + 1, 0, none⟩), .pointer (some ⟨w.heap.size + 1 + 1, 0, none⟩), .pointer (some ⟨w.heap.size + 1, 0, none⟩), .pointer (some ⟨w.heap.size, 0, none⟩)]) (by simp) (by simp [go_sem]) ?_
  refine (put_err _ _ _ _ _ 40 _ .returning V (cell_row1 v4) rfl (cell_row1 v3) (free_row v3)).mono ?_
  rintro e u' w'' ⟨rfl, rfl, rfl⟩
  exact ends _ _ _ _ (row_set v3 _) ((heap_setCell_other _ _ _ _ (by simp)).trans v4) rfl rfl ⟨rfl, bV.1.setCell (by simp; omega) _⟩
set_option maxHeartbeats 2000000 in
set_option maxRecDepth 100000 in
theorem take_new (stored key fresh : ByteArray) (w : World) (h : fitB stored key = true) (hf : isK fresh = true) :
    Calls Try.prog 20 #[.string stored, .string key, .string fresh, .bool true] w fun e w' => e = .returned (.tuple #[.string fresh, .int .i64 0]) ∧ Below w.heap.size w w' := by
  have hmf : ∀ (fn : Fn) (first cap : Array Value) (w : World), (Instr.makeFunc fn first cap).run Try.prog w = .ok (.func fn first cap) w := fun _ _ _ _ => rfl
  have H := Lib.hid h
  have HF := Lib.hid hf
  clear h hf
  go_enter_defers Try.func20, Try.ntmps20
  go_upto_region 1 with fail
  obtain ⟨W5, hW5, hs5, c0, c1, c2, r3, r4, hb5⟩ := opn5 w (.string key) (.string fresh) (.bool true) (.string ⟨#[]⟩) (.int .i64 0) 9 9 4 9 24
  rw [hW5]
  have R3 := Lib.hid r3
  have R4 := Lib.hid r4
  have C0 := Lib.hid c0
  have C1 := Lib.hid c1
  have C2 := Lib.hid c2
  clear hW5 hs5 r3 r4
  go_wp2_with (first
    | (go_at_call 26; (with_reducible refine (fits_b stored key W5 true H.out).mono ?_); rintro e w1 ⟨rfl, hb1⟩; have K0 := Lib.hid (cell_kept2 C0.out hb1); have K1 := Lib.hid (cell_kept2 C1.out hb1); have K2 := Lib.hid (cell_kept2 C2.out hb1); have k1 := K1.out; have k2 := K2.out)
    | (go_at_call 39; (with_reducible refine (iskey_b fresh w1 true HF.out).mono ?_); rintro e w2 ⟨rfl, hb2⟩; have q3 := Lib.hid (heap_kept (heap_kept R3.out hb1) hb2); have q4 := Lib.hid (heap_kept (heap_kept R4.out hb1) hb2); have c3 := cell_row1 q3.out; have c4 := cell_row1 q4.out; have f3 := free_row q3.out; have f4 := free_row q4.out)
    | fail)
  have B6 := Lib.hid (stp (stp hb5 hb1) hb2)
  clear c0 c1 c2 hb1 hb5 R3 R4
  go_region
  go_wp2_with fail
  obtain ⟨V, v3, v4, bV, hV⟩ := last2 (n := 0) (m := 0) (x := ⟨#[]⟩) (y := ⟨#[]⟩) q3.out q4.out B6.out
  rw [hV]
  refine leaves_cons (f := 38) (args := #[.pointer (some ⟨w.heap.size + 1 + 1 + 1 + 1, 0, none⟩), .pointer (some ⟨w.heap.size + 1 + 1 + 1, 0, none⟩), .pointer (some ⟨w.heap.size + 1 + 1, 0, none⟩), .pointer (some ⟨w.heap.size + 1, 0, none⟩), .pointer (some ⟨w.heap.size, 0, none⟩)]) (by simp) (by simp [go_sem]) ?_
  refine (put_new _ _ _ _ _ _ fresh .returning V (cell_row1 v4) (cell_row1 v3) (free_row v3) ((World.cell?_of_block (bV.2 _ (by simp))).trans (cell_kept2 K2.out hb2)) ((World.cell?_of_block (bV.2 _ (by simp))).trans (cell_kept2 K1.out hb2))).mono ?_
  rintro e u' w'' ⟨rfl, rfl, rfl⟩
  exact ends _ _ _ _ (row_set v3 _) ((heap_setCell_other _ _ _ _ (by simp)).trans v4) rfl rfl ⟨rfl, bV.1.setCell (by simp; omega) _⟩
set_option maxHeartbeats 2000000 in
set_option maxRecDepth 100000 in
theorem take_old (stored key fresh : ByteArray) (w : World) (h : fitB stored key = true) :
    Calls Try.prog 20 #[.string stored, .string key, .string fresh, .bool false] w fun e w' => e = .returned (.tuple #[.string key, .int .i64 0]) ∧ Below w.heap.size w w' := by
  have hmf : ∀ (fn : Fn) (first cap : Array Value) (w : World), (Instr.makeFunc fn first cap).run Try.prog w = .ok (.func fn first cap) w := fun _ _ _ _ => rfl
  have H := Lib.hid h
  clear h
  go_enter_defers Try.func20, Try.ntmps20
  go_upto_region 1 with fail
  obtain ⟨W5, hW5, hs5, c0, c1, c2, r3, r4, hb5⟩ := opn5 w (.string key) (.string fresh) (.bool false) (.string ⟨#[]⟩) (.int .i64 0) 9 9 4 9 24
  rw [hW5]
  have R3 := Lib.hid r3
  have R4 := Lib.hid r4
  have C0 := Lib.hid c0
  have C1 := Lib.hid c1
  have C2 := Lib.hid c2
  clear hW5 hs5 r3 r4
  go_wp2_with (first
    | (go_at_call 26; (with_reducible refine (fits_b stored key W5 true H.out).mono ?_); rintro e w1 ⟨rfl, hb1⟩; have K0 := Lib.hid (cell_kept2 C0.out hb1); have K1 := Lib.hid (cell_kept2 C1.out hb1); have K2 := Lib.hid (cell_kept2 C2.out hb1); have k1 := K1.out; have k2 := K2.out; have q3 := Lib.hid (heap_kept R3.out hb1); have q4 := Lib.hid (heap_kept R4.out hb1); have c3 := cell_row1 q3.out; have c4 := cell_row1 q4.out; have f3 := free_row q3.out; have f4 := free_row q4.out)
    | fail)
  have B6 := Lib.hid (stp hb5 hb1)
  clear c0 c1 c2 hb1 hb5 R3 R4
  go_region
  go_wp2_with fail
  obtain ⟨V, v3, v4, bV, hV⟩ := last2 (n := 0) (m := 0) (x := ⟨#[]⟩) (y := ⟨#[]⟩) q3.out q4.out B6.out
  rw [hV]
  refine leaves_cons (f := 38) (args := #[.pointer (some ⟨w.heap.size + 1 + 1 + 1 + 1, 0, none⟩), .pointer (some ⟨w.heap.size + 1 + 1 + 1, 0, none⟩), .pointer (some ⟨w.heap.size + 1 + 1, 0, none⟩), .pointer (some ⟨w.heap.size + 1, 0, none⟩), .pointer (some ⟨w.heap.size, 0, none⟩)]) (by simp) (by simp [go_sem]) ?_
  refine (put_old _ _ _ _ _ _ key .returning V (cell_row1 v4) (cell_row1 v3) (free_row v3) ((World.cell?_of_block (bV.2 _ (by simp))).trans K2.out) ((World.cell?_of_block (bV.2 _ (by simp; omega))).trans K0.out)).mono ?_
  rintro e u' w'' ⟨rfl, rfl, rfl⟩
  exact ends _ _ _ _ (row_set v3 _) ((heap_setCell_other _ _ _ _ (by simp)).trans v4) rfl rfl ⟨rfl, bV.1.setCell (by simp; omega) _⟩

/-- chain.Take. -/
theorem take_any (stored key fresh : ByteArray) (has : Bool) (w : World) (x : ByteArray) (n : Int) (hx : takeS stored key fresh has = x) (hn : takeE stored key fresh has = n) :
    Calls Try.prog 20 #[.string stored, .string key, .string fresh, .bool has] w fun e w' => e = .returned (.tuple #[.string x, .int .i64 n]) ∧ Below w.heap.size w w' := by
  subst hx hn
  unfold takeS takeE
  cases h : fitB stored key
  · exact take_no stored key fresh has w h
  · cases has
    · exact take_old stored key fresh w h
    · cases hf : isK fresh
      · exact take_bad stored key fresh w h hf
      · exact take_new stored key fresh w h hf
end Hx
end Go.Proofs.Ytmjcmlaeajglmaa
