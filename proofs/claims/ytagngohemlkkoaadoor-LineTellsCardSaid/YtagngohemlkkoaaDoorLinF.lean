/-
  Which lines may be, and how they are judged: the document's answers and the landed ones.
-/
import Derived.Test.YtagngohemlkkoaaDoorLinE
import Derived.BigQuiet
import Derived.Deep.QuietTactic
namespace Go.Proofs.YtagngohemlkkoaaDoor
open Go.RowKit
namespace Hx
open As Ln Nmb
set_option linter.unusedVariables false
set_option linter.unusedSimpArgs false
/-- A line's parts, as a line. -/
def mkL (m t : ByteArray) (g s : Int) : Li := ⟨m.data.toList, t.data.toList, g, s⟩
theorem mkL_may {m t : ByteArray} {g s : Int} : mayL (mkL m t g s) = (isTok m.data.toList && isTgt t.data.toList && inP g && inP s) := rfl
set_option maxHeartbeats 4000000 in
set_option maxRecDepth 100000 in
theorem part15 (n : Int) (b : Bool) (w : World) (h : inP n = b) :
    Calls Tryd.prog 34 #[.int .i64 n] w fun e w' => e = .returned (.bool b) ∧ Below w.heap.size w w' := by
  unfold inP at h
  by_cases h0 : 0 ≤ n
  · by_cases h9 : n ≤ 9
    · have d0 : decide (0 ≤ n) = true := decide_eq_true h0
      have d1 : decide (n ≤ 9) = true := decide_eq_true h9
      rw [d0, d1] at h
      obtain rfl : true = b := h
      go_enter Tryd.func34, Tryd.ntmps34
      go_wp2_with fail
      go_ret
      exact ⟨rfl, Below.refl _ _⟩
    · have d0 : decide (0 ≤ n) = true := decide_eq_true h0
      have d1 : decide (n ≤ 9) = false := decide_eq_false h9
      rw [d0, d1] at h
      obtain rfl : false = b := h
      go_enter Tryd.func34, Tryd.ntmps34
      go_wp2_with fail
      go_ret
      exact ⟨rfl, Below.refl _ _⟩
  · have d0 : decide (0 ≤ n) = false := decide_eq_false h0
    rw [d0] at h
    obtain rfl : false = b := h
    go_enter Tryd.func34, Tryd.ntmps34
    go_wp2_with fail
    go_ret
    exact ⟨rfl, Below.refl _ _⟩
set_option maxHeartbeats 4000000 in
set_option maxRecDepth 100000 in
theorem may15_0 (m t : ByteArray) (g s : Int) (w : World) (hm : m.size ≤ 1000000) (ht : t.size ≤ 1000000) (h1 : isTok m.data.toList = false) :
    Calls Tryd.prog 21 #[.agg #[.string m, .string t, .int .i64 g, .int .i64 s]] w fun e w' => e = .returned (.bool false) ∧ Below w.heap.size w w' := by
  have HM := Lib.hid hm
  have HT := Lib.hid ht
  have H1 := Lib.hid h1
  clear hm ht h1
  go_enter Tryd.func21, Tryd.ntmps21
  go_wp2_with (first
    | (go_at_call 18; (with_reducible refine (token7 m false _ HM.out H1.out).mono ?_); rintro e w1 ⟨rfl, hb1⟩; have R1 := Lib.hid (kept_heap (heap_alloc_new w (.cells #[.string m, .string t, .int .i64 g, .int .i64 s] 30)) hb1); have B1 := Lib.hid (stp (stpA (Below.refl w.heap.size w) (.cells #[.string m, .string t, .int .i64 g, .int .i64 s] 30)) hb1); clear hb1; have c10 : w1.cell? ⟨w.heap.size, 0, none⟩ = some (.string m) := cell_of_row _ _ 0 _ _ _ R1.out; have c11 : w1.cell? ⟨w.heap.size, 1, none⟩ = some (.string t) := cell_of_row _ _ 1 _ _ _ R1.out; have c12 : w1.cell? ⟨w.heap.size, 2, none⟩ = some (.int .i64 g) := cell_of_row _ _ 2 _ _ _ R1.out; have c13 : w1.cell? ⟨w.heap.size, 3, none⟩ = some (.int .i64 s) := cell_of_row _ _ 3 _ _ _ R1.out)
    | fail)
  go_ret
  exact ⟨rfl, B1.out⟩
set_option maxHeartbeats 4000000 in
set_option maxRecDepth 100000 in
theorem may15_1 (m t : ByteArray) (g s : Int) (w : World) (hm : m.size ≤ 1000000) (ht : t.size ≤ 1000000) (h1 : isTok m.data.toList = true) (h2 : isTgt t.data.toList = false) :
    Calls Tryd.prog 21 #[.agg #[.string m, .string t, .int .i64 g, .int .i64 s]] w fun e w' => e = .returned (.bool false) ∧ Below w.heap.size w w' := by
  have HM := Lib.hid hm
  have HT := Lib.hid ht
  have H1 := Lib.hid h1
  have H2 := Lib.hid h2
  clear hm ht h1 h2
  go_enter Tryd.func21, Tryd.ntmps21
  go_wp2_with (first
    | (go_at_call 18; (with_reducible refine (token7 m true _ HM.out H1.out).mono ?_); rintro e w1 ⟨rfl, hb1⟩; have R1 := Lib.hid (kept_heap (heap_alloc_new w (.cells #[.string m, .string t, .int .i64 g, .int .i64 s] 30)) hb1); have B1 := Lib.hid (stp (stpA (Below.refl w.heap.size w) (.cells #[.string m, .string t, .int .i64 g, .int .i64 s] 30)) hb1); clear hb1; have c10 : w1.cell? ⟨w.heap.size, 0, none⟩ = some (.string m) := cell_of_row _ _ 0 _ _ _ R1.out; have c11 : w1.cell? ⟨w.heap.size, 1, none⟩ = some (.string t) := cell_of_row _ _ 1 _ _ _ R1.out; have c12 : w1.cell? ⟨w.heap.size, 2, none⟩ = some (.int .i64 g) := cell_of_row _ _ 2 _ _ _ R1.out; have c13 : w1.cell? ⟨w.heap.size, 3, none⟩ = some (.int .i64 s) := cell_of_row _ _ 3 _ _ _ R1.out)
    | (go_at_call 33; (with_reducible refine (target15 t false _ HT.out H2.out).mono ?_); rintro e w2 ⟨rfl, hb2⟩; have R2 := Lib.hid (kept_heap R1.out hb2); have B2 := Lib.hid (stp B1.out hb2); clear hb2; have c20 : w2.cell? ⟨w.heap.size, 0, none⟩ = some (.string m) := cell_of_row _ _ 0 _ _ _ R2.out; have c21 : w2.cell? ⟨w.heap.size, 1, none⟩ = some (.string t) := cell_of_row _ _ 1 _ _ _ R2.out; have c22 : w2.cell? ⟨w.heap.size, 2, none⟩ = some (.int .i64 g) := cell_of_row _ _ 2 _ _ _ R2.out; have c23 : w2.cell? ⟨w.heap.size, 3, none⟩ = some (.int .i64 s) := cell_of_row _ _ 3 _ _ _ R2.out)
    | fail)
  go_ret
  exact ⟨rfl, B2.out⟩
set_option maxHeartbeats 4000000 in
set_option maxRecDepth 100000 in
theorem may15_2 (m t : ByteArray) (g s : Int) (w : World) (hm : m.size ≤ 1000000) (ht : t.size ≤ 1000000) (h1 : isTok m.data.toList = true) (h2 : isTgt t.data.toList = true) (h3 : inP g = false) :
    Calls Tryd.prog 21 #[.agg #[.string m, .string t, .int .i64 g, .int .i64 s]] w fun e w' => e = .returned (.bool false) ∧ Below w.heap.size w w' := by
  have HM := Lib.hid hm
  have HT := Lib.hid ht
  have H1 := Lib.hid h1
  have H2 := Lib.hid h2
  have H3 := Lib.hid h3
  clear hm ht h1 h2 h3
  go_enter Tryd.func21, Tryd.ntmps21
  go_wp2_with (first
    | (go_at_call 18; (with_reducible refine (token7 m true _ HM.out H1.out).mono ?_); rintro e w1 ⟨rfl, hb1⟩; have R1 := Lib.hid (kept_heap (heap_alloc_new w (.cells #[.string m, .string t, .int .i64 g, .int .i64 s] 30)) hb1); have B1 := Lib.hid (stp (stpA (Below.refl w.heap.size w) (.cells #[.string m, .string t, .int .i64 g, .int .i64 s] 30)) hb1); clear hb1; have c10 : w1.cell? ⟨w.heap.size, 0, none⟩ = some (.string m) := cell_of_row _ _ 0 _ _ _ R1.out; have c11 : w1.cell? ⟨w.heap.size, 1, none⟩ = some (.string t) := cell_of_row _ _ 1 _ _ _ R1.out; have c12 : w1.cell? ⟨w.heap.size, 2, none⟩ = some (.int .i64 g) := cell_of_row _ _ 2 _ _ _ R1.out; have c13 : w1.cell? ⟨w.heap.size, 3, none⟩ = some (.int .i64 s) := cell_of_row _ _ 3 _ _ _ R1.out)
    | (go_at_call 33; (with_reducible refine (target15 t true _ HT.out H2.out).mono ?_); rintro e w2 ⟨rfl, hb2⟩; have R2 := Lib.hid (kept_heap R1.out hb2); have B2 := Lib.hid (stp B1.out hb2); clear hb2; have c20 : w2.cell? ⟨w.heap.size, 0, none⟩ = some (.string m) := cell_of_row _ _ 0 _ _ _ R2.out; have c21 : w2.cell? ⟨w.heap.size, 1, none⟩ = some (.string t) := cell_of_row _ _ 1 _ _ _ R2.out; have c22 : w2.cell? ⟨w.heap.size, 2, none⟩ = some (.int .i64 g) := cell_of_row _ _ 2 _ _ _ R2.out; have c23 : w2.cell? ⟨w.heap.size, 3, none⟩ = some (.int .i64 s) := cell_of_row _ _ 3 _ _ _ R2.out)
    | (go_at_call 34; (with_reducible refine (part15 g false _ H3.out).mono ?_); rintro e w3 ⟨rfl, hb3⟩; have R3 := Lib.hid (kept_heap R2.out hb3); have B3 := Lib.hid (stp B2.out hb3); clear hb3; have c30 : w3.cell? ⟨w.heap.size, 0, none⟩ = some (.string m) := cell_of_row _ _ 0 _ _ _ R3.out; have c31 : w3.cell? ⟨w.heap.size, 1, none⟩ = some (.string t) := cell_of_row _ _ 1 _ _ _ R3.out; have c32 : w3.cell? ⟨w.heap.size, 2, none⟩ = some (.int .i64 g) := cell_of_row _ _ 2 _ _ _ R3.out; have c33 : w3.cell? ⟨w.heap.size, 3, none⟩ = some (.int .i64 s) := cell_of_row _ _ 3 _ _ _ R3.out)
    | fail)
  go_ret
  exact ⟨rfl, B3.out⟩
set_option maxHeartbeats 4000000 in
set_option maxRecDepth 100000 in
theorem may15_3 (m t : ByteArray) (g s : Int) (w : World) (hm : m.size ≤ 1000000) (ht : t.size ≤ 1000000) (h1 : isTok m.data.toList = true) (h2 : isTgt t.data.toList = true) (h3 : inP g = true) (h4 : inP s = false) :
    Calls Tryd.prog 21 #[.agg #[.string m, .string t, .int .i64 g, .int .i64 s]] w fun e w' => e = .returned (.bool false) ∧ Below w.heap.size w w' := by
  have HM := Lib.hid hm
  have HT := Lib.hid ht
  have H1 := Lib.hid h1
  have H2 := Lib.hid h2
  have H3 := Lib.hid h3
  have H4 := Lib.hid h4
  clear hm ht h1 h2 h3 h4
  go_enter Tryd.func21, Tryd.ntmps21
  go_wp2_with (first
    | (go_at_call 18; (with_reducible refine (token7 m true _ HM.out H1.out).mono ?_); rintro e w1 ⟨rfl, hb1⟩; have R1 := Lib.hid (kept_heap (heap_alloc_new w (.cells #[.string m, .string t, .int .i64 g, .int .i64 s] 30)) hb1); have B1 := Lib.hid (stp (stpA (Below.refl w.heap.size w) (.cells #[.string m, .string t, .int .i64 g, .int .i64 s] 30)) hb1); clear hb1; have c10 : w1.cell? ⟨w.heap.size, 0, none⟩ = some (.string m) := cell_of_row _ _ 0 _ _ _ R1.out; have c11 : w1.cell? ⟨w.heap.size, 1, none⟩ = some (.string t) := cell_of_row _ _ 1 _ _ _ R1.out; have c12 : w1.cell? ⟨w.heap.size, 2, none⟩ = some (.int .i64 g) := cell_of_row _ _ 2 _ _ _ R1.out; have c13 : w1.cell? ⟨w.heap.size, 3, none⟩ = some (.int .i64 s) := cell_of_row _ _ 3 _ _ _ R1.out)
    | (go_at_call 33; (with_reducible refine (target15 t true _ HT.out H2.out).mono ?_); rintro e w2 ⟨rfl, hb2⟩; have R2 := Lib.hid (kept_heap R1.out hb2); have B2 := Lib.hid (stp B1.out hb2); clear hb2; have c20 : w2.cell? ⟨w.heap.size, 0, none⟩ = some (.string m) := cell_of_row _ _ 0 _ _ _ R2.out; have c21 : w2.cell? ⟨w.heap.size, 1, none⟩ = some (.string t) := cell_of_row _ _ 1 _ _ _ R2.out; have c22 : w2.cell? ⟨w.heap.size, 2, none⟩ = some (.int .i64 g) := cell_of_row _ _ 2 _ _ _ R2.out; have c23 : w2.cell? ⟨w.heap.size, 3, none⟩ = some (.int .i64 s) := cell_of_row _ _ 3 _ _ _ R2.out)
    | (go_at_call 34; (with_reducible refine (part15 g true _ H3.out).mono ?_); rintro e w3 ⟨rfl, hb3⟩; have R3 := Lib.hid (kept_heap R2.out hb3); have B3 := Lib.hid (stp B2.out hb3); clear hb3; have c30 : w3.cell? ⟨w.heap.size, 0, none⟩ = some (.string m) := cell_of_row _ _ 0 _ _ _ R3.out; have c31 : w3.cell? ⟨w.heap.size, 1, none⟩ = some (.string t) := cell_of_row _ _ 1 _ _ _ R3.out; have c32 : w3.cell? ⟨w.heap.size, 2, none⟩ = some (.int .i64 g) := cell_of_row _ _ 2 _ _ _ R3.out; have c33 : w3.cell? ⟨w.heap.size, 3, none⟩ = some (.int .i64 s) := cell_of_row _ _ 3 _ _ _ R3.out)
    | (go_at_call 34; (with_reducible refine (part15 s false _ H4.out).mono ?_); rintro e w4 ⟨rfl, hb4⟩; have R4 := Lib.hid (kept_heap R3.out hb4); have B4 := Lib.hid (stp B3.out hb4); clear hb4; have c40 : w4.cell? ⟨w.heap.size, 0, none⟩ = some (.string m) := cell_of_row _ _ 0 _ _ _ R4.out; have c41 : w4.cell? ⟨w.heap.size, 1, none⟩ = some (.string t) := cell_of_row _ _ 1 _ _ _ R4.out; have c42 : w4.cell? ⟨w.heap.size, 2, none⟩ = some (.int .i64 g) := cell_of_row _ _ 2 _ _ _ R4.out; have c43 : w4.cell? ⟨w.heap.size, 3, none⟩ = some (.int .i64 s) := cell_of_row _ _ 3 _ _ _ R4.out)
    | fail)
  go_ret
  exact ⟨rfl, B4.out⟩
set_option maxHeartbeats 4000000 in
set_option maxRecDepth 100000 in
theorem may15_4 (m t : ByteArray) (g s : Int) (w : World) (hm : m.size ≤ 1000000) (ht : t.size ≤ 1000000) (h1 : isTok m.data.toList = true) (h2 : isTgt t.data.toList = true) (h3 : inP g = true) (h4 : inP s = true) :
    Calls Tryd.prog 21 #[.agg #[.string m, .string t, .int .i64 g, .int .i64 s]] w fun e w' => e = .returned (.bool true) ∧ Below w.heap.size w w' := by
  have HM := Lib.hid hm
  have HT := Lib.hid ht
  have H1 := Lib.hid h1
  have H2 := Lib.hid h2
  have H3 := Lib.hid h3
  have H4 := Lib.hid h4
  clear hm ht h1 h2 h3 h4
  go_enter Tryd.func21, Tryd.ntmps21
  go_wp2_with (first
    | (go_at_call 18; (with_reducible refine (token7 m true _ HM.out H1.out).mono ?_); rintro e w1 ⟨rfl, hb1⟩; have R1 := Lib.hid (kept_heap (heap_alloc_new w (.cells #[.string m, .string t, .int .i64 g, .int .i64 s] 30)) hb1); have B1 := Lib.hid (stp (stpA (Below.refl w.heap.size w) (.cells #[.string m, .string t, .int .i64 g, .int .i64 s] 30)) hb1); clear hb1; have c10 : w1.cell? ⟨w.heap.size, 0, none⟩ = some (.string m) := cell_of_row _ _ 0 _ _ _ R1.out; have c11 : w1.cell? ⟨w.heap.size, 1, none⟩ = some (.string t) := cell_of_row _ _ 1 _ _ _ R1.out; have c12 : w1.cell? ⟨w.heap.size, 2, none⟩ = some (.int .i64 g) := cell_of_row _ _ 2 _ _ _ R1.out; have c13 : w1.cell? ⟨w.heap.size, 3, none⟩ = some (.int .i64 s) := cell_of_row _ _ 3 _ _ _ R1.out)
    | (go_at_call 33; (with_reducible refine (target15 t true _ HT.out H2.out).mono ?_); rintro e w2 ⟨rfl, hb2⟩; have R2 := Lib.hid (kept_heap R1.out hb2); have B2 := Lib.hid (stp B1.out hb2); clear hb2; have c20 : w2.cell? ⟨w.heap.size, 0, none⟩ = some (.string m) := cell_of_row _ _ 0 _ _ _ R2.out; have c21 : w2.cell? ⟨w.heap.size, 1, none⟩ = some (.string t) := cell_of_row _ _ 1 _ _ _ R2.out; have c22 : w2.cell? ⟨w.heap.size, 2, none⟩ = some (.int .i64 g) := cell_of_row _ _ 2 _ _ _ R2.out; have c23 : w2.cell? ⟨w.heap.size, 3, none⟩ = some (.int .i64 s) := cell_of_row _ _ 3 _ _ _ R2.out)
    | (go_at_call 34; (with_reducible refine (part15 g true _ H3.out).mono ?_); rintro e w3 ⟨rfl, hb3⟩; have R3 := Lib.hid (kept_heap R2.out hb3); have B3 := Lib.hid (stp B2.out hb3); clear hb3; have c30 : w3.cell? ⟨w.heap.size, 0, none⟩ = some (.string m) := cell_of_row _ _ 0 _ _ _ R3.out; have c31 : w3.cell? ⟨w.heap.size, 1, none⟩ = some (.string t) := cell_of_row _ _ 1 _ _ _ R3.out; have c32 : w3.cell? ⟨w.heap.size, 2, none⟩ = some (.int .i64 g) := cell_of_row _ _ 2 _ _ _ R3.out; have c33 : w3.cell? ⟨w.heap.size, 3, none⟩ = some (.int .i64 s) := cell_of_row _ _ 3 _ _ _ R3.out)
    | (go_at_call 34; (with_reducible refine (part15 s true _ H4.out).mono ?_); rintro e w4 ⟨rfl, hb4⟩; have R4 := Lib.hid (kept_heap R3.out hb4); have B4 := Lib.hid (stp B3.out hb4); clear hb4; have c40 : w4.cell? ⟨w.heap.size, 0, none⟩ = some (.string m) := cell_of_row _ _ 0 _ _ _ R4.out; have c41 : w4.cell? ⟨w.heap.size, 1, none⟩ = some (.string t) := cell_of_row _ _ 1 _ _ _ R4.out; have c42 : w4.cell? ⟨w.heap.size, 2, none⟩ = some (.int .i64 g) := cell_of_row _ _ 2 _ _ _ R4.out; have c43 : w4.cell? ⟨w.heap.size, 3, none⟩ = some (.int .i64 s) := cell_of_row _ _ 3 _ _ _ R4.out)
    | fail)
  go_ret
  exact ⟨rfl, B4.out⟩
theorem may15 (m t : ByteArray) (g s : Int) (b : Bool) (w : World) (hm : m.size ≤ 1000000) (ht : t.size ≤ 1000000) (h : mayL (mkL m t g s) = b) :
    Calls Tryd.prog 21 #[.agg #[.string m, .string t, .int .i64 g, .int .i64 s]] w fun e w' => e = .returned (.bool b) ∧ Below w.heap.size w w' := by
  rw [mkL_may] at h
  subst h
  cases h1 : isTok m.data.toList with
  | false => exact may15_0 m t g s w hm ht h1
  | true =>
    cases h2 : isTgt t.data.toList with
    | false => exact may15_1 m t g s w hm ht h1 h2
    | true =>
      cases h3 : inP g with
      | false => exact may15_2 m t g s w hm ht h1 h2 h3
      | true =>
        cases h4 : inP s with
        | false => exact may15_3 m t g s w hm ht h1 h2 h3 h4
        | true => exact may15_4 m t g s w hm ht h1 h2 h3 h4
set_option maxHeartbeats 4000000 in
set_option maxRecDepth 100000 in
theorem rmay15_0 (m t : ByteArray) (g s : Int) (w : World) (hm : m.size ≤ 1000000) (ht : t.size ≤ 1000000) (h1 : isTok m.data.toList = false) :
    Calls Tryd.prog 26 #[.agg #[.string m, .string t, .int .i64 g, .int .i64 s]] w fun e w' => e = .returned (.bool false) ∧ Below w.heap.size w w' := by
  have HM := Lib.hid hm
  have HT := Lib.hid ht
  have H1 := Lib.hid h1
  clear hm ht h1
  go_enter Tryd.func26, Tryd.ntmps26
  go_wp2_with (first
    | (go_at_call 41; (with_reducible refine (rtoken7 m false _ HM.out H1.out).mono ?_); rintro e w1 ⟨rfl, hb1⟩; have R1 := Lib.hid (kept_heap (heap_alloc_new w (.cells #[.string m, .string t, .int .i64 g, .int .i64 s] 30)) hb1); have B1 := Lib.hid (stp (stpA (Below.refl w.heap.size w) (.cells #[.string m, .string t, .int .i64 g, .int .i64 s] 30)) hb1); clear hb1; have c10 : w1.cell? ⟨w.heap.size, 0, none⟩ = some (.string m) := cell_of_row _ _ 0 _ _ _ R1.out; have c11 : w1.cell? ⟨w.heap.size, 1, none⟩ = some (.string t) := cell_of_row _ _ 1 _ _ _ R1.out; have c12 : w1.cell? ⟨w.heap.size, 2, none⟩ = some (.int .i64 g) := cell_of_row _ _ 2 _ _ _ R1.out; have c13 : w1.cell? ⟨w.heap.size, 3, none⟩ = some (.int .i64 s) := cell_of_row _ _ 3 _ _ _ R1.out)
    | fail)
  go_ret
  exact ⟨rfl, B1.out⟩
set_option maxHeartbeats 4000000 in
set_option maxRecDepth 100000 in
theorem rmay15_1 (m t : ByteArray) (g s : Int) (w : World) (hm : m.size ≤ 1000000) (ht : t.size ≤ 1000000) (h1 : isTok m.data.toList = true) (h2 : isTgt t.data.toList = false) :
    Calls Tryd.prog 26 #[.agg #[.string m, .string t, .int .i64 g, .int .i64 s]] w fun e w' => e = .returned (.bool false) ∧ Below w.heap.size w w' := by
  have HM := Lib.hid hm
  have HT := Lib.hid ht
  have H1 := Lib.hid h1
  have H2 := Lib.hid h2
  clear hm ht h1 h2
  go_enter Tryd.func26, Tryd.ntmps26
  go_wp2_with (first
    | (go_at_call 41; (with_reducible refine (rtoken7 m true _ HM.out H1.out).mono ?_); rintro e w1 ⟨rfl, hb1⟩; have R1 := Lib.hid (kept_heap (heap_alloc_new w (.cells #[.string m, .string t, .int .i64 g, .int .i64 s] 30)) hb1); have B1 := Lib.hid (stp (stpA (Below.refl w.heap.size w) (.cells #[.string m, .string t, .int .i64 g, .int .i64 s] 30)) hb1); clear hb1; have c10 : w1.cell? ⟨w.heap.size, 0, none⟩ = some (.string m) := cell_of_row _ _ 0 _ _ _ R1.out; have c11 : w1.cell? ⟨w.heap.size, 1, none⟩ = some (.string t) := cell_of_row _ _ 1 _ _ _ R1.out; have c12 : w1.cell? ⟨w.heap.size, 2, none⟩ = some (.int .i64 g) := cell_of_row _ _ 2 _ _ _ R1.out; have c13 : w1.cell? ⟨w.heap.size, 3, none⟩ = some (.int .i64 s) := cell_of_row _ _ 3 _ _ _ R1.out)
    | (go_at_call 42; (with_reducible refine (rtarget15 t false _ HT.out H2.out).mono ?_); rintro e w2 ⟨rfl, hb2⟩; have R2 := Lib.hid (kept_heap R1.out hb2); have B2 := Lib.hid (stp B1.out hb2); clear hb2; have c20 : w2.cell? ⟨w.heap.size, 0, none⟩ = some (.string m) := cell_of_row _ _ 0 _ _ _ R2.out; have c21 : w2.cell? ⟨w.heap.size, 1, none⟩ = some (.string t) := cell_of_row _ _ 1 _ _ _ R2.out; have c22 : w2.cell? ⟨w.heap.size, 2, none⟩ = some (.int .i64 g) := cell_of_row _ _ 2 _ _ _ R2.out; have c23 : w2.cell? ⟨w.heap.size, 3, none⟩ = some (.int .i64 s) := cell_of_row _ _ 3 _ _ _ R2.out)
    | fail)
  go_ret
  exact ⟨rfl, B2.out⟩
set_option maxHeartbeats 4000000 in
set_option maxRecDepth 100000 in
theorem rmay15_2 (m t : ByteArray) (g s : Int) (w : World) (hm : m.size ≤ 1000000) (ht : t.size ≤ 1000000) (h1 : isTok m.data.toList = true) (h2 : isTgt t.data.toList = true) (d1 : decide (0 ≤ g) = false) :
    Calls Tryd.prog 26 #[.agg #[.string m, .string t, .int .i64 g, .int .i64 s]] w fun e w' => e = .returned (.bool false) ∧ Below w.heap.size w w' := by
  have HM := Lib.hid hm
  have HT := Lib.hid ht
  have H1 := Lib.hid h1
  have H2 := Lib.hid h2
  clear hm ht h1 h2
  go_enter Tryd.func26, Tryd.ntmps26
  go_wp2_with (first
    | (go_at_call 41; (with_reducible refine (rtoken7 m true _ HM.out H1.out).mono ?_); rintro e w1 ⟨rfl, hb1⟩; have R1 := Lib.hid (kept_heap (heap_alloc_new w (.cells #[.string m, .string t, .int .i64 g, .int .i64 s] 30)) hb1); have B1 := Lib.hid (stp (stpA (Below.refl w.heap.size w) (.cells #[.string m, .string t, .int .i64 g, .int .i64 s] 30)) hb1); clear hb1; have c10 : w1.cell? ⟨w.heap.size, 0, none⟩ = some (.string m) := cell_of_row _ _ 0 _ _ _ R1.out; have c11 : w1.cell? ⟨w.heap.size, 1, none⟩ = some (.string t) := cell_of_row _ _ 1 _ _ _ R1.out; have c12 : w1.cell? ⟨w.heap.size, 2, none⟩ = some (.int .i64 g) := cell_of_row _ _ 2 _ _ _ R1.out; have c13 : w1.cell? ⟨w.heap.size, 3, none⟩ = some (.int .i64 s) := cell_of_row _ _ 3 _ _ _ R1.out)
    | (go_at_call 42; (with_reducible refine (rtarget15 t true _ HT.out H2.out).mono ?_); rintro e w2 ⟨rfl, hb2⟩; have R2 := Lib.hid (kept_heap R1.out hb2); have B2 := Lib.hid (stp B1.out hb2); clear hb2; have c20 : w2.cell? ⟨w.heap.size, 0, none⟩ = some (.string m) := cell_of_row _ _ 0 _ _ _ R2.out; have c21 : w2.cell? ⟨w.heap.size, 1, none⟩ = some (.string t) := cell_of_row _ _ 1 _ _ _ R2.out; have c22 : w2.cell? ⟨w.heap.size, 2, none⟩ = some (.int .i64 g) := cell_of_row _ _ 2 _ _ _ R2.out; have c23 : w2.cell? ⟨w.heap.size, 3, none⟩ = some (.int .i64 s) := cell_of_row _ _ 3 _ _ _ R2.out)
    | fail)
  go_ret
  exact ⟨rfl, B2.out⟩
set_option maxHeartbeats 4000000 in
set_option maxRecDepth 100000 in
theorem rmay15_3 (m t : ByteArray) (g s : Int) (w : World) (hm : m.size ≤ 1000000) (ht : t.size ≤ 1000000) (h1 : isTok m.data.toList = true) (h2 : isTgt t.data.toList = true) (d1 : decide (0 ≤ g) = true) (d2 : decide (g ≤ 9) = false) :
    Calls Tryd.prog 26 #[.agg #[.string m, .string t, .int .i64 g, .int .i64 s]] w fun e w' => e = .returned (.bool false) ∧ Below w.heap.size w w' := by
  have HM := Lib.hid hm
  have HT := Lib.hid ht
  have H1 := Lib.hid h1
  have H2 := Lib.hid h2
  clear hm ht h1 h2
  go_enter Tryd.func26, Tryd.ntmps26
  go_wp2_with (first
    | (go_at_call 41; (with_reducible refine (rtoken7 m true _ HM.out H1.out).mono ?_); rintro e w1 ⟨rfl, hb1⟩; have R1 := Lib.hid (kept_heap (heap_alloc_new w (.cells #[.string m, .string t, .int .i64 g, .int .i64 s] 30)) hb1); have B1 := Lib.hid (stp (stpA (Below.refl w.heap.size w) (.cells #[.string m, .string t, .int .i64 g, .int .i64 s] 30)) hb1); clear hb1; have c10 : w1.cell? ⟨w.heap.size, 0, none⟩ = some (.string m) := cell_of_row _ _ 0 _ _ _ R1.out; have c11 : w1.cell? ⟨w.heap.size, 1, none⟩ = some (.string t) := cell_of_row _ _ 1 _ _ _ R1.out; have c12 : w1.cell? ⟨w.heap.size, 2, none⟩ = some (.int .i64 g) := cell_of_row _ _ 2 _ _ _ R1.out; have c13 : w1.cell? ⟨w.heap.size, 3, none⟩ = some (.int .i64 s) := cell_of_row _ _ 3 _ _ _ R1.out)
    | (go_at_call 42; (with_reducible refine (rtarget15 t true _ HT.out H2.out).mono ?_); rintro e w2 ⟨rfl, hb2⟩; have R2 := Lib.hid (kept_heap R1.out hb2); have B2 := Lib.hid (stp B1.out hb2); clear hb2; have c20 : w2.cell? ⟨w.heap.size, 0, none⟩ = some (.string m) := cell_of_row _ _ 0 _ _ _ R2.out; have c21 : w2.cell? ⟨w.heap.size, 1, none⟩ = some (.string t) := cell_of_row _ _ 1 _ _ _ R2.out; have c22 : w2.cell? ⟨w.heap.size, 2, none⟩ = some (.int .i64 g) := cell_of_row _ _ 2 _ _ _ R2.out; have c23 : w2.cell? ⟨w.heap.size, 3, none⟩ = some (.int .i64 s) := cell_of_row _ _ 3 _ _ _ R2.out)
    | fail)
  go_ret
  exact ⟨rfl, B2.out⟩
set_option maxHeartbeats 4000000 in
set_option maxRecDepth 100000 in
theorem rmay15_4 (m t : ByteArray) (g s : Int) (w : World) (hm : m.size ≤ 1000000) (ht : t.size ≤ 1000000) (h1 : isTok m.data.toList = true) (h2 : isTgt t.data.toList = true) (d1 : decide (0 ≤ g) = true) (d2 : decide (g ≤ 9) = true) (d3 : decide (0 ≤ s) = false) :
    Calls Tryd.prog 26 #[.agg #[.string m, .string t, .int .i64 g, .int .i64 s]] w fun e w' => e = .returned (.bool false) ∧ Below w.heap.size w w' := by
  have HM := Lib.hid hm
  have HT := Lib.hid ht
  have H1 := Lib.hid h1
  have H2 := Lib.hid h2
  clear hm ht h1 h2
  go_enter Tryd.func26, Tryd.ntmps26
  go_wp2_with (first
    | (go_at_call 41; (with_reducible refine (rtoken7 m true _ HM.out H1.out).mono ?_); rintro e w1 ⟨rfl, hb1⟩; have R1 := Lib.hid (kept_heap (heap_alloc_new w (.cells #[.string m, .string t, .int .i64 g, .int .i64 s] 30)) hb1); have B1 := Lib.hid (stp (stpA (Below.refl w.heap.size w) (.cells #[.string m, .string t, .int .i64 g, .int .i64 s] 30)) hb1); clear hb1; have c10 : w1.cell? ⟨w.heap.size, 0, none⟩ = some (.string m) := cell_of_row _ _ 0 _ _ _ R1.out; have c11 : w1.cell? ⟨w.heap.size, 1, none⟩ = some (.string t) := cell_of_row _ _ 1 _ _ _ R1.out; have c12 : w1.cell? ⟨w.heap.size, 2, none⟩ = some (.int .i64 g) := cell_of_row _ _ 2 _ _ _ R1.out; have c13 : w1.cell? ⟨w.heap.size, 3, none⟩ = some (.int .i64 s) := cell_of_row _ _ 3 _ _ _ R1.out)
    | (go_at_call 42; (with_reducible refine (rtarget15 t true _ HT.out H2.out).mono ?_); rintro e w2 ⟨rfl, hb2⟩; have R2 := Lib.hid (kept_heap R1.out hb2); have B2 := Lib.hid (stp B1.out hb2); clear hb2; have c20 : w2.cell? ⟨w.heap.size, 0, none⟩ = some (.string m) := cell_of_row _ _ 0 _ _ _ R2.out; have c21 : w2.cell? ⟨w.heap.size, 1, none⟩ = some (.string t) := cell_of_row _ _ 1 _ _ _ R2.out; have c22 : w2.cell? ⟨w.heap.size, 2, none⟩ = some (.int .i64 g) := cell_of_row _ _ 2 _ _ _ R2.out; have c23 : w2.cell? ⟨w.heap.size, 3, none⟩ = some (.int .i64 s) := cell_of_row _ _ 3 _ _ _ R2.out)
    | fail)
  go_ret
  exact ⟨rfl, B2.out⟩
set_option maxHeartbeats 4000000 in
set_option maxRecDepth 100000 in
theorem rmay15_5 (m t : ByteArray) (g s : Int) (w : World) (hm : m.size ≤ 1000000) (ht : t.size ≤ 1000000) (h1 : isTok m.data.toList = true) (h2 : isTgt t.data.toList = true) (d1 : decide (0 ≤ g) = true) (d2 : decide (g ≤ 9) = true) (d3 : decide (0 ≤ s) = true) (d4 : decide (s ≤ 9) = false) :
    Calls Tryd.prog 26 #[.agg #[.string m, .string t, .int .i64 g, .int .i64 s]] w fun e w' => e = .returned (.bool false) ∧ Below w.heap.size w w' := by
  have HM := Lib.hid hm
  have HT := Lib.hid ht
  have H1 := Lib.hid h1
  have H2 := Lib.hid h2
  clear hm ht h1 h2
  go_enter Tryd.func26, Tryd.ntmps26
  go_wp2_with (first
    | (go_at_call 41; (with_reducible refine (rtoken7 m true _ HM.out H1.out).mono ?_); rintro e w1 ⟨rfl, hb1⟩; have R1 := Lib.hid (kept_heap (heap_alloc_new w (.cells #[.string m, .string t, .int .i64 g, .int .i64 s] 30)) hb1); have B1 := Lib.hid (stp (stpA (Below.refl w.heap.size w) (.cells #[.string m, .string t, .int .i64 g, .int .i64 s] 30)) hb1); clear hb1; have c10 : w1.cell? ⟨w.heap.size, 0, none⟩ = some (.string m) := cell_of_row _ _ 0 _ _ _ R1.out; have c11 : w1.cell? ⟨w.heap.size, 1, none⟩ = some (.string t) := cell_of_row _ _ 1 _ _ _ R1.out; have c12 : w1.cell? ⟨w.heap.size, 2, none⟩ = some (.int .i64 g) := cell_of_row _ _ 2 _ _ _ R1.out; have c13 : w1.cell? ⟨w.heap.size, 3, none⟩ = some (.int .i64 s) := cell_of_row _ _ 3 _ _ _ R1.out)
    | (go_at_call 42; (with_reducible refine (rtarget15 t true _ HT.out H2.out).mono ?_); rintro e w2 ⟨rfl, hb2⟩; have R2 := Lib.hid (kept_heap R1.out hb2); have B2 := Lib.hid (stp B1.out hb2); clear hb2; have c20 : w2.cell? ⟨w.heap.size, 0, none⟩ = some (.string m) := cell_of_row _ _ 0 _ _ _ R2.out; have c21 : w2.cell? ⟨w.heap.size, 1, none⟩ = some (.string t) := cell_of_row _ _ 1 _ _ _ R2.out; have c22 : w2.cell? ⟨w.heap.size, 2, none⟩ = some (.int .i64 g) := cell_of_row _ _ 2 _ _ _ R2.out; have c23 : w2.cell? ⟨w.heap.size, 3, none⟩ = some (.int .i64 s) := cell_of_row _ _ 3 _ _ _ R2.out)
    | fail)
  go_ret
  exact ⟨rfl, B2.out⟩
set_option maxHeartbeats 4000000 in
set_option maxRecDepth 100000 in
theorem rmay15_6 (m t : ByteArray) (g s : Int) (w : World) (hm : m.size ≤ 1000000) (ht : t.size ≤ 1000000) (h1 : isTok m.data.toList = true) (h2 : isTgt t.data.toList = true) (d1 : decide (0 ≤ g) = true) (d2 : decide (g ≤ 9) = true) (d3 : decide (0 ≤ s) = true) (d4 : decide (s ≤ 9) = true) :
    Calls Tryd.prog 26 #[.agg #[.string m, .string t, .int .i64 g, .int .i64 s]] w fun e w' => e = .returned (.bool true) ∧ Below w.heap.size w w' := by
  have HM := Lib.hid hm
  have HT := Lib.hid ht
  have H1 := Lib.hid h1
  have H2 := Lib.hid h2
  clear hm ht h1 h2
  go_enter Tryd.func26, Tryd.ntmps26
  go_wp2_with (first
    | (go_at_call 41; (with_reducible refine (rtoken7 m true _ HM.out H1.out).mono ?_); rintro e w1 ⟨rfl, hb1⟩; have R1 := Lib.hid (kept_heap (heap_alloc_new w (.cells #[.string m, .string t, .int .i64 g, .int .i64 s] 30)) hb1); have B1 := Lib.hid (stp (stpA (Below.refl w.heap.size w) (.cells #[.string m, .string t, .int .i64 g, .int .i64 s] 30)) hb1); clear hb1; have c10 : w1.cell? ⟨w.heap.size, 0, none⟩ = some (.string m) := cell_of_row _ _ 0 _ _ _ R1.out; have c11 : w1.cell? ⟨w.heap.size, 1, none⟩ = some (.string t) := cell_of_row _ _ 1 _ _ _ R1.out; have c12 : w1.cell? ⟨w.heap.size, 2, none⟩ = some (.int .i64 g) := cell_of_row _ _ 2 _ _ _ R1.out; have c13 : w1.cell? ⟨w.heap.size, 3, none⟩ = some (.int .i64 s) := cell_of_row _ _ 3 _ _ _ R1.out)
    | (go_at_call 42; (with_reducible refine (rtarget15 t true _ HT.out H2.out).mono ?_); rintro e w2 ⟨rfl, hb2⟩; have R2 := Lib.hid (kept_heap R1.out hb2); have B2 := Lib.hid (stp B1.out hb2); clear hb2; have c20 : w2.cell? ⟨w.heap.size, 0, none⟩ = some (.string m) := cell_of_row _ _ 0 _ _ _ R2.out; have c21 : w2.cell? ⟨w.heap.size, 1, none⟩ = some (.string t) := cell_of_row _ _ 1 _ _ _ R2.out; have c22 : w2.cell? ⟨w.heap.size, 2, none⟩ = some (.int .i64 g) := cell_of_row _ _ 2 _ _ _ R2.out; have c23 : w2.cell? ⟨w.heap.size, 3, none⟩ = some (.int .i64 s) := cell_of_row _ _ 3 _ _ _ R2.out)
    | fail)
  go_ret
  exact ⟨rfl, B2.out⟩
theorem rmay15 (m t : ByteArray) (g s : Int) (b : Bool) (w : World) (hm : m.size ≤ 1000000) (ht : t.size ≤ 1000000) (h : mayL (mkL m t g s) = b) :
    Calls Tryd.prog 26 #[.agg #[.string m, .string t, .int .i64 g, .int .i64 s]] w fun e w' => e = .returned (.bool b) ∧ Below w.heap.size w w' := by
  rw [mkL_may] at h
  subst h
  cases h1 : isTok m.data.toList with
  | false => exact rmay15_0 m t g s w hm ht h1
  | true =>
    cases h2 : isTgt t.data.toList with
    | false => exact rmay15_1 m t g s w hm ht h1 h2
    | true =>
      unfold inP
      cases d1 : decide (0 ≤ g) with
      | false => exact rmay15_2 m t g s w hm ht h1 h2 d1
      | true =>
        cases d2 : decide (g ≤ 9) with
        | false => exact rmay15_3 m t g s w hm ht h1 h2 d1 d2
        | true =>
          cases d3 : decide (0 ≤ s) with
          | false => exact rmay15_4 m t g s w hm ht h1 h2 d1 d2 d3
          | true =>
            cases d4 : decide (s ≤ 9) with
            | false => exact rmay15_5 m t g s w hm ht h1 h2 d1 d2 d3 d4
            | true => exact rmay15_6 m t g s w hm ht h1 h2 d1 d2 d3 d4
theorem lit_b (s c : ByteArray) (l : List UInt8) (hc : c.data.toList = l) (b : Bool) (h : decide (s.data.toList = l) = b) : (s.toList == c.toList) = b := by
  rw [seq_b7, ← h]
  refine decide_eq_decide.2 ⟨fun h => by rw [h, hc], fun h => ba_ext7 (h.trans hc.symm)⟩
theorem lit_n (s c : ByteArray) (l : List UInt8) (hc : c.data.toList = l) (b : Bool) (h : decide (s.data.toList = l) = b) : (s.toList != c.toList) = !b := by
  rw [bne, lit_b s c l hc b h]
set_option maxHeartbeats 4000000 in
set_option maxRecDepth 100000 in
theorem rjudged15_a (m t : ByteArray) (g s : Int) (w : World) (q : (g != 1) = true) :
    Calls Tryd.prog 28 #[.agg #[.string m, .string t, .int .i64 g, .int .i64 s]] w fun e w' => e = .returned (.int .i64 505) ∧ Below w.heap.size w w' := by
  go_enter Tryd.func28, Tryd.ntmps28
  go_wp2_with fail
  go_ret
  exact ⟨rfl, (stpA (Below.refl w.heap.size w) (.cells #[.string m, .string t, .int .i64 g, .int .i64 s] 30))⟩
set_option maxHeartbeats 4000000 in
set_option maxRecDepth 100000 in
theorem rjudged15_b (m t : ByteArray) (g s : Int) (w : World) (q : (g != 1) = false) (q2 : (s != 1) = true) :
    Calls Tryd.prog 28 #[.agg #[.string m, .string t, .int .i64 g, .int .i64 s]] w fun e w' => e = .returned (.int .i64 505) ∧ Below w.heap.size w w' := by
  go_enter Tryd.func28, Tryd.ntmps28
  go_wp2_with fail
  go_ret
  exact ⟨rfl, (stpA (Below.refl w.heap.size w) (.cells #[.string m, .string t, .int .i64 g, .int .i64 s] 30))⟩
set_option maxHeartbeats 4000000 in
set_option maxRecDepth 100000 in
theorem rjudged15_c (m t : ByteArray) (g s : Int) (w : World) (q : (g != 1) = false) (q2 : (s != 1) = false) (q3 : decide (t.data.toList = one1) = false) :
    Calls Tryd.prog 28 #[.agg #[.string m, .string t, .int .i64 g, .int .i64 s]] w fun e w' => e = .returned (.int .i64 404) ∧ Below w.heap.size w w' := by
  have e1 := lit_n t ⟨#[47, 104, 116, 116, 112, 45, 98, 105, 110, 100]⟩ one1 rfl false q3
  have e2 := lit_b t ⟨#[47, 104, 116, 116, 112, 45, 98, 105, 110, 100]⟩ one1 rfl false q3
  have x1 : (t.toList == [47, 104, 116, 116, 112, 45, 98, 105, 110, 100]) = false := by rw [← e2, ByteArray.toList_eq (⟨#[47, 104, 116, 116, 112, 45, 98, 105, 110, 100]⟩ : ByteArray)]
  clear q3
  go_enter Tryd.func28, Tryd.ntmps28
  go_wp2_with fail
  go_ret
  exact ⟨rfl, (stpA (Below.refl w.heap.size w) (.cells #[.string m, .string t, .int .i64 g, .int .i64 s] 30))⟩
set_option maxHeartbeats 4000000 in
set_option maxRecDepth 100000 in
theorem rjudged15_d (m t : ByteArray) (g s : Int) (w : World) (q : (g != 1) = false) (q2 : (s != 1) = false) (q3 : decide (t.data.toList = one1) = true) (q4 : decide (m.data.toList = post) = false) :
    Calls Tryd.prog 28 #[.agg #[.string m, .string t, .int .i64 g, .int .i64 s]] w fun e w' => e = .returned (.int .i64 405) ∧ Below w.heap.size w w' := by
  have e1 := lit_n t ⟨#[47, 104, 116, 116, 112, 45, 98, 105, 110, 100]⟩ one1 rfl true q3
  have e2 := lit_b t ⟨#[47, 104, 116, 116, 112, 45, 98, 105, 110, 100]⟩ one1 rfl true q3
  have x1 : (t.toList == [47, 104, 116, 116, 112, 45, 98, 105, 110, 100]) = true := by rw [← e2, ByteArray.toList_eq (⟨#[47, 104, 116, 116, 112, 45, 98, 105, 110, 100]⟩ : ByteArray)]
  have e3 := lit_n m ⟨#[80, 79, 83, 84]⟩ post rfl false q4
  have e4 := lit_b m ⟨#[80, 79, 83, 84]⟩ post rfl false q4
  have x2 : (m.toList == [80, 79, 83, 84]) = false := by rw [← e4, ByteArray.toList_eq (⟨#[80, 79, 83, 84]⟩ : ByteArray)]
  clear q3
  clear q4
  go_enter Tryd.func28, Tryd.ntmps28
  go_wp2_with fail
  go_ret
  exact ⟨rfl, (stpA (Below.refl w.heap.size w) (.cells #[.string m, .string t, .int .i64 g, .int .i64 s] 30))⟩
set_option maxHeartbeats 4000000 in
set_option maxRecDepth 100000 in
theorem rjudged15_e (m t : ByteArray) (g s : Int) (w : World) (q : (g != 1) = false) (q2 : (s != 1) = false) (q3 : decide (t.data.toList = one1) = true) (q4 : decide (m.data.toList = post) = true) :
    Calls Tryd.prog 28 #[.agg #[.string m, .string t, .int .i64 g, .int .i64 s]] w fun e w' => e = .returned (.int .i64 200) ∧ Below w.heap.size w w' := by
  have e1 := lit_n t ⟨#[47, 104, 116, 116, 112, 45, 98, 105, 110, 100]⟩ one1 rfl true q3
  have e2 := lit_b t ⟨#[47, 104, 116, 116, 112, 45, 98, 105, 110, 100]⟩ one1 rfl true q3
  have x1 : (t.toList == [47, 104, 116, 116, 112, 45, 98, 105, 110, 100]) = true := by rw [← e2, ByteArray.toList_eq (⟨#[47, 104, 116, 116, 112, 45, 98, 105, 110, 100]⟩ : ByteArray)]
  have e3 := lit_n m ⟨#[80, 79, 83, 84]⟩ post rfl true q4
  have e4 := lit_b m ⟨#[80, 79, 83, 84]⟩ post rfl true q4
  have x2 : (m.toList == [80, 79, 83, 84]) = true := by rw [← e4, ByteArray.toList_eq (⟨#[80, 79, 83, 84]⟩ : ByteArray)]
  clear q3
  clear q4
  go_enter Tryd.func28, Tryd.ntmps28
  go_wp2_with fail
  go_ret
  exact ⟨rfl, (stpA (Below.refl w.heap.size w) (.cells #[.string m, .string t, .int .i64 g, .int .i64 s] 30))⟩
theorem rjudged15 (m t : ByteArray) (g s : Int) (w : World) :
    Calls Tryd.prog 28 #[.agg #[.string m, .string t, .int .i64 g, .int .i64 s]] w fun e w' => e = .returned (.int .i64 (judgedL (mkL m t g s))) ∧ Below w.heap.size w w' := by
  unfold judgedL
  show Calls _ _ _ _ fun e w' => e = .returned (.int .i64 (if g ≠ 1 ∨ s ≠ 1 then 505 else if t.data.toList ≠ one1 then 404 else if m.data.toList ≠ post then 405 else 200)) ∧ _
  by_cases h1 : g = 1
  · have q : (g != 1) = false := by simp [h1]
    by_cases h2 : s = 1
    · have q2 : (s != 1) = false := by simp [h2]
      rw [if_neg (fun h => h.elim (fun a => a h1) (fun a => a h2))]
      by_cases h3 : t.data.toList = one1
      · rw [if_neg (fun h => h h3)]
        by_cases h4 : m.data.toList = post
        · rw [if_neg (fun h => h h4)]
          exact rjudged15_e m t g s w q q2 (decide_eq_true h3) (decide_eq_true h4)
        · rw [if_pos h4]
          exact rjudged15_d m t g s w q q2 (decide_eq_true h3) (decide_eq_false h4)
      · rw [if_pos h3]
        exact rjudged15_c m t g s w q q2 (decide_eq_false h3)
    · rw [if_pos (.inr h2)]
      exact rjudged15_b m t g s w q (by simp [h2])
  · rw [if_pos (.inl h1)]
    exact rjudged15_a m t g s w (by simp [h1])
set_option maxHeartbeats 4000000 in
set_option maxRecDepth 100000 in
theorem judge15_y_a (m t : ByteArray) (g s : Int) (w : World) (hm : m.size ≤ 1000000) (ht : t.size ≤ 1000000) (hy : mayL (mkL m t g s) = true) (q : (g != 1) = true) :
    Calls Tryd.prog 10 #[.agg #[.string m, .string t, .int .i64 g, .int .i64 s]] w fun e w' => e = .returned (.tuple #[.int .i64 505, .int .i64 0]) ∧ Below w.heap.size w w' := by
  have HY : Hid (∀ W, Calls Tryd.prog 21 #[.agg #[.string m, .string t, .int .i64 g, .int .i64 s]] W fun e w' => e = .returned (.bool true) ∧ Below W.heap.size W w') := Lib.hid fun W => may15 m t g s true W hm ht hy
  clear hm ht hy
  go_enter Tryd.func10, Tryd.ntmps10
  go_wp2_with (first
    | (refine wpList_load_row rfl _ _ rfl w.heap.size rfl 30 #[.string m, .string t, .int .i64 g, .int .i64 s] (0, 0) _ (heap_alloc_new w _) Tryd.underlying30 rfl sizeLn ?_)
    | (go_at_call 21; (with_reducible refine (HY.out _).mono ?_); rintro e w1 ⟨rfl, hb1⟩; have R1 := Lib.hid (kept_heap (heap_alloc_new w (.cells #[.string m, .string t, .int .i64 g, .int .i64 s] 30)) hb1); have B1 := Lib.hid (stp (stpA (Below.refl w.heap.size w) (.cells #[.string m, .string t, .int .i64 g, .int .i64 s] 30)) hb1); clear hb1; have c10 : w1.cell? ⟨w.heap.size, 0, none⟩ = some (.string m) := cell_of_row _ _ 0 _ _ _ R1.out; have c11 : w1.cell? ⟨w.heap.size, 1, none⟩ = some (.string t) := cell_of_row _ _ 1 _ _ _ R1.out; have c12 : w1.cell? ⟨w.heap.size, 2, none⟩ = some (.int .i64 g) := cell_of_row _ _ 2 _ _ _ R1.out; have c13 : w1.cell? ⟨w.heap.size, 3, none⟩ = some (.int .i64 s) := cell_of_row _ _ 3 _ _ _ R1.out)
    | fail)
  go_ret2
  exact ⟨rfl, B1.out⟩
set_option maxHeartbeats 4000000 in
set_option maxRecDepth 100000 in
theorem judge15_y_b (m t : ByteArray) (g s : Int) (w : World) (hm : m.size ≤ 1000000) (ht : t.size ≤ 1000000) (hy : mayL (mkL m t g s) = true) (q : (g != 1) = false) (q2 : (s != 1) = true) :
    Calls Tryd.prog 10 #[.agg #[.string m, .string t, .int .i64 g, .int .i64 s]] w fun e w' => e = .returned (.tuple #[.int .i64 505, .int .i64 0]) ∧ Below w.heap.size w w' := by
  have HY : Hid (∀ W, Calls Tryd.prog 21 #[.agg #[.string m, .string t, .int .i64 g, .int .i64 s]] W fun e w' => e = .returned (.bool true) ∧ Below W.heap.size W w') := Lib.hid fun W => may15 m t g s true W hm ht hy
  clear hm ht hy
  go_enter Tryd.func10, Tryd.ntmps10
  go_wp2_with (first
    | (refine wpList_load_row rfl _ _ rfl w.heap.size rfl 30 #[.string m, .string t, .int .i64 g, .int .i64 s] (0, 0) _ (heap_alloc_new w _) Tryd.underlying30 rfl sizeLn ?_)
    | (go_at_call 21; (with_reducible refine (HY.out _).mono ?_); rintro e w1 ⟨rfl, hb1⟩; have R1 := Lib.hid (kept_heap (heap_alloc_new w (.cells #[.string m, .string t, .int .i64 g, .int .i64 s] 30)) hb1); have B1 := Lib.hid (stp (stpA (Below.refl w.heap.size w) (.cells #[.string m, .string t, .int .i64 g, .int .i64 s] 30)) hb1); clear hb1; have c10 : w1.cell? ⟨w.heap.size, 0, none⟩ = some (.string m) := cell_of_row _ _ 0 _ _ _ R1.out; have c11 : w1.cell? ⟨w.heap.size, 1, none⟩ = some (.string t) := cell_of_row _ _ 1 _ _ _ R1.out; have c12 : w1.cell? ⟨w.heap.size, 2, none⟩ = some (.int .i64 g) := cell_of_row _ _ 2 _ _ _ R1.out; have c13 : w1.cell? ⟨w.heap.size, 3, none⟩ = some (.int .i64 s) := cell_of_row _ _ 3 _ _ _ R1.out)
    | fail)
  go_ret2
  exact ⟨rfl, B1.out⟩
set_option maxHeartbeats 4000000 in
set_option maxRecDepth 100000 in
theorem judge15_y_c (m t : ByteArray) (g s : Int) (w : World) (hm : m.size ≤ 1000000) (ht : t.size ≤ 1000000) (hy : mayL (mkL m t g s) = true) (q : (g != 1) = false) (q2 : (s != 1) = false) (q3 : decide (t.data.toList = one1) = false) :
    Calls Tryd.prog 10 #[.agg #[.string m, .string t, .int .i64 g, .int .i64 s]] w fun e w' => e = .returned (.tuple #[.int .i64 404, .int .i64 0]) ∧ Below w.heap.size w w' := by
  have HY : Hid (∀ W, Calls Tryd.prog 21 #[.agg #[.string m, .string t, .int .i64 g, .int .i64 s]] W fun e w' => e = .returned (.bool true) ∧ Below W.heap.size W w') := Lib.hid fun W => may15 m t g s true W hm ht hy
  clear hm ht hy
  have e1 := lit_n t ⟨#[47, 104, 116, 116, 112, 45, 98, 105, 110, 100]⟩ one1 rfl false q3
  have e2 := lit_b t ⟨#[47, 104, 116, 116, 112, 45, 98, 105, 110, 100]⟩ one1 rfl false q3
  have x1 : (t.toList == [47, 104, 116, 116, 112, 45, 98, 105, 110, 100]) = false := by rw [← e2, ByteArray.toList_eq (⟨#[47, 104, 116, 116, 112, 45, 98, 105, 110, 100]⟩ : ByteArray)]
  clear q3
  go_enter Tryd.func10, Tryd.ntmps10
  go_wp2_with (first
    | (refine wpList_load_row rfl _ _ rfl w.heap.size rfl 30 #[.string m, .string t, .int .i64 g, .int .i64 s] (0, 0) _ (heap_alloc_new w _) Tryd.underlying30 rfl sizeLn ?_)
    | (go_at_call 21; (with_reducible refine (HY.out _).mono ?_); rintro e w1 ⟨rfl, hb1⟩; have R1 := Lib.hid (kept_heap (heap_alloc_new w (.cells #[.string m, .string t, .int .i64 g, .int .i64 s] 30)) hb1); have B1 := Lib.hid (stp (stpA (Below.refl w.heap.size w) (.cells #[.string m, .string t, .int .i64 g, .int .i64 s] 30)) hb1); clear hb1; have c10 : w1.cell? ⟨w.heap.size, 0, none⟩ = some (.string m) := cell_of_row _ _ 0 _ _ _ R1.out; have c11 : w1.cell? ⟨w.heap.size, 1, none⟩ = some (.string t) := cell_of_row _ _ 1 _ _ _ R1.out; have c12 : w1.cell? ⟨w.heap.size, 2, none⟩ = some (.int .i64 g) := cell_of_row _ _ 2 _ _ _ R1.out; have c13 : w1.cell? ⟨w.heap.size, 3, none⟩ = some (.int .i64 s) := cell_of_row _ _ 3 _ _ _ R1.out)
    | fail)
  go_ret2
  exact ⟨rfl, B1.out⟩
set_option maxHeartbeats 4000000 in
set_option maxRecDepth 100000 in
theorem judge15_y_d (m t : ByteArray) (g s : Int) (w : World) (hm : m.size ≤ 1000000) (ht : t.size ≤ 1000000) (hy : mayL (mkL m t g s) = true) (q : (g != 1) = false) (q2 : (s != 1) = false) (q3 : decide (t.data.toList = one1) = true) (q4 : decide (m.data.toList = post) = false) :
    Calls Tryd.prog 10 #[.agg #[.string m, .string t, .int .i64 g, .int .i64 s]] w fun e w' => e = .returned (.tuple #[.int .i64 405, .int .i64 0]) ∧ Below w.heap.size w w' := by
  have HY : Hid (∀ W, Calls Tryd.prog 21 #[.agg #[.string m, .string t, .int .i64 g, .int .i64 s]] W fun e w' => e = .returned (.bool true) ∧ Below W.heap.size W w') := Lib.hid fun W => may15 m t g s true W hm ht hy
  clear hm ht hy
  have e1 := lit_n t ⟨#[47, 104, 116, 116, 112, 45, 98, 105, 110, 100]⟩ one1 rfl true q3
  have e2 := lit_b t ⟨#[47, 104, 116, 116, 112, 45, 98, 105, 110, 100]⟩ one1 rfl true q3
  have x1 : (t.toList == [47, 104, 116, 116, 112, 45, 98, 105, 110, 100]) = true := by rw [← e2, ByteArray.toList_eq (⟨#[47, 104, 116, 116, 112, 45, 98, 105, 110, 100]⟩ : ByteArray)]
  have e3 := lit_n m ⟨#[80, 79, 83, 84]⟩ post rfl false q4
  have e4 := lit_b m ⟨#[80, 79, 83, 84]⟩ post rfl false q4
  have x2 : (m.toList == [80, 79, 83, 84]) = false := by rw [← e4, ByteArray.toList_eq (⟨#[80, 79, 83, 84]⟩ : ByteArray)]
  clear q3
  clear q4
  go_enter Tryd.func10, Tryd.ntmps10
  go_wp2_with (first
    | (refine wpList_load_row rfl _ _ rfl w.heap.size rfl 30 #[.string m, .string t, .int .i64 g, .int .i64 s] (0, 0) _ (heap_alloc_new w _) Tryd.underlying30 rfl sizeLn ?_)
    | (go_at_call 21; (with_reducible refine (HY.out _).mono ?_); rintro e w1 ⟨rfl, hb1⟩; have R1 := Lib.hid (kept_heap (heap_alloc_new w (.cells #[.string m, .string t, .int .i64 g, .int .i64 s] 30)) hb1); have B1 := Lib.hid (stp (stpA (Below.refl w.heap.size w) (.cells #[.string m, .string t, .int .i64 g, .int .i64 s] 30)) hb1); clear hb1; have c10 : w1.cell? ⟨w.heap.size, 0, none⟩ = some (.string m) := cell_of_row _ _ 0 _ _ _ R1.out; have c11 : w1.cell? ⟨w.heap.size, 1, none⟩ = some (.string t) := cell_of_row _ _ 1 _ _ _ R1.out; have c12 : w1.cell? ⟨w.heap.size, 2, none⟩ = some (.int .i64 g) := cell_of_row _ _ 2 _ _ _ R1.out; have c13 : w1.cell? ⟨w.heap.size, 3, none⟩ = some (.int .i64 s) := cell_of_row _ _ 3 _ _ _ R1.out)
    | fail)
  go_ret2
  exact ⟨rfl, B1.out⟩
set_option maxHeartbeats 4000000 in
set_option maxRecDepth 100000 in
theorem judge15_y_e (m t : ByteArray) (g s : Int) (w : World) (hm : m.size ≤ 1000000) (ht : t.size ≤ 1000000) (hy : mayL (mkL m t g s) = true) (q : (g != 1) = false) (q2 : (s != 1) = false) (q3 : decide (t.data.toList = one1) = true) (q4 : decide (m.data.toList = post) = true) :
    Calls Tryd.prog 10 #[.agg #[.string m, .string t, .int .i64 g, .int .i64 s]] w fun e w' => e = .returned (.tuple #[.int .i64 200, .int .i64 0]) ∧ Below w.heap.size w w' := by
  have HY : Hid (∀ W, Calls Tryd.prog 21 #[.agg #[.string m, .string t, .int .i64 g, .int .i64 s]] W fun e w' => e = .returned (.bool true) ∧ Below W.heap.size W w') := Lib.hid fun W => may15 m t g s true W hm ht hy
  clear hm ht hy
  have e1 := lit_n t ⟨#[47, 104, 116, 116, 112, 45, 98, 105, 110, 100]⟩ one1 rfl true q3
  have e2 := lit_b t ⟨#[47, 104, 116, 116, 112, 45, 98, 105, 110, 100]⟩ one1 rfl true q3
  have x1 : (t.toList == [47, 104, 116, 116, 112, 45, 98, 105, 110, 100]) = true := by rw [← e2, ByteArray.toList_eq (⟨#[47, 104, 116, 116, 112, 45, 98, 105, 110, 100]⟩ : ByteArray)]
  have e3 := lit_n m ⟨#[80, 79, 83, 84]⟩ post rfl true q4
  have e4 := lit_b m ⟨#[80, 79, 83, 84]⟩ post rfl true q4
  have x2 : (m.toList == [80, 79, 83, 84]) = true := by rw [← e4, ByteArray.toList_eq (⟨#[80, 79, 83, 84]⟩ : ByteArray)]
  clear q3
  clear q4
  go_enter Tryd.func10, Tryd.ntmps10
  go_wp2_with (first
    | (refine wpList_load_row rfl _ _ rfl w.heap.size rfl 30 #[.string m, .string t, .int .i64 g, .int .i64 s] (0, 0) _ (heap_alloc_new w _) Tryd.underlying30 rfl sizeLn ?_)
    | (go_at_call 21; (with_reducible refine (HY.out _).mono ?_); rintro e w1 ⟨rfl, hb1⟩; have R1 := Lib.hid (kept_heap (heap_alloc_new w (.cells #[.string m, .string t, .int .i64 g, .int .i64 s] 30)) hb1); have B1 := Lib.hid (stp (stpA (Below.refl w.heap.size w) (.cells #[.string m, .string t, .int .i64 g, .int .i64 s] 30)) hb1); clear hb1; have c10 : w1.cell? ⟨w.heap.size, 0, none⟩ = some (.string m) := cell_of_row _ _ 0 _ _ _ R1.out; have c11 : w1.cell? ⟨w.heap.size, 1, none⟩ = some (.string t) := cell_of_row _ _ 1 _ _ _ R1.out; have c12 : w1.cell? ⟨w.heap.size, 2, none⟩ = some (.int .i64 g) := cell_of_row _ _ 2 _ _ _ R1.out; have c13 : w1.cell? ⟨w.heap.size, 3, none⟩ = some (.int .i64 s) := cell_of_row _ _ 3 _ _ _ R1.out)
    | fail)
  go_ret2
  exact ⟨rfl, B1.out⟩
theorem judge15_y (m t : ByteArray) (g s : Int) (w : World) (hm : m.size ≤ 1000000) (ht : t.size ≤ 1000000) (hy : mayL (mkL m t g s) = true) :
    Calls Tryd.prog 10 #[.agg #[.string m, .string t, .int .i64 g, .int .i64 s]] w fun e w' => e = .returned (.tuple #[.int .i64 (judgedL (mkL m t g s)), .int .i64 0]) ∧ Below w.heap.size w w' := by
  unfold judgedL
  show Calls _ _ _ _ fun e w' => e = .returned (.tuple #[.int .i64 (if g ≠ 1 ∨ s ≠ 1 then 505 else if t.data.toList ≠ one1 then 404 else if m.data.toList ≠ post then 405 else 200), .int .i64 0]) ∧ _
  by_cases h1 : g = 1
  · have q : (g != 1) = false := by simp [h1]
    by_cases h2 : s = 1
    · have q2 : (s != 1) = false := by simp [h2]
      rw [if_neg (fun h => h.elim (fun a => a h1) (fun a => a h2))]
      by_cases h3 : t.data.toList = one1
      · rw [if_neg (fun h => h h3)]
        by_cases h4 : m.data.toList = post
        · rw [if_neg (fun h => h h4)]
          exact judge15_y_e m t g s w hm ht hy q q2 (decide_eq_true h3) (decide_eq_true h4)
        · rw [if_pos h4]
          exact judge15_y_d m t g s w hm ht hy q q2 (decide_eq_true h3) (decide_eq_false h4)
      · rw [if_pos h3]
        exact judge15_y_c m t g s w hm ht hy q q2 (decide_eq_false h3)
    · rw [if_pos (.inr h2)]
      exact judge15_y_b m t g s w hm ht hy q (by simp [h2])
  · rw [if_pos (.inl h1)]
    exact judge15_y_a m t g s w hm ht hy (by simp [h1])
end Hx
end Go.Proofs.YtagngohemlkkoaaDoor
