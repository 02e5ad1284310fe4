/-
  Contracts of the laws' helpers is, none, alive.
-/
import Derived.Test.YtllcmfohfnidpaaDoorNumV
namespace Go.Proofs.YtllcmfohfnidpaaDoor
open Go.RowKit
namespace Hx
open Nmb
set_option linter.unusedVariables false
theorem int_wf {n : Int} (h : (Lit.int .i64 n).wf = true) : -9223372036854775808 ≤ n ∧ n ≤ 9223372036854775807 := by
  simp only [Lit.wf, Bool.and_eq_true, decide_eq_true_eq] at h
  have h1 : IntKind.i64.min = -9223372036854775808 := rfl
  have h2 : IntKind.i64.max = 9223372036854775807 := rfl
  omega
theorem read_dg {n : Int} {t : ByteArray} (h : writeR n = (t, 0)) : 0 ≤ n ∧ n ≤ 9007199254740991 ∧ t.data.toList = dg n.toNat ∧ t.size ≤ 16 ∧ readR t.data.toList = (n, 0) := by
  unfold writeR at h
  split at h
  · rename_i hc
    injection h with h1 _
    subst h1
    have hl : (dg n.toNat).length ≤ 16 := dg_most (by unfold most; omega)
    refine ⟨hc.1, hc.2, rfl, hl, ?_⟩
    unfold readR
    have hr : readN (dg n.toNat) = some n.toNat := (readN_iff _ _).2 ⟨rfl, by unfold most; omega⟩
    rw [show (⟨(dg n.toNat).toArray⟩ : ByteArray).data.toList = dg n.toNat from rfl, hr]
    show ((n.toNat : Int), (0 : Int)) = _
    rw [Int.toNat_of_nonneg hc.1]
  · injection h with _ h2
    cases h2
set_option maxRecDepth 100000 in
theorem is6 (s : ByteArray) (n : Int) (w : World) (hm : s.size ≤ 1000000) (h : readR s.data.toList = (n, 0)) :
    Calls Tryd.prog 17 #[.string s, .int .i64 n] w fun e w' => e = .returned (.bool true) ∧ Below w.heap.size w w' := by
  have HM := Lib.hid hm
  have HH := Lib.hid h
  clear hm h
  go_enter Tryd.func17, Tryd.ntmps17
  go_wp2_with (first
    | (go_at_call 18; (with_reducible refine (read6 s w HM.out n 0 HH.out).mono ?_); rintro e w1 ⟨rfl, hb1⟩)
    | fail)
  go_ret
  exact ⟨rfl, hb1⟩
set_option maxRecDepth 100000 in
theorem none6 (s : ByteArray) (w : World) (hm : s.size ≤ 1000000) (h : readR s.data.toList = (0, 60)) :
    Calls Tryd.prog 14 #[.string s] w fun e w' => e = .returned (.bool true) ∧ Below w.heap.size w w' := by
  have HM := Lib.hid hm
  have HH := Lib.hid h
  clear hm h
  go_enter Tryd.func14, Tryd.ntmps14
  go_wp2_with (first
    | (go_at_call 18; (with_reducible refine (read6 s w HM.out 0 60 HH.out).mono ?_); rintro e w1 ⟨rfl, hb1⟩)
    | fail)
  go_ret
  exact ⟨rfl, hb1⟩
theorem w1234 : writeR 1234 = (⟨#[49, 50, 51, 52]⟩, 0) := by
  have h : dg 1234 = [49, 50, 51, 52] := dg_val [49, 50, 51, 52] (by decide +kernel)
  unfold writeR
  rw [if_pos (by decide), show (1234 : Int).toNat = 1234 from rfl, h]
theorem write_1234 (w : World) (hT : Tb w := by first | assumption | exact Tb.to (by assumption) (by assumption)) : Calls Tryd.prog 11 #[.int .i64 1234] w fun e w' => e = .returned (.tuple #[.string ⟨#[49, 50, 51, 52]⟩, .int .i64 0]) ∧ Below w.heap.size w w' := write6 1234 w (by decide) _ _ w1234
theorem is_0 (w : World) : Calls Tryd.prog 17 #[.string ⟨#[48]⟩, .int .i64 0] w fun e w' => e = .returned (.bool true) ∧ Below w.heap.size w w' := is6 ⟨#[48]⟩ 0 w (by decide) (by decide +kernel)
theorem is_most (w : World) : Calls Tryd.prog 17 #[.string ⟨#[57, 48, 48, 55, 49, 57, 57, 50, 53, 52, 55, 52, 48, 57, 57, 49]⟩, .int .i64 9007199254740991] w fun e w' => e = .returned (.bool true) ∧ Below w.heap.size w w' := is6 ⟨#[57, 48, 48, 55, 49, 57, 57, 50, 53, 52, 55, 52, 48, 57, 57, 49]⟩ 9007199254740991 w (by decide) (by decide +kernel)
theorem none_more (w : World) : Calls Tryd.prog 14 #[.string ⟨#[57, 48, 48, 55, 49, 57, 57, 50, 53, 52, 55, 52, 48, 57, 57, 50]⟩] w fun e w' => e = .returned (.bool true) ∧ Below w.heap.size w w' := none6 ⟨#[57, 48, 48, 55, 49, 57, 57, 50, 53, 52, 55, 52, 48, 57, 57, 50]⟩ w (by decide) (by decide +kernel)
set_option maxRecDepth 100000 in
theorem alive6 (w : World) (hT : Tb w := by first | assumption | exact Tb.to (by assumption) (by assumption)) : Calls Tryd.prog 13 #[] w fun e w' => e = .returned (.bool true) ∧ Below w.heap.size w w' := by
  go_enter Tryd.func13, Tryd.ntmps13
  go_wp2_with (first
    | (go_at_call 11; (with_reducible refine (write_1234 w).mono ?_); rintro e w1 ⟨rfl, hb1⟩)
    | (go_at_call 17; (with_reducible refine (is_0 w1).mono ?_); rintro e w2 ⟨rfl, hb2⟩; have hB2 := stp hb1 hb2)
    | (go_at_call 17; (with_reducible refine (is_most w2).mono ?_); rintro e w3 ⟨rfl, hb3⟩; have hB3 := stp hB2 hb3)
    | (go_at_call 14; (with_reducible refine (none_more w3).mono ?_); rintro e w4 ⟨rfl, hb4⟩; have hB4 := stp hB3 hb4)
    | fail)
  go_ret
  exact ⟨rfl, hB4⟩
end Hx
end Go.Proofs.YtllcmfohfnidpaaDoor
