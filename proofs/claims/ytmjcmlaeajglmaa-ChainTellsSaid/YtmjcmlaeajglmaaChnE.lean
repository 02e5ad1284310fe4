/-
  Contracts of the laws' helper 'alive'; the chapter's examples as plain facts.
-/
import Derived.Test.YtmjcmlaeajglmaaChnN
namespace Go.Proofs.Ytmjcmlaeajglmaa
open Go.RowKit
namespace Hx
open Go Wd Sh
set_option linter.unusedVariables false

theorem abc_facts : ∃ k2 : ByteArray, keyB ⟨#[97, 98, 99]⟩ = ⟨#[97, 57, 57, 57, 51, 101, 51, 54, 52, 55, 48, 54, 56, 49, 54, 97, 98, 97, 51, 101, 50, 53, 55, 49, 55, 56, 53, 48, 99, 50, 54, 99, 57, 99, 100, 48, 100, 56, 57, 100]⟩ ∧ keyB ⟨#[97, 57, 57, 57, 51, 101, 51, 54, 52, 55, 48, 54, 56, 49, 54, 97, 98, 97, 51, 101, 50, 53, 55, 49, 55, 56, 53, 48, 99, 50, 54, 99, 57, 99, 100, 48, 100, 56, 57, 100]⟩ = k2 ∧ fitB k2 ⟨#[97, 57, 57, 57, 51, 101, 51, 54, 52, 55, 48, 54, 56, 49, 54, 97, 98, 97, 51, 101, 50, 53, 55, 49, 55, 56, 53, 48, 99, 50, 54, 99, 57, 99, 100, 48, 100, 56, 57, 100]⟩ = true ∧ fitB ⟨#[97, 57, 57, 57, 51, 101, 51, 54, 52, 55, 48, 54, 56, 49, 54, 97, 98, 97, 51, 101, 50, 53, 55, 49, 55, 56, 53, 48, 99, 50, 54, 99, 57, 99, 100, 48, 100, 56, 57, 100]⟩ k2 = false ∧ isK k2 = true ∧ isK ⟨#[97, 57, 57, 57, 51, 101, 51, 54, 52, 55, 48, 54, 56, 49, 54, 97, 98, 97, 51, 101, 50, 53, 55, 49, 55, 56, 53, 48, 99, 50, 54, 99, 57, 99, 100, 48, 100, 56, 57, 100]⟩ = true ∧ isK ⟨#[97, 98, 99]⟩ = false ∧ isK ⟨#[110, 101, 119]⟩ = false ∧ k2.size = 40 :=
  ⟨⟨#[57, 101, 102, 50, 98, 100, 101, 101, 97, 50, 98, 49, 98, 97, 101, 55, 57, 98, 57, 100, 100, 98, 57, 51, 48, 52, 50, 55, 100, 48, 98, 50, 99, 56, 56, 48, 98, 100, 97, 99]⟩, by decide +kernel, by decide +kernel, by decide +kernel, by decide +kernel, by decide +kernel, by decide +kernel, by decide +kernel, by decide +kernel, by decide +kernel⟩
/-- What Make of abc, 2 answers, as cells. -/
theorem make_abc (k2 : ByteArray) (h1 : keyB ⟨#[97, 98, 99]⟩ = ⟨#[97, 57, 57, 57, 51, 101, 51, 54, 52, 55, 48, 54, 56, 49, 54, 97, 98, 97, 51, 101, 50, 53, 55, 49, 55, 56, 53, 48, 99, 50, 54, 99, 57, 99, 100, 48, 100, 56, 57, 100]⟩) (h2 : keyB ⟨#[97, 57, 57, 57, 51, 101, 51, 54, 52, 55, 48, 54, 56, 49, 54, 97, 98, 97, 51, 101, 50, 53, 55, 49, 55, 56, 53, 48, 99, 50, 54, 99, 57, 99, 100, 48, 100, 56, 57, 100]⟩ = k2) (w : World) : Calls Try.prog 19 #[.string ⟨#[97, 98, 99]⟩, .int .i64 2] w fun e w' => Below w.heap.size w w' ∧ ∃ g o c, e = .returned (.tuple #[.slice (some ⟨g, o, none⟩) 2 c, .int .i64 0]) ∧
    g < w'.heap.size ∧ w'.cell? ⟨g, o, none⟩ = some (.string ⟨#[97, 57, 57, 57, 51, 101, 51, 54, 52, 55, 48, 54, 56, 49, 54, 97, 98, 97, 51, 101, 50, 53, 55, 49, 55, 56, 53, 48, 99, 50, 54, 99, 57, 99, 100, 48, 100, 56, 57, 100]⟩) ∧ w'.cell? ⟨g, o + 1, none⟩ = some (.string k2) := by
  refine (make_ok ⟨#[97, 98, 99]⟩ 2 w (by decide) (by decide)).mono fun e w' ⟨hb, A, c, he, hc, hz, hr⟩ => ?_
  have hk : ksL ⟨#[97, 98, 99]⟩ 2 = [⟨#[97, 57, 57, 57, 51, 101, 51, 54, 52, 55, 48, 54, 56, 49, 54, 97, 98, 97, 51, 101, 50, 53, 55, 49, 55, 56, 53, 48, 99, 50, 54, 99, 57, 99, 100, 48, 100, 56, 57, 100]⟩, k2] := by
    have e1 : kN ⟨#[97, 98, 99]⟩ 1 = ⟨#[97, 57, 57, 57, 51, 101, 51, 54, 52, 55, 48, 54, 56, 49, 54, 97, 98, 97, 51, 101, 50, 53, 55, 49, 55, 56, 53, 48, 99, 50, 54, 99, 57, 99, 100, 48, 100, 56, 57, 100]⟩ := h1
    have e2 : kN ⟨#[97, 98, 99]⟩ 2 = k2 := by show keyB (kN ⟨#[97, 98, 99]⟩ 1) = k2; rw [e1]; exact h2
    show [kN ⟨#[97, 98, 99]⟩ 1, kN ⟨#[97, 98, 99]⟩ 2] = _
    rw [e1, e2]
  rw [hk] at hr
  obtain ⟨g, o, rfl, hg, hcell⟩ := hr (by simp)
  exact ⟨hb, g, o, c, he, hg, hcell 0 (by simp), hcell 1 (by simp)⟩
theorem next_abc (h1 : keyB ⟨#[97, 98, 99]⟩ = ⟨#[97, 57, 57, 57, 51, 101, 51, 54, 52, 55, 48, 54, 56, 49, 54, 97, 98, 97, 51, 101, 50, 53, 55, 49, 55, 56, 53, 48, 99, 50, 54, 99, 57, 99, 100, 48, 100, 56, 57, 100]⟩) (w : World) : Calls Try.prog 21 #[.string ⟨#[97, 98, 99]⟩] w fun e w' => e = .returned (.tuple #[.string ⟨#[97, 57, 57, 57, 51, 101, 51, 54, 52, 55, 48, 54, 56, 49, 54, 97, 98, 97, 51, 101, 50, 53, 55, 49, 55, 56, 53, 48, 99, 50, 54, 99, 57, 99, 100, 48, 100, 56, 57, 100]⟩, .int .i64 0]) ∧ Below w.heap.size w w' := next_ok _ w (by decide) _ h1
theorem fits_lit1 (k2 : ByteArray) (h : fitB k2 ⟨#[97, 57, 57, 57, 51, 101, 51, 54, 52, 55, 48, 54, 56, 49, 54, 97, 98, 97, 51, 101, 50, 53, 55, 49, 55, 56, 53, 48, 99, 50, 54, 99, 57, 99, 100, 48, 100, 56, 57, 100]⟩ = true) (w : World) : Calls Try.prog 26 #[.string k2, .string ⟨#[97, 57, 57, 57, 51, 101, 51, 54, 52, 55, 48, 54, 56, 49, 54, 97, 98, 97, 51, 101, 50, 53, 55, 49, 55, 56, 53, 48, 99, 50, 54, 99, 57, 99, 100, 48, 100, 56, 57, 100]⟩] w fun e w' => e = .returned (.bool true) ∧ Below w.heap.size w w' := fits_b _ _ w _ h
theorem fits_lit2 (k2 : ByteArray) (h : fitB ⟨#[97, 57, 57, 57, 51, 101, 51, 54, 52, 55, 48, 54, 56, 49, 54, 97, 98, 97, 51, 101, 50, 53, 55, 49, 55, 56, 53, 48, 99, 50, 54, 99, 57, 99, 100, 48, 100, 56, 57, 100]⟩ k2 = false) (w : World) : Calls Try.prog 26 #[.string ⟨#[97, 57, 57, 57, 51, 101, 51, 54, 52, 55, 48, 54, 56, 49, 54, 97, 98, 97, 51, 101, 50, 53, 55, 49, 55, 56, 53, 48, 99, 50, 54, 99, 57, 99, 100, 48, 100, 56, 57, 100]⟩, .string k2] w fun e w' => e = .returned (.bool false) ∧ Below w.heap.size w w' := fits_b _ _ w _ h
set_option maxHeartbeats 2000000 in
set_option maxRecDepth 100000 in
theorem alive_any4 (w : World) : Calls Try.prog 18 #[] w fun e w' => e = .returned (.bool true) ∧ Below w.heap.size w w' := by
  obtain ⟨k2, e1, e2, e3, e4, _⟩ := abc_facts
  have E1 := Lib.hid e1
  have E2 := Lib.hid e2
  have E3 := Lib.hid e3
  have E4 := Lib.hid e4
  clear e1 e2 e3 e4
  go_enter Try.func18, Try.ntmps18
  go_wp2_with (first
    | (go_at_call 21; (with_reducible refine (next_abc E1.out w).mono ?_); rintro e w1 ⟨rfl, hb1⟩)
    | (go_at_call 19; (with_reducible refine (make_abc k2 E1.out E2.out w1).mono ?_); rintro e w2 ⟨hb2, g, o, c, rfl, hg, c0, c1⟩)
    | (go_at_call 26; (with_reducible refine (fits_lit1 k2 E3.out w2).mono ?_); rintro e w3 ⟨rfl, hb3⟩; have c1' := (hb3.cell (p := ⟨g, o + 1, none⟩) hg).trans c1)
    | (go_at_call 26; (with_reducible refine (fits_lit2 k2 E4.out w3).mono ?_); rintro e w4 ⟨rfl, hb4⟩)
    | fail)
  go_ret
  exact ⟨rfl, stp (stp (stp hb1 hb2) hb3) hb4⟩
end Hx
end Go.Proofs.Ytmjcmlaeajglmaa
