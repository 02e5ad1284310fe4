/-
  Contracts of the laws' helpers for layer 8: writes, reads, odd, alive.
-/
import Derived.Test.YtjdeomlpipdopaaDoorEscV
import Derived.Test.YtjdeomlpipdopaaDoorTextQ
namespace Go.Proofs.YtjdeomlpipdopaaDoor
open Go.RowKit
namespace Hx
open Tx Nmb Es
set_option linter.unusedVariables false
set_option maxRecDepth 100000 in
theorem writes_yes (s t : ByteArray) (q : Bool) (w : World) (hm : s.size ≤ 1000000) (h : putR s q = (t, 0)) :
    Calls Tryd.prog 13 #[.string s, .bool q, .string t] w fun e w' => e = .returned (.bool true) ∧ Below w.heap.size w w' := by
  have HM := Lib.hid hm
  have HP := Lib.hid h
  clear hm h
  go_enter Tryd.func13, Tryd.ntmps13
  go_wp2_with (go_at_call 8; (with_reducible refine (put8 s t q 0 w HM.out HP.out).mono ?_); rintro e1 w1 ⟨rfl, hb1⟩)
  go_ret
  exact ⟨rfl, hb1⟩
set_option maxRecDepth 100000 in
theorem reads_yes (s t : ByteArray) (w : World) (hm : s.size ≤ 1000000) (h : getR s = (t, 0)) (hE : Ev w := by first | assumption | exact Ev.to (by assumption) (by assumption)) :
    Calls Tryd.prog 12 #[.string s, .string t] w fun e w' => e = .returned (.bool true) ∧ Below w.heap.size w w' := by
  have HM := Lib.hid hm
  have HP := Lib.hid h
  clear hm h
  go_enter Tryd.func12, Tryd.ntmps12
  go_wp2_with (go_at_call 9; (with_reducible refine (get8 s t 0 w HM.out HP.out).mono ?_); rintro e1 w1 ⟨rfl, hb1⟩)
  go_ret
  exact ⟨rfl, hb1⟩
set_option maxRecDepth 100000 in
theorem odd_yes (s : ByteArray) (w : World) (hm : s.size ≤ 1000000) (h : getR s = (⟨#[]⟩, 80)) (hE : Ev w := by first | assumption | exact Ev.to (by assumption) (by assumption)) :
    Calls Tryd.prog 10 #[.string s] w fun e w' => e = .returned (.bool true) ∧ Below w.heap.size w w' := by
  have HM := Lib.hid hm
  have HP := Lib.hid h
  clear hm h
  go_enter Tryd.func10, Tryd.ntmps10
  go_wp2_with (go_at_call 9; (with_reducible refine (get8 s ⟨#[]⟩ 80 w HM.out HP.out).mono ?_); rintro e1 w1 ⟨rfl, hb1⟩)
  go_ret
  exact ⟨rfl, hb1⟩
theorem al_w1 (w : World) : Calls Tryd.prog 13 #[.string ⟨#[97, 60, 98, 32, 38, 32, 34, 99, 34]⟩, .bool false, .string ⟨#[97, 38, 108, 116, 59, 98, 32, 38, 97, 109, 112, 59, 32, 34, 99, 34]⟩] w fun e w' => e = .returned (.bool true) ∧ Below w.heap.size w w' := writes_yes _ _ _ w (by decide) (by decide +kernel)
theorem al_w2 (w : World) : Calls Tryd.prog 13 #[.string ⟨#[97, 60, 98, 32, 38, 32, 34, 99, 34]⟩, .bool true, .string ⟨#[97, 38, 108, 116, 59, 98, 32, 38, 97, 109, 112, 59, 32, 38, 113, 117, 111, 116, 59, 99, 38, 113, 117, 111, 116, 59]⟩] w fun e w' => e = .returned (.bool true) ∧ Below w.heap.size w w' := writes_yes _ _ _ w (by decide) (by decide +kernel)
theorem al_r (w : World) (hE : Ev w := by first | assumption | exact Ev.to (by assumption) (by assumption)) : Calls Tryd.prog 12 #[.string ⟨#[38, 35, 120, 52, 49, 59, 38, 35, 54, 54, 59, 38, 108, 116, 59]⟩, .string ⟨#[65, 66, 60]⟩] w fun e w' => e = .returned (.bool true) ∧ Below w.heap.size w w' := reads_yes _ _ w (by decide) (by decide +kernel)
set_option maxHeartbeats 1000000 in
set_option maxRecDepth 100000 in
theorem alive8 (w : World) (hE : Ev w := by first | assumption | exact Ev.to (by assumption) (by assumption)) : Calls Tryd.prog 11 #[] w fun e w' => e = .returned (.bool true) ∧ Below w.heap.size w w' := by
  go_enter Tryd.func11, Tryd.ntmps11
  go_wp2_with (first
    | (go_at_call 13; (with_reducible refine (al_w1 w).mono ?_); rintro e w1 ⟨rfl, hb1⟩; have hB1 := hb1)
    | (go_at_call 13; (with_reducible refine (al_w2 w1).mono ?_); rintro e w2 ⟨rfl, hb2⟩; have hB2 := stp hB1 hb2)
    | (go_at_call 12; (with_reducible refine (al_r w2).mono ?_); rintro e w3 ⟨rfl, hb3⟩; have hB3 := stp hB2 hb3)
    | fail)
  go_ret
  exact ⟨rfl, hB3⟩
theorem chk_in {s : ByteArray} (h : s.size ≤ 16384) : chkE s = 0 ↔ (pts s.data.toList).isSome = true := by
  unfold chkE
  rw [if_neg (by omega)]
  cases (pts s.data.toList).isSome <;> simp
theorem putR_in {s : ByteArray} (q : Bool) (h : s.size ≤ 2000) (h0 : chkE s = 0) : putR s q = (escS q s, 0) := by
  unfold putR
  have := (escS_size q s).2
  rw [if_neg (by simpa using h0), if_neg (by omega)]
theorem putR_err {s t : ByteArray} {q : Bool} {e : Int} (h : s.size ≤ 2000) (hp : putR s q = (t, e)) (he : e ≠ 0) : t = ⟨#[]⟩ ∧ chkE s = e := by
  by_cases h0 : chkE s = 0
  · rw [putR_in q h h0] at hp
    cases hp
    exact absurd rfl he
  · unfold putR at hp
    rw [if_pos h0] at hp
    cases hp
    exact ⟨rfl, rfl⟩
theorem getR_esc {s : ByteArray} (q : Bool) (h : s.size ≤ 2000) (h0 : chkE s = 0) : getR (escS q s) = (s, 0) ∧ chkE (escS q s) = 0 := by
  have hz := (escS_size q s).2
  have hp := (chk_in (show s.size ≤ 16384 by omega)).1 h0
  have hc : chkE (escS q s) = 0 := (chk_in (by omega)).2 (pts_esc q s.data.toList hp)
  refine ⟨?_, hc⟩
  unfold getR
  rw [if_neg (by simpa using hc)]
  have hr : rd (escS q s).data.toList = some s.data.toList := rd_esc q s.data.toList
  rw [hr]
end Hx
end Go.Proofs.YtjdeomlpipdopaaDoor
