/-
  Contracts of package esc: Put (put8, of EscB) and Get.
-/
import Derived.Test.YtjdeomlpipdopaaDoorEscH
namespace Go.Proofs.YtjdeomlpipdopaaDoor
open Go.RowKit
namespace Hx
open Tx Nmb Es
set_option linter.unusedVariables false
theorem getR_lits {s t : ByteArray} {e : Int} (h : getR s = (t, e)) : e = 0 ∨ e = 4 ∨ e = 50 ∨ e = 80 := by
  unfold getR at h
  rcases chk_lits s with k | k | k
  · rw [if_neg (by simpa using k)] at h
    split at h <;> cases h
    · exact .inl rfl
    · exact .inr (.inr (.inr rfl))
  · rw [if_pos (by rw [k]; decide), k] at h; cases h; exact .inr (.inl rfl)
  · rw [if_pos (by rw [k]; decide), k] at h; cases h; exact .inr (.inr (.inl rfl))
set_option maxHeartbeats 2000000 in
set_option maxRecDepth 100000 in
theorem get8 (s t : ByteArray) (e : Int) (w : World) (hm : s.size ≤ 1000000) (h : getR s = (t, e)) (hE : Ev w := by first | assumption | exact Ev.to (by assumption) (by assumption)) :
    Calls Tryd.prog 9 #[.string s] w fun e' w' => e' = .returned (.tuple #[.string t, .int .i64 e]) ∧ Below w.heap.size w w' := by
  have hmf : ∀ (fn : Fn) (first cap : Array Value) (w : World), (Instr.makeFunc fn first cap).run Tryd.prog w = .ok (.func fn first cap) w := fun _ _ _ _ => rfl
  have HM := Lib.hid hm
  have HE := Lib.hid hE
  unfold getR at h
  by_cases h0 : chkE s = 0
  · rw [if_neg (by simpa using h0)] at h
    have HC := Lib.hid h0
    have hrep : repR s.data.toList = (t, e) := h
    by_cases h60 : (60 : UInt8) ∈ s.data.toList
    · rw [repR_none (rd_lt _ _ (Nat.le_refl _) h60)] at hrep
      obtain ⟨rfl, rfl⟩ : (⟨#[]⟩ : ByteArray) = t ∧ (80 : Int) = e := by cases hrep; exact ⟨rfl, rfl⟩
      have H6 : Hid (decide ((60 : UInt8) ∈ s.data.toList) = true) := Lib.hid (decide_eq_true h60)
      clear h h0 hrep h60 hm hE
      go_enter Tryd.func9, Tryd.ntmps9
      go_wp2_with (first
        | (go_at_call 16; (with_reducible refine (check5 s w HM.out 0 HC.out).mono ?_); rintro e1 w1 ⟨rfl, hb1⟩)
        | (go_at_call 26; (with_reducible refine (has_60 s true w1 H6.out).mono ?_); rintro e2 w2 ⟨rfl, rfl⟩)
        | fail)
      go_ret2
      exact ⟨rfl, hb1⟩
    · have H6 : Hid (decide ((60 : UInt8) ∈ s.data.toList) = false) := Lib.hid (decide_eq_false h60)
      have CR : Hid (∀ M G W, Rdr M G W → Ev W → Calls Tryd.prog 27 #[.string s, .func (.func 29) #[RdV M G] #[]] W fun e' w' => e' = .returned (.tuple #[.string t, .int .i64 e]) ∧ Below W.heap.size W w') := Lib.hid fun M G W h1 h2 => rep8 M G s t e W hm h60 h1 h2 hrep
      have hw : IntKind.i64.wrap e = e := by
        have : e = 0 ∨ e = 80 := by
          unfold repR at hrep
          split at hrep <;> cases hrep
          · exact .inl rfl
          · exact .inr rfl
        rcases this with rfl | rfl <;> rfl
      clear h h0 hrep h60 hm hE
      go_enter Tryd.func9, Tryd.ntmps9
      go_wp2_with (first
        | (go_at_call 16; (with_reducible refine (check5 s w HM.out 0 HC.out).mono ?_); rintro e1 w1 ⟨rfl, hb1⟩)
        | (go_at_call 26; (with_reducible refine (has_60 s false w1 H6.out).mono ?_); rintro e2 w2 ⟨rfl, rfl⟩)
        | (go_at_call 28; (with_reducible refine (reader8 w1).mono ?_); rintro e3 w3 ⟨M, G, rfl, hrd3, hb3⟩; have HRD := Lib.hid hrd3; have HB3 : Hid (Below w.heap.size w w3) := Lib.hid (bel_in hb1 hb3 hb1.size); clear hrd3 hb3)
        | (go_at_call 27; (with_reducible refine (CR.out M G w3 HRD.out (HE.out.to HB3.out)).mono ?_); rintro e4 w4 ⟨rfl, hb4⟩)
        | fail)
      go_ret2
      exact ⟨rfl, bel_in HB3.out hb4 HB3.out.size⟩
  · rw [if_pos h0] at h
    obtain ⟨rfl, he⟩ : (⟨#[]⟩ : ByteArray) = t ∧ chkE s = e := by cases h; exact ⟨rfl, rfl⟩
    have q0 : (e == 0) = false := by rw [← he]; simpa using h0
    have q1 : (e != 0) = true := by rw [← he]; simpa using h0
    have HC := Lib.hid he
    clear h h0 hm he hE
    go_enter Tryd.func9, Tryd.ntmps9
    go_wp2_with (first
      | (go_at_call 16; (with_reducible refine (check5 s w HM.out e HC.out).mono ?_); rintro e1 w1 ⟨rfl, hb1⟩)
      | fail)
    go_ret2
    exact ⟨rfl, hb1⟩
end Hx
end Go.Proofs.YtjdeomlpipdopaaDoor
