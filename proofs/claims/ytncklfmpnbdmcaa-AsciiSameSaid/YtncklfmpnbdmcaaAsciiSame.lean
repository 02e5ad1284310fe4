/-
  To be the same but for letters' sizes is so of each text with itself, both ways round, and on and on; for every three texts, and no condition besides.
-/
import Derived.Test.YtncklfmpnbdmcaaAscW
import Derived.WalkKit
import Derived.ProofKit
import Derived.OpenShut
import Derived.ShutString
import Derived.ChangeOld
import Derived.Below
namespace Go.Proofs.Ytncklfmpnbdmcaa.asciiSame
open Go.ChangeShapes Go.WideShapes Go.ChangeAt Go.RowKit
open Go.ChangeMaps (open_string shut_string)
open Hx As
set_option linter.unusedVariables false

theorem own : ownKnob Try.prog.godebug = none := by kernel_rfl
theorem laidOut : laidOutB Try.prog = true := by kernel_rfl

set_option maxHeartbeats 1000000 in
set_option maxRecDepth 100000 in
theorem walkOut (a b c : ByteArray) (w : World) (h : 1000 < a.size ∨ (a.size ≤ 1000 ∧ 1000 < b.size) ∨ (a.size ≤ 1000 ∧ b.size ≤ 1000 ∧ 1000 < c.size)) :
    Calls Try.prog 6 #[.string a, .string b, .string c] w fun e w' => e = .returned (.bool true) ∧ Below w.heap.size w w' := by
  rcases h with h | ⟨h, h2⟩ | ⟨h, h2, h3⟩
  · have da : decide ((1000 : Int) < (a.size : Int)) = true := by simp; omega
    have fa : 1000 < a.size := by omega
    clear h
    go_enter Try.func6, Try.ntmps6
    go_wp2_with (first
      | (go_at_call 10; (with_reducible refine (alive7 w).mono ?_); rintro e w1 ⟨rfl, hb1⟩)
      | fail)
    go_ret
    exact ⟨rfl, hb1⟩
  · have da : decide ((1000 : Int) < (a.size : Int)) = false := by simp; omega
    have fa : ¬ 1000 < a.size := by omega
    have db : decide ((1000 : Int) < (b.size : Int)) = true := by simp; omega
    have fb : 1000 < b.size := by omega
    clear h h2
    go_enter Try.func6, Try.ntmps6
    go_wp2_with (first
      | (go_at_call 10; (with_reducible refine (alive7 w).mono ?_); rintro e w1 ⟨rfl, hb1⟩)
      | fail)
    go_ret
    exact ⟨rfl, hb1⟩
  · have da : decide ((1000 : Int) < (a.size : Int)) = false := by simp; omega
    have fa : ¬ 1000 < a.size := by omega
    have db : decide ((1000 : Int) < (b.size : Int)) = false := by simp; omega
    have fb : ¬ 1000 < b.size := by omega
    have dc : decide ((1000 : Int) < (c.size : Int)) = true := by simp; omega
    have fc : 1000 < c.size := by omega
    clear h h2 h3
    go_enter Try.func6, Try.ntmps6
    go_wp2_with (first
      | (go_at_call 10; (with_reducible refine (alive7 w).mono ?_); rintro e w1 ⟨rfl, hb1⟩)
      | fail)
    go_ret
    exact ⟨rfl, hb1⟩
set_option maxHeartbeats 4000000 in
set_option maxRecDepth 100000 in
theorem walkIn (a b c t1 t2 : ByteArray) (p q r : Bool) (w : World) (ha : a.size ≤ 1000) (hb : b.size ≤ 1000) (hc : c.size ≤ 1000)
    (hp : decide (lowS a = lowS b) = p) (hq : decide (lowS b = lowS c) = q) (hr : decide (lowS a = lowS c) = r) (h1 : lowS a = t1) (h2 : lowS b = t2) :
    Calls Try.prog 6 #[.string a, .string b, .string c] w fun e w' => e = .returned (.bool true) ∧ Below w.heap.size w w' := by
  have HP := Lib.hid hp
  have HP2 : Hid (decide (lowS b = lowS a) = p) := by show _ = _; rw [← hp]; exact decide_eq_decide.2 ⟨Eq.symm, Eq.symm⟩
  have HQ := Lib.hid hq
  have HR := Lib.hid hr
  have H1 := Lib.hid h1
  have H2 := Lib.hid h2
  have HA : Hid (a.size ≤ 1000000) := Lib.hid (by omega)
  have HB : Hid (b.size ≤ 1000000) := Lib.hid (by omega)
  have HC : Hid (c.size ≤ 1000000) := Lib.hid (by omega)
  have da : decide ((1000 : Int) < (a.size : Int)) = false := by simp; omega
  have db : decide ((1000 : Int) < (b.size : Int)) = false := by simp; omega
  have dc : decide ((1000 : Int) < (c.size : Int)) = false := by simp; omega
  have fa : ¬ 1000 < a.size := by omega
  have fb : ¬ 1000 < b.size := by omega
  have fc : ¬ 1000 < c.size := by omega
  have ht : (t1.toList == t2.toList) = p := by rw [seq_b7, ← hp, ← h1, ← h2]
  have hpqr : p = true → q = true → r = true := by
    rintro rfl rfl
    rw [← hr]
    exact decide_eq_true ((of_decide_eq_true hp).trans (of_decide_eq_true hq))
  clear hp hq hr h1 h2 ha hb hc
  cases p
  · clear hpqr
    go_enter Try.func6, Try.ntmps6
    go_wp2_with (first
      | (go_at_call 10; (with_reducible refine (alive7 w).mono ?_); rintro e w1 ⟨rfl, hb1⟩; have hB1 := hb1)
      | (go_at_call 13; (with_reducible refine (same7 a b false w1 HA.out HB.out HP.out).mono ?_); rintro e w2 ⟨rfl, hb2⟩; have hB2 := stp hB1 hb2)
      | (go_at_call 13; (with_reducible refine (same7 a a true w2 HA.out HA.out (decide_eq_true rfl)).mono ?_); rintro e w3 ⟨rfl, hb3⟩; have hB3 := stp hB2 hb3)
      | (go_at_call 13; (with_reducible refine (same7 a b false w3 HA.out HB.out HP.out).mono ?_); rintro e w4 ⟨rfl, hb4⟩; have hB4 := stp hB3 hb4)
      | (go_at_call 13; (with_reducible refine (same7 b a false w4 HB.out HA.out HP2.out).mono ?_); rintro e w5 ⟨rfl, hb5⟩; have hB5 := stp hB4 hb5)
      | (go_at_call 13; (with_reducible refine (same7 a b false w5 HA.out HB.out HP.out).mono ?_); rintro e w6 ⟨rfl, hb6⟩; have hB6 := stp hB5 hb6)
      | (go_at_call 15; (with_reducible refine (lower7 a t1 w6 HA.out H1.out).mono ?_); rintro e w7 ⟨rfl, hb7⟩; have hB7 := stp hB6 hb7)
      | (go_at_call 15; (with_reducible refine (lower7 b t2 w7 HB.out H2.out).mono ?_); rintro e w8 ⟨rfl, hb8⟩; have hB8 := stp hB7 hb8)
      | fail)
    go_ret
    exact ⟨rfl, hB8⟩
  · cases q
    · clear hpqr
      go_enter Try.func6, Try.ntmps6
      go_wp2_with (first
        | (go_at_call 10; (with_reducible refine (alive7 w).mono ?_); rintro e w1 ⟨rfl, hb1⟩; have hB1 := hb1)
        | (go_at_call 13; (with_reducible refine (same7 a b true w1 HA.out HB.out HP.out).mono ?_); rintro e w2 ⟨rfl, hb2⟩; have hB2 := stp hB1 hb2)
        | (go_at_call 13; (with_reducible refine (same7 b c false w2 HB.out HC.out HQ.out).mono ?_); rintro e w3 ⟨rfl, hb3⟩; have hB3 := stp hB2 hb3)
        | (go_at_call 13; (with_reducible refine (same7 a a true w3 HA.out HA.out (decide_eq_true rfl)).mono ?_); rintro e w4 ⟨rfl, hb4⟩; have hB4 := stp hB3 hb4)
        | (go_at_call 13; (with_reducible refine (same7 a b true w4 HA.out HB.out HP.out).mono ?_); rintro e w5 ⟨rfl, hb5⟩; have hB5 := stp hB4 hb5)
        | (go_at_call 13; (with_reducible refine (same7 b a true w5 HB.out HA.out HP2.out).mono ?_); rintro e w6 ⟨rfl, hb6⟩; have hB6 := stp hB5 hb6)
        | (go_at_call 13; (with_reducible refine (same7 a b true w6 HA.out HB.out HP.out).mono ?_); rintro e w7 ⟨rfl, hb7⟩; have hB7 := stp hB6 hb7)
        | (go_at_call 15; (with_reducible refine (lower7 a t1 w7 HA.out H1.out).mono ?_); rintro e w8 ⟨rfl, hb8⟩; have hB8 := stp hB7 hb8)
        | (go_at_call 15; (with_reducible refine (lower7 b t2 w8 HB.out H2.out).mono ?_); rintro e w9 ⟨rfl, hb9⟩; have hB9 := stp hB8 hb9)
        | fail)
      go_ret
      exact ⟨rfl, hB9⟩
    · obtain rfl : r = true := hpqr rfl rfl
      clear hpqr
      go_enter Try.func6, Try.ntmps6
      go_wp2_with (first
        | (go_at_call 10; (with_reducible refine (alive7 w).mono ?_); rintro e w1 ⟨rfl, hb1⟩; have hB1 := hb1)
        | (go_at_call 13; (with_reducible refine (same7 a b true w1 HA.out HB.out HP.out).mono ?_); rintro e w2 ⟨rfl, hb2⟩; have hB2 := stp hB1 hb2)
        | (go_at_call 13; (with_reducible refine (same7 b c true w2 HB.out HC.out HQ.out).mono ?_); rintro e w3 ⟨rfl, hb3⟩; have hB3 := stp hB2 hb3)
        | (go_at_call 13; (with_reducible refine (same7 a c true w3 HA.out HC.out HR.out).mono ?_); rintro e w4 ⟨rfl, hb4⟩; have hB4 := stp hB3 hb4)
        | (go_at_call 13; (with_reducible refine (same7 a a true w4 HA.out HA.out (decide_eq_true rfl)).mono ?_); rintro e w5 ⟨rfl, hb5⟩; have hB5 := stp hB4 hb5)
        | (go_at_call 13; (with_reducible refine (same7 a b true w5 HA.out HB.out HP.out).mono ?_); rintro e w6 ⟨rfl, hb6⟩; have hB6 := stp hB5 hb6)
        | (go_at_call 13; (with_reducible refine (same7 b a true w6 HB.out HA.out HP2.out).mono ?_); rintro e w7 ⟨rfl, hb7⟩; have hB7 := stp hB6 hb7)
        | (go_at_call 13; (with_reducible refine (same7 a b true w7 HA.out HB.out HP.out).mono ?_); rintro e w8 ⟨rfl, hb8⟩; have hB8 := stp hB7 hb8)
        | (go_at_call 15; (with_reducible refine (lower7 a t1 w8 HA.out H1.out).mono ?_); rintro e w9 ⟨rfl, hb9⟩; have hB9 := stp hB8 hb9)
        | (go_at_call 15; (with_reducible refine (lower7 b t2 w9 HB.out H2.out).mono ?_); rintro e w10 ⟨rfl, hb10⟩; have hB10 := stp hB9 hb10)
        | fail)
      go_ret
      exact ⟨rfl, hB10⟩
theorem walk (a0 : ByteArray) (a1 : ByteArray) (a2 : ByteArray) (w : World) (w0 : a0.size ≤ maxLen) (w1 : a1.size ≤ maxLen) (w2 : a2.size ≤ maxLen) :
    Calls Try.prog 6 #[.string a0, .string a1, .string a2] w fun e w' => e = .returned (.bool true) ∧ Below w.heap.size w w' := by
  by_cases h : 1000 < a0.size ∨ (a0.size ≤ 1000 ∧ 1000 < a1.size) ∨ (a0.size ≤ 1000 ∧ a1.size ≤ 1000 ∧ 1000 < a2.size)
  · exact walkOut a0 a1 a2 w h
  · exact walkIn a0 a1 a2 _ _ _ _ _ w (by omega) (by omega) (by omega) rfl rfl rfl rfl rfl

set_option maxRecDepth 100000 in
theorem lifted (os : Os) (started : os.Started) (H : Type) (enc : TypeId × Value → H) :
    ReturnsInHanded {} Try.checked os 6 .any (Rows.asciiSameSpec.pre6 enc Try.prog Try.f6 Rows.asciiSameRow.domain false) (Rows.asciiSameSpec.post enc Try.prog Try.f6 false true false false) := by
  refine returnsInHanded_of_change (C := Try.checked) own started (by kernel_rfl) Try.func6
    (ChangeSpec.witness6 (enc := enc) (C := Try.checked) false ⟨#[], #[.string ByteArray.empty, .string ByteArray.empty, .string ByteArray.empty], []⟩ 8 (by kernel_rfl) (by kernel_rfl) (by kernel_rfl) (by kernel_rfl)) ?_
  intro W base args ds gs before hval0 hW hcnd _
  have hval : ∀ (j : Nat) t v, Try.f6.params[j]? = some t → args[j]? = some v → Value.okWide Try.prog W .any base t v := hval0
  have hW' := hW
  obtain ⟨p, q, hA0, hV, rfl, hfz, hnd⟩ := hW
  have hA : DataW.TrodAll enc Try.prog W 0 (fun _ => true) true Try.f6.params.toList args.toList ds p := hA0
  rw [Try.params6] at hA hval
  obtain ⟨v0, vs0, d0, ds0, p0, q0, hargs, rfl, rfl, h0, r0⟩ := trodAll_cons hA
  obtain ⟨v1, vs1, d1, ds1, p1, q1, rfl, rfl, rfl, h1, r1⟩ := trodAll_cons r0
  obtain ⟨v2, vs2, d2, ds2, p2, q2, rfl, rfl, rfl, h2, r2⟩ := trodAll_cons r1
  obtain ⟨rfl, rfl, rfl⟩ := trodAll_nil r2
  obtain rfl : args = #[v0, v1, v2] := by cases args; simp_all
  obtain ⟨rfl, rfl⟩ := trodVars_none hV
  obtain ⟨a0, rfl, rfl, rfl, w0⟩ := open_string Try.underlying9 (hval 0 9 v0 rfl rfl) h0
  obtain ⟨a1, rfl, rfl, rfl, w1⟩ := open_string Try.underlying9 (hval 1 9 v1 rfl rfl) h1
  obtain ⟨a2, rfl, rfl, rfl, w2⟩ := open_string Try.underlying9 (hval 2 9 v2 rfl rfl) h2
  clear hA0 hval0
  refine (walk a0 a1 a2 W w0 w1 w2).mono fun e W' ⟨he, bel⟩ => ?_
  subst he
  exact ⟨_, rfl, _, _, _, [], _, [], hW', trodAll_mk1 (shut_bool Try.underlying4 _), (trodAll_cons_mk (shut_string Try.underlying9 w0) (trodAll_cons_mk (shut_string Try.underlying9 w1) (trodAll_cons_mk (shut_string Try.underlying9 w2) trodAll_mk0))), rfl, bel.frame _, fun h => by cases h⟩

theorem over : Rows.asciiSameRow.holds Try.pinned (OpenSpec.ofChange Rows.asciiSameSpec) :=
  OpenClaim.holds_of_wide 6 Try.f6 rfl rfl rfl rfl rfl rfl rfl ⟨rfl, rfl, rfl, rfl, rfl⟩ rfl rfl rfl rfl rfl (by kernel_rfl) Try.func6 (by kernel_rfl)
    (of_decide_eq_true (by kernel_rfl)) (by unfold Func.isWrapper; first | (rw [if_pos (by decide +kernel)]; kernel_rfl) | (rw [if_neg (by decide +kernel)]; exact ⟨rfl, rfl⟩))
    (fun os started H enc _ => lifted os started H enc)

theorem proved : Rows.AsciiSameSaid := over
end Go.Proofs.Ytncklfmpnbdmcaa.asciiSame
