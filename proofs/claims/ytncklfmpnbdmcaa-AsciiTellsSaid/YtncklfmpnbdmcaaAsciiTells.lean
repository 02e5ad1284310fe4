/-
  Small letters, whether two are the same, what is trimmed, tokens, plain texts and lists are as the document's own answers say; for every two texts, and no condition besides.
-/
import Derived.Test.YtncklfmpnbdmcaaAscW
import Derived.WalkKit
import Derived.ProofKit
import Derived.OpenShut
import Derived.ShutString
import Derived.ChangeOld
import Derived.Below
namespace Go.Proofs.Ytncklfmpnbdmcaa.asciiTells
open Go.ChangeShapes Go.WideShapes Go.ChangeAt Go.RowKit
open Go.ChangeMaps (open_string shut_string)
open Hx As
set_option linter.unusedVariables false

theorem own : ownKnob Try.prog.godebug = none := by kernel_rfl
theorem laidOut : laidOutB Try.prog = true := by kernel_rfl

set_option maxHeartbeats 1000000 in
set_option maxRecDepth 100000 in
theorem walkOut (a b : ByteArray) (w : World) (h : 1000 < a.size ∨ (a.size ≤ 1000 ∧ 1000 < b.size)) :
    Calls Try.prog 4 #[.string a, .string b] w fun e w' => e = .returned (.bool true) ∧ Below w.heap.size w w' := by
  rcases h with h | ⟨h, h2⟩
  · have da : decide ((1000 : Int) < (a.size : Int)) = true := by simp; omega
    have fa : 1000 < a.size := by omega
    clear h
    go_enter Try.func4, Try.ntmps4
    go_wp2_with fail
    go_ret
    exact ⟨rfl, Below.refl _ _⟩
  · have da : decide ((1000 : Int) < (a.size : Int)) = false := by simp; omega
    have fa : ¬ 1000 < a.size := by omega
    have db : decide ((1000 : Int) < (b.size : Int)) = true := by simp; omega
    have fb : 1000 < b.size := by omega
    clear h h2
    go_enter Try.func4, Try.ntmps4
    go_wp2_with fail
    go_ret
    exact ⟨rfl, Below.refl _ _⟩
set_option maxHeartbeats 4000000 in
set_option maxRecDepth 100000 in
theorem walkIn (a b t1 t3 : ByteArray) (p b4 b5 : Bool) (l : List ByteArray) (n : Nat) (q : Int) (w : World) (ha : a.size ≤ 1000) (hb : b.size ≤ 1000)
    (hp : decide (lowS a = lowS b) = p) (h1 : lowS a = t1) (h3 : trimS a = t3) (h4 : isTok a.data.toList = b4) (h5 : plain a.data.toList = b5) (hl : listS a = l) (hn : l.length = n) (hq : (listE a.data.toList : Int) = q) (hz : n ≤ 1000000) :
    Calls Try.prog 4 #[.string a, .string b] w fun e w' => e = .returned (.bool true) ∧ Below w.heap.size w w' := by
  have hw : IntKind.i64.wrap q = q := by rcases listE_lits a.data.toList with e | e | e <;> rw [e] at hq <;> subst hq <;> rfl
  have HP := Lib.hid hp
  have H1 := Lib.hid h1
  have H3 := Lib.hid h3
  have H4 := Lib.hid h4
  have H5 := Lib.hid h5
  have HL := Lib.hid hl
  have HN := Lib.hid hn
  have HQ := Lib.hid hq
  have HZ := Lib.hid hz
  have HA : Hid (a.size ≤ 1000000) := Lib.hid (by omega)
  have HB : Hid (b.size ≤ 1000000) := Lib.hid (by omega)
  have da : decide ((1000 : Int) < (a.size : Int)) = false := by simp; omega
  have db : decide ((1000 : Int) < (b.size : Int)) = false := by simp; omega
  have fa : ¬ 1000 < a.size := by omega
  have fb : ¬ 1000 < b.size := by omega
  clear hp h1 h3 h4 h5 hl hn hq hz ha hb
  go_enter Try.func4, Try.ntmps4
  go_wp2_with (first
    | (go_at_call 8; (with_reducible refine (list7 a l n q w HA.out HL.out HN.out HQ.out).mono ?_); rintro e w1 ⟨hb1, A1, c1, rfl, hz1, hr1⟩; have hB1 := hb1; have HR1 := Lib.hid hr1; clear hr1 hz1)
    | (go_at_call 14; (with_reducible refine (rlist7 a l n q w1 HA.out HL.out HN.out HQ.out).mono ?_); rintro e w2 ⟨hb2, A2, c2, rfl, hz2, hr2⟩; have hB2 := stp hB1 hb2; have HR2 := Lib.hid hr2; clear hr2 hz2; have HRA := Lib.hid (HR1.out.on hb2))
    | (go_at_call 15; (with_reducible refine (lower7 a t1 w2 HA.out H1.out).mono ?_); rintro e w3 ⟨rfl, hb3⟩; have hB3 := stp hB2 hb3)
    | (go_at_call 16; (with_reducible refine (rlower7 a t1 w3 HA.out H1.out).mono ?_); rintro e w4 ⟨rfl, hb4⟩; have hB4 := stp hB3 hb4)
    | (go_at_call 13; (with_reducible refine (same7 a b p w4 HA.out HB.out HP.out).mono ?_); rintro e w5 ⟨rfl, hb5⟩; have hB5 := stp hB4 hb5)
    | (go_at_call 17; (with_reducible refine (rsame7 a b p w5 HA.out HB.out HP.out).mono ?_); rintro e w6 ⟨rfl, hb6⟩; have hB6 := stp hB5 hb6)
    | (go_at_call 18; (with_reducible refine (trim7 a t3 w6 HA.out H3.out).mono ?_); rintro e w7 ⟨rfl, hb7⟩; have hB7 := stp hB6 hb7)
    | (go_at_call 19; (with_reducible refine (rtrim7 a t3 w7 HA.out H3.out).mono ?_); rintro e w8 ⟨rfl, hb8⟩; have hB8 := stp hB7 hb8)
    | (go_at_call 9; (with_reducible refine (token7 a b4 w8 HA.out H4.out).mono ?_); rintro e w9 ⟨rfl, hb9⟩; have hB9 := stp hB8 hb9)
    | (go_at_call 20; (with_reducible refine (rtoken7 a b4 w9 HA.out H4.out).mono ?_); rintro e w10 ⟨rfl, hb10⟩; have hB10 := stp hB9 hb10)
    | (go_at_call 12; (with_reducible refine (plain7 a b5 w10 HA.out H5.out).mono ?_); rintro e w11 ⟨rfl, hb11⟩; have hB11 := stp hB10 hb11)
    | (go_at_call 21; (with_reducible refine (rplain7 a b5 w11 HA.out H5.out).mono ?_); rintro e w12 ⟨rfl, hb12⟩; have hB12 := stp hB11 hb12; have HRL := Lib.hid (HRA.out.on (stp (stp (stp (stp (stp (stp (stp (stp (stp hb3 hb4) hb5) hb6) hb7) hb8) hb9) hb10) hb11) hb12)); have HRM := Lib.hid (HR2.out.on (stp (stp (stp (stp (stp (stp (stp (stp (stp hb3 hb4) hb5) hb6) hb7) hb8) hb9) hb10) hb11) hb12)))
    | (go_at_call 22; (with_reducible refine (rsameS A1 A2 n n c1 c2 l l true w12 HRL.out HRM.out HN.out HN.out ⟨HZ.out, HZ.out⟩ (decide_eq_true rfl)).mono ?_); rintro e w13 ⟨rfl, hb13⟩; have hB13 := stp hB12 hb13)
    | fail)
  go_ret
  exact ⟨rfl, hB13⟩
theorem walk (a0 : ByteArray) (a1 : ByteArray) (w : World) (w0 : a0.size ≤ maxLen) (w1 : a1.size ≤ maxLen) :
    Calls Try.prog 4 #[.string a0, .string a1] w fun e w' => e = .returned (.bool true) ∧ Below w.heap.size w w' := by
  by_cases h : 1000 < a0.size ∨ (a0.size ≤ 1000 ∧ 1000 < a1.size)
  · exact walkOut a0 a1 w h
  · refine walkIn a0 a1 _ _ _ _ _ _ _ _ w (by omega) (by omega) rfl rfl rfl rfl rfl rfl rfl rfl ?_
    unfold listS
    split
    · rename_i h0
      have := (listE_ok h0).1
      rw [List.length_map]
      omega
    · exact Nat.zero_le _

set_option maxRecDepth 100000 in
theorem lifted (os : Os) (started : os.Started) (H : Type) (enc : TypeId × Value → H) :
    ReturnsInHanded {} Try.checked os 4 .any (Rows.asciiTellsSpec.pre6 enc Try.prog Try.f4 Rows.asciiTellsRow.domain false) (Rows.asciiTellsSpec.post enc Try.prog Try.f4 false true false false) := by
  refine returnsInHanded_of_change (C := Try.checked) own started (by kernel_rfl) Try.func4
    (ChangeSpec.witness6 (enc := enc) (C := Try.checked) false ⟨#[], #[.string ByteArray.empty, .string ByteArray.empty], []⟩ 8 (by kernel_rfl) (by kernel_rfl) (by kernel_rfl) (by kernel_rfl)) ?_
  intro W base args ds gs before hval0 hW hcnd _
  have hval : ∀ (j : Nat) t v, Try.f4.params[j]? = some t → args[j]? = some v → Value.okWide Try.prog W .any base t v := hval0
  have hW' := hW
  obtain ⟨p, q, hA0, hV, rfl, hfz, hnd⟩ := hW
  have hA : DataW.TrodAll enc Try.prog W 0 (fun _ => true) true Try.f4.params.toList args.toList ds p := hA0
  rw [Try.params4] at hA hval
  obtain ⟨v0, vs0, d0, ds0, p0, q0, hargs, rfl, rfl, h0, r0⟩ := trodAll_cons hA
  obtain ⟨v1, vs1, d1, ds1, p1, q1, rfl, rfl, rfl, h1, r1⟩ := trodAll_cons r0
  obtain ⟨rfl, rfl, rfl⟩ := trodAll_nil r1
  obtain rfl : args = #[v0, v1] := by cases args; simp_all
  obtain ⟨rfl, rfl⟩ := trodVars_none hV
  obtain ⟨a0, rfl, rfl, rfl, w0⟩ := open_string Try.underlying9 (hval 0 9 v0 rfl rfl) h0
  obtain ⟨a1, rfl, rfl, rfl, w1⟩ := open_string Try.underlying9 (hval 1 9 v1 rfl rfl) h1
  clear hA0 hval0
  refine (walk a0 a1 W w0 w1).mono fun e W' ⟨he, bel⟩ => ?_
  subst he
  exact ⟨_, rfl, _, _, _, [], _, [], hW', trodAll_mk1 (shut_bool Try.underlying4 _), (trodAll_cons_mk (shut_string Try.underlying9 w0) (trodAll_cons_mk (shut_string Try.underlying9 w1) trodAll_mk0)), rfl, bel.frame _, fun h => by cases h⟩

theorem over : Rows.asciiTellsRow.holds Try.pinned (OpenSpec.ofChange Rows.asciiTellsSpec) :=
  OpenClaim.holds_of_wide 4 Try.f4 rfl rfl rfl rfl rfl rfl rfl ⟨rfl, rfl, rfl, rfl, rfl⟩ rfl rfl rfl rfl rfl (by kernel_rfl) Try.func4 (by kernel_rfl)
    (of_decide_eq_true (by kernel_rfl)) (by unfold Func.isWrapper; first | (rw [if_pos (by decide +kernel)]; kernel_rfl) | (rw [if_neg (by decide +kernel)]; exact ⟨rfl, rfl⟩))
    (fun os started H enc _ => lifted os started H enc)

theorem proved : Rows.AsciiTellsSaid := over
end Go.Proofs.Ytncklfmpnbdmcaa.asciiTells
