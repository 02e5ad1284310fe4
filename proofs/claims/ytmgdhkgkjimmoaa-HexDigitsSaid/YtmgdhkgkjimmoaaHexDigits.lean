/-
  HexDigits: for every byte the law returns true. No condition.
-/
import Derived.Test.YtmgdhkgkjimmoaaHexE
import Derived.WalkKit
import Derived.ProofKit
import Derived.OpenShut
import Derived.ShutString
import Derived.ChangeOld
import Derived.Below
namespace Go.Proofs.Ytmgdhkgkjimmoaa.hexDigits
open Go.ChangeShapes Go.WideShapes Go.ChangeAt Go.RowKit
open Go.ChangeMaps (open_string shut_string)
open Hx
set_option linter.unusedVariables false

theorem own : ownKnob Try.prog.godebug = none := by kernel_rfl
theorem laidOut : laidOutB Try.prog = true := by kernel_rfl

set_option maxHeartbeats 1000000 in
set_option maxRecDepth 100000 in
theorem walkB (c : UInt8) (b : Bool) (v : Int) (w : World) (hd : isD c.toNat = b) (hn : nm c.toNat = v) (hv0 : 0 ≤ v) (hv1 : v ≤ 15) (hf : b = false → v = 0) :
    Calls Try.prog 7 #[.int .u8 c.toNat] w fun e w' => e = .returned (.bool true) ∧ Below w.heap.size w w' := by
  have hc := c.toNat_lt
  have q1 := Lib.hid (nm_hx (c.toNat / 16) (by omega))
  have q2 := Lib.hid (nm_hx (c.toNat % 16) (by omega))
  have HD := Lib.hid hd
  have HN := Lib.hid hn
  have HL1 := Lib.hid (dig_low (c.toNat / 16))
  have HL2 := Lib.hid (dig_low (c.toNat % 16))
  have hsum : 16 * (((c.toNat / 16 : Nat)) : Int) + ((c.toNat % 16 : Nat) : Int) = c.toNat := by omega
  have g0 := at0 (hx (c.toNat / 16)) (hx (c.toNat % 16))
  have g1 := at1 (hx (c.toNat / 16)) (hx (c.toNat % 16))
  clear hd hn
  cases b
  · obtain rfl := hf rfl
    clear hf hv0 hv1
    have HI : Hid ((decide (((⟨#[c]⟩ : ByteArray).size : Int) = 1) && allD (⟨#[c]⟩ : ByteArray).data.toList) = false) := by
      unfold Hid
      simp [allD, dig, HD.out]
    go_enter Try.func7, Try.ntmps7
    go_wp2_with (first
      | (go_at_call 10; refine (alive_any _).mono ?_; rintro e w1 ⟨rfl, hb1⟩)
      | (go_at_call 11; refine (put_one (some ⟨w1.heap.size, 0, none⟩) 1 c _ (RdA.newS w1 5 [c])).mono ?_; rintro e w2 ⟨rfl, hb2⟩)
      | (go_at_call 9; (with_reducible refine (digit_yes (hx (c.toNat / 16)).toNat _ _ (by omega) HL1.out q1.out.1 q1.out.2).mono ?_); rintro e w3 ⟨rfl, hb3⟩)
      | (go_at_call 9; (with_reducible refine (digit_yes (hx (c.toNat % 16)).toNat _ _ (by omega) HL2.out q2.out.1 q2.out.2).mono ?_); rintro e w4 ⟨rfl, hb4⟩)
      | (go_at_call 9; (with_reducible refine (digit_no c.toNat _ (by omega) (by omega) HD.out).mono ?_); rintro e w5 ⟨rfl, hb5⟩; have hcv := conv_one (P := Try.prog) w5 c Try.underlying22 Try.underlying5 Try.underlying9)
      | (go_at_call 12; refine (is_b _ _ _ _ HI.out).mono ?_; rintro e w6 ⟨rfl, hb6⟩)
      | fail)
    go_ret
    exact ⟨rfl, stp (stpA (stp (stp (stp (stp (stpA hb1 _) hb2) hb3) hb4) hb5) _) hb6⟩
  · clear hf
    have HI : Hid ((decide (((⟨#[c]⟩ : ByteArray).size : Int) = 1) && allD (⟨#[c]⟩ : ByteArray).data.toList) = true) := by
      unfold Hid
      simp [allD, dig, HD.out]
      rfl
    go_enter Try.func7, Try.ntmps7
    go_wp2_with (first
      | (go_at_call 10; refine (alive_any _).mono ?_; rintro e w1 ⟨rfl, hb1⟩)
      | (go_at_call 11; refine (put_one (some ⟨w1.heap.size, 0, none⟩) 1 c _ (RdA.newS w1 5 [c])).mono ?_; rintro e w2 ⟨rfl, hb2⟩)
      | (go_at_call 9; (with_reducible refine (digit_yes (hx (c.toNat / 16)).toNat _ _ (by omega) HL1.out q1.out.1 q1.out.2).mono ?_); rintro e w3 ⟨rfl, hb3⟩)
      | (go_at_call 9; (with_reducible refine (digit_yes (hx (c.toNat % 16)).toNat _ _ (by omega) HL2.out q2.out.1 q2.out.2).mono ?_); rintro e w4 ⟨rfl, hb4⟩)
      | (go_at_call 9; (with_reducible refine (digit_yes c.toNat v _ (by omega) (by omega) HN.out HD.out).mono ?_); rintro e w5 ⟨rfl, hb5⟩; have hcv := conv_one (P := Try.prog) w5 c Try.underlying22 Try.underlying5 Try.underlying9)
      | (go_at_call 12; refine (is_b _ _ _ _ HI.out).mono ?_; rintro e w6 ⟨rfl, hb6⟩)
      | fail)
    go_ret
    exact ⟨rfl, stp (stpA (stp (stp (stp (stp (stpA hb1 _) hb2) hb3) hb4) hb5) _) hb6⟩

theorem walk (a0 : Int) (w : World) (w0 : (Lit.int .u8 a0).wf = true) :
    Calls Try.prog 7 #[.int .u8 a0] w fun e w' => e = .returned (.bool true) ∧ Below w.heap.size w w' := by
  obtain ⟨h0, h1⟩ := bounds_u8 w0
  obtain ⟨c, rfl⟩ : ∃ c : UInt8, a0 = c.toNat := ⟨a0.toNat.toUInt8, by simp; omega⟩
  exact walkB c _ _ w rfl rfl (nm_bd _).1 (nm_bd _).2 (nm_none _)

set_option maxRecDepth 100000 in
theorem lifted (os : Os) (started : os.Started) (H : Type) (enc : TypeId × Value → H) :
    ReturnsInHanded {} Try.checked os 7 .any (Rows.hexDigitsSpec.pre6 enc Try.prog Try.f7 Rows.hexDigitsRow.domain false) (Rows.hexDigitsSpec.post enc Try.prog Try.f7 false true false false) := by
  refine returnsInHanded_of_change (C := Try.checked) own started (by kernel_rfl) Try.func7
    (ChangeSpec.witness6 (enc := enc) (C := Try.checked) false ⟨#[], #[.int .u8 0], []⟩ 8 (by kernel_rfl) (by kernel_rfl) (by kernel_rfl) (by kernel_rfl)) ?_
  intro W base args ds gs before hval0 hW hcnd _
  have hval : ∀ (j : Nat) t v, Try.f7.params[j]? = some t → args[j]? = some v → Value.okWide Try.prog W .any base t v := hval0
  have hW' := hW
  obtain ⟨p, q, hA0, hV, rfl, hfz, hnd⟩ := hW
  have hA : DataW.TrodAll enc Try.prog W 0 (fun _ => true) true Try.f7.params.toList args.toList ds p := hA0
  rw [Try.params7] at hA hval
  obtain ⟨v0, vs0, d0, ds0, p0, q0, hargs, rfl, rfl, h0, r0⟩ := trodAll_cons hA
  obtain ⟨rfl, rfl, rfl⟩ := trodAll_nil r0
  obtain rfl : args = #[v0] := by cases args; simp_all
  obtain ⟨rfl, rfl⟩ := trodVars_none hV
  obtain ⟨a0, rfl, rfl, rfl, w0⟩ := open_int Try.underlying5 (hval 0 5 v0 rfl rfl) h0
  clear hA0 hval0
  refine (walk a0 W w0).mono fun e W' ⟨he, bel⟩ => ?_
  subst he
  exact ⟨_, rfl, _, _, _, [], _, [], hW', trodAll_mk1 (shut_bool Try.underlying4 _), (trodAll_cons_mk (shut_int Try.underlying5 w0) trodAll_mk0), rfl, bel.frame _, fun h => by cases h⟩

theorem over : Rows.hexDigitsRow.holds Try.pinned (OpenSpec.ofChange Rows.hexDigitsSpec) :=
  OpenClaim.holds_of_wide 7 Try.f7 rfl rfl rfl rfl rfl rfl rfl ⟨rfl, rfl, rfl, rfl, rfl⟩ rfl rfl rfl rfl rfl (by kernel_rfl) Try.func7 (by kernel_rfl)
    (of_decide_eq_true (by kernel_rfl)) (by unfold Func.isWrapper; first | (rw [if_pos (by decide +kernel)]; kernel_rfl) | (rw [if_neg (by decide +kernel)]; exact ⟨rfl, rfl⟩))
    (fun os started H enc _ => lifted os started H enc)

theorem proved : Rows.HexDigitsSaid := over
end Go.Proofs.Ytmgdhkgkjimmoaa.hexDigits
