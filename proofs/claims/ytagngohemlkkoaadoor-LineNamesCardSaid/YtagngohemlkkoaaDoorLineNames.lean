/-
  LineNames: the errors have the numbers that the chapter names, and its examples are as it tells: the law returns true; no condition but that the library's listed tables hold what its text lays (the card ties them).
-/
import Derived.Test.YtagngohemlkkoaaDoorLinJ
import Derived.Test.YtagngohemlkkoaaDoorCards
import Derived.Test.YtagngohemlkkoaaDoorTie
import Derived.LaidMore
import Derived.LaidSub
import Derived.MakeChecks
import Derived.Stop.Joined
import Derived.Lib.LaidTab
import Derived.SevenTiedAt
import Derived.WalkKit
import Derived.ProofKit
import Derived.OpenShut
import Derived.ShutString
import Derived.ChangeOld
import Derived.Below
namespace Go.Proofs.YtagngohemlkkoaaDoor.lineNames
open Go.ChangeShapes Go.WideShapes Go.ChangeAt Go.RowKit
open Go.ChangeMaps (open_string shut_string)
open Hx Ln As Nmb
set_option linter.unusedVariables false

theorem own : ownKnob Tryd.prog.godebug = none := by kernel_rfl
theorem laidOut : laidOutB Tryd.prog = true := by kernel_rfl

set_option linter.unusedVariables false
set_option linter.unusedSimpArgs false
theorem lj0 : parseL (⟨#[71, 69, 84, 32, 47, 120, 32, 72, 84, 84, 80, 47, 49, 46, 48]⟩ : ByteArray).data.toList = some (mkL ⟨#[71, 69, 84]⟩ ⟨#[47, 120]⟩ (1 : Nat) (0 : Nat)) := by kernel_rfl
theorem lw0 : judgedL (mkL ⟨#[71, 69, 84]⟩ ⟨#[47, 120]⟩ (1 : Nat) (0 : Nat)) = 505 := by decide
theorem lj1 : parseL (⟨#[71, 69, 84, 32, 47, 120, 32, 72, 84, 84, 80, 47, 49, 46, 49]⟩ : ByteArray).data.toList = some (mkL ⟨#[71, 69, 84]⟩ ⟨#[47, 120]⟩ (1 : Nat) (1 : Nat)) := by kernel_rfl
theorem lw1 : judgedL (mkL ⟨#[71, 69, 84]⟩ ⟨#[47, 120]⟩ (1 : Nat) (1 : Nat)) = 404 := by decide
theorem lj2 : parseL (⟨#[71, 69, 84, 32, 47, 104, 116, 116, 112, 45, 98, 105, 110, 100, 32, 72, 84, 84, 80, 47, 49, 46, 49]⟩ : ByteArray).data.toList = some (mkL ⟨#[71, 69, 84]⟩ ⟨#[47, 104, 116, 116, 112, 45, 98, 105, 110, 100]⟩ (1 : Nat) (1 : Nat)) := by kernel_rfl
theorem lw2 : judgedL (mkL ⟨#[71, 69, 84]⟩ ⟨#[47, 104, 116, 116, 112, 45, 98, 105, 110, 100]⟩ (1 : Nat) (1 : Nat)) = 405 := by decide
theorem lj3 : parseL (⟨#[112, 111, 115, 116, 32, 47, 104, 116, 116, 112, 45, 98, 105, 110, 100, 32, 72, 84, 84, 80, 47, 49, 46, 49]⟩ : ByteArray).data.toList = some (mkL ⟨#[112, 111, 115, 116]⟩ ⟨#[47, 104, 116, 116, 112, 45, 98, 105, 110, 100]⟩ (1 : Nat) (1 : Nat)) := by kernel_rfl
theorem lw3 : judgedL (mkL ⟨#[112, 111, 115, 116]⟩ ⟨#[47, 104, 116, 116, 112, 45, 98, 105, 110, 100]⟩ (1 : Nat) (1 : Nat)) = 405 := by decide
theorem lo0 : parseL (⟨#[80, 79, 83, 84, 32, 32, 47, 104, 116, 116, 112, 45, 98, 105, 110, 100, 32, 72, 84, 84, 80, 47, 49, 46, 49]⟩ : ByteArray).data.toList = none := by kernel_rfl
theorem lo1 : parseL (⟨#[80, 79, 83, 84, 32, 47, 97, 32, 98, 32, 72, 84, 84, 80, 47, 49, 46, 49]⟩ : ByteArray).data.toList = none := by kernel_rfl
theorem lo2 : parseL (⟨#[80, 79, 83, 84, 32, 47, 32, 72, 84, 84, 80, 47, 49, 49]⟩ : ByteArray).data.toList = none := by kernel_rfl
theorem lo3 : parseL (⟨#[]⟩ : ByteArray).data.toList = none := by kernel_rfl
theorem lo4 : parseL (⟨#[80, 79, 83, 84, 32, 47, 104, 116, 116, 112, 45, 98, 105, 110, 100, 32, 72, 84, 84, 80, 47, 49, 46, 49, 32]⟩ : ByteArray).data.toList = none := by kernel_rfl
theorem lo5 : parseL (⟨#[80, 58, 84, 32, 47, 32, 72, 84, 84, 80, 47, 49, 46, 49]⟩ : ByteArray).data.toList = none := by kernel_rfl
theorem lo6 : parseL (⟨#[80, 79, 83, 84, 32, 47, 195, 32, 72, 84, 84, 80, 47, 49, 46, 49]⟩ : ByteArray).data.toList = none := by kernel_rfl
theorem lo7 : parseL (⟨#[80, 79, 83, 84, 32, 47, 32, 104, 116, 116, 112, 47, 49, 46, 49]⟩ : ByteArray).data.toList = none := by kernel_rfl
theorem lo8 : parseL (⟨#[80, 79, 83, 84, 32, 47, 32, 72, 84, 84, 80, 47, 49, 46, 97]⟩ : ByteArray).data.toList = none := by kernel_rfl
set_option maxHeartbeats 8000000 in
set_option maxRecDepth 100000 in
theorem walk (w : World) (hT : Tb w) :
    Calls Tryd.prog 3 #[] w fun e w' => e = .returned (.bool true) ∧ Below w.heap.size w w' := by
  have HJ0 := Lib.hid fun W => judges15 ⟨#[71, 69, 84, 32, 47, 120, 32, 72, 84, 84, 80, 47, 49, 46, 48]⟩ ⟨#[71, 69, 84]⟩ ⟨#[47, 120]⟩ 1 0 505 W (by decide) lj0 lw0
  have HJ1 := Lib.hid fun W => judges15 ⟨#[71, 69, 84, 32, 47, 120, 32, 72, 84, 84, 80, 47, 49, 46, 49]⟩ ⟨#[71, 69, 84]⟩ ⟨#[47, 120]⟩ 1 1 404 W (by decide) lj1 lw1
  have HJ2 := Lib.hid fun W => judges15 ⟨#[71, 69, 84, 32, 47, 104, 116, 116, 112, 45, 98, 105, 110, 100, 32, 72, 84, 84, 80, 47, 49, 46, 49]⟩ ⟨#[71, 69, 84]⟩ ⟨#[47, 104, 116, 116, 112, 45, 98, 105, 110, 100]⟩ 1 1 405 W (by decide) lj2 lw2
  have HJ3 := Lib.hid fun W => judges15 ⟨#[112, 111, 115, 116, 32, 47, 104, 116, 116, 112, 45, 98, 105, 110, 100, 32, 72, 84, 84, 80, 47, 49, 46, 49]⟩ ⟨#[112, 111, 115, 116]⟩ ⟨#[47, 104, 116, 116, 112, 45, 98, 105, 110, 100]⟩ 1 1 405 W (by decide) lj3 lw3
  have HO0 := Lib.hid fun W => odd15 ⟨#[80, 79, 83, 84, 32, 32, 47, 104, 116, 116, 112, 45, 98, 105, 110, 100, 32, 72, 84, 84, 80, 47, 49, 46, 49]⟩ W (by decide) lo0
  have HO1 := Lib.hid fun W => odd15 ⟨#[80, 79, 83, 84, 32, 47, 97, 32, 98, 32, 72, 84, 84, 80, 47, 49, 46, 49]⟩ W (by decide) lo1
  have HO2 := Lib.hid fun W => odd15 ⟨#[80, 79, 83, 84, 32, 47, 32, 72, 84, 84, 80, 47, 49, 49]⟩ W (by decide) lo2
  have HO3 := Lib.hid fun W => odd15 ⟨#[]⟩ W (by decide) lo3
  have HO4 := Lib.hid fun W => odd15 ⟨#[80, 79, 83, 84, 32, 47, 104, 116, 116, 112, 45, 98, 105, 110, 100, 32, 72, 84, 84, 80, 47, 49, 46, 49, 32]⟩ W (by decide) lo4
  have HO5 := Lib.hid fun W => odd15 ⟨#[80, 58, 84, 32, 47, 32, 72, 84, 84, 80, 47, 49, 46, 49]⟩ W (by decide) lo5
  have HO6 := Lib.hid fun W => odd15 ⟨#[80, 79, 83, 84, 32, 47, 195, 32, 72, 84, 84, 80, 47, 49, 46, 49]⟩ W (by decide) lo6
  have HO7 := Lib.hid fun W => odd15 ⟨#[80, 79, 83, 84, 32, 47, 32, 104, 116, 116, 112, 47, 49, 46, 49]⟩ W (by decide) lo7
  have HO8 := Lib.hid fun W => odd15 ⟨#[80, 79, 83, 84, 32, 47, 32, 72, 84, 84, 80, 47, 49, 46, 97]⟩ W (by decide) lo8
  have HA : Hid (∀ W, Below w.heap.size w W → Calls Tryd.prog 11 #[] W fun e w' => e = .returned (.bool true) ∧ Below W.heap.size W w') := Lib.hid fun W hW => alive15 W (hT.to hW)
  have HS5 : Hid (∀ W, Below w.heap.size w W → Calls Tryd.prog 9 #[.int .i64 505] W fun e w' => e = .returned (.tuple #[.string ⟨#[72, 84, 84, 80, 47, 49, 46, 49, 32, 53, 48, 53, 32, 72, 84, 84, 80, 32, 86, 101, 114, 115, 105, 111, 110, 32, 78, 111, 116, 32, 83, 117, 112, 112, 111, 114, 116, 101, 100, 13, 10]⟩, .int .i64 0]) ∧ Below W.heap.size W w') := Lib.hid fun W hW => status15 505 _ 0 W stat_505 (hT.to hW)
  have HS0 : Hid (∀ W, Below w.heap.size w W → Calls Tryd.prog 9 #[.int .i64 500] W fun e w' => e = .returned (.tuple #[.string ⟨#[]⟩, .int .i64 2]) ∧ Below W.heap.size W w') := Lib.hid fun W hW => status15 500 _ 2 W stat_500 (hT.to hW)
  have HG := Lib.hid fun W => judge15 ⟨#[]⟩ ⟨#[]⟩ 0 0 0 8 W (by decide) (by decide) (judge_no zero_no)
  clear hT
  go_enter Tryd.func3, Tryd.ntmps3
  go_wp2_with (first
    | (go_at_call 7; (with_reducible refine (HJ0.out _).mono ?_); rintro e w1 ⟨rfl, hb1⟩; have HB1 := Lib.hid (stp (Below.refl w.heap.size w) hb1); clear hb1)
    | (go_at_call 7; (with_reducible refine (HJ1.out _).mono ?_); rintro e w2 ⟨rfl, hb2⟩; have HB2 := Lib.hid (stp HB1.out hb2); clear hb2)
    | (go_at_call 7; (with_reducible refine (HJ2.out _).mono ?_); rintro e w3 ⟨rfl, hb3⟩; have HB3 := Lib.hid (stp HB2.out hb3); clear hb3)
    | (go_at_call 7; (with_reducible refine (HJ3.out _).mono ?_); rintro e w4 ⟨rfl, hb4⟩; have HB4 := Lib.hid (stp HB3.out hb4); clear hb4)
    | (go_at_call 8; (with_reducible refine (HO0.out _).mono ?_); rintro e w5 ⟨rfl, hb5⟩; have HB5 := Lib.hid (stp HB4.out hb5); clear hb5)
    | (go_at_call 8; (with_reducible refine (HO1.out _).mono ?_); rintro e w6 ⟨rfl, hb6⟩; have HB6 := Lib.hid (stp HB5.out hb6); clear hb6)
    | (go_at_call 8; (with_reducible refine (HO2.out _).mono ?_); rintro e w7 ⟨rfl, hb7⟩; have HB7 := Lib.hid (stp HB6.out hb7); clear hb7)
    | (go_at_call 8; (with_reducible refine (HO3.out _).mono ?_); rintro e w8 ⟨rfl, hb8⟩; have HB8 := Lib.hid (stp HB7.out hb8); clear hb8)
    | (go_at_call 8; (with_reducible refine (HO4.out _).mono ?_); rintro e w9 ⟨rfl, hb9⟩; have HB9 := Lib.hid (stp HB8.out hb9); clear hb9)
    | (go_at_call 8; (with_reducible refine (HO5.out _).mono ?_); rintro e w10 ⟨rfl, hb10⟩; have HB10 := Lib.hid (stp HB9.out hb10); clear hb10)
    | (go_at_call 8; (with_reducible refine (HO6.out _).mono ?_); rintro e w11 ⟨rfl, hb11⟩; have HB11 := Lib.hid (stp HB10.out hb11); clear hb11)
    | (go_at_call 8; (with_reducible refine (HO7.out _).mono ?_); rintro e w12 ⟨rfl, hb12⟩; have HB12 := Lib.hid (stp HB11.out hb12); clear hb12)
    | (go_at_call 8; (with_reducible refine (HO8.out _).mono ?_); rintro e w13 ⟨rfl, hb13⟩; have HB13 := Lib.hid (stp HB12.out hb13); clear hb13)
    | (go_at_call 9; (with_reducible refine (HS0.out _ HB13.out).mono ?_); rintro e w14 ⟨rfl, hb14⟩; have HB14 := Lib.hid (stp HB13.out hb14); clear hb14)
    | (go_at_call 9; (with_reducible refine (HS5.out _ HB14.out).mono ?_); rintro e w15 ⟨rfl, hb15⟩; have HB15 := Lib.hid (stp HB14.out hb15); clear hb15)
    | (go_at_call 10; (with_reducible refine (HG.out _).mono ?_); rintro e w16 ⟨rfl, hb16⟩; have HB16 := Lib.hid (stp HB15.out hb16); clear hb16)
    | (go_at_call 11; (with_reducible refine (HA.out _ HB16.out).mono ?_); rintro e w17 ⟨rfl, hb17⟩; have HB17 := Lib.hid (stp HB16.out hb17); clear hb17)
    | fail)
  go_ret
  exact ⟨rfl, HB17.out⟩

theorem gTab : Tryd.prog.globalNamed "internal/strconv.uint64pow10" = some 0 := by kernel_rfl
theorem gTabType : (Tryd.prog.globals[0]?).map (·.type) = some 94 := by kernel_rfl
/-- What the row's list gives. -/
theorem table {W : World} (h : laidMetH Tryd.prog Rows.lineNamesRow.laid W) : Tb W := by
  rw [MakeChecks.laidMetH_plain _ _ _ (by kernel_rfl)] at h
  have h2 := laidMet.filter (fun x => x.1 == "internal/strconv.uint64pow10") h
  have e : Rows.lineNamesRow.laid.filter (fun x => x.1 == "internal/strconv.uint64pow10") = [("internal/strconv.uint64pow10", Lib.tabData .u64 Lib.pow10Tab)] := by kernel_rfl
  rw [e] at h2
  exact Lib.tabIs_of_head (rest := []) gTab gTabType Tryd.underlying94 Tryd.underlying84 (by kernel_rfl) (by kernel_rfl) h2
theorem door_met (os : Os) (args : Array Value) : laidMetH Tryd.prog Rows.lineNamesRow.laid ((World.doorLaid Tryd.prog 400 os).forCall (fun _ _ => 0) ⟨#[], args, []⟩).memory :=
  laidMetH_of_parts3 (fuel := 8) (laidMet_of_run' 8 (by kernel_rfl) (by kernel_rfl)) (by kernel_rfl) (by kernel_rfl)
set_option maxRecDepth 100000 in
theorem lifted (os : Os) (started : os.Started) (H : Type) (enc : TypeId × Value → H) :
    ReturnsInHanded {} Tryd.checked os 3 .any (fun w args => (Rows.lineNamesSpec.pre enc Tryd.prog Tryd.f3 [] false w args ∧ laidMetH Tryd.prog Rows.lineNamesRow.laid w) ∧ sizedMet enc Tryd.prog Tryd.f3 (OpenSpec.ofChange Rows.lineNamesSpec) false w args) (Rows.lineNamesSpec.post enc Tryd.prog Tryd.f3 false true false false) := by
  refine returnsInHanded_of_change_and (C := Tryd.checked) (X := fun w _ => laidMetH Tryd.prog Rows.lineNamesRow.laid w) (fun _ _ _ hh h => h.of_heap hh) own started (by kernel_rfl) Tryd.func3
    (ChangeSpec.witness_shaped (enc := enc) (C := Tryd.checked) (os := os) (X := fun w _ => laidMetH Tryd.prog Rows.lineNamesRow.laid w) false (World.doorLaid Tryd.prog 400 os) #[] 8 rfl (World.shaped_of_RefB (by kernel_rfl) (by kernel_rfl)) (by kernel_rfl) (by kernel_rfl) (by kernel_rfl) (door_met os _)) ?_
  intro W base args ds gs before hval0 hW _ _ hL _
  have hval : ∀ (j : Nat) t v, Tryd.f3.params[j]? = some t → args[j]? = some v → Value.okWide Tryd.prog W .any base t v := hval0
  have hW' := hW
  obtain ⟨p, q, hA0, hV, rfl, hfz, hnd⟩ := hW
  have hA : DataW.TrodAll enc Tryd.prog W 0 (fun _ => true) true Tryd.f3.params.toList args.toList ds p := hA0
  rw [Tryd.params3] at hA hval
  obtain ⟨rfl, rfl, rfl⟩ := trodAll_none hA
  obtain ⟨rfl, rfl⟩ := trodVars_none hV
  clear hA0 hval0
  refine (walk  W (table hL)).mono fun e W' ⟨he, bel⟩ => ?_
  subst he
  exact ⟨_, rfl, _, _, _, [], _, [], hW', trodAll_mk1 (shut_bool Tryd.underlying4 _), hA, rfl, bel.frame _, fun h => by cases h⟩

theorem over : Rows.lineNamesRow.holds Tryd.pinned (OpenSpec.ofChange Rows.lineNamesSpec) :=
  OpenClaim.holds_of_wide 3 Tryd.f3 rfl rfl rfl rfl rfl rfl rfl ⟨rfl, rfl, rfl, rfl, rfl⟩ rfl rfl rfl rfl rfl (by kernel_rfl) Tryd.func3 (by kernel_rfl)
    (of_decide_eq_true (by kernel_rfl)) (by unfold Func.isWrapper; first | (rw [if_pos (by decide +kernel)]; kernel_rfl) | (rw [if_neg (by decide +kernel)]; exact ⟨rfl, rfl⟩))
    (fun os started H enc _ => lifted os started H enc)

theorem said : Rows.LineNamesSaid := over
theorem plain (f : FuncId) (fn : Func) (hf : Tryd.pinned.checked.prog.funcNamed "tidewaiter/tidewaiterlaw15.LineNames" = some f) (hfn : Tryd.pinned.checked.prog.funcs[f]? = some fn) :
    false = Tryd.pinned.checked.prog.looks [] ∧ ∀ (j : Nat) t, fn.params[j]? = some t → Tryd.pinned.checked.prog.wantsStandIn t = false := by
  obtain rfl : f = 3 := Option.some.inj ((show Tryd.prog.funcNamed "tidewaiter/tidewaiterlaw15.LineNames" = some 3 by kernel_rfl).symm.trans hf) |>.symm
  obtain rfl : fn = Tryd.f3 := (Option.some.inj (Tryd.func3.symm.trans hfn)).symm
  refine ⟨by kernel_rfl, fun j t ht => ?_⟩
  rw [Tryd.params3] at ht
  simp at ht
theorem proved : Rows.LineNamesCardSaid :=
  Claim7.holds_tied_plain_at .later [] _ _ _ _ said (fun _ h => by cases h) (by kernel_rfl) (fun _ h => by cases h) lineNames_row_tie rfl ⟨rfl, rfl⟩ (by kernel_rfl) rfl plain (by kernel_rfl)
end Go.Proofs.YtagngohemlkkoaaDoor.lineNames
