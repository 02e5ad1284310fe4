/-
  The errors' numbers and the chapter's examples of package ascii hold; no condition.
-/
import Derived.Test.YtncklfmpnbdmcaaAscW
import Derived.WalkKit
import Derived.ProofKit
import Derived.OpenShut
import Derived.ShutString
import Derived.ChangeOld
import Derived.Below
namespace Go.Proofs.Ytncklfmpnbdmcaa.asciiNames
open Go.ChangeShapes Go.WideShapes Go.ChangeAt Go.RowKit
open Go.ChangeMaps (open_string shut_string)
open Hx As
set_option linter.unusedVariables false

theorem own : ownKnob Try.prog.godebug = none := by kernel_rfl
theorem laidOut : laidOutB Try.prog = true := by kernel_rfl

/-- "a", and so many times ",a". -/
def mkMany (k : Nat) : ByteArray := ⟨(97 :: (List.replicate k [44, 97]).flatten).toArray⟩
theorem mkMany_list (k : Nat) : (mkMany k).data.toList = 97 :: (List.replicate k [44, 97]).flatten := rfl
theorem mkMany_next (k : Nat) : mkMany k ++ ⟨#[44, 97]⟩ = mkMany (k + 1) := by
  refine ba_ext7 ?_
  rw [mkMany_list, List.replicate_succ', List.flatten_append, ← List.cons_append, ← mkMany_list]
  simp
theorem mkMany_size (k : Nat) : (mkMany k).size = 1 + 2 * k := by
  rw [← ba_len7, mkMany_list]
  simp
  omega
theorem nm_l1 (w : World) : Calls Try.prog 8 #[.string ⟨#[97, 32, 98]⟩] w (ListTo [] 0 8 w) := list7 _ _ _ _ w (by decide) (by decide +kernel) rfl (by decide +kernel)
theorem nm_l2 (m : ByteArray) (h : mkMany 15 = m) (w : World) : Calls Try.prog 8 #[.string m] w (ListTo (listS m) 16 0 w) := list7 _ _ _ _ w (by rw [← h]; decide +kernel) rfl (by rw [← h]; decide +kernel) (by rw [← h]; decide +kernel)
theorem nm_l3 (v : ByteArray) (h : mkMany 15 ++ ⟨#[44, 98, 32, 99]⟩ = v) (w : World) : Calls Try.prog 8 #[.string v] w (ListTo [] 0 4 w) := list7 _ _ _ _ w (by rw [← h]; decide +kernel) (by rw [← h]; decide +kernel) rfl (by rw [← h]; decide +kernel)
theorem nm_empty (w : World) : Calls Try.prog 11 #[.string ⟨#[]⟩, .slice none 0 0] w fun e w' => e = .returned (.bool true) ∧ Below w.heap.size w w' := lists_yes _ none 0 0 [] w (by decide) (by decide +kernel) (by decide +kernel) rfl (by decide) (RdG.nil _ _ _)
theorem nm_t0 (w : World) : Calls Try.prog 9 #[.string ⟨#[]⟩] w fun e w' => e = .returned (.bool false) ∧ Below w.heap.size w w' := token7 _ false w (by decide) (by decide +kernel)
theorem nm_t1 (w : World) : Calls Try.prog 9 #[.string ⟨#[97, 32, 98]⟩] w fun e w' => e = .returned (.bool false) ∧ Below w.heap.size w w' := token7 _ false w (by decide) (by decide +kernel)
theorem nm_t2 (w : World) : Calls Try.prog 9 #[.string ⟨#[97, 58]⟩] w fun e w' => e = .returned (.bool false) ∧ Below w.heap.size w w' := token7 _ false w (by decide) (by decide +kernel)
theorem nm_t3 (w : World) : Calls Try.prog 9 #[.string ⟨#[195, 169]⟩] w fun e w' => e = .returned (.bool false) ∧ Below w.heap.size w w' := token7 _ false w (by decide) (by decide +kernel)
theorem nm_t4 (w : World) : Calls Try.prog 9 #[.string ⟨#[33, 35, 36, 37, 38, 39, 42, 43, 45, 46, 94, 95, 96, 124, 126, 48, 57, 97, 122, 65, 90]⟩] w fun e w' => e = .returned (.bool true) ∧ Below w.heap.size w w' := token7 _ true w (by decide) (by decide +kernel)
theorem nm_p0 (w : World) : Calls Try.prog 12 #[.string ⟨#[97, 10]⟩] w fun e w' => e = .returned (.bool false) ∧ Below w.heap.size w w' := plain7 _ false w (by decide) (by decide +kernel)
theorem nm_p1 (w : World) : Calls Try.prog 12 #[.string ⟨#[127]⟩] w fun e w' => e = .returned (.bool false) ∧ Below w.heap.size w w' := plain7 _ false w (by decide) (by decide +kernel)
theorem nm_p2 (w : World) : Calls Try.prog 12 #[.string ⟨#[9, 128]⟩] w fun e w' => e = .returned (.bool true) ∧ Below w.heap.size w w' := plain7 _ true w (by decide) (by decide +kernel)
theorem nm_s (w : World) : Calls Try.prog 13 #[.string ⟨#[91]⟩, .string ⟨#[123]⟩] w fun e w' => e = .returned (.bool false) ∧ Below w.heap.size w w' := same7 _ _ false w (by decide) (by decide) (by decide +kernel)
set_option maxHeartbeats 4000000 in
set_option maxRecDepth 100000 in
theorem walk (w : World) :
    Calls Try.prog 3 #[] w fun e w' => e = .returned (.bool true) ∧ Below w.heap.size w w' := by
  go_enter Try.func3, Try.ntmps3
  go_wp2_with (first
    | (go_at_call 8; (with_reducible refine (nm_l1 w).mono ?_); rintro e w1 ⟨hb1, A1, c1, rfl, hz1, hr1⟩; have hB1 := hb1; clear hz1 hr1)
    | fail)
  obtain ⟨m0, hm0⟩ : ∃ m0, mkMany 0 = m0 := ⟨_, rfl⟩
  have hm0' : (⟨#[97]⟩ : ByteArray) = m0 := hm0
  have HM0 := Lib.hid hm0
  rw [hm0']
  clear hm0 hm0'
  go_loopg [3, 4] 15 (fun gg x i wr => ∃ (k : Nat) (u : ByteArray), k + gg = 15 ∧ i = .int .i64 k ∧ x = .string u ∧ mkMany k = u ∧ Below w.heap.size w wr)
  case atStart => exact ⟨0, m0, rfl, rfl, rfl, HM0.out, hb1⟩
  case round =>
    obtain ⟨k, u, hk, rfl, rfl, hu, hbw⟩ := hrel
    have HU := Lib.hid hu
    have HBW := Lib.hid hbw
    have husz : u.size = 1 + 2 * k := by rw [← hu]; exact mkMany_size k
    by_cases hlt : k < 15
    · obtain ⟨v, hv⟩ : ∃ v, u ++ (⟨#[44, 97]⟩ : ByteArray) = v := ⟨_, rfl⟩
      have HV : Hid (mkMany (k + 1) = v) := by show _ = _; rw [← hv, ← hu]; exact (mkMany_next k).symm
      have hcat : ∀ W, (Op.stringOp .add u ⟨#[44, 97]⟩).run Try.prog W = .ok (.string v) W := fun W => by rw [run_string_add_sum W u ⟨#[44, 97]⟩ (by show u.size + 2 ≤ _; omega), hv]
      clear hu hv hbw husz
      go_wp2_with fail
      go_roundg (gk - 1)
      case rel => exact ⟨k + 1, v, by omega, by go_num, rfl, HV.out, HBW.out⟩
      case measure => omega
    · obtain rfl : 15 = k := by omega
      obtain ⟨v, hv⟩ : ∃ v, u ++ (⟨#[44, 98, 32, 99]⟩ : ByteArray) = v := ⟨_, rfl⟩
      have hcat : ∀ W, (Op.stringOp .add u ⟨#[44, 98, 32, 99]⟩).run Try.prog W = .ok (.string v) W := fun W => by rw [run_string_add_sum W u ⟨#[44, 98, 32, 99]⟩ (by show u.size + 4 ≤ _; omega), hv]
      have HV : Hid (mkMany 15 ++ ⟨#[44, 98, 32, 99]⟩ = v) := by show _ = _; rw [hu]; exact hv
      clear hu hv hbw husz hb1
      go_wp2_with (first
        | (go_at_call 8; (with_reducible refine (nm_l2 u HU.out wr).mono ?_); rintro e v1 ⟨hb1, A2, c2, rfl, hz2, hr2⟩; have hB1 := stp HBW.out hb1; clear hz2 hr2)
        | (go_at_call 8; (with_reducible refine (nm_l3 v HV.out v1).mono ?_); rintro e v2 ⟨hb2, A3, c3, rfl, hz3, hr3⟩; have hB2 := stp hB1 hb2; clear hz3 hr3)
        | (go_at_call 9; (with_reducible refine (nm_t0 v2).mono ?_); rintro e v3 ⟨rfl, hb3⟩; have hB3 := stp hB2 hb3)
        | (go_at_call 9; (with_reducible refine (nm_t1 v3).mono ?_); rintro e v4 ⟨rfl, hb4⟩; have hB4 := stp hB3 hb4)
        | (go_at_call 9; (with_reducible refine (nm_t2 v4).mono ?_); rintro e v5 ⟨rfl, hb5⟩; have hB5 := stp hB4 hb5)
        | (go_at_call 9; (with_reducible refine (nm_t3 v5).mono ?_); rintro e v6 ⟨rfl, hb6⟩; have hB6 := stp hB5 hb6)
        | (go_at_call 9; (with_reducible refine (nm_t4 v6).mono ?_); rintro e v7 ⟨rfl, hb7⟩; have hB7 := stp hB6 hb7)
        | (go_at_call 10; (with_reducible refine (alive7 v7).mono ?_); rintro e v8 ⟨rfl, hb8⟩; have hB8 := stp hB7 hb8)
        | (go_at_call 11; (with_reducible refine (nm_empty v8).mono ?_); rintro e v9 ⟨rfl, hb9⟩; have hB9 := stp hB8 hb9)
        | (go_at_call 12; (with_reducible refine (nm_p0 v9).mono ?_); rintro e v10 ⟨rfl, hb10⟩; have hB10 := stp hB9 hb10)
        | (go_at_call 12; (with_reducible refine (nm_p1 v10).mono ?_); rintro e v11 ⟨rfl, hb11⟩; have hB11 := stp hB10 hb11)
        | (go_at_call 12; (with_reducible refine (nm_p2 v11).mono ?_); rintro e v12 ⟨rfl, hb12⟩; have hB12 := stp hB11 hb12)
        | (go_at_call 13; (with_reducible refine (nm_s v12).mono ?_); rintro e v13 ⟨rfl, hb13⟩; have hB13 := stp hB12 hb13)
        | fail)
      go_ret
      exact ⟨rfl, hB13⟩

set_option maxRecDepth 100000 in
theorem lifted (os : Os) (started : os.Started) (H : Type) (enc : TypeId × Value → H) :
    ReturnsInHanded {} Try.checked os 3 .any (Rows.asciiNamesSpec.pre6 enc Try.prog Try.f3 Rows.asciiNamesRow.domain false) (Rows.asciiNamesSpec.post enc Try.prog Try.f3 false true false false) := by
  refine returnsInHanded_of_change (C := Try.checked) own started (by kernel_rfl) Try.func3
    (ChangeSpec.witness6 (enc := enc) (C := Try.checked) false ⟨#[], #[], []⟩ 8 (by kernel_rfl) (by kernel_rfl) (by kernel_rfl) (by kernel_rfl)) ?_
  intro W base args ds gs before hval0 hW hcnd _
  have hval : ∀ (j : Nat) t v, Try.f3.params[j]? = some t → args[j]? = some v → Value.okWide Try.prog W .any base t v := hval0
  have hW' := hW
  obtain ⟨p, q, hA0, hV, rfl, hfz, hnd⟩ := hW
  have hA : DataW.TrodAll enc Try.prog W 0 (fun _ => true) true Try.f3.params.toList args.toList ds p := hA0
  rw [Try.params3] at hA hval
  obtain ⟨rfl, rfl, rfl⟩ := trodAll_none hA
  obtain ⟨rfl, rfl⟩ := trodVars_none hV
  clear hA0 hval0
  refine (walk  W ).mono fun e W' ⟨he, bel⟩ => ?_
  subst he
  exact ⟨_, rfl, _, _, _, [], _, [], hW', trodAll_mk1 (shut_bool Try.underlying4 _), hA, rfl, bel.frame _, fun h => by cases h⟩

theorem over : Rows.asciiNamesRow.holds Try.pinned (OpenSpec.ofChange Rows.asciiNamesSpec) :=
  OpenClaim.holds_of_wide 3 Try.f3 rfl rfl rfl rfl rfl rfl rfl ⟨rfl, rfl, rfl, rfl, rfl⟩ rfl rfl rfl rfl rfl (by kernel_rfl) Try.func3 (by kernel_rfl)
    (of_decide_eq_true (by kernel_rfl)) (by unfold Func.isWrapper; first | (rw [if_pos (by decide +kernel)]; kernel_rfl) | (rw [if_neg (by decide +kernel)]; exact ⟨rfl, rfl⟩))
    (fun os started H enc _ => lifted os started H enc)

theorem proved : Rows.AsciiNamesSaid := over
end Go.Proofs.Ytncklfmpnbdmcaa.asciiNames
