/-
  The limit's and the errors' numbers, and the chapter's examples, are as the chapter says. No condition.
-/
import Derived.Test.YtfdffmfochdacaaWordD
import Derived.WalkKit
import Derived.ProofKit
import Derived.OpenShut
import Derived.ShutString
import Derived.ChangeOld
import Derived.Below
namespace Go.Proofs.Ytfdffmfochdacaa.wordNames
open Go.ChangeShapes Go.WideShapes Go.ChangeAt Go.RowKit
open Go.ChangeMaps (open_string shut_string)
open Hx Wd
set_option linter.unusedVariables false

theorem own : ownKnob Try.prog.godebug = none := by kernel_rfl
theorem laidOut : laidOutB Try.prog = true := by kernel_rfl

theorem of_one (w : World) : Calls Try.prog 9 #[.slice (some ⟨w.heap.size, 0, none⟩) 1 1] (w.alloc (.cells #[.int .u8 1] 5)) fun e w' => e = .returned (.tuple #[.slice none 0 0, .int .i64 2]) ∧ Below (w.alloc (.cells #[.int .u8 1] 5)).heap.size (w.alloc (.cells #[.int .u8 1] 5)) w' := of_arg _ 1 1 _ (by decide) (by decide)
def Of0 (W : World) (e : Ending) (w' : World) : Prop := Below W.heap.size W w' ∧ ∃ A c, e = .returned (.tuple #[.slice A 0 c, .int .i64 0])
theorem of_nil (w : World) : Calls Try.prog 9 #[.slice none 0 0] w (Of0 w) :=
  (of_ok none 0 0 [] w (RdA.nil _ _ _) rfl (by decide) (by decide)).mono fun _ _ ⟨hb, A, c, he, _⟩ => ⟨hb, A, c, he⟩
def By1 (W : World) (e : Ending) (w' : World) : Prop := Below W.heap.size W w' ∧ ∃ A c, e = .returned (.slice A 4 c) ∧ RdA w' w'.heap.size A [0, 0, 1, 2]
theorem bytes_258 (w : World) : Calls Try.prog 10 #[.slice (some ⟨w.heap.size, 0, none⟩) 1 1] (w.alloc (.cells #[.int .u32 258] 28)) (By1 (w.alloc (.cells #[.int .u32 258] 28))) :=
  (bytes_any (some ⟨w.heap.size, 0, none⟩) 1 1 [258#32] _ (RdG.newS w 28 [258#32]) rfl (by decide)).mono fun _ _ ⟨hb, A, c, he, hr⟩ => ⟨hb, A, c, he, hr⟩
theorem chs_12 (w : World) : Calls Try.prog 11 #[.int .u32 12, .int .u32 10, .int .u32 9] w fun e w' => e = .returned (.int .u32 9) ∧ Below w.heap.size w w' := chs_v 12#32 10#32 9#32 9#32 w (by decide)
theorem odd_12 (w : World) : Calls Try.prog 12 #[.int .u32 12, .int .u32 10, .int .u32 9] w fun e w' => e = .returned (.int .u32 15) ∧ Below w.heap.size w w' := odd_v 12#32 10#32 9#32 15#32 w (by decide)
theorem mst_12 (w : World) : Calls Try.prog 13 #[.int .u32 12, .int .u32 10, .int .u32 9] w fun e w' => e = .returned (.int .u32 8) ∧ Below w.heap.size w w' := mst_v 12#32 10#32 9#32 8#32 w (by decide)
theorem sum_two (w : World) : Calls Try.prog 15 #[.slice (some ⟨w.heap.size, 0, none⟩) 2 2] (w.alloc (.cells #[.int .u32 4294967295, .int .u32 2] 28)) fun e w' => e = .returned (.int .u32 1) ∧ w.alloc (.cells #[.int .u32 4294967295, .int .u32 2] 28) = w' :=
  sum_any (some ⟨w.heap.size, 0, none⟩) 2 2 [4294967295#32, 2#32] _ (RdG.newS w 28 [4294967295#32, 2#32]) rfl (by decide)
theorem sum_nil (w : World) : Calls Try.prog 15 #[.slice none 0 0] w fun e w' => e = .returned (.int .u32 0) ∧ w = w' := sum_any none 0 0 [] w (RdG.nil _ _ _) rfl (by decide)

set_option maxHeartbeats 4000000 in
set_option maxRecDepth 100000 in
theorem walk (w : World) :
    Calls Try.prog 3 #[] w fun e w' => e = .returned (.bool true) ∧ Below w.heap.size w w' := by
  obtain ⟨i0, hi, hz0, hz1, hz2⟩ := info_parts info5
  have HI := Lib.hid hi
  have HZ0 := Lib.hid hz0
  have HZ1 := Lib.hid hz1
  have HZ2 := Lib.hid hz2
  clear hi hz0 hz1 hz2
  have hb0 := stpA (Below.refl w.heap.size w) (.cells #[.int .u8 1] 5)
  go_enter Try.func3, Try.ntmps3
  go_wp2_with (first
    | (go_at_call 9; (with_reducible refine (of_one w).mono ?_); rintro e w1 ⟨rfl, hb1⟩; have hb1' := stp hb0 hb1)
    | (at_make; refine wpList_make_full _ rfl _ _ 26 rfl w.heap.size 5 i0 (.int .u8 0) 1 Try.underlying26 HI.out HZ0.out HZ1.out .i64 .i64 _ _ 16388 rfl rfl rfl rfl (by rw [HZ2.out]; decide) (by decide) hb1'.size ?_; intro w2 hown hgr; have hb2' := hb1'.grown hgr hb1'.size (by simp); clear hown hgr)
    | (go_at_call 9; (with_reducible refine (of_many _ 16388 16388 w2 (by decide)).mono ?_); rintro e w3 ⟨rfl, hb3⟩; have hb3' := stp hb2' hb3)
    | (go_at_call 9; (with_reducible refine (of_nil w3).mono ?_); rintro e w4 ⟨hb4, A4, c4, rfl⟩; have hb4' := stp hb3' hb4; have hb4a := stpA hb4' (.cells #[.int .u32 258] 28))
    | (go_at_call 10; (with_reducible refine (bytes_258 w4).mono ?_); rintro e w5 ⟨hb5, A5, c5, rfl, hr5⟩; have hb5' := stp hb4a hb5; have HR5 := Lib.hid hr5; clear hr5)
    | (go_at_call 11; (with_reducible refine (chs_12 w5).mono ?_); rintro e w6 ⟨rfl, hb6⟩; have hb6' := stp hb5' hb6)
    | (go_at_call 12; (with_reducible refine (odd_12 w6).mono ?_); rintro e w7 ⟨rfl, hb7⟩; have hb7' := stp hb6' hb7)
    | (go_at_call 13; (with_reducible refine (mst_12 w7).mono ?_); rintro e w8 ⟨rfl, hb8⟩; have hb8' := stp hb7' hb8)
    | (go_at_call 14; (with_reducible refine (alive_any w8).mono ?_); rintro e w9 ⟨rfl, hb9⟩; have hb9' := stp hb8' hb9; have hb59 := stp (stp (stp hb6 hb7) hb8) hb9; have cv := conv_str (P := Try.prog) (c := c5) (n := 4) (HR5.out.below hb59) rfl Try.underlying26 Try.underlying5 Try.underlying9; have hb9a := stpA hb9' (.cells #[.int .u32 4294967295, .int .u32 2] 28))
    | (go_at_call 15; (with_reducible refine (sum_two w9).mono ?_); rintro e w' ⟨rfl, rfl⟩)
    | (go_at_call 15; (with_reducible refine (sum_nil _).mono ?_); rintro e w' ⟨rfl, rfl⟩)
    | fail)
  go_ret
  exact ⟨rfl, hb9a⟩

set_option maxRecDepth 100000 in
theorem lifted (os : Os) (started : os.Started) (H : Type) (enc : TypeId × Value → H) :
    ReturnsInHanded {} Try.checked os 3 .any (Rows.wordNamesSpec.pre6 enc Try.prog Try.f3 Rows.wordNamesRow.domain false) (Rows.wordNamesSpec.post enc Try.prog Try.f3 false true false false) := by
  refine returnsInHanded_of_change (C := Try.checked) own started (by kernel_rfl) Try.func3
    (ChangeSpec.witness6 (enc := enc) (C := Try.checked) false ⟨#[], #[], []⟩ 8 (by kernel_rfl) (by kernel_rfl) (by kernel_rfl) (by kernel_rfl)) ?_
  intro W base args ds gs before hval0 hW hcnd _
  have hval : ∀ (j : Nat) t v, Try.f3.params[j]? = some t → args[j]? = some v → Value.okWide Try.prog W .any base t v := hval0
  have hW' := hW
  obtain ⟨p, q, hA0, hV, rfl, hfz, hnd⟩ := hW
  have hA : DataW.TrodAll enc Try.prog W 0 (fun _ => true) true Try.f3.params.toList args.toList ds p := hA0
  rw [Try.params3] at hA hval
  obtain ⟨rfl, rfl, rfl⟩ := trodAll_none hA
  obtain ⟨rfl, rfl⟩ := trodVars_none hV
  clear hA0 hval0
  refine (walk  W ).mono fun e W' ⟨he, bel⟩ => ?_
  subst he
  exact ⟨_, rfl, _, _, _, [], _, [], hW', trodAll_mk1 (shut_bool Try.underlying4 _), hA, rfl, bel.frame _, fun h => by cases h⟩

theorem over : Rows.wordNamesRow.holds Try.pinned (OpenSpec.ofChange Rows.wordNamesSpec) :=
  OpenClaim.holds_of_wide 3 Try.f3 rfl rfl rfl rfl rfl rfl rfl ⟨rfl, rfl, rfl, rfl, rfl⟩ rfl rfl rfl rfl rfl (by kernel_rfl) Try.func3 (by kernel_rfl)
    (of_decide_eq_true (by kernel_rfl)) (by unfold Func.isWrapper; first | (rw [if_pos (by decide +kernel)]; kernel_rfl) | (rw [if_neg (by decide +kernel)]; exact ⟨rfl, rfl⟩))
    (fun os started H enc _ => lifted os started H enc)

theorem proved : Rows.WordNamesSaid := over
end Go.Proofs.Ytfdffmfochdacaa.wordNames
