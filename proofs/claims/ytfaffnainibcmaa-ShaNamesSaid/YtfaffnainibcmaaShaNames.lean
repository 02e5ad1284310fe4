/-
  The limit's and error's numbers, and the chapter's examples of digests and of what stands behind a text, are as the document has them. No condition.
-/
import Derived.Test.YtfaffnainibcmaaShaF
import Derived.Deep.WholeRow
import Derived.WalkKit
import Derived.ProofKit
import Derived.OpenShut
import Derived.ShutString
import Derived.ChangeOld
import Derived.Below
namespace Go.Proofs.Ytfaffnainibcmaa.shaNames
open Go.ChangeShapes Go.WideShapes Go.ChangeAt Go.RowKit
open Go.ChangeMaps (open_string shut_string)
open Hx Wd Sh
set_option linter.unusedVariables false

theorem own : ownKnob Try.prog.godebug = none := by kernel_rfl
theorem laidOut : laidOutB Try.prog = true := by kernel_rfl

theorem pad_55 (w : World) : Calls Try.prog 9 #[.int .i64 55] w (PadOk [128, 0, 0, 0, 0, 0, 0, 1, 184] 9 w) := pad_ok 55 w (by decide) _ _ (by decide +kernel) rfl
theorem pad_56 (P : List UInt8) (w : World) (h : padL 56 = P) : Calls Try.prog 9 #[.int .i64 56] w (PadOk P 72 w) := pad_ok 56 w (by decide) P _ h (by rw [← h]; decide +kernel)
set_option maxHeartbeats 4000000 in
set_option maxRecDepth 100000 in
theorem walk (w : World) :
    Calls Try.prog 3 #[] w fun e w' => e = .returned (.bool true) ∧ Below w.heap.size w w' := by
  obtain ⟨i0, hi, hz0, hz1, hz2⟩ := info_parts info5
  have HI := Lib.hid hi
  have HZ0 := Lib.hid hz0
  have HZ1 := Lib.hid hz1
  have HZ2 := Lib.hid hz2
  clear hi hz0 hz1 hz2
  go_enter Try.func3, Try.ntmps3
  go_wp2_with (first
    | (at_make; refine wpList_make_full _ rfl _ _ 26 rfl w.heap.size 5 i0 (.int .u8 0) 1 Try.underlying26 HI.out HZ0.out HZ1.out .i64 .i64 _ _ 16385 rfl rfl rfl rfl (by rw [HZ2.out]; decide) (by decide) (Nat.le_refl _) ?_; intro w2 hown hgr; have hb2 := (Below.refl _ _).grown hgr (Nat.le_refl _) (by simp); clear hown hgr)
    | (go_at_call 8; (with_reducible refine (of_many64 _ 16385 16385 w2 (by decide)).mono ?_); rintro e w3 ⟨rfl, hb3⟩)
    | (refine wpList_store_row rfl _ _ _ rfl w3.heap.size z20 rfl rfl 22 z20 (heap_alloc_new _ _) size22 rfl z20_one ?_)
    | fail)
  rw [World.setRow_alloc_new]
  have hb4 := stpA (stp hb2 hb3) (.cells z20 22)
  obtain ⟨W4, hW4⟩ : ∃ W4, w3.alloc (.cells z20 22) = W4 := ⟨_, rfl⟩
  rw [hW4] at hb4 ⊢
  obtain ⟨P56, hP56⟩ : ∃ P, padL 56 = P := ⟨_, rfl⟩
  have HP6 := Lib.hid hP56
  clear hW4 hP56
  go_wp2_with (first
    | (go_at_call 9; (with_reducible refine (pad_many 16385 W4 (.inr (by decide))).mono ?_); rintro e w' ⟨rfl, rfl⟩)
    | (go_at_call 9; (with_reducible refine (pad_many (-1) W4 (.inl (by decide))).mono ?_); rintro e w' ⟨rfl, rfl⟩)
    | (go_at_call 9; (with_reducible refine (pad_55 W4).mono ?_); rintro e w5 ⟨hb5, g5, c5, rfl, hc5, hm5, hr5⟩; have HR5 := Lib.hid hr5; clear hr5)
    | (go_at_call 9; (with_reducible refine (pad_56 P56 w5 HP6.out).mono ?_); rintro e w6 ⟨hb6, g6, c6, rfl, hc6, hm6, hr6⟩; clear hr6)
    | (go_at_call 10; (with_reducible refine (is_long w6).mono ?_); rintro e w7 ⟨rfl, hb7⟩)
    | (go_at_call 11; (with_reducible refine (alive_any w7).mono ?_); rintro e w8 ⟨rfl, hb8⟩; have cv := conv_str (P := Try.prog) (n := 9) (c := c5) (HR5.out.below (stp (stp hb6 hb7) hb8)) rfl Try.underlying26 Try.underlying5 Try.underlying9)
    | fail)
  go_ret
  exact ⟨rfl, stp (stp (stp (stp hb4 hb5) hb6) hb7) hb8⟩

set_option maxRecDepth 100000 in
theorem lifted (os : Os) (started : os.Started) (H : Type) (enc : TypeId × Value → H) :
    ReturnsInHanded {} Try.checked os 3 .any (Rows.shaNamesSpec.pre6 enc Try.prog Try.f3 Rows.shaNamesRow.domain false) (Rows.shaNamesSpec.post enc Try.prog Try.f3 false true false false) := by
  refine returnsInHanded_of_change (C := Try.checked) own started (by kernel_rfl) Try.func3
    (ChangeSpec.witness6 (enc := enc) (C := Try.checked) false ⟨#[], #[], []⟩ 8 (by kernel_rfl) (by kernel_rfl) (by kernel_rfl) (by kernel_rfl)) ?_
  intro W base args ds gs before hval0 hW hcnd _
  have hval : ∀ (j : Nat) t v, Try.f3.params[j]? = some t → args[j]? = some v → Value.okWide Try.prog W .any base t v := hval0
  have hW' := hW
  obtain ⟨p, q, hA0, hV, rfl, hfz, hnd⟩ := hW
  have hA : DataW.TrodAll enc Try.prog W 0 (fun _ => true) true Try.f3.params.toList args.toList ds p := hA0
  rw [Try.params3] at hA hval
  obtain ⟨rfl, rfl, rfl⟩ := trodAll_none hA
  obtain ⟨rfl, rfl⟩ := trodVars_none hV
  clear hA0 hval0
  refine (walk  W ).mono fun e W' ⟨he, bel⟩ => ?_
  subst he
  exact ⟨_, rfl, _, _, _, [], _, [], hW', trodAll_mk1 (shut_bool Try.underlying4 _), hA, rfl, bel.frame _, fun h => by cases h⟩

theorem over : Rows.shaNamesRow.holds Try.pinned (OpenSpec.ofChange Rows.shaNamesSpec) :=
  OpenClaim.holds_of_wide 3 Try.f3 rfl rfl rfl rfl rfl rfl rfl ⟨rfl, rfl, rfl, rfl, rfl⟩ rfl rfl rfl rfl rfl (by kernel_rfl) Try.func3 (by kernel_rfl)
    (of_decide_eq_true (by kernel_rfl)) (by unfold Func.isWrapper; first | (rw [if_pos (by decide +kernel)]; kernel_rfl) | (rw [if_neg (by decide +kernel)]; exact ⟨rfl, rfl⟩))
    (fun os started H enc _ => lifted os started H enc)

theorem proved : Rows.ShaNamesSaid := over
end Go.Proofs.Ytfaffnainibcmaa.shaNames
