/-
  HexNames: the limit, the errors' numbers and the chapter's examples: the law returns true. It takes no input.
-/
import Derived.Test.YtmgdhkgkjimmoaaHexG
import Derived.WalkKit
import Derived.ProofKit
import Derived.OpenShut
import Derived.ShutString
import Derived.ChangeOld
import Derived.Below
namespace Go.Proofs.Ytmgdhkgkjimmoaa.hexNames
open Go.ChangeShapes Go.WideShapes Go.ChangeAt Go.RowKit
open Go.ChangeMaps (open_string shut_string)
open Hx
set_option linter.unusedVariables false

theorem own : ownKnob Try.prog.godebug = none := by kernel_rfl
theorem laidOut : laidOutB Try.prog = true := by kernel_rfl

theorem get_0AB (w : World) : Calls Try.prog 8 #[.string ⟨#[48, 65, 66]⟩] w fun e w' => e = .returned (.tuple #[.slice none 0 0, .int .i64 10]) ∧ Below w.heap.size w w' := get_bad ⟨#[48, 65, 66]⟩ w (by decide) (by decide)
theorem get_0ab (w : World) : Calls Try.prog 8 #[.string ⟨#[48, 97, 98]⟩] w fun e w' => e = .returned (.tuple #[.slice none 0 0, .int .i64 10]) ∧ Below w.heap.size w w' := get_bad ⟨#[48, 97, 98]⟩ w (by decide) (by decide)
theorem get_gg (w : World) : Calls Try.prog 8 #[.string ⟨#[103, 103]⟩] w fun e w' => e = .returned (.tuple #[.slice none 0 0, .int .i64 10]) ∧ Below w.heap.size w w' := get_bad ⟨#[103, 103]⟩ w (by decide) (by decide)
theorem is_none (w : World) : Calls Try.prog 12 #[.string ⟨#[]⟩, .int .i64 0] w fun e w' => e = .returned (.bool true) ∧ Below w.heap.size w w' := is_b ⟨#[]⟩ 0 true w (by decide)
theorem is_less (w : World) : Calls Try.prog 12 #[.string ⟨#[]⟩, .int .i64 (-1)] w fun e w' => e = .returned (.bool false) ∧ Below w.heap.size w w' := is_b ⟨#[]⟩ (-1) false w (by decide)
theorem put_none (w : World) : Calls Try.prog 11 #[.slice none 0 0] w fun e w' => e = .returned (.string ⟨#[]⟩) ∧ Below w.heap.size w w' := put_any none 0 0 [] w (RdA.nil _ _ _) rfl (by decide)
theorem dig_f (w : World) : Calls Try.prog 9 #[.int .u8 102] w fun e w' => e = .returned (.tuple #[.int .i64 15, .bool true]) ∧ Below w.heap.size w w' := digit_yes 102 15 w (by decide) (by decide) (by decide) (by decide)
theorem dig_F (w : World) : Calls Try.prog 9 #[.int .u8 70] w fun e w' => e = .returned (.tuple #[.int .i64 0, .bool false]) ∧ Below w.heap.size w w' := digit_no 70 w (by decide) (by decide) (by decide)
theorem big_list : ∃ l : List UInt8, l.length = 16385 ∧ List.replicate 16385 (Value.int .u8 0) = Lib.byteCells l := ⟨List.replicate 16385 0, List.length_replicate, by rw [Lib.byteCells, List.map_replicate]; rfl⟩
theorem big_own {w : World} {base : Nat} {e : TypeId} {v : Value} {l : List UInt8} (h : w.ownsRow base e 1 v 16385 (madeCells (Value.int .u8 0).cells (16385 * 1)).toList) (hr : List.replicate 16385 (Value.int .u8 0) = Lib.byteCells l) : w.ownsRow base e 1 v 16385 (Lib.byteCells l) := by
  rw [← hr, ← toList_madeCells_one]
  exact h
theorem get_no (w : World) : Calls Try.prog 8 #[.string ⟨#[]⟩] w fun e w' => (∃ A c, e = .returned (.tuple #[.slice A 0 c, .int .i64 0])) ∧ Below w.heap.size w w' :=
  (get_ok ⟨#[]⟩ w (by decide) (by decide)).mono fun e w' ⟨hb, A, c, he, _⟩ => ⟨⟨A, c, he⟩, hb⟩

set_option maxHeartbeats 4000000 in
set_option maxRecDepth 100000 in
theorem walk (w : World) :
    Calls Try.prog 3 #[] w fun e w' => e = .returned (.bool true) ∧ Below w.heap.size w w' := by
  obtain ⟨i0, hi, hz0, hz1, hz2⟩ := info_parts info5
  have HI := Lib.hid hi
  have HZ0 := Lib.hid hz0
  have HZ1 := Lib.hid hz1
  have HZ2 := Lib.hid hz2
  obtain ⟨l, hl, hrep⟩ := big_list
  have HL := Lib.hid hl
  have HRP := Lib.hid hrep
  have hl2 := Lib.hid (show 16384 < (⟨l.toArray⟩ : ByteArray).size by rw [size_mk, hl]; decide)
  clear hi hz0 hz1 hz2 hl hrep
  go_enter Try.func3, Try.ntmps3
  go_wp2_with (first
    | (go_at_call 8; (with_reducible refine (get_0AB w).mono ?_); rintro e w1 ⟨rfl, hb1⟩)
    | (go_at_call 8; (with_reducible refine (get_0ab w1).mono ?_); rintro e w2 ⟨rfl, hb2⟩; have hb2' := stp hb1 hb2)
    | (go_at_call 8; (with_reducible refine (get_gg w2).mono ?_); rintro e w3 ⟨rfl, hb3⟩; have hb3' := stp hb2' hb3)
    | (go_at_call 8; (with_reducible refine (get_no w3).mono ?_); rintro e w4 ⟨⟨A4, c4, rfl⟩, hb4⟩; have hb4' := stp hb3' hb4)
    | (at_make; refine wpList_make_full _ rfl _ _ 22 rfl w.heap.size 5 i0 (.int .u8 0) 1 Try.underlying22 HI.out HZ0.out HZ1.out .i64 .i64 _ _ 16385 rfl rfl rfl rfl (by rw [HZ2.out]; decide) (by decide) hb4'.size ?_; intro w5 hown hgr; have HO5 := Lib.hid (RdA.of_own (big_own hown HRP.out)); have hb5' := hb4'.grown hgr hb4'.size (by simp); clear hown hgr; have cv := conv_str (P := Try.prog) (c := 16385) HO5.out.1 HO5.out.2 Try.underlying22 Try.underlying5 Try.underlying9)
    | (go_at_call 8; (with_reducible refine (get_many ⟨l.toArray⟩ w5 hl2.out).mono ?_); rintro e w6 ⟨rfl, hb6⟩; have hb6' := stp hb5' hb6)
    | (go_at_call 9; (with_reducible refine (dig_f w6).mono ?_); rintro e w7 ⟨rfl, hb7⟩; have hb7' := stp hb6' hb7)
    | (go_at_call 9; (with_reducible refine (dig_F w7).mono ?_); rintro e w8 ⟨rfl, hb8⟩; have hb8' := stp hb7' hb8)
    | (go_at_call 10; (with_reducible refine (alive_any w8).mono ?_); rintro e w9 ⟨rfl, hb9⟩; have hb9' := stp hb8' hb9)
    | (go_at_call 11; (with_reducible refine (put_none w9).mono ?_); rintro e w10 ⟨rfl, hb10⟩; have hb10' := stp hb9' hb10)
    | (go_at_call 12; (with_reducible refine (is_none w10).mono ?_); rintro e w11 ⟨rfl, hb11⟩; have hb11' := stp hb10' hb11)
    | (go_at_call 12; (with_reducible refine (is_less w11).mono ?_); rintro e w12 ⟨rfl, hb12⟩; have hb12' := stp hb11' hb12)
    | fail)
  go_ret
  exact ⟨rfl, hb12'⟩

set_option maxRecDepth 100000 in
theorem lifted (os : Os) (started : os.Started) (H : Type) (enc : TypeId × Value → H) :
    ReturnsInHanded {} Try.checked os 3 .any (Rows.hexNamesSpec.pre6 enc Try.prog Try.f3 Rows.hexNamesRow.domain false) (Rows.hexNamesSpec.post enc Try.prog Try.f3 false true false false) := by
  refine returnsInHanded_of_change (C := Try.checked) own started (by kernel_rfl) Try.func3
    (ChangeSpec.witness6 (enc := enc) (C := Try.checked) false ⟨#[], #[], []⟩ 8 (by kernel_rfl) (by kernel_rfl) (by kernel_rfl) (by kernel_rfl)) ?_
  intro W base args ds gs before hval0 hW hcnd _
  have hval : ∀ (j : Nat) t v, Try.f3.params[j]? = some t → args[j]? = some v → Value.okWide Try.prog W .any base t v := hval0
  have hW' := hW
  obtain ⟨p, q, hA0, hV, rfl, hfz, hnd⟩ := hW
  have hA : DataW.TrodAll enc Try.prog W 0 (fun _ => true) true Try.f3.params.toList args.toList ds p := hA0
  rw [Try.params3] at hA hval
  obtain ⟨rfl, rfl, rfl⟩ := trodAll_none hA
  obtain ⟨rfl, rfl⟩ := trodVars_none hV
  clear hA0 hval0
  refine (walk  W ).mono fun e W' ⟨he, bel⟩ => ?_
  subst he
  exact ⟨_, rfl, _, _, _, [], _, [], hW', trodAll_mk1 (shut_bool Try.underlying4 _), hA, rfl, bel.frame _, fun h => by cases h⟩

theorem over : Rows.hexNamesRow.holds Try.pinned (OpenSpec.ofChange Rows.hexNamesSpec) :=
  OpenClaim.holds_of_wide 3 Try.f3 rfl rfl rfl rfl rfl rfl rfl ⟨rfl, rfl, rfl, rfl, rfl⟩ rfl rfl rfl rfl rfl (by kernel_rfl) Try.func3 (by kernel_rfl)
    (of_decide_eq_true (by kernel_rfl)) (by unfold Func.isWrapper; first | (rw [if_pos (by decide +kernel)]; kernel_rfl) | (rw [if_neg (by decide +kernel)]; exact ⟨rfl, rfl⟩))
    (fun os started H enc _ => lifted os started H enc)

theorem proved : Rows.HexNamesSaid := over
end Go.Proofs.Ytmgdhkgkjimmoaa.hexNames
