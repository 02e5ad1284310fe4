/-
  HeadNames: the limits', errors' and kinds' numbers, and the chapter's examples, are as the document tells.
-/
import Derived.Test.YtfdhogaknlabkaaG18
import Derived.HandedShaped
import Derived.Shelf.Vars
import Derived.WalkKit
import Derived.ProofKit
import Derived.OpenShut
import Derived.ShutString
import Derived.ChangeOld
import Derived.Below
namespace Go.Proofs.Ytfdhogaknlabkaa.headNames
open Go.ChangeShapes Go.WideShapes Go.ChangeAt Go.RowKit
open Go.ChangeMaps (open_string shut_string)
open Hx Lx Hd
set_option linter.unusedVariables false

theorem own : ownKnob Try.prog.godebug = none := by kernel_rfl
theorem laidOut : laidOutB Try.prog = true := by kernel_rfl

theorem ba_appn (a b : ByteArray) : (a ++ b).data.toList = a.data.toList ++ b.data.toList := by simp
/-- So many lines "a:b". -/
def ln5 : Nat → List UInt8
  | 0 => []
  | k + 1 => 97 :: 58 :: 98 :: 13 :: 10 :: ln5 k
theorem ln5_len : ∀ k, (ln5 k).length = 5 * k
  | 0 => rfl
  | k + 1 => by
    unfold ln5
    simp only [List.length_cons, ln5_len k]
    omega
theorem ln5_snoc : ∀ k, ln5 k ++ [97, 58, 98, 13, 10] = ln5 (k + 1)
  | 0 => rfl
  | k + 1 => by
    show 97 :: 58 :: 98 :: 13 :: 10 :: (ln5 k ++ [97, 58, 98, 13, 10]) = 97 :: 58 :: 98 :: 13 :: 10 :: ln5 (k + 1)
    rw [ln5_snoc k]
theorem ln5_many : parseH (ln5 33) = ([], 4) := by decide +kernel
def ps5 : List Pr := List.replicate 32 ⟨[97], [98]⟩
theorem ln5_most : parseH (ln5 32) = (ps5, 0) := by decide +kernel
set_option maxHeartbeats 32000000 in
set_option maxRecDepth 100000 in
theorem walk (w : World) (hX : Mx w) : Calls Try.prog 3 #[] w fun e w' => e = .returned (.bool true) ∧ Below w.heap.size w w' := by
  have C0 : Hid (∀ W, Below w.heap.size w W → Calls Try.prog 9 #[.string ⟨#[32, 97, 58, 32, 98, 13, 10]⟩] W fun e w' => e = .returned (.bool true) ∧ Below W.heap.size W w') := Lib.hid fun W hW => odd14 _ W (hX.below hW) (by decide) (by decide +kernel)
  have C1 : Hid (∀ W, Below w.heap.size w W → Calls Try.prog 9 #[.string ⟨#[97, 32, 98, 58, 32, 99, 13, 10]⟩] W fun e w' => e = .returned (.bool true) ∧ Below W.heap.size W w') := Lib.hid fun W hW => odd14 _ W (hX.below hW) (by decide) (by decide +kernel)
  have C2 : Hid (∀ W, Below w.heap.size w W → Calls Try.prog 9 #[.string ⟨#[97, 58, 32, 98]⟩] W fun e w' => e = .returned (.bool true) ∧ Below W.heap.size W w') := Lib.hid fun W hW => odd14 _ W (hX.below hW) (by decide) (by decide +kernel)
  have C3 : Hid (∀ W, Below w.heap.size w W → Calls Try.prog 9 #[.string ⟨#[13, 10]⟩] W fun e w' => e = .returned (.bool true) ∧ Below W.heap.size W w') := Lib.hid fun W hW => odd14 _ W (hX.below hW) (by decide) (by decide +kernel)
  have C4 : Hid (∀ W, Below w.heap.size w W → Calls Try.prog 9 #[.string ⟨#[97, 58, 32, 98, 10]⟩] W fun e w' => e = .returned (.bool true) ∧ Below W.heap.size W w') := Lib.hid fun W hW => odd14 _ W (hX.below hW) (by decide) (by decide +kernel)
  have C5 : Hid (∀ W, Below w.heap.size w W → Calls Try.prog 9 #[.string ⟨#[97, 13, 10]⟩] W fun e w' => e = .returned (.bool true) ∧ Below W.heap.size W w') := Lib.hid fun W hW => odd14 _ W (hX.below hW) (by decide) (by decide +kernel)
  have C6 : Hid (∀ W, Below w.heap.size w W → Calls Try.prog 9 #[.string ⟨#[97, 58, 32, 98, 13, 99, 13, 10]⟩] W fun e w' => e = .returned (.bool true) ∧ Below W.heap.size W w') := Lib.hid fun W hW => odd14 _ W (hX.below hW) (by decide) (by decide +kernel)
  have C7 : Hid (∀ W, Below w.heap.size w W → Calls Try.prog 9 #[.string ⟨#[58, 32, 120, 13, 10]⟩] W fun e w' => e = .returned (.bool true) ∧ Below W.heap.size W w') := Lib.hid fun W hW => odd14 _ W (hX.below hW) (by decide) (by decide +kernel)
  have C8 : Hid (∀ W, Below w.heap.size w W → Calls Try.prog 11 #[.string ⟨#[116, 114, 97, 110, 115, 102, 101, 114, 45, 101, 110, 99, 111, 100, 105, 110, 103]⟩, .string ⟨#[99, 104, 117, 110, 107, 101, 100]⟩] W fun e w' => e = .returned (.agg #[.string ⟨#[116, 114, 97, 110, 115, 102, 101, 114, 45, 101, 110, 99, 111, 100, 105, 110, 103]⟩, .string ⟨#[99, 104, 117, 110, 107, 101, 100]⟩]) ∧ Below W.heap.size W w') := Lib.hid fun W hW => pair14 _ _ W
  have C9 : Hid (∀ W, Below w.heap.size w W → Calls Try.prog 11 #[.string ⟨#[99, 111, 110, 116, 101, 110, 116, 45, 108, 101, 110, 103, 116, 104]⟩, .string ⟨#[49]⟩] W fun e w' => e = .returned (.agg #[.string ⟨#[99, 111, 110, 116, 101, 110, 116, 45, 108, 101, 110, 103, 116, 104]⟩, .string ⟨#[49]⟩]) ∧ Below W.heap.size W w') := Lib.hid fun W hW => pair14 _ _ W
  have C10 : Hid (∀ W, Below w.heap.size w W → Calls Try.prog 10 #[.slice (some ⟨W.heap.size, 0, none⟩) 2 2] (W.alloc (.cells #[.string ⟨#[116, 114, 97, 110, 115, 102, 101, 114, 45, 101, 110, 99, 111, 100, 105, 110, 103]⟩, .string ⟨#[99, 104, 117, 110, 107, 101, 100]⟩, .string ⟨#[99, 111, 110, 116, 101, 110, 116, 45, 108, 101, 110, 103, 116, 104]⟩, .string ⟨#[49]⟩] 25)) fun e w' => e = .returned (.bool true) ∧ Below W.heap.size W w') := Lib.hid fun W hW => lost_lits [(⟨#[116, 114, 97, 110, 115, 102, 101, 114, 45, 101, 110, 99, 111, 100, 105, 110, 103]⟩, ⟨#[99, 104, 117, 110, 107, 101, 100]⟩), (⟨#[99, 111, 110, 116, 101, 110, 116, 45, 108, 101, 110, 103, 116, 104]⟩, ⟨#[49]⟩)] W (by decide +kernel) (sm_lits _ (by decide +kernel)) 2 rfl (by decide) _ rfl
  have C11 : Hid (∀ W, Below w.heap.size w W → Calls Try.prog 11 #[.string ⟨#[99, 111, 110, 116, 101, 110, 116, 45, 108, 101, 110, 103, 116, 104]⟩, .string ⟨#[49]⟩] W fun e w' => e = .returned (.agg #[.string ⟨#[99, 111, 110, 116, 101, 110, 116, 45, 108, 101, 110, 103, 116, 104]⟩, .string ⟨#[49]⟩]) ∧ Below W.heap.size W w') := Lib.hid fun W hW => pair14 _ _ W
  have C12 : Hid (∀ W, Below w.heap.size w W → Calls Try.prog 11 #[.string ⟨#[99, 111, 110, 116, 101, 110, 116, 45, 108, 101, 110, 103, 116, 104]⟩, .string ⟨#[49]⟩] W fun e w' => e = .returned (.agg #[.string ⟨#[99, 111, 110, 116, 101, 110, 116, 45, 108, 101, 110, 103, 116, 104]⟩, .string ⟨#[49]⟩]) ∧ Below W.heap.size W w') := Lib.hid fun W hW => pair14 _ _ W
  have C13 : Hid (∀ W, Below w.heap.size w W → Calls Try.prog 10 #[.slice (some ⟨W.heap.size, 0, none⟩) 2 2] (W.alloc (.cells #[.string ⟨#[99, 111, 110, 116, 101, 110, 116, 45, 108, 101, 110, 103, 116, 104]⟩, .string ⟨#[49]⟩, .string ⟨#[99, 111, 110, 116, 101, 110, 116, 45, 108, 101, 110, 103, 116, 104]⟩, .string ⟨#[49]⟩] 25)) fun e w' => e = .returned (.bool true) ∧ Below W.heap.size W w') := Lib.hid fun W hW => lost_lits [(⟨#[99, 111, 110, 116, 101, 110, 116, 45, 108, 101, 110, 103, 116, 104]⟩, ⟨#[49]⟩), (⟨#[99, 111, 110, 116, 101, 110, 116, 45, 108, 101, 110, 103, 116, 104]⟩, ⟨#[49]⟩)] W (by decide +kernel) (sm_lits _ (by decide +kernel)) 2 rfl (by decide) _ rfl
  have C14 : Hid (∀ W, Below w.heap.size w W → Calls Try.prog 11 #[.string ⟨#[99, 111, 110, 116, 101, 110, 116, 45, 108, 101, 110, 103, 116, 104]⟩, .string ⟨#[45, 49]⟩] W fun e w' => e = .returned (.agg #[.string ⟨#[99, 111, 110, 116, 101, 110, 116, 45, 108, 101, 110, 103, 116, 104]⟩, .string ⟨#[45, 49]⟩]) ∧ Below W.heap.size W w') := Lib.hid fun W hW => pair14 _ _ W
  have C15 : Hid (∀ W, Below w.heap.size w W → Calls Try.prog 10 #[.slice (some ⟨W.heap.size, 0, none⟩) 1 1] (W.alloc (.cells #[.string ⟨#[99, 111, 110, 116, 101, 110, 116, 45, 108, 101, 110, 103, 116, 104]⟩, .string ⟨#[45, 49]⟩] 25)) fun e w' => e = .returned (.bool true) ∧ Below W.heap.size W w') := Lib.hid fun W hW => lost_lits [(⟨#[99, 111, 110, 116, 101, 110, 116, 45, 108, 101, 110, 103, 116, 104]⟩, ⟨#[45, 49]⟩)] W (by decide +kernel) (sm_lits _ (by decide +kernel)) 1 rfl (by decide) _ rfl
  have C16 : Hid (∀ W, Below w.heap.size w W → Calls Try.prog 11 #[.string ⟨#[116, 114, 97, 110, 115, 102, 101, 114, 45, 101, 110, 99, 111, 100, 105, 110, 103]⟩, .string ⟨#[103, 122, 105, 112, 44, 32, 99, 104, 117, 110, 107, 101, 100]⟩] W fun e w' => e = .returned (.agg #[.string ⟨#[116, 114, 97, 110, 115, 102, 101, 114, 45, 101, 110, 99, 111, 100, 105, 110, 103]⟩, .string ⟨#[103, 122, 105, 112, 44, 32, 99, 104, 117, 110, 107, 101, 100]⟩]) ∧ Below W.heap.size W w') := Lib.hid fun W hW => pair14 _ _ W
  have C17 : Hid (∀ W, Below w.heap.size w W → Calls Try.prog 10 #[.slice (some ⟨W.heap.size, 0, none⟩) 1 1] (W.alloc (.cells #[.string ⟨#[116, 114, 97, 110, 115, 102, 101, 114, 45, 101, 110, 99, 111, 100, 105, 110, 103]⟩, .string ⟨#[103, 122, 105, 112, 44, 32, 99, 104, 117, 110, 107, 101, 100]⟩] 25)) fun e w' => e = .returned (.bool true) ∧ Below W.heap.size W w') := Lib.hid fun W hW => lost_lits [(⟨#[116, 114, 97, 110, 115, 102, 101, 114, 45, 101, 110, 99, 111, 100, 105, 110, 103]⟩, ⟨#[103, 122, 105, 112, 44, 32, 99, 104, 117, 110, 107, 101, 100]⟩)] W (by decide +kernel) (sm_lits _ (by decide +kernel)) 1 rfl (by decide) _ rfl
  have C18 : Hid (∀ W, Below w.heap.size w W → Calls Try.prog 11 #[.string ⟨#[84, 114, 97, 110, 115, 102, 101, 114, 45, 69, 110, 99, 111, 100, 105, 110, 103]⟩, .string ⟨#[32, 67, 104, 117, 110, 107, 101, 100, 44]⟩] W fun e w' => e = .returned (.agg #[.string ⟨#[84, 114, 97, 110, 115, 102, 101, 114, 45, 69, 110, 99, 111, 100, 105, 110, 103]⟩, .string ⟨#[32, 67, 104, 117, 110, 107, 101, 100, 44]⟩]) ∧ Below W.heap.size W w') := Lib.hid fun W hW => pair14 _ _ W
  have C19 : Hid (∀ W, Below w.heap.size w W → Calls Try.prog 12 #[.int .u8 2, .int .i64 0, .slice (some ⟨W.heap.size, 0, none⟩) 1 1] (W.alloc (.cells #[.string ⟨#[84, 114, 97, 110, 115, 102, 101, 114, 45, 69, 110, 99, 111, 100, 105, 110, 103]⟩, .string ⟨#[32, 67, 104, 117, 110, 107, 101, 100, 44]⟩] 25)) fun e w' => e = .returned (.bool true) ∧ Below W.heap.size W w') := Lib.hid fun W hW => frames_lits [(⟨#[84, 114, 97, 110, 115, 102, 101, 114, 45, 69, 110, 99, 111, 100, 105, 110, 103]⟩, ⟨#[32, 67, 104, 117, 110, 107, 101, 100, 44]⟩)] W 2 0 (by decide +kernel) (sm_lits _ (by decide +kernel)) 1 rfl (by decide) _ rfl
  have C20 : Hid (∀ W, Below w.heap.size w W → Calls Try.prog 12 #[.int .u8 0, .int .i64 0, .slice none 0 0] W fun e w' => e = .returned (.bool true) ∧ Below W.heap.size W w') := Lib.hid fun W hW => frames14 none 0 0 [] W (RdC.nil _ _ _) rfl (by decide) (fun p hp => by cases hp) 0 0 (by decide +kernel)
  have C21 : Hid (∀ W, Below w.heap.size w W → Calls Try.prog 11 #[.string ⟨#[67, 111, 110, 110, 101, 99, 116, 105, 111, 110]⟩, .string ⟨#[120, 44, 32, 67, 76, 79, 83, 69]⟩] W fun e w' => e = .returned (.agg #[.string ⟨#[67, 111, 110, 110, 101, 99, 116, 105, 111, 110]⟩, .string ⟨#[120, 44, 32, 67, 76, 79, 83, 69]⟩]) ∧ Below W.heap.size W w') := Lib.hid fun W hW => pair14 _ _ W
  have C22 : Hid (∀ W, Below w.heap.size w W → Calls Try.prog 14 #[.slice (some ⟨W.heap.size, 0, none⟩) 1 1] (W.alloc (.cells #[.string ⟨#[67, 111, 110, 110, 101, 99, 116, 105, 111, 110]⟩, .string ⟨#[120, 44, 32, 67, 76, 79, 83, 69]⟩] 25)) fun e w' => e = .returned (.tuple #[.bool false, .int .i64 0]) ∧ Below W.heap.size W w') := Lib.hid fun W hW => (keep14 _ 1 1 _ _ (rdc_pbs W _ [(⟨#[67, 111, 110, 110, 101, 99, 116, 105, 111, 110]⟩, ⟨#[120, 44, 32, 67, 76, 79, 83, 69]⟩)]) rfl (by decide) (sm_lits _ (by decide +kernel)) false 0 (by decide +kernel)).mono fun e w' ⟨h1, h2⟩ => ⟨h1, stp (stpA (Below.refl _ _) _) h2⟩
  have C23 : Hid (∀ W, Below w.heap.size w W → Calls Try.prog 11 #[.string ⟨#[99, 111, 110, 110, 101, 99, 116, 105, 111, 110]⟩, .string ⟨#[107, 101, 101, 112, 45, 97, 108, 105, 118, 101]⟩] W fun e w' => e = .returned (.agg #[.string ⟨#[99, 111, 110, 110, 101, 99, 116, 105, 111, 110]⟩, .string ⟨#[107, 101, 101, 112, 45, 97, 108, 105, 118, 101]⟩]) ∧ Below W.heap.size W w') := Lib.hid fun W hW => pair14 _ _ W
  have C24 : Hid (∀ W, Below w.heap.size w W → Calls Try.prog 14 #[.slice (some ⟨W.heap.size, 0, none⟩) 1 1] (W.alloc (.cells #[.string ⟨#[99, 111, 110, 110, 101, 99, 116, 105, 111, 110]⟩, .string ⟨#[107, 101, 101, 112, 45, 97, 108, 105, 118, 101]⟩] 25)) fun e w' => e = .returned (.tuple #[.bool true, .int .i64 0]) ∧ Below W.heap.size W w') := Lib.hid fun W hW => (keep14 _ 1 1 _ _ (rdc_pbs W _ [(⟨#[99, 111, 110, 110, 101, 99, 116, 105, 111, 110]⟩, ⟨#[107, 101, 101, 112, 45, 97, 108, 105, 118, 101]⟩)]) rfl (by decide) (sm_lits _ (by decide +kernel)) true 0 (by decide +kernel)).mono fun e w' ⟨h1, h2⟩ => ⟨h1, stp (stpA (Below.refl _ _) _) h2⟩
  have C25 : Hid (∀ W, Below w.heap.size w W → Calls Try.prog 11 #[.string ⟨#[99, 111, 110, 110, 101, 99, 116, 105, 111, 110]⟩, .string ⟨#[97, 32, 98]⟩] W fun e w' => e = .returned (.agg #[.string ⟨#[99, 111, 110, 110, 101, 99, 116, 105, 111, 110]⟩, .string ⟨#[97, 32, 98]⟩]) ∧ Below W.heap.size W w') := Lib.hid fun W hW => pair14 _ _ W
  have C26 : Hid (∀ W, Below w.heap.size w W → Calls Try.prog 14 #[.slice (some ⟨W.heap.size, 0, none⟩) 1 1] (W.alloc (.cells #[.string ⟨#[99, 111, 110, 110, 101, 99, 116, 105, 111, 110]⟩, .string ⟨#[97, 32, 98]⟩] 25)) fun e w' => e = .returned (.tuple #[.bool false, .int .i64 140]) ∧ Below W.heap.size W w') := Lib.hid fun W hW => (keep14 _ 1 1 _ _ (rdc_pbs W _ [(⟨#[99, 111, 110, 110, 101, 99, 116, 105, 111, 110]⟩, ⟨#[97, 32, 98]⟩)]) rfl (by decide) (sm_lits _ (by decide +kernel)) false 140 (by decide +kernel)).mono fun e w' ⟨h1, h2⟩ => ⟨h1, stp (stpA (Below.refl _ _) _) h2⟩
  have C27 : Hid (∀ W, Below w.heap.size w W → Calls Try.prog 11 #[.string ⟨#[104, 111, 115, 116]⟩, .string ⟨#[65, 46, 101, 120, 97, 109, 112, 108, 101, 58, 53, 50, 56, 48]⟩] W fun e w' => e = .returned (.agg #[.string ⟨#[104, 111, 115, 116]⟩, .string ⟨#[65, 46, 101, 120, 97, 109, 112, 108, 101, 58, 53, 50, 56, 48]⟩]) ∧ Below W.heap.size W w') := Lib.hid fun W hW => pair14 _ _ W
  have C28 : Hid (∀ W, Below w.heap.size w W → Calls Try.prog 15 #[.slice (some ⟨W.heap.size, 0, none⟩) 1 1] (W.alloc (.cells #[.string ⟨#[104, 111, 115, 116]⟩, .string ⟨#[65, 46, 101, 120, 97, 109, 112, 108, 101, 58, 53, 50, 56, 48]⟩] 25)) fun e w' => e = .returned (.tuple #[.string ⟨#[97, 46, 101, 120, 97, 109, 112, 108, 101]⟩, .int .i64 0]) ∧ Below W.heap.size W w') := Lib.hid fun W hW => (host14 _ 1 1 _ _ (rdc_pbs W _ [(⟨#[104, 111, 115, 116]⟩, ⟨#[65, 46, 101, 120, 97, 109, 112, 108, 101, 58, 53, 50, 56, 48]⟩)]) rfl (by decide) (sm_lits _ (by decide +kernel)) ⟨#[97, 46, 101, 120, 97, 109, 112, 108, 101]⟩ 0 (by decide +kernel)).mono fun e w' ⟨h1, h2⟩ => ⟨h1, stp (stpA (Below.refl _ _) _) h2⟩
  have C29 : Hid (∀ W, Below w.heap.size w W → Calls Try.prog 11 #[.string ⟨#[104, 111, 115, 116]⟩, .string ⟨#[97, 58, 98]⟩] W fun e w' => e = .returned (.agg #[.string ⟨#[104, 111, 115, 116]⟩, .string ⟨#[97, 58, 98]⟩]) ∧ Below W.heap.size W w') := Lib.hid fun W hW => pair14 _ _ W
  have C30 : Hid (∀ W, Below w.heap.size w W → Calls Try.prog 15 #[.slice (some ⟨W.heap.size, 0, none⟩) 1 1] (W.alloc (.cells #[.string ⟨#[104, 111, 115, 116]⟩, .string ⟨#[97, 58, 98]⟩] 25)) fun e w' => e = .returned (.tuple #[.string ⟨#[]⟩, .int .i64 140]) ∧ Below W.heap.size W w') := Lib.hid fun W hW => (host14 _ 1 1 _ _ (rdc_pbs W _ [(⟨#[104, 111, 115, 116]⟩, ⟨#[97, 58, 98]⟩)]) rfl (by decide) (sm_lits _ (by decide +kernel)) ⟨#[]⟩ 140 (by decide +kernel)).mono fun e w' ⟨h1, h2⟩ => ⟨h1, stp (stpA (Below.refl _ _) _) h2⟩
  have C31 : Hid (∀ W, Below w.heap.size w W → Calls Try.prog 15 #[.slice none 0 0] W fun e w' => e = .returned (.tuple #[.string ⟨#[]⟩, .int .i64 140]) ∧ Below W.heap.size W w') := Lib.hid fun W hW => host14 none 0 0 [] W (RdC.nil _ _ _) rfl (by decide) (fun p hp => by cases hp) ⟨#[]⟩ 140 (by decide +kernel)
  have C32 : Hid (∀ W, Below w.heap.size w W → Calls Try.prog 16 #[] W fun e w' => e = .returned (.bool true) ∧ Below W.heap.size W w') := Lib.hid fun W hW => alive14 W (hX.below hW)
  have C33 : Hid (∀ W, Below w.heap.size w W → Calls Try.prog 17 #[.string ⟨#[]⟩, .slice none 0 0] W fun e w' => e = .returned (.bool true) ∧ Below W.heap.size W w') := Lib.hid fun W hW => are14 _ none 0 0 [] W (hX.below hW) (by decide) (RdC.nil _ _ _) rfl (by decide +kernel)
  have C34 : Hid (∀ W, Below w.heap.size w W → Calls Try.prog 11 #[.string ⟨#[97]⟩, .string ⟨#[98, 32, 99]⟩] W fun e w' => e = .returned (.agg #[.string ⟨#[97]⟩, .string ⟨#[98, 32, 99]⟩]) ∧ Below W.heap.size W w') := Lib.hid fun W hW => pair14 _ _ W
  have C35 : Hid (∀ W, Below w.heap.size w W → Calls Try.prog 17 #[.string ⟨#[97, 58, 9, 32, 98, 32, 99, 32, 13, 10]⟩, .slice (some ⟨W.heap.size, 0, none⟩) 1 1] (W.alloc (.cells #[.string ⟨#[97]⟩, .string ⟨#[98, 32, 99]⟩] 25)) fun e w' => e = .returned (.bool true) ∧ Below W.heap.size W w') := Lib.hid fun W hW => are_lits _ [(⟨#[97]⟩, ⟨#[98, 32, 99]⟩)] W (hX.below hW) (by decide) (by decide +kernel) 1 rfl _ rfl
  have HX := Lib.hid hX
  clear hX
  go_enter Try.func3, Try.ntmps3
  go_wp2_with (first
    | (go_at_call 9; (with_reducible refine (C0.out w (Below.refl _ _)).mono ?_); rintro e1 w1 ⟨rfl, hb1⟩; have HB1 : Hid (Below w.heap.size w w1) := Lib.hid (stp (Below.refl _ _) hb1); clear hb1)
    | (go_at_call 9; (with_reducible refine (C1.out w1 HB1.out).mono ?_); rintro e2 w2 ⟨rfl, hb2⟩; have HB2 : Hid (Below w.heap.size w w2) := Lib.hid (stp HB1.out hb2); clear hb2)
    | (go_at_call 9; (with_reducible refine (C2.out w2 HB2.out).mono ?_); rintro e3 w3 ⟨rfl, hb3⟩; have HB3 : Hid (Below w.heap.size w w3) := Lib.hid (stp HB2.out hb3); clear hb3)
    | (go_at_call 9; (with_reducible refine (C3.out w3 HB3.out).mono ?_); rintro e4 w4 ⟨rfl, hb4⟩; have HB4 : Hid (Below w.heap.size w w4) := Lib.hid (stp HB3.out hb4); clear hb4)
    | (go_at_call 9; (with_reducible refine (C4.out w4 HB4.out).mono ?_); rintro e5 w5 ⟨rfl, hb5⟩; have HB5 : Hid (Below w.heap.size w w5) := Lib.hid (stp HB4.out hb5); clear hb5)
    | (go_at_call 9; (with_reducible refine (C5.out w5 HB5.out).mono ?_); rintro e6 w6 ⟨rfl, hb6⟩; have HB6 : Hid (Below w.heap.size w w6) := Lib.hid (stp HB5.out hb6); clear hb6)
    | (go_at_call 9; (with_reducible refine (C6.out w6 HB6.out).mono ?_); rintro e7 w7 ⟨rfl, hb7⟩; have HB7 : Hid (Below w.heap.size w w7) := Lib.hid (stp HB6.out hb7); clear hb7)
    | (go_at_call 9; (with_reducible refine (C7.out w7 HB7.out).mono ?_); rintro e8 w8 ⟨rfl, hb8⟩; have HB8 : Hid (Below w.heap.size w w8) := Lib.hid (stp HB7.out hb8); clear hb8)
    | (go_at_call 11; (with_reducible refine (C8.out w8 HB8.out).mono ?_); rintro e9 w9 ⟨rfl, hb9⟩; have HB9 : Hid (Below w.heap.size w w9) := Lib.hid (stp HB8.out hb9); clear hb9)
    | (go_at_call 11; (with_reducible refine (C9.out w9 HB9.out).mono ?_); rintro e10 w10 ⟨rfl, hb10⟩; have HB10 : Hid (Below w.heap.size w w10) := Lib.hid (stp HB9.out hb10); clear hb10)
    | (go_at_call 10; (with_reducible refine (C10.out w10 HB10.out).mono ?_); rintro e11 w11 ⟨rfl, hb11⟩; have HB11 : Hid (Below w.heap.size w w11) := Lib.hid (stp HB10.out hb11); clear hb11)
    | (go_at_call 11; (with_reducible refine (C11.out w11 HB11.out).mono ?_); rintro e12 w12 ⟨rfl, hb12⟩; have HB12 : Hid (Below w.heap.size w w12) := Lib.hid (stp HB11.out hb12); clear hb12)
    | (go_at_call 11; (with_reducible refine (C12.out w12 HB12.out).mono ?_); rintro e13 w13 ⟨rfl, hb13⟩; have HB13 : Hid (Below w.heap.size w w13) := Lib.hid (stp HB12.out hb13); clear hb13)
    | (go_at_call 10; (with_reducible refine (C13.out w13 HB13.out).mono ?_); rintro e14 w14 ⟨rfl, hb14⟩; have HB14 : Hid (Below w.heap.size w w14) := Lib.hid (stp HB13.out hb14); clear hb14)
    | (go_at_call 11; (with_reducible refine (C14.out w14 HB14.out).mono ?_); rintro e15 w15 ⟨rfl, hb15⟩; have HB15 : Hid (Below w.heap.size w w15) := Lib.hid (stp HB14.out hb15); clear hb15)
    | (go_at_call 10; (with_reducible refine (C15.out w15 HB15.out).mono ?_); rintro e16 w16 ⟨rfl, hb16⟩; have HB16 : Hid (Below w.heap.size w w16) := Lib.hid (stp HB15.out hb16); clear hb16)
    | (go_at_call 11; (with_reducible refine (C16.out w16 HB16.out).mono ?_); rintro e17 w17 ⟨rfl, hb17⟩; have HB17 : Hid (Below w.heap.size w w17) := Lib.hid (stp HB16.out hb17); clear hb17)
    | (go_at_call 10; (with_reducible refine (C17.out w17 HB17.out).mono ?_); rintro e18 w18 ⟨rfl, hb18⟩; have HB18 : Hid (Below w.heap.size w w18) := Lib.hid (stp HB17.out hb18); clear hb18)
    | (go_at_call 11; (with_reducible refine (C18.out w18 HB18.out).mono ?_); rintro e19 w19 ⟨rfl, hb19⟩; have HB19 : Hid (Below w.heap.size w w19) := Lib.hid (stp HB18.out hb19); clear hb19)
    | (go_at_call 12; (with_reducible refine (C19.out w19 HB19.out).mono ?_); rintro e20 w20 ⟨rfl, hb20⟩; have HB20 : Hid (Below w.heap.size w w20) := Lib.hid (stp HB19.out hb20); clear hb20)
    | (go_at_call 12; (with_reducible refine (C20.out w20 HB20.out).mono ?_); rintro e21 w21 ⟨rfl, hb21⟩; have HB21 : Hid (Below w.heap.size w w21) := Lib.hid (stp HB20.out hb21); clear hb21)
    | fail)
  go_loopg [3, 4] 33 (fun gg vs vi wr => ∃ (k : Nat) (y : ByteArray), k + gg = 33 ∧ vi = .int .i64 k ∧ vs = .string y ∧ Hid (y.data.toList = ln5 k) ∧ y.size = 5 * k ∧ Hid (Below w.heap.size w wr))
  case atStart => exact ⟨0, ⟨#[]⟩, by omega, rfl, rfl, Lib.hid rfl, rfl, HB21⟩
  case round =>
    obtain ⟨k, y, hk, rfl, rfl, hy, hys, HBW⟩ := hrel
    by_cases hlt : k < 33
    · have bk : (k : Int) < 33 := by omega
      have l5 : ¬ 9223372036854775807 < y.size + 5 := by omega
      have HNX : Hid ((y ++ (⟨#[97, 58, 98, 13, 10]⟩ : ByteArray)).data.toList = ln5 (k + 1)) := Lib.hid (by rw [ba_appn, hy.out, ← ln5_snoc])
      have HNS : Hid ((y ++ (⟨#[97, 58, 98, 13, 10]⟩ : ByteArray)).size = 5 * (k + 1)) := Lib.hid (by rw [← ba_l, ba_appn, List.length_append, ba_l, hys]; rfl)
      clear hy hys
      go_wp2_with fail
      go_roundg (gk - 1)
      case rel => exact ⟨k + 1, _, by omega, by go_num, rfl, HNX, HNS.out, HBW⟩
      case measure => omega
    · obtain rfl : 33 = k := by omega
      obtain ⟨u2, hu2⟩ : ∃ u2, y.extract 5 y.size = u2 := ⟨_, rfl⟩
      have hu2l : u2.data.toList = ln5 32 := by rw [← hu2, extract_drop, hy.out]; rfl
      have hu2s : u2.size = 160 := by rw [← ba_l, hu2l, ln5_len]
      have b5 : 5 ≤ y.size := by omega
      have HL1 : Hid (∀ W, Below w.heap.size w W → Calls Try.prog 13 #[.string y] W fun e w' => Below W.heap.size W w' ∧ ∃ A c, e = .returned (.tuple #[.slice A 0 c, .int .i64 4])) := Lib.hid fun W hW => (parse14 y [] 4 W (HX.out.below hW) (by omega) (by rw [hy.out]; exact ln5_many)).mono fun e w' ⟨k1, A, c, k2, _⟩ => ⟨k1, A, c, k2⟩
      have HL2 : Hid (∀ W, Below w.heap.size w W → Calls Try.prog 13 #[.string u2] W fun e w' => Below W.heap.size W w' ∧ ∃ A c, e = .returned (.tuple #[.slice A 32 c, .int .i64 0])) := Lib.hid fun W hW => (parse14 u2 ps5 0 W (HX.out.below hW) (by omega) (by rw [hu2l]; exact ln5_most)).mono fun e w' ⟨k1, A, c, k2, _⟩ => ⟨k1, A, c, k2⟩
      clear hy hys hu2l hu2s
      go_wp2_with (first
        | (go_at_call 13; (with_reducible refine (HL1.out wr HBW.out).mono ?_); rintro e22 w22 ⟨hb22, A1, c1, rfl⟩; have HB22 : Hid (Below w.heap.size w w22) := Lib.hid (stp HBW.out hb22); clear hb22)
        | (go_at_call 13; (with_reducible refine (HL2.out w22 HB22.out).mono ?_); rintro e23 w23 ⟨hb23, A2, c2, rfl⟩; have HB23 : Hid (Below w.heap.size w w23) := Lib.hid (stp HB22.out hb23); clear hb23)
        | (go_at_call 11; (with_reducible refine (C21.out w23 HB23.out).mono ?_); rintro e24 w24 ⟨rfl, hb24⟩; have HB24 : Hid (Below w.heap.size w w24) := Lib.hid (stp HB23.out hb24); clear hb24)
        | (go_at_call 14; (with_reducible refine (C22.out w24 HB24.out).mono ?_); rintro e25 w25 ⟨rfl, hb25⟩; have HB25 : Hid (Below w.heap.size w w25) := Lib.hid (stp HB24.out hb25); clear hb25)
        | (go_at_call 11; (with_reducible refine (C23.out w25 HB25.out).mono ?_); rintro e26 w26 ⟨rfl, hb26⟩; have HB26 : Hid (Below w.heap.size w w26) := Lib.hid (stp HB25.out hb26); clear hb26)
        | (go_at_call 14; (with_reducible refine (C24.out w26 HB26.out).mono ?_); rintro e27 w27 ⟨rfl, hb27⟩; have HB27 : Hid (Below w.heap.size w w27) := Lib.hid (stp HB26.out hb27); clear hb27)
        | (go_at_call 11; (with_reducible refine (C25.out w27 HB27.out).mono ?_); rintro e28 w28 ⟨rfl, hb28⟩; have HB28 : Hid (Below w.heap.size w w28) := Lib.hid (stp HB27.out hb28); clear hb28)
        | (go_at_call 14; (with_reducible refine (C26.out w28 HB28.out).mono ?_); rintro e29 w29 ⟨rfl, hb29⟩; have HB29 : Hid (Below w.heap.size w w29) := Lib.hid (stp HB28.out hb29); clear hb29)
        | (go_at_call 11; (with_reducible refine (C27.out w29 HB29.out).mono ?_); rintro e30 w30 ⟨rfl, hb30⟩; have HB30 : Hid (Below w.heap.size w w30) := Lib.hid (stp HB29.out hb30); clear hb30)
        | (go_at_call 15; (with_reducible refine (C28.out w30 HB30.out).mono ?_); rintro e31 w31 ⟨rfl, hb31⟩; have HB31 : Hid (Below w.heap.size w w31) := Lib.hid (stp HB30.out hb31); clear hb31)
        | (go_at_call 11; (with_reducible refine (C29.out w31 HB31.out).mono ?_); rintro e32 w32 ⟨rfl, hb32⟩; have HB32 : Hid (Below w.heap.size w w32) := Lib.hid (stp HB31.out hb32); clear hb32)
        | (go_at_call 15; (with_reducible refine (C30.out w32 HB32.out).mono ?_); rintro e33 w33 ⟨rfl, hb33⟩; have HB33 : Hid (Below w.heap.size w w33) := Lib.hid (stp HB32.out hb33); clear hb33)
        | (go_at_call 15; (with_reducible refine (C31.out w33 HB33.out).mono ?_); rintro e34 w34 ⟨rfl, hb34⟩; have HB34 : Hid (Below w.heap.size w w34) := Lib.hid (stp HB33.out hb34); clear hb34)
        | (go_at_call 16; (with_reducible refine (C32.out w34 HB34.out).mono ?_); rintro e35 w35 ⟨rfl, hb35⟩; have HB35 : Hid (Below w.heap.size w w35) := Lib.hid (stp HB34.out hb35); clear hb35)
        | (go_at_call 17; (with_reducible refine (C33.out w35 HB35.out).mono ?_); rintro e36 w36 ⟨rfl, hb36⟩; have HB36 : Hid (Below w.heap.size w w36) := Lib.hid (stp HB35.out hb36); clear hb36)
        | (go_at_call 11; (with_reducible refine (C34.out w36 HB36.out).mono ?_); rintro e37 w37 ⟨rfl, hb37⟩; have HB37 : Hid (Below w.heap.size w w37) := Lib.hid (stp HB36.out hb37); clear hb37)
        | (go_at_call 17; (with_reducible refine (C35.out w37 HB37.out).mono ?_); rintro e38 w38 ⟨rfl, hb38⟩; have HB38 : Hid (Below w.heap.size w w38) := Lib.hid (stp HB37.out hb38); clear hb38)
        | fail)
      go_ret
      exact ⟨rfl, HB38.out⟩

theorem mx {W : World} (h : W.ShapedOpen Try.prog) : Mx W := Go.Proofs.cell_of_shapedOpen_int (zero := #[.int .i64 0]) (t := 3) h (of_decide_eq_true (by kernel_rfl)) (by kernel_rfl) rfl (by kernel_rfl) (by kernel_rfl) Try.underlying3
set_option maxRecDepth 100000 in
theorem lifted (os : Os) (started : os.Started) (H : Type) (enc : TypeId × Value → H) :
    ReturnsInHanded {} Try.checked os 3 .any (Rows.headNamesSpec.pre6 enc Try.prog Try.f3 Rows.headNamesRow.domain false) (Rows.headNamesSpec.post enc Try.prog Try.f3 false true false false) := by
  refine returnsInHanded_of_change_shaped (C := Try.checked) own started (by kernel_rfl) Try.func3
    (ChangeSpec.witness6 (enc := enc) (C := Try.checked) false ⟨#[], #[], []⟩ 8 (by kernel_rfl) (by kernel_rfl) (by kernel_rfl) (by kernel_rfl)) ?_
  intro W base args ds gs before hval0 hW hcnd _ hsh _
  have hval : ∀ (j : Nat) t v, Try.f3.params[j]? = some t → args[j]? = some v → Value.okWide Try.prog W .any base t v := hval0
  have hW' := hW
  obtain ⟨p, q, hA0, hV, rfl, hfz, hnd⟩ := hW
  have hA : DataW.TrodAll enc Try.prog W 0 (fun _ => true) true Try.f3.params.toList args.toList ds p := hA0
  rw [Try.params3] at hA hval
  obtain ⟨rfl, rfl, rfl⟩ := trodAll_none hA
  obtain ⟨rfl, rfl⟩ := trodVars_none hV
  clear hA0 hval0
  refine (walk  W (mx hsh)).mono fun e W' ⟨he, bel⟩ => ?_
  subst he
  exact ⟨_, rfl, _, _, _, [], _, [], hW', trodAll_mk1 (shut_bool Try.underlying4 _), hA, rfl, bel.frame _, fun h => by cases h⟩

theorem over : Rows.headNamesRow.holds Try.pinned (OpenSpec.ofChange Rows.headNamesSpec) :=
  OpenClaim.holds_of_wide 3 Try.f3 rfl rfl rfl rfl rfl rfl rfl ⟨rfl, rfl, rfl, rfl, rfl⟩ rfl rfl rfl rfl rfl (by kernel_rfl) Try.func3 (by kernel_rfl)
    (of_decide_eq_true (by kernel_rfl)) (by unfold Func.isWrapper; first | (rw [if_pos (by decide +kernel)]; kernel_rfl) | (rw [if_neg (by decide +kernel)]; exact ⟨rfl, rfl⟩))
    (fun os started H enc _ => lifted os started H enc)

theorem proved : Rows.HeadNamesSaid := over
end Go.Proofs.Ytfdhogaknlabkaa.headNames
