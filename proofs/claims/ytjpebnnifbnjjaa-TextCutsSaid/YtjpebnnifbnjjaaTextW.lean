/-
  The contract of the laws' helper 'alive' (the chapter's first example).
-/
import Derived.Test.YtjpebnnifbnjjaaTextV
namespace Go.Proofs.Ytjpebnnifbnjjaa
open Go.RowKit
namespace Hx
open Tx
set_option linter.unusedVariables false
theorem al_pts : pts [65, 195, 169, 226, 130, 172, 240, 159, 153, 130] = some [65, 233, 8364, 128578] := by decide +kernel
theorem points_al (w : World) : Calls Try.prog 14 #[.string ⟨#[65, 195, 169, 226, 130, 172, 240, 159, 153, 130]⟩] w fun e w' => Below w.heap.size w w' ∧ ∃ A c, e = .returned (.tuple #[.slice A 4 c, .int .i64 0]) ∧ RdZ w' w'.heap.size A [65, 233, 8364, 128578] :=
  (points5_ok _ [65, 233, 8364, 128578] w (by decide) al_pts).mono fun e w' ⟨hb, A, c, he, hz, hr⟩ => ⟨hb, A, c, he, hr⟩
theorem same_al (A : Option Addr) (c : Nat) (w : World) (h : RdZ w w.heap.size A [65, 233, 8364, 128578]) :
    Calls Try.prog 16 #[.slice A 4 c, .slice (some ⟨w.heap.size, 0, none⟩) 4 4] (w.alloc (.cells #[.int .i64 65, .int .i64 233, .int .i64 8364, .int .i64 128578] 3)) fun e w' => e = .returned (.bool true) ∧ Below w.heap.size w w' :=
  (rsame5_yes A (some ⟨w.heap.size, 0, none⟩) 4 c 4 [65, 233, 8364, 128578] (w.alloc (.cells #[.int .i64 65, .int .i64 233, .int .i64 8364, .int .i64 128578] 3)) (h.on (stpA (Below.refl _ w) _)) (RdG.newS w 3 [65, 233, 8364, 128578]) rfl (by decide)).mono fun e w' ⟨he, hb⟩ => ⟨he, stp (stpA (Below.refl _ w) _) hb⟩
set_option maxHeartbeats 1000000 in
set_option maxRecDepth 100000 in
theorem alive5 (w : World) : Calls Try.prog 12 #[] w fun e w' => e = .returned (.bool true) ∧ Below w.heap.size w w' := by
  go_enter Try.func12, Try.ntmps12
  go_wp2_with (first
    | (go_at_call 14; (with_reducible refine (points_al w).mono ?_); rintro e w1 ⟨hb1, A, c, rfl, hr⟩; have HR := Lib.hid hr; clear hr)
    | (go_at_call 16; (with_reducible refine (same_al A c w1 HR.out).mono ?_); rintro e w2 ⟨rfl, hb2⟩)
    | fail)
  go_ret
  exact ⟨rfl, stp hb1 hb2⟩
end Hx
end Go.Proofs.Ytjpebnnifbnjjaa
