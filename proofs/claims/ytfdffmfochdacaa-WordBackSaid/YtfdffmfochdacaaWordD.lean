/-
  The contract of the laws' helper 'alive' (the chapter's first examples).
-/
import Derived.Test.YtfdffmfochdacaaWordC
namespace Go.Proofs.Ytfdffmfochdacaa
open Go.RowKit
namespace Hx
open Wd

theorem word0012 : wordL [0, 0, 1, 2] = [258#32] := by decide

def Of1 (W : World) (e : Ending) (w' : World) : Prop :=
  Below W.heap.size W w' ∧ ∃ b off c, e = .returned (.tuple #[.slice (some ⟨b, off, none⟩) 1 c, .int .i64 0]) ∧ w'.cell? ⟨b, off, none⟩ = some (.int .u32 258)
theorem of_0012 (w : World) : Calls Try.prog 9 #[.slice (some ⟨w.heap.size, 0, none⟩) 4 4] (w.alloc (.cells #[.int .u8 0, .int .u8 0, .int .u8 1, .int .u8 2] 5)) (Of1 (w.alloc (.cells #[.int .u8 0, .int .u8 0, .int .u8 1, .int .u8 2] 5))) :=
  (of_ok (some ⟨w.heap.size, 0, none⟩) 4 4 [0, 0, 1, 2] _ (RdA.newS w 5 [0, 0, 1, 2]) rfl (by decide) (by decide)).mono fun e w' ⟨hb, A, c, he, hr⟩ => by
    rw [word0012] at he hr
    obtain ⟨b, off, rfl, _, hc⟩ := hr (by decide)
    exact ⟨hb, b, off, c, he, hc 0 (by decide)⟩
theorem turn_4 (w : World) : Calls Try.prog 19 #[.int .u32 2147483649, .int .i64 4] w fun e w' => e = .returned (.int .u32 24) ∧ w = w' := turn_v 2147483649#32 4 24#32 w (by decide)
theorem turn_m1 (w : World) : Calls Try.prog 19 #[.int .u32 2147483649, .int .i64 (-1)] w fun e w' => e = .returned (.int .u32 3221225472) ∧ w = w' := turn_v 2147483649#32 (-1) 3221225472#32 w (by decide)

set_option maxHeartbeats 1000000 in
set_option maxRecDepth 100000 in
theorem alive_any (w : World) :
    Calls Try.prog 14 #[] w fun e w' => e = .returned (.bool true) ∧ Below w.heap.size w w' := by
  have hb0 := stpA (Below.refl w.heap.size w) (.cells #[.int .u8 0, .int .u8 0, .int .u8 1, .int .u8 2] 5)
  go_enter Try.func14, Try.ntmps14
  go_wp2_with (first
    | (go_at_call 9; (with_reducible refine (of_0012 w).mono ?_); rintro e w1 ⟨hb1, b, off, c, rfl, hcell⟩; have hb1' := stp hb0 hb1)
    | (go_at_call 19; (with_reducible refine (turn_4 _).mono ?_); rintro e w' ⟨rfl, rfl⟩)
    | (go_at_call 19; (with_reducible refine (turn_m1 _).mono ?_); rintro e w' ⟨rfl, rfl⟩))
  go_ret
  exact ⟨rfl, hb1'⟩
theorem tmod32 (n : Int) : -31 ≤ n.tmod 32 ∧ n.tmod 32 ≤ 31 ∧ n.tmod 32 % 32 = n % 32 := by
  rcases Int.le_total 0 n with h | h
  · rw [Int.tmod_eq_emod_of_nonneg h]
    omega
  · obtain ⟨k, rfl⟩ : ∃ k : Int, n = -k := ⟨-n, by omega⟩
    rw [Int.neg_tmod, Int.tmod_eq_emod_of_nonneg (by omega)]
    omega
theorem chs_ff (y z v : W32) (w : World) (h : chs 4294967295#32 y z = v) : Calls Try.prog 11 #[.int .u32 4294967295, .int .u32 y.toNat, .int .u32 z.toNat] w fun e w' => e = .returned (.int .u32 (v.toNat : Nat)) ∧ Below w.heap.size w w' := chs_v 4294967295#32 y z v w h
theorem chs_00 (y z v : W32) (w : World) (h : chs 0#32 y z = v) : Calls Try.prog 11 #[.int .u32 0, .int .u32 y.toNat, .int .u32 z.toNat] w fun e w' => e = .returned (.int .u32 (v.toNat : Nat)) ∧ Below w.heap.size w w' := chs_v 0#32 y z v w h
theorem odd_ff (y z v : W32) (w : World) (h : odd 4294967295#32 y z = v) : Calls Try.prog 12 #[.int .u32 4294967295, .int .u32 y.toNat, .int .u32 z.toNat] w fun e w' => e = .returned (.int .u32 (v.toNat : Nat)) ∧ Below w.heap.size w w' := odd_v 4294967295#32 y z v w h
theorem odd_00 (y z v : W32) (w : World) (h : odd 0#32 y z = v) : Calls Try.prog 12 #[.int .u32 0, .int .u32 y.toNat, .int .u32 z.toNat] w fun e w' => e = .returned (.int .u32 (v.toNat : Nat)) ∧ Below w.heap.size w w' := odd_v 0#32 y z v w h
end Hx
end Go.Proofs.Ytfdffmfochdacaa
