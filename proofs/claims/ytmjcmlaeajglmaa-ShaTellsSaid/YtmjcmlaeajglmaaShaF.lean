/-
  sha.Of of too many bytes.
-/
import Derived.Test.YtmjcmlaeajglmaaShaE
namespace Go.Proofs.Ytmjcmlaeajglmaa
open Go.RowKit
namespace Hx
open Go Wd Sh
set_option linter.unusedVariables false
theorem size22 : (Try.prog.info? 23).map (·.size) = some 20 := by kernel_rfl
theorem z20_one : z20.all (·.oneCell') = true := by simp [z20, Value.oneCell']
set_option maxHeartbeats 2000000 in
set_option maxRecDepth 100000 in
/-- sha.Of of too many. -/
theorem of_many64 (A : Option Addr) (n cp : Nat) (w : World) (hm : 16384 < n) :
    Calls Try.prog 10 #[.slice A n cp] w fun e w' => e = .returned (.tuple #[.agg z20, .int .i64 4]) ∧ Below w.heap.size w w' := by
  have HM : Hid ((n : Int) < 0 ∨ 16384 < (n : Int)) := .inr (by omega)
  go_enter Try.func10, Try.ntmps10
  go_wp2_with (first
    | (go_at_call 12; (with_reducible refine (pad_many n (w.alloc (.cells #[.int .u8 0, .int .u8 0, .int .u8 0, .int .u8 0, .int .u8 0, .int .u8 0, .int .u8 0, .int .u8 0, .int .u8 0, .int .u8 0, .int .u8 0, .int .u8 0, .int .u8 0, .int .u8 0, .int .u8 0, .int .u8 0, .int .u8 0, .int .u8 0, .int .u8 0, .int .u8 0] 23)) HM.out).mono ?_); rintro e w2 ⟨rfl, rfl⟩)
    | (refine wpList_store_row rfl _ _ _ rfl w.heap.size z20 rfl rfl 23 z20 (heap_alloc_new _ _) size22 rfl z20_one ?_)
    | fail)
  exact bodyPost_ret (v := .tuple #[.agg z20, .int .i64 4]) (results_cell_row2 (p := 2) (q := 3) rfl _ _ _ _ z20 _ _ rfl (setRow_heap _ _ _ z20 _ _ (heap_alloc_new _ _)) Try.underlying23 rfl size22) rfl ⟨rfl, below_setRow0 (stpA (Below.refl _ _) _) (Nat.le_refl _) _⟩
end Hx
end Go.Proofs.Ytmjcmlaeajglmaa
