/-
  Contracts of package word's small functions: a bit, how many of three, turned, summed.
-/
import Derived.Test.YtmjcmlaeajglmaaMemG
import Derived.Deep.LoopGhost
import Derived.Laws.IdiomArrays
namespace Go.Proofs.Ytmjcmlaeajglmaa
open Go.RowKit
namespace Hx
open Wd

theorem and_one (x : W32) (k : Nat) : bits BinOp.and IntKind.u32 ((x.toNat : Int) / 2 ^ k) 1 = ((bt x k : Nat) : Int) := by
  have hx := x.isLt
  have h1 : (x.toNat : Int) / 2 ^ k = ((x.toNat / 2 ^ k : Nat) : Int) := by simp
  have h2 : x.toNat / 2 ^ k ≤ x.toNat := Nat.div_le_self _ _
  rw [h1]
  have := u32_and_nat (x.toNat / 2 ^ k) 1 (by omega) (by decide)
  rw [Nat.and_one_is_mod] at this
  exact this
theorem bit_test (x : W32) (k : Nat) : (bits BinOp.and IntKind.u32 ((x.toNat : Int) / 2 ^ k) 1 == 1) = x.getLsbD k := by
  rw [and_one, bt_bit]
  cases x.getLsbD k <;> rfl

set_option maxRecDepth 100000 in
set_option maxHeartbeats 1000000 in
/-- word.has. -/
theorem has_any (x : W32) (k : Nat) (hk : k < 32) (w : World) :
    Calls Try.prog 75 #[.int .u32 x.toNat, .int .i64 k] w fun e w' => e = .returned (.bool (x.getLsbD k)) ∧ w = w' := by
  have hx := word_lt x
  go_enter Try.func75, Try.ntmps75
  go_wp2
  go_ret
  exact ⟨ret_b (bit_test x k), rfl⟩
theorem has_b (x : W32) (k : Nat) (b : Bool) (hk : k < 32) (h : x.getLsbD k = b) (w : World) :
    Calls Try.prog 75 #[.int .u32 x.toNat, .int .i64 k] w fun e w' => e = .returned (.bool b) ∧ w = w' := by
  have := has_any x k hk w
  rw [h] at this
  exact this

theorem turn_value (x : W32) (n : Int) (u : Nat) (h : (n % 32).toNat = u % 32) : bits BinOp.or IntKind.u32 ((x.toNat : Int) * 2 ^ (u % 32) % 4294967296) ((x.toNat : Int) / 2 ^ (32 - u % 32)) = (((trn x n).toNat : Nat) : Int) := by
  have hx := x.isLt
  have h1 : (x.toNat : Int) * 2 ^ (u % 32) % 4294967296 = ((x.toNat * 2 ^ (u % 32) % 4294967296 : Nat) : Int) := by simp
  have h2 : (x.toNat : Int) / 2 ^ (32 - u % 32) = ((x.toNat / 2 ^ (32 - u % 32) : Nat) : Int) := by simp
  have h3 : x.toNat / 2 ^ (32 - u % 32) ≤ x.toNat := Nat.div_le_self _ _
  rw [h1, h2, u32_or_nat _ _ (Nat.mod_lt _ (by decide)) (by omega), trn, rot_nat, h]
set_option maxRecDepth 100000 in
set_option maxHeartbeats 1000000 in
/-- word.Turn. -/
theorem turn_any (x : W32) (n : Int) (w : World) :
    Calls Try.prog 58 #[.int .u32 x.toNat, .int .i64 n] w fun e w' => e = .returned (.int .u32 (trn x n).toNat) ∧ w = w' := by
  have hx := word_lt x
  have hu : IntKind.u64.wrap n = n % 18446744073709551616 := by simp [IntKind.wrap, IntKind.bits, IntKind.signed]
  obtain ⟨u, hu2⟩ : ∃ u : Nat, n % 18446744073709551616 = u := ⟨(n % 18446744073709551616).toNat, by omega⟩
  have hu3 : (n % 32).toNat = u % 32 := by omega
  rw [hu2] at hu
  have HU := Lib.hid hu3
  clear hu2 hu3
  go_enter Try.func58, Try.ntmps58
  go_wp2
  go_ret
  exact ⟨ret_w (turn_value x n u HU.out), rfl⟩
theorem turn_v (x : W32) (n : Int) (v : W32) (w : World) (h : trn x n = v) :
    Calls Try.prog 58 #[.int .u32 x.toNat, .int .i64 n] w fun e w' => e = .returned (.int .u32 v.toNat) ∧ w = w' := by
  subst h
  exact turn_any x n w

set_option maxRecDepth 100000 in
set_option maxHeartbeats 2000000 in
/-- word.ones. -/
theorem ones_any (x y z : W32) (k : Nat) (hk : k < 32) (w : World) :
    Calls Try.prog 69 #[.agg #[.int .u32 x.toNat, .int .u32 y.toNat, .int .u32 z.toNat], .int .i64 k] w fun e w' => e = .returned (.int .i64 (((x.getLsbD k).toNat + (y.getLsbD k).toNat + (z.getLsbD k).toNat : Nat) : Int)) ∧ Below w.heap.size w w' := by
  have i0 : ∀ w, (Instr.index 98 (.agg #[.int .u32 x.toNat, .int .u32 y.toNat, .int .u32 z.toNat]) (.int .i64 0)).run Try.prog w = .ok (.int .u32 x.toNat) w := fun _ => by kernel_rfl
  have i1 : ∀ w, (Instr.index 98 (.agg #[.int .u32 x.toNat, .int .u32 y.toNat, .int .u32 z.toNat]) (.int .i64 1)).run Try.prog w = .ok (.int .u32 y.toNat) w := fun _ => by kernel_rfl
  have i2 : ∀ w, (Instr.index 98 (.agg #[.int .u32 x.toNat, .int .u32 y.toNat, .int .u32 z.toNat]) (.int .i64 2)).run Try.prog w = .ok (.int .u32 z.toNat) w := fun _ => by kernel_rfl
  obtain ⟨a, ha⟩ : ∃ a, x.getLsbD k = a := ⟨_, rfl⟩
  obtain ⟨b, hb⟩ : ∃ b, y.getLsbD k = b := ⟨_, rfl⟩
  obtain ⟨c, hc⟩ : ∃ c, z.getLsbD k = c := ⟨_, rfl⟩
  rw [ha, hb, hc]
  have HA := Lib.hid ha
  have HB := Lib.hid hb
  have HC := Lib.hid hc
  clear ha hb hc
  have ba : (a.toNat : Int) ≤ 1 := by cases a <;> decide
  have bb : (b.toNat : Int) ≤ 1 := by cases b <;> decide
  go_enter Try.func69, Try.ntmps69
  go_wp2
  go_loop [5, 9] (fun s i => ∃ j : Nat, j ≤ 3 ∧ i = .int .i64 j ∧ s = .int .i64 ((((if 0 < j then a.toNat else 0) + (if 1 < j then b.toNat else 0) + (if 2 < j then c.toNat else 0) : Nat)) : Int)) (fun _ i => 3 - (intOf i).toNat)
  case atStart => exact ⟨0, by omega, rfl, rfl⟩
  case round =>
    obtain ⟨j, hj, rfl, rfl⟩ := hrel
    rcases (show j = 0 ∨ j = 1 ∨ j = 2 ∨ j = 3 by omega) with rfl | rfl | rfl | rfl
    · clear i1 i2
      cases a
      · go_wp2_with (go_at_call 75; (with_reducible refine (has_b x k false hk HA.out _).mono ?_); rintro e w' ⟨rfl, rfl⟩)
        go_round
        case rel => exact ⟨1, by omega, rfl, by simp⟩
        case measure => simp [intOf]
      · go_wp2_with (go_at_call 75; (with_reducible refine (has_b x k true hk HA.out _).mono ?_); rintro e w' ⟨rfl, rfl⟩)
        go_round
        case rel => exact ⟨1, by omega, rfl, by simp⟩
        case measure => simp [intOf]
    · clear i0 i2
      cases b
      · go_wp2_with (go_at_call 75; (with_reducible refine (has_b y k false hk HB.out _).mono ?_); rintro e w' ⟨rfl, rfl⟩)
        go_round
        case rel => exact ⟨2, by omega, rfl, by simp⟩
        case measure => simp [intOf]
      · go_wp2_with (go_at_call 75; (with_reducible refine (has_b y k true hk HB.out _).mono ?_); rintro e w' ⟨rfl, rfl⟩)
        go_round
        case rel => exact ⟨2, by omega, rfl, by simp⟩
        case measure => simp [intOf]
    · clear i0 i1
      cases c
      · go_wp2_with (go_at_call 75; (with_reducible refine (has_b z k false hk HC.out _).mono ?_); rintro e w' ⟨rfl, rfl⟩)
        go_round
        case rel => exact ⟨3, by omega, rfl, by simp⟩
        case measure => simp [intOf]
      · go_wp2_with (go_at_call 75; (with_reducible refine (has_b z k true hk HC.out _).mono ?_); rintro e w' ⟨rfl, rfl⟩)
        go_round
        case rel => exact ⟨3, by omega, rfl, by simp⟩
        case measure => simp [intOf]
    · clear i0 i1 i2
      go_wp2
      go_ret
      exact ⟨ret_i (by simp), (Below.refl _ _).alloc (Nat.le_refl _) _⟩
end Hx
end Go.Proofs.Ytmjcmlaeajglmaa
