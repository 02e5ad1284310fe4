/-
  Contracts of package word's small functions: a bit, how many of three, turned, summed.
-/
import Derived.Test.YtjdeomlpipdopaaDoorMemG
import Derived.Deep.LoopGhost
import Derived.Laws.IdiomArrays
namespace Go.Proofs.YtjdeomlpipdopaaDoor
open Go.RowKit
namespace Hx
open Wd

theorem and_one (x : W32) (k : Nat) : bits BinOp.and IntKind.u32 ((x.toNat : Int) / 2 ^ k) 1 = ((bt x k : Nat) : Int) := by
  have hx := x.isLt
  have h1 : (x.toNat : Int) / 2 ^ k = ((x.toNat / 2 ^ k : Nat) : Int) := by simp
  have h2 : x.toNat / 2 ^ k ≤ x.toNat := Nat.div_le_self _ _
  rw [h1]
  have := u32_and_nat (x.toNat / 2 ^ k) 1 (by omega) (by decide)
  rw [Nat.and_one_is_mod] at this
  exact this
theorem bit_test (x : W32) (k : Nat) : (bits BinOp.and IntKind.u32 ((x.toNat : Int) / 2 ^ k) 1 == 1) = x.getLsbD k := by
  rw [and_one, bt_bit]
  cases x.getLsbD k <;> rfl

theorem turn_value (x : W32) (n : Int) (u : Nat) (h : (n % 32).toNat = u % 32) : bits BinOp.or IntKind.u32 ((x.toNat : Int) * 2 ^ (u % 32) % 4294967296) ((x.toNat : Int) / 2 ^ (32 - u % 32)) = (((trn x n).toNat : Nat) : Int) := by
  have hx := x.isLt
  have h1 : (x.toNat : Int) * 2 ^ (u % 32) % 4294967296 = ((x.toNat * 2 ^ (u % 32) % 4294967296 : Nat) : Int) := by simp
  have h2 : (x.toNat : Int) / 2 ^ (32 - u % 32) = ((x.toNat / 2 ^ (32 - u % 32) : Nat) : Int) := by simp
  have h3 : x.toNat / 2 ^ (32 - u % 32) ≤ x.toNat := Nat.div_le_self _ _
  rw [h1, h2, u32_or_nat _ _ (Nat.mod_lt _ (by decide)) (by omega), trn, rot_nat, h]
end Hx
end Go.Proofs.YtjdeomlpipdopaaDoor
