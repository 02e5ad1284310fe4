/-
  Contracts of word.Sum, and of three words put together: Choose, Odd, Most.
-/
import Derived.Test.YtjdeomlpipdopaaDoorWordA
namespace Go.Proofs.YtjdeomlpipdopaaDoor
open Go.RowKit
namespace Hx
open Wd

/-- The three words in a variable of the call's own. -/
def Box3 (w : World) (B : Nat) (x y z : W32) : Prop := B < w.heap.size ∧ w.cell? ⟨B, 0, none⟩ = some (.int .u32 x.toNat) ∧ w.cell? ⟨B, 1, none⟩ = some (.int .u32 y.toNat) ∧ w.cell? ⟨B, 2, none⟩ = some (.int .u32 z.toNat)

theorem odd_test (a b c : Bool) : (((a.toNat : Int) + (b.toNat : Int) + (c.toNat : Int)) % 2 == 1) = (a ^^ b ^^ c) := by cases a <;> cases b <;> cases c <;> rfl
theorem mst_test (a b c : Bool) : decide (2 ≤ (a.toNat : Int) + (b.toNat : Int) + (c.toNat : Int)) = (a && b || a && c || b && c) := by cases a <;> cases b <;> cases c <;> rfl
theorem or_value (f : Nat → Bool) (k : Nat) (hk : k < 32) (h : f k = true) : bits BinOp.or IntKind.u32 ((bvn f k : Nat) : Int) (2 ^ k % 4294967296) = ((bvn f (k + 1) : Nat) : Int) := by
  have h1 : (2 : Nat) ^ k < 2 ^ 32 := Nat.pow_lt_pow_of_lt (by decide) hk
  have h2 : (2 : Int) ^ k % 4294967296 = ((2 ^ k : Nat) : Int) := by
    have e : ((2 : Int) ^ k) = ((2 ^ k : Nat) : Int) := by simp
    rw [e]
    exact (Int.natCast_emod (2 ^ k) 4294967296).symm.trans (by rw [Nat.mod_eq_of_lt h1])
  rw [h2, u32_or_nat _ _ (bvn_lt32 f k (by omega)) (by omega), bvn_or f k h]
theorem Box3.keep {w w' : World} {B : Nat} {x y z : W32} (h : Box3 w B x y z) (hb : Below w.heap.size w w') : Box3 w' B x y z := by
  obtain ⟨h0, h1, h2, h3⟩ := h
  exact ⟨Nat.lt_of_lt_of_le h0 hb.size, (hb.cell (p := ⟨B, 0, none⟩) h0).trans h1, (hb.cell (p := ⟨B, 1, none⟩) h0).trans h2, (hb.cell (p := ⟨B, 2, none⟩) h0).trans h3⟩

theorem box3_new (w : World) (t : TypeId) (x y z : W32) : Box3 (w.alloc (.cells #[.int .u32 x.toNat, .int .u32 y.toNat, .int .u32 z.toNat] t)) w.heap.size x y z :=
  ⟨by simp, by simp [World.cell?_alloc_new], by simp [World.cell?_alloc_new], by simp [World.cell?_alloc_new]⟩
end Hx
end Go.Proofs.YtjdeomlpipdopaaDoor
