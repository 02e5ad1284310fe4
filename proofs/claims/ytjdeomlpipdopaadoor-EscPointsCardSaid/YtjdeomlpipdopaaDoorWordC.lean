/-
  Contracts of word.Of and word.Bytes.
-/
import Derived.Test.YtjdeomlpipdopaaDoorWordB
namespace Go.Proofs.YtjdeomlpipdopaaDoor
open Go.RowKit
namespace Hx
open Wd

theorem info5 : (Tryd.prog.info? 5).map (fun i => (i.zero, i.size, i.bytes)) = some (some (.int .u8 0), 1, 1) := by kernel_rfl
theorem infoW : (Tryd.prog.info? 105).map (fun i => (i.zero, i.size, i.bytes)) = some (some (.int .u32 0), 1, 4) := by kernel_rfl

theorem row_zero (b : List UInt8) (n : Nat) {w : World} {base : Nat} {e : TypeId} {v : Value} (h : w.ownsRow base e 1 v n (madeCells #[Value.int .u32 0] n).toList) : w.ownsRow base e 1 v n ((rowW b n 0).map encW) := by
  rw [rowW_zero, List.map_replicate, show encW 0#32 = .int .u32 0 from rfl, ← toList_madeCells_one]
  exact h
theorem of_value (b : List UInt8) (k : Nat) (c : UInt8) : bits BinOp.or IntKind.u32 (((pw b (k / 4) (k % 4) : Nat) : Int) * 256) ((c.toNat : Nat) : Int) = ((256 * pw b (k / 4) (k % 4) + c.toNat : Nat) : Int) := by
  have h1 := pw_lt3 b (k / 4) (k % 4) (by omega)
  have hc := c.toNat_lt
  have h2 : ((pw b (k / 4) (k % 4) : Nat) : Int) * 256 = ((2 ^ 8 * pw b (k / 4) (k % 4) : Nat) : Int) := by omega
  rw [h2, u32_or_nat _ _ (by omega) (by omega), ← Nat.two_pow_add_eq_or_of_lt (by omega)]

theorem row_step {b : List UInt8} {n k : Nat} {c : UInt8} {w : World} {base : Nat} {e : TypeId} {v : Value} (hs : (rowW b n k).set (k / 4) (BitVec.ofNat 32 (256 * pw b (k / 4) (k % 4) + (b.getD k 0).toNat)) = rowW b n (k + 1)) (hd : b.getD k 0 = c)
    (h : w.ownsRow base e 1 v n (((rowW b n k).map encW).set (k / 4) (.int .u32 ((256 * pw b (k / 4) (k % 4) + c.toNat : Nat) : Int)))) : w.ownsRow base e 1 v n ((rowW b n (k + 1)).map encW) := by
  have h1 := pw_lt3 b (k / 4) (k % 4) (by omega)
  have hc := c.toNat_lt
  have e1 : encW (BitVec.ofNat 32 (256 * pw b (k / 4) (k % 4) + c.toNat)) = .int .u32 ((256 * pw b (k / 4) (k % 4) + c.toNat : Nat) : Int) := by
    unfold encW
    rw [BitVec.toNat_ofNat, Nat.mod_eq_of_lt (by omega)]
  rw [← hs, hd, List.map_set, e1]
  exact h
/-- What word.Of answers of fours of bytes. -/
def OfOkN (b : List UInt8) (q : Nat) (w : World) (e : Ending) (w' : World) : Prop :=
  Below w.heap.size w w' ∧ ∃ A c, e = .returned (.tuple #[.slice A q c, .int .i64 0]) ∧ RdW w' w'.heap.size A (rowW b q (4 * q))
def OfOk (b : List UInt8) (w : World) (e : Ending) (w' : World) : Prop :=
  Below w.heap.size w w' ∧ ∃ A c, e = .returned (.tuple #[.slice A (wordL b).length c, .int .i64 0]) ∧ RdW w' w'.heap.size A (wordL b)

/-- The r-th byte of a word. -/
def wb (x : W32) (r : Nat) : UInt8 := (x.toNat / 2 ^ (8 * (3 - r)) % 256).toUInt8
theorem wb_int (x : W32) (r : Nat) : (x.toNat : Int) / 2 ^ (8 * (3 - r)) % 256 = ((wb x r).toNat : Int) := by
  have e : (x.toNat : Int) / 2 ^ (8 * (3 - r)) = ((x.toNat / 2 ^ (8 * (3 - r)) : Nat) : Int) := by simp
  unfold wb
  rw [e, u8_nat _ (by omega)]
  simp
theorem w4_take (x : W32) (r : Nat) (h : r < 4) : (w4 x).take (r + 1) = (w4 x).take r ++ [wb x r] := by
  have hx := x.isLt
  rcases (show r = 0 ∨ r = 1 ∨ r = 2 ∨ r = 3 by omega) with rfl | rfl | rfl | rfl
  · show [(x.toNat / 16777216).toUInt8] = [(x.toNat / 16777216 % 256).toUInt8]
    rw [Nat.mod_eq_of_lt (by omega)]
  · rfl
  · rfl
  · show _ = _ ++ [(x.toNat / 1 % 256).toUInt8]
    rw [Nat.div_one]
    rfl

theorem row_four {l : List W32} {k : Nat} {x : W32} {w : World} {base : Nat} {e : TypeId} {v : Value} (hpt : bytesL (l.take (k + 1)) = bytesL (l.take k) ++ w4 x) (h : w.ownsRow base e 1 v (4 * k + 4) (Lib.byteCells (bytesL (l.take k) ++ (w4 x).take 4))) :
    w.ownsRow base e 1 v (4 * (k + 1)) (Lib.byteCells (bytesL (l.take (k + 1)))) := by
  rw [hpt]
  exact h

end Hx
end Go.Proofs.YtjdeomlpipdopaaDoor
