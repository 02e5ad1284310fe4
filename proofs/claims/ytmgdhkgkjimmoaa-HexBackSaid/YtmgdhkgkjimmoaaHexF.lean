/-
  Plain lemmas: digits are in the order of bytes; an empty slice of the call's own.
-/
import Derived.Test.YtmgdhkgkjimmoaaHexE
namespace Go.Proofs.Ytmgdhkgkjimmoaa
open Go.RowKit
namespace Hx

theorem hx_lt : ∀ a b : Fin 16, (hx a.val < hx b.val) = (a < b) ∧ (hx a.val = hx b.val) = (a = b) := by decide
theorem hx_less (a b : Nat) (ha : a < 16) (hb : b < 16) : (hx a < hx b ↔ a < b) ∧ (hx a = hx b ↔ a = b) := by
  have := hx_lt ⟨a, ha⟩ ⟨b, hb⟩
  simp only [Fin.mk_lt_mk, Fin.mk.injEq] at this
  exact ⟨by rw [this.1], by rw [this.2]⟩

theorem less_two (a b : UInt8) (x y : List UInt8) : Op.bytesLess (two a ++ x) (two b ++ y) = (decide (a < b) || (a == b && Op.bytesLess x y)) := by
  have la := a.toNat_lt
  have lb := b.toNat_lt
  have h1 := hx_less (a.toNat / 16) (b.toNat / 16) (by omega) (by omega)
  have h2 := hx_less (a.toNat % 16) (b.toNat % 16) (by omega) (by omega)
  have e1 : a < b ↔ a.toNat < b.toNat := UInt8.lt_iff_toNat_lt
  have e2 : a = b ↔ a.toNat = b.toNat := UInt8.toNat_inj.symm
  rw [Bool.eq_iff_iff]
  simp only [two, List.cons_append, List.nil_append, Op.bytesLess, Bool.or_eq_true, Bool.and_eq_true, decide_eq_true_eq, beq_iff_eq]
  rw [h1.1, h1.2, h2.1, h2.2, e1, e2]
  constructor
  · rintro (h | ⟨h, h | ⟨h', h''⟩⟩)
    · left; omega
    · left; omega
    · right; exact ⟨by omega, h''⟩
  · rintro (h | ⟨h, h'⟩)
    · by_cases hq : a.toNat / 16 < b.toNat / 16
      · left; exact hq
      · right; exact ⟨by omega, .inl (by omega)⟩
    · right; exact ⟨by omega, .inr ⟨by omega, h'⟩⟩
theorem putL_less (a b : List UInt8) : Op.bytesLess (putL a) (putL b) = Op.bytesLess a b := by
  induction a generalizing b with
  | nil =>
    cases b with
    | nil => rfl
    | cons y b => rfl
  | cons x a ih =>
    cases b with
    | nil => simp [putL, Op.bytesLess]
    | cons y b =>
      have ea : putL (x :: a) = two x ++ putL a := by simp [putL]
      have eb : putL (y :: b) = two y ++ putL b := by simp [putL]
      rw [ea, eb, less_two, ih, Op.bytesLess]

theorem own_empty (w : World) (base : Nat) (e : TypeId) (hb : base ≤ w.heap.size) : (w.alloc (.cells #[] e)).ownsRow base e 1 (.slice (some ⟨w.heap.size, 0, none⟩) 0 0) 0 [] :=
  World.ownsRow_made w #[] 0 hb (by decide) rfl
theorem own_two {w : World} {base : Nat} {e : TypeId} {v : Value} {a b : Nat} {x y : List UInt8} (h : w.ownsRow base e 1 v (0 + a + b) ([] ++ Lib.byteCells x ++ Lib.byteCells y)) : w.ownsRow base e 1 v (a + b) (Lib.byteCells (x ++ y)) := by
  rw [Lib.byteCells_append]
  simpa using h
end Hx
end Go.Proofs.Ytmgdhkgkjimmoaa
