/-
  Contracts of num.Version: slices.Index of bytes, the reader of a part, the two parts.
-/
import Derived.Test.YtjdeomlpipdopaaDoorNumX
import Derived.Test.YtjdeomlpipdopaaDoorMemG
import Derived.Lib.ConvBytes
import Derived.Deep.LoopGhost
namespace Go.Proofs.YtjdeomlpipdopaaDoor
open Go.RowKit
namespace Hx
open Nmb
set_option linter.unusedVariables false
/-- Where a byte is met first. -/
def ix (x : UInt8) : List UInt8 → Option Nat
  | [] => none
  | b :: l => if b = x then some 0 else (ix x l).map (· + 1)
theorem ix_none {x : UInt8} {l : List UInt8} (h : x ∉ l) : ix x l = none := by
  induction l with
  | nil => rfl
  | cons b l ih =>
    rw [List.mem_cons, not_or] at h
    unfold ix
    rw [if_neg (Ne.symm h.1), ih h.2]
    rfl
theorem ix_cut {x : UInt8} {a : List UInt8} (h : x ∉ a) (b : List UInt8) : ix x (a ++ x :: b) = some a.length := by
  induction a with
  | nil => unfold ix; simp
  | cons c a ih =>
    rw [List.mem_cons, not_or] at h
    show (if c = x then some 0 else (ix x (a ++ x :: b)).map (· + 1)) = _
    rw [if_neg (Ne.symm h.1), ih h.2]
    rfl
theorem ix_some {x : UInt8} {l : List UInt8} {k : Nat} (h : ix x l = some k) : ∃ a b, l = a ++ x :: b ∧ a.length = k ∧ x ∉ a := by
  induction l generalizing k with
  | nil => cases h
  | cons c l ih =>
    unfold ix at h
    by_cases hc : c = x
    · rw [if_pos hc] at h
      obtain rfl : 0 = k := Option.some.inj h
      exact ⟨[], l, by rw [hc]; rfl, rfl, by simp⟩
    · rw [if_neg hc] at h
      cases hi : ix x l with
      | none => rw [hi] at h; cases h
      | some j =>
        rw [hi] at h
        obtain rfl : j + 1 = k := Option.some.inj h
        obtain ⟨a, b, h1, h2, h3⟩ := ih hi
        exact ⟨c :: a, b, by rw [h1]; rfl, by rw [List.length_cons, h2], by rw [List.mem_cons, not_or]; exact ⟨Ne.symm hc, h3⟩⟩
theorem ix_at {x : UInt8} {l : List UInt8} {k : Nat} (h : k < l.length) (h1 : x ∉ l.take k) (h2 : l[k]'h = x) : ix x l = some k := by
  have e : l = l.take k ++ x :: l.drop (k + 1) := by
    rw [← h2, ← List.drop_eq_getElem_cons h, List.take_append_drop]
  rw [e, ix_cut h1, List.length_take, Nat.min_eq_left (Nat.le_of_lt h)]
/-- What slices.Index answers. -/
def ixI (x : UInt8) (l : List UInt8) : Int := match ix x l with | some k => (k : Int) | none => -1
/-- What the reader of a part answers. -/
def partR (l : List UInt8) : Int × Int := match readN l with | some n => if n ≤ 99 then ((n : Int), 0) else (0, 60) | none => (0, 60)
theorem part_bad {l : List UInt8} {a b : Int} (h : partR l = (a, b)) : (b = 0 ∧ 0 ≤ a ∧ a ≤ 99 ∧ readN l = some a.toNat) ∨ (b = 60 ∧ a = 0 ∧ ∀ n, n ≤ 99 → readN l ≠ some n) := by
  unfold partR at h
  cases hr : readN l with
  | none =>
    rw [hr] at h
    obtain ⟨rfl, rfl⟩ : 0 = a ∧ 60 = b := (Prod.mk.injEq _ _ _ _).mp h
    exact .inr ⟨rfl, rfl, fun n _ e => by cases e⟩
  | some m =>
    rw [hr] at h
    dsimp only at h
    by_cases h9 : m ≤ 99
    · rw [if_pos h9] at h
      obtain ⟨rfl, rfl⟩ : (m : Int) = a ∧ 0 = b := (Prod.mk.injEq _ _ _ _).mp h
      exact .inl ⟨rfl, by omega, by omega, by simp⟩
    · rw [if_neg h9] at h
      obtain ⟨rfl, rfl⟩ : 0 = a ∧ 60 = b := (Prod.mk.injEq _ _ _ _).mp h
      exact .inr ⟨rfl, rfl, fun n hn e => by injection e with e; omega⟩
theorem info_u8 : (Tryd.prog.info? 5).map (fun i => (i.zero, i.size, i.bytes)) = some (some (.int .u8 0), 1, 1) := by kernel_rfl
def encU (c : UInt8) : Value := .int .u8 c.toNat
theorem str_rd (s : ByteArray) (w : World) : ∃ C WB, (convert 9 22 (.string s)).run Tryd.prog w = .ok (.slice (some ⟨w.heap.size, 0, none⟩) s.size C) WB ∧ RdA WB WB.heap.size (some ⟨w.heap.size, 0, none⟩) s.data.toList ∧ s.size ≤ C ∧ Below w.heap.size w WB := by
  have h := Lib.run_convert_string_bytes (P := Tryd.prog) w 9 22 5 s Tryd.underlying9 Tryd.underlying22 Tryd.underlying5
  refine ⟨_, _, h, ?_, grownCap_ge _ _ _ _, ⟨rfl, rfl, rfl, by rw [Lib.bytesWorld_size]; omega, fun k hk => Lib.bytesWorld_at_old w _ _ k hk⟩⟩
  intro hp
  refine ⟨w.heap.size, 0, rfl, by rw [Lib.bytesWorld_size]; omega, fun j hj => ?_⟩
  have hs := ba_len6 s
  rw [Nat.zero_add, Lib.bytesWorld_cell w _ _ j (by omega)]
  rw [List.getD_eq_getElem?_getD, List.getElem?_eq_getElem hj]
  rfl
theorem dg_no46 (n : Nat) : (46 : UInt8) ∉ dg n := dg_not n 46 (by decide)
theorem cut_eq {l x y : List UInt8} {b : UInt8} {k : Nat} (e : l = x ++ b :: y) (h : x.length = k) : l.take k = x ∧ l.drop (k + 1) = y := by
  subst h
  rw [e]
  refine ⟨by simp, ?_⟩
  rw [show x ++ b :: y = (x ++ [b]) ++ y by simp, List.drop_left' (by simp)]
end Hx
end Go.Proofs.YtjdeomlpipdopaaDoor
