/-
  The document's own Write, Sum, Signed, Level.
-/
import Derived.Test.YtllcmfohfnidpaaDoorNumS
namespace Go.Proofs.YtllcmfohfnidpaaDoor
open Go.RowKit
namespace Hx
open Nmb
set_option linter.unusedVariables false
/-- What Write answers. -/
def writeR (n : Int) : ByteArray × Int := if 0 ≤ n ∧ n ≤ 9007199254740991 then (⟨(dg n.toNat).toArray⟩, 0) else (⟨#[]⟩, 2)
set_option maxHeartbeats 2000000 in
set_option maxRecDepth 100000 in
theorem rwrite6 (n : Int) (w : World) (t : ByteArray) (b : Int) (h : writeR n = (t, b)) :
    Calls Tryd.prog 15 #[.int .i64 n] w fun e w' => e = .returned (.tuple #[.string t, .int .i64 b]) ∧ Below w.heap.size w w' := by
  unfold writeR at h
  by_cases h0 : n < 0
  · have d0 : decide (n < 0) = true := by simpa using h0
    rw [if_neg (by omega)] at h
    obtain ⟨rfl, rfl⟩ : (⟨#[]⟩ : ByteArray) = t ∧ 2 = b := by simpa using h
    clear h
    go_enter Tryd.func15, Tryd.ntmps15
    go_wp2_with fail
    go_ret2
    exact ⟨rfl, Below.refl _ _⟩
  · have d0 : decide (n < 0) = false := by simpa using h0
    by_cases h1 : 9007199254740991 < n
    · have d1 : decide (9007199254740991 < n) = true := by simpa using h1
      rw [if_neg (by omega)] at h
      obtain ⟨rfl, rfl⟩ : (⟨#[]⟩ : ByteArray) = t ∧ 2 = b := by simpa using h
      clear h
      go_enter Tryd.func15, Tryd.ntmps15
      go_wp2_with fail
      go_ret2
      exact ⟨rfl, Below.refl _ _⟩
    · obtain ⟨k, rfl⟩ : ∃ k : Nat, n = (k : Int) := ⟨n.toNat, by omega⟩
      have d1 : decide ((9007199254740991 : Int) < (k : Int)) = false := by simp; omega
      rw [if_pos (by omega), Int.toNat_natCast] at h
      obtain ⟨ht, rfl⟩ := (Prod.mk.injEq _ _ _ _).mp h
      have HT := Lib.hid ht.symm
      have HK : Hid (k ≤ 9223372036854775807) := Lib.hid (by omega)
      clear h ht
      go_enter Tryd.func15, Tryd.ntmps15
      go_wp2_with (first
        | (go_at_call 24; (with_reducible refine (rdigits6 k w HK.out t HT.out).mono ?_); rintro e w1 ⟨rfl, hb1⟩)
        | fail)
      go_ret2
      exact ⟨rfl, hb1⟩
/-- What Sum answers. -/
def sumR (n m : Int) : Int × Int := if 0 ≤ n ∧ n ≤ 9007199254740991 ∧ -9007199254740991 ≤ m ∧ m ≤ 9007199254740991 ∧ 0 ≤ n + m ∧ n + m ≤ 9007199254740991 then (n + m, 0) else (0, 2)
set_option maxHeartbeats 2000000 in
set_option maxRecDepth 100000 in
theorem rsum6 (n m : Int) (w : World) (a b : Int) (h : sumR n m = (a, b)) :
    Calls Tryd.prog 16 #[.int .i64 n, .int .i64 m] w fun e w' => e = .returned (.tuple #[.int .i64 a, .int .i64 b]) ∧ Below w.heap.size w w' := by
  unfold sumR at h
  by_cases hc : 0 ≤ n ∧ n ≤ 9007199254740991 ∧ -9007199254740991 ≤ m ∧ m ≤ 9007199254740991
  · have d0 : decide (n < 0) = false := by simp; omega
    have d1 : decide (9007199254740991 < n) = false := by simp; omega
    have d2 : decide (m < -9007199254740991) = false := by simp; omega
    have d3 : decide (9007199254740991 < m) = false := by simp; omega
    by_cases hs : 0 ≤ n + m ∧ n + m ≤ 9007199254740991
    · have d4 : decide (n + m < 0) = false := by simp; omega
      have d5 : decide (9007199254740991 < n + m) = false := by simp; omega
      rw [if_pos (by omega)] at h
      obtain ⟨rfl, rfl⟩ := (Prod.mk.injEq _ _ _ _).mp h
      clear h
      go_enter Tryd.func16, Tryd.ntmps16
      go_wp2_with fail
      go_ret2
      exact ⟨rfl, Below.refl _ _⟩
    · rw [if_neg (by omega)] at h
      obtain ⟨rfl, rfl⟩ := (Prod.mk.injEq _ _ _ _).mp h
      clear h
      by_cases h0 : n + m < 0
      · have d4 : decide (n + m < 0) = true := by simp; omega
        go_enter Tryd.func16, Tryd.ntmps16
        go_wp2_with fail
        go_ret2
        exact ⟨rfl, Below.refl _ _⟩
      · have d4 : decide (n + m < 0) = false := by simp; omega
        have d5 : decide (9007199254740991 < n + m) = true := by simp; omega
        go_enter Tryd.func16, Tryd.ntmps16
        go_wp2_with fail
        go_ret2
        exact ⟨rfl, Below.refl _ _⟩
  · rw [if_neg (by omega)] at h
    obtain ⟨rfl, rfl⟩ := (Prod.mk.injEq _ _ _ _).mp h
    clear h
    by_cases h0 : n < 0
    · have d0 : decide (n < 0) = true := by simp; omega
      clear hc
      go_enter Tryd.func16, Tryd.ntmps16
      go_wp2_with fail
      go_ret2
      exact ⟨rfl, Below.refl _ _⟩
    · have d0 : decide (n < 0) = false := by simp; omega
      by_cases h1 : 9007199254740991 < n
      · have d1 : decide (9007199254740991 < n) = true := by simp; omega
        clear hc
        go_enter Tryd.func16, Tryd.ntmps16
        go_wp2_with fail
        go_ret2
        exact ⟨rfl, Below.refl _ _⟩
      · have d1 : decide (9007199254740991 < n) = false := by simp; omega
        by_cases h2 : m < -9007199254740991
        · have d2 : decide (m < -9007199254740991) = true := by simp; omega
          clear hc
          go_enter Tryd.func16, Tryd.ntmps16
          go_wp2_with fail
          go_ret2
          exact ⟨rfl, Below.refl _ _⟩
        · have d2 : decide (m < -9007199254740991) = false := by simp; omega
          have d3 : decide (9007199254740991 < m) = true := by simp; omega
          clear hc
          go_enter Tryd.func16, Tryd.ntmps16
          go_wp2_with fail
          go_ret2
          exact ⟨rfl, Below.refl _ _⟩
/-- What Level answers. -/
def levR (l : List UInt8) : Int × Int := match ((List.range 256).map fun k : Nat => (k : Int) - 128).find? (fun n => decide (sgn n = l)) with | some n => (n, 0) | none => (0, 60)
theorem levR_spec {l : List UInt8} {a b : Int} (h : levR l = (a, b)) : (-128 ≤ a ∧ a ≤ 127 ∧ sgn a = l ∧ b = 0) ∨ ((∀ n, -128 ≤ n → n ≤ 127 → sgn n ≠ l) ∧ a = 0 ∧ b = 60) := by
  unfold levR at h
  cases hf : ((List.range 256).map fun k : Nat => (k : Int) - 128).find? (fun n => decide (sgn n = l)) with
  | some n =>
    rw [hf] at h
    obtain ⟨rfl, rfl⟩ := (Prod.mk.injEq _ _ _ _).mp h
    have h1 := List.find?_some hf
    have h2 := List.mem_of_find?_eq_some hf
    obtain ⟨k, hk, rfl⟩ := List.mem_map.1 h2
    have := List.mem_range.1 hk
    exact .inl ⟨by omega, by omega, of_decide_eq_true h1, rfl⟩
  | none =>
    rw [hf] at h
    obtain ⟨rfl, rfl⟩ := (Prod.mk.injEq _ _ _ _).mp h
    refine .inr ⟨fun n h0 h1 => ?_, rfl, rfl⟩
    have := List.find?_eq_none.1 hf n (List.mem_map.2 ⟨(n + 128).toNat, List.mem_range.2 (by omega), by omega⟩)
    simpa using this
end Hx
end Go.Proofs.YtllcmfohfnidpaaDoor
