/-
  Contracts of package num.
-/
import Derived.Test.YtjdeomlpipdopaaDoorNumY
import Derived.Test.YtjdeomlpipdopaaDoorShelf
import Derived.Lib.AppendIntMem
import Derived.Lib.ItoaMem
namespace Go.Proofs.YtjdeomlpipdopaaDoor
open Go.RowKit
namespace Hx
open Nmb
set_option linter.unusedVariables false
theorem w64 {q : Int} (h : q = 0 ∨ q = 2 ∨ q = 60) : IntKind.i64.wrap q = q := by rcases h with rfl | rfl | rfl <;> rfl
theorem read_lits {l : List UInt8} {a b : Int} (h : readR l = (a, b)) : b = 0 ∨ b = 2 ∨ b = 60 := by
  unfold readR at h
  split at h <;> (injection h with h1 h2; omega)
theorem write_lits {n : Int} {t : ByteArray} {b : Int} (h : writeR n = (t, b)) : b = 0 ∨ b = 2 ∨ b = 60 := by
  unfold writeR at h
  split at h <;> (injection h with h1 h2; omega)
theorem sum_lits {n m a b : Int} (h : sumR n m = (a, b)) : b = 0 ∨ b = 2 ∨ b = 60 := by
  unfold sumR at h
  split at h <;> (injection h with h1 h2; omega)
theorem lev_lits {l : List UInt8} {a b : Int} (h : levR l = (a, b)) : b = 0 ∨ b = 2 ∨ b = 60 := by
  rcases levR_spec h with ⟨_, _, _, h⟩ | ⟨_, _, h⟩ <;> omega
theorem ver_lits {l : List UInt8} {a b c : Int} (h : verR l = (a, b, c)) : c = 0 ∨ c = 2 ∨ c = 60 := by
  rcases verR_spec h with ⟨_, _, _, _, _, _, _, h⟩ | ⟨_, _, _, h⟩ <;> omega
theorem rd_most {l : List UInt8} {n : Nat} (h : readN l = some n) : l = dg n ∧ n ≤ 9007199254740991 := by
  have := (readN_iff _ _).1 h
  unfold most at this
  exact this
/-- A level behind its sign. -/
theorem lev_below (r : List UInt8) (a b : Int) (h : levR (45 :: r) = (a, b)) : (∃ n : Nat, readN r = some n ∧ 1 ≤ n ∧ n ≤ 128 ∧ a = -(n : Int) ∧ b = 0) ∨ ((∀ n, readN r = some n → n = 0 ∨ 128 < n) ∧ a = 0 ∧ b = 60) := by
  rcases levR_spec h with ⟨h1, h2, h3, rfl⟩ | ⟨h1, rfl, rfl⟩
  · unfold sgn at h3
    by_cases hn : a < 0
    · rw [if_pos hn] at h3
      injection h3 with _ h3
      exact .inl ⟨(-a).toNat, (readN_iff _ _).2 ⟨h3.symm, by unfold most; omega⟩, by omega, by omega, by omega, rfl⟩
    · rw [if_neg hn] at h3
      exact absurd h3 (dg_no _ _ _ (by decide))
  · refine .inr ⟨fun n hn => ?_, rfl, rfl⟩
    obtain ⟨rfl, _⟩ := rd_most hn
    by_cases hz : n = 0
    · exact .inl hz
    · right
      refine Nat.lt_of_not_le fun hle => h1 (-(n : Int)) (by omega) (by omega) ?_
      unfold sgn
      rw [if_pos (by omega), Int.neg_neg, Int.toNat_natCast]
theorem lev_plain (l : List UInt8) (hl : ∀ r, l ≠ 45 :: r) (a b : Int) (h : levR l = (a, b)) : (∃ n : Nat, readN l = some n ∧ n ≤ 127 ∧ a = (n : Int) ∧ b = 0) ∨ ((∀ n, readN l = some n → 127 < n) ∧ a = 0 ∧ b = 60) := by
  rcases levR_spec h with ⟨h1, h2, h3, rfl⟩ | ⟨h1, rfl, rfl⟩
  · unfold sgn at h3
    by_cases hn : a < 0
    · rw [if_pos hn] at h3
      exact absurd h3.symm (hl _)
    · rw [if_neg hn] at h3
      exact .inl ⟨a.toNat, (readN_iff _ _).2 ⟨h3.symm, by unfold most; omega⟩, by omega, by omega, rfl⟩
  · refine .inr ⟨fun n hn => ?_, rfl, rfl⟩
    obtain ⟨rfl, _⟩ := rd_most hn
    refine Nat.lt_of_not_le fun hle => h1 (n : Int) (by omega) (by omega) ?_
    unfold sgn
    rw [if_neg (by omega), Int.toNat_natCast]
theorem cut_dash (l : List UInt8) : (∃ r, l = 45 :: r ∧ Lib.hasPrefix l [45] = true ∧ Lib.trimPrefix l [45] = r) ∨ ((∀ r, l ≠ 45 :: r) ∧ Lib.hasPrefix l [45] = false ∧ Lib.trimPrefix l [45] = l) := by
  cases l with
  | nil => exact .inr ⟨fun r h => (by cases h), rfl, rfl⟩
  | cons b r =>
    by_cases hb : b = 45
    · subst hb
      exact .inl ⟨r, rfl, by simp [Lib.hasPrefix, List.isPrefixOf], by simp [Lib.trimPrefix, Lib.hasPrefix, List.isPrefixOf]⟩
    · have hb2 : (45 == b) = false := by simpa using Ne.symm hb
      exact .inr ⟨fun x h => hb (List.cons.inj h).1, by simp [Lib.hasPrefix, List.isPrefixOf, hb2], by simp [Lib.trimPrefix, Lib.hasPrefix, List.isPrefixOf, hb2]⟩
theorem cut_yes (s t : ByteArray) (w : World) (h1 : Lib.hasPrefix s.data.toList [45] = true) (h2 : t = ⟨(Lib.trimPrefix s.data.toList [45]).toArray⟩) :
    Calls Tryd.prog 54 #[.string s, .string ⟨#[45]⟩] w fun e w' => e = .returned (.tuple #[.string t, .bool true]) ∧ w' = w := by
  have := Tryd.strings_CutPrefix s ⟨#[45]⟩ w
  rw [show (⟨#[45]⟩ : ByteArray).data.toList = [45] from rfl, h1, ← h2] at this
  exact this
theorem cut_no (s t : ByteArray) (w : World) (h1 : Lib.hasPrefix s.data.toList [45] = false) (h2 : t = ⟨(Lib.trimPrefix s.data.toList [45]).toArray⟩) :
    Calls Tryd.prog 54 #[.string s, .string ⟨#[45]⟩] w fun e w' => e = .returned (.tuple #[.string t, .bool false]) ∧ w' = w := by
  have := Tryd.strings_CutPrefix s ⟨#[45]⟩ w
  rw [show (⟨#[45]⟩ : ByteArray).data.toList = [45] from rfl, h1, ← h2] at this
  exact this
/-- The library's table of the powers of ten holds them. -/
def Tb (w : World) : Prop := Lib.TabIs Tryd.prog w "internal/strconv.uint64pow10" .u64 Lib.pow10Tab
theorem Tb.to {w w' : World} (h : Tb w) (hb : Below w.heap.size w w') : Tb w' := (Lib.tabBelow_of_tabIs h) w' hb
theorem dec_dg (u : Nat) : Lib.decDigits u = dg u := by
  induction u using Nat.strongRecOn with
  | ind u ih =>
    rw [Lib.decDigits]
    by_cases h : u < 10
    · rw [dif_pos h, dg_small h]; rfl
    · rw [dif_neg h, dg_more (by omega), ih (u / 10) (by omega)]; rfl
theorem itoa6 (k : Nat) (hk : k ≤ 9007199254740991) (t : ByteArray) (ht : t = ⟨(dg k).toArray⟩) (w : World) (hT : Tb w) :
    Calls Tryd.prog 35 #[.int .i64 k] w fun e w' => e = .returned (.string t) ∧ Below w.heap.size w w' := by
  refine (Tryd.strconv_Itoa (k : Int) (by omega) (by omega) w hT).mono fun e w' h => ?_
  obtain ⟨h1, j, os, h2⟩ := h
  refine ⟨?_, by rw [h2]; exact Lib.below_grow _ w (Nat.le_refl _) j os⟩
  rw [h1, Lib.itoa_nonneg, dec_dg, ht]
set_option maxRecDepth 100000 in
theorem isnum6 (n : Int) (w : World) (b : Bool) (h : decide (0 ≤ n ∧ n ≤ 9007199254740991) = b) :
    Calls Tryd.prog 34 #[.int .i64 n] w fun e w' => e = .returned (.bool b) ∧ w' = w := by
  by_cases h0 : 0 ≤ n
  · have d0 : decide (0 ≤ n) = true := by simpa using h0
    by_cases h1 : n ≤ 9007199254740991
    · have d1 : decide (n ≤ 9007199254740991) = true := by simpa using h1
      obtain rfl : true = b := by rw [← h]; simp [h0, h1]
      clear h
      go_enter Tryd.func34, Tryd.ntmps34
      go_wp2_with fail
      go_ret
      exact ⟨rfl, rfl⟩
    · have d1 : decide (n ≤ 9007199254740991) = false := by simpa using h1
      obtain rfl : false = b := by rw [← h]; simp [h1]
      clear h
      go_enter Tryd.func34, Tryd.ntmps34
      go_wp2_with fail
      go_ret
      exact ⟨rfl, rfl⟩
  · have d0 : decide (0 ≤ n) = false := by simpa using h0
    obtain rfl : false = b := by rw [← h]; simp [h0]
    clear h
    go_enter Tryd.func34, Tryd.ntmps34
    go_wp2_with fail
    go_ret
    exact ⟨rfl, rfl⟩
set_option maxRecDepth 100000 in
theorem write6 (n : Int) (w : World) (hn : -9223372036854775808 ≤ n ∧ n ≤ 9223372036854775807) (t : ByteArray) (b : Int) (h : writeR n = (t, b)) (hT : Tb w := by first | assumption | exact Tb.to (by assumption) (by assumption)) :
    Calls Tryd.prog 17 #[.int .i64 n] w fun e w' => e = .returned (.tuple #[.string t, .int .i64 b]) ∧ Below w.heap.size w w' := by
  unfold writeR at h
  by_cases h0 : 0 ≤ n ∧ n ≤ 9007199254740991
  · rw [if_pos h0] at h
    obtain ⟨k, rfl⟩ : ∃ k : Nat, n = (k : Int) := ⟨n.toNat, by omega⟩
    rw [Int.toNat_natCast] at h
    obtain ⟨ht, rfl⟩ := (Prod.mk.injEq _ _ _ _).mp h
    have HX : Hid (decide (0 ≤ (k : Int) ∧ (k : Int) ≤ 9007199254740991) = true) := Lib.hid (by simpa using h0)
    have HC := Lib.hid (itoa6 k (by omega) t ht.symm w hT)
    clear h ht h0 hT
    go_enter Tryd.func17, Tryd.ntmps17
    go_wp2_with (first
      | (go_at_call 34; (with_reducible refine (isnum6 k w true HX.out).mono ?_); rintro e w1 ⟨rfl, rfl⟩)
      | (go_at_call 35; (with_reducible refine HC.out.mono ?_); rintro e w2 ⟨rfl, hb2⟩)
      | fail)
    go_ret2
    exact ⟨rfl, hb2⟩
  · rw [if_neg h0] at h
    obtain ⟨rfl, rfl⟩ := (Prod.mk.injEq _ _ _ _).mp h
    have HX : Hid (decide (0 ≤ n ∧ n ≤ 9007199254740991) = false) := Lib.hid (by simpa using h0)
    clear h h0 hT
    go_enter Tryd.func17, Tryd.ntmps17
    go_wp2_with (first
      | (go_at_call 34; (with_reducible refine (isnum6 n w false HX.out).mono ?_); rintro e w1 ⟨rfl, rfl⟩)
      | fail)
    go_ret2
    exact ⟨rfl, Below.refl _ _⟩
end Hx
end Go.Proofs.YtjdeomlpipdopaaDoor
