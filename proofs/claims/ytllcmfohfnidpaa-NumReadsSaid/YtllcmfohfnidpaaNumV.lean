/-
  Contracts of package num.
-/
import Derived.Test.YtllcmfohfnidpaaNumY
import Derived.Test.YtllcmfohfnidpaaShelf
import Derived.Lib.AppendIntMem
import Derived.Lib.ItoaMem
namespace Go.Proofs.Ytllcmfohfnidpaa
open Go.RowKit
namespace Hx
open Nmb
set_option linter.unusedVariables false
theorem w64 {q : Int} (h : q = 0 ∨ q = 2 ∨ q = 60) : IntKind.i64.wrap q = q := by rcases h with rfl | rfl | rfl <;> rfl
theorem read_lits {l : List UInt8} {a b : Int} (h : readR l = (a, b)) : b = 0 ∨ b = 2 ∨ b = 60 := by
  unfold readR at h
  split at h <;> (injection h with h1 h2; omega)
theorem write_lits {n : Int} {t : ByteArray} {b : Int} (h : writeR n = (t, b)) : b = 0 ∨ b = 2 ∨ b = 60 := by
  unfold writeR at h
  split at h <;> (injection h with h1 h2; omega)
theorem sum_lits {n m a b : Int} (h : sumR n m = (a, b)) : b = 0 ∨ b = 2 ∨ b = 60 := by
  unfold sumR at h
  split at h <;> (injection h with h1 h2; omega)
theorem lev_lits {l : List UInt8} {a b : Int} (h : levR l = (a, b)) : b = 0 ∨ b = 2 ∨ b = 60 := by
  rcases levR_spec h with ⟨_, _, _, h⟩ | ⟨_, _, h⟩ <;> omega
theorem ver_lits {l : List UInt8} {a b c : Int} (h : verR l = (a, b, c)) : c = 0 ∨ c = 2 ∨ c = 60 := by
  rcases verR_spec h with ⟨_, _, _, _, _, _, _, h⟩ | ⟨_, _, _, h⟩ <;> omega
theorem rd_most {l : List UInt8} {n : Nat} (h : readN l = some n) : l = dg n ∧ n ≤ 9007199254740991 := by
  have := (readN_iff _ _).1 h
  unfold most at this
  exact this
/-- A level behind its sign. -/
theorem lev_below (r : List UInt8) (a b : Int) (h : levR (45 :: r) = (a, b)) : (∃ n : Nat, readN r = some n ∧ 1 ≤ n ∧ n ≤ 128 ∧ a = -(n : Int) ∧ b = 0) ∨ ((∀ n, readN r = some n → n = 0 ∨ 128 < n) ∧ a = 0 ∧ b = 60) := by
  rcases levR_spec h with ⟨h1, h2, h3, rfl⟩ | ⟨h1, rfl, rfl⟩
  · unfold sgn at h3
    by_cases hn : a < 0
    · rw [if_pos hn] at h3
      injection h3 with _ h3
      exact .inl ⟨(-a).toNat, (readN_iff _ _).2 ⟨h3.symm, by unfold most; omega⟩, by omega, by omega, by omega, rfl⟩
    · rw [if_neg hn] at h3
      exact absurd h3 (dg_no _ _ _ (by decide))
  · refine .inr ⟨fun n hn => ?_, rfl, rfl⟩
    obtain ⟨rfl, _⟩ := rd_most hn
    by_cases hz : n = 0
    · exact .inl hz
    · right
      refine Nat.lt_of_not_le fun hle => h1 (-(n : Int)) (by omega) (by omega) ?_
      unfold sgn
      rw [if_pos (by omega), Int.neg_neg, Int.toNat_natCast]
theorem lev_plain (l : List UInt8) (hl : ∀ r, l ≠ 45 :: r) (a b : Int) (h : levR l = (a, b)) : (∃ n : Nat, readN l = some n ∧ n ≤ 127 ∧ a = (n : Int) ∧ b = 0) ∨ ((∀ n, readN l = some n → 127 < n) ∧ a = 0 ∧ b = 60) := by
  rcases levR_spec h with ⟨h1, h2, h3, rfl⟩ | ⟨h1, rfl, rfl⟩
  · unfold sgn at h3
    by_cases hn : a < 0
    · rw [if_pos hn] at h3
      exact absurd h3.symm (hl _)
    · rw [if_neg hn] at h3
      exact .inl ⟨a.toNat, (readN_iff _ _).2 ⟨h3.symm, by unfold most; omega⟩, by omega, by omega, rfl⟩
  · refine .inr ⟨fun n hn => ?_, rfl, rfl⟩
    obtain ⟨rfl, _⟩ := rd_most hn
    refine Nat.lt_of_not_le fun hle => h1 (n : Int) (by omega) (by omega) ?_
    unfold sgn
    rw [if_neg (by omega), Int.toNat_natCast]
theorem cut_dash (l : List UInt8) : (∃ r, l = 45 :: r ∧ Lib.hasPrefix l [45] = true ∧ Lib.trimPrefix l [45] = r) ∨ ((∀ r, l ≠ 45 :: r) ∧ Lib.hasPrefix l [45] = false ∧ Lib.trimPrefix l [45] = l) := by
  cases l with
  | nil => exact .inr ⟨fun r h => (by cases h), rfl, rfl⟩
  | cons b r =>
    by_cases hb : b = 45
    · subst hb
      exact .inl ⟨r, rfl, by simp [Lib.hasPrefix, List.isPrefixOf], by simp [Lib.trimPrefix, Lib.hasPrefix, List.isPrefixOf]⟩
    · have hb2 : (45 == b) = false := by simpa using Ne.symm hb
      exact .inr ⟨fun x h => hb (List.cons.inj h).1, by simp [Lib.hasPrefix, List.isPrefixOf, hb2], by simp [Lib.trimPrefix, Lib.hasPrefix, List.isPrefixOf, hb2]⟩
theorem cut_yes (s t : ByteArray) (w : World) (h1 : Lib.hasPrefix s.data.toList [45] = true) (h2 : t = ⟨(Lib.trimPrefix s.data.toList [45]).toArray⟩) :
    Calls Try.prog 12 #[.string s, .string ⟨#[45]⟩] w fun e w' => e = .returned (.tuple #[.string t, .bool true]) ∧ w' = w := by
  have := Try.strings_CutPrefix s ⟨#[45]⟩ w
  rw [show (⟨#[45]⟩ : ByteArray).data.toList = [45] from rfl, h1, ← h2] at this
  exact this
theorem cut_no (s t : ByteArray) (w : World) (h1 : Lib.hasPrefix s.data.toList [45] = false) (h2 : t = ⟨(Lib.trimPrefix s.data.toList [45]).toArray⟩) :
    Calls Try.prog 12 #[.string s, .string ⟨#[45]⟩] w fun e w' => e = .returned (.tuple #[.string t, .bool false]) ∧ w' = w := by
  have := Try.strings_CutPrefix s ⟨#[45]⟩ w
  rw [show (⟨#[45]⟩ : ByteArray).data.toList = [45] from rfl, h1, ← h2] at this
  exact this
set_option maxHeartbeats 1000000 in
set_option maxRecDepth 100000 in
theorem lev_b0 (s t : ByteArray) (w : World) (hc : Lib.hasPrefix s.data.toList [45] = true) (ht : t = ⟨(Lib.trimPrefix s.data.toList [45]).toArray⟩) (hm : t.size ≤ 1000000) (hr : readR t.data.toList = (0, 60)) :
    Calls Try.prog 6 #[.string s] w fun e w' => e = .returned (.tuple #[.int .i64 0, .int .i64 60]) ∧ Below w.heap.size w w' := by
  have HC := Lib.hid hc
  have HT := Lib.hid ht
  have HM := Lib.hid hm
  have HR := Lib.hid hr
  clear hc ht hm hr
  go_enter Try.func6, Try.ntmps6
  go_wp2_with (first
    | (go_at_call 12; (with_reducible refine (cut_yes s t w HC.out HT.out).mono ?_); rintro e w1 ⟨rfl, rfl⟩)
    | (go_at_call 4; (with_reducible refine (read6 t _ HM.out 0 60 HR.out).mono ?_); rintro e w2 ⟨rfl, hb2⟩)
    | fail)
  go_ret2
  exact ⟨rfl, hb2⟩
set_option maxHeartbeats 1000000 in
set_option maxRecDepth 100000 in
theorem lev_b1 (s t : ByteArray) (w : World) (hc : Lib.hasPrefix s.data.toList [45] = true) (ht : t = ⟨(Lib.trimPrefix s.data.toList [45]).toArray⟩) (hm : t.size ≤ 1000000) (n : Nat) (hn : n ≤ 9007199254740991) (hr : readR t.data.toList = ((n : Int), 0)) (h1 : 1 ≤ n) (h2 : n ≤ 128) :
    Calls Try.prog 6 #[.string s] w fun e w' => e = .returned (.tuple #[.int .i64 (-(n : Int)), .int .i64 0]) ∧ Below w.heap.size w w' := by
  have HC := Lib.hid hc
  have HT := Lib.hid ht
  have HM := Lib.hid hm
  have HR := Lib.hid hr
  have d0 : (-(n : Int) == 0) = false := by simp; omega
  have d0' : ((n : Int) == 0) = false := by simp; omega
  have d1 : decide (-(n : Int) < -128) = false := decide_eq_false (by omega)
  have d2 : decide ((127 : Int) < -(n : Int)) = false := decide_eq_false (by omega)
  clear hc ht hm hr
  go_enter Try.func6, Try.ntmps6
  go_wp2_with (first
    | (go_at_call 12; (with_reducible refine (cut_yes s t w HC.out HT.out).mono ?_); rintro e w1 ⟨rfl, rfl⟩)
    | (go_at_call 4; (with_reducible refine (read6 t _ HM.out n 0 HR.out).mono ?_); rintro e w2 ⟨rfl, hb2⟩)
    | fail)
  go_ret2
  exact ⟨rfl, hb2⟩
set_option maxHeartbeats 1000000 in
set_option maxRecDepth 100000 in
theorem lev_b2 (s t : ByteArray) (w : World) (hc : Lib.hasPrefix s.data.toList [45] = true) (ht : t = ⟨(Lib.trimPrefix s.data.toList [45]).toArray⟩) (hm : t.size ≤ 1000000) (hr : readR t.data.toList = (0, 0)) :
    Calls Try.prog 6 #[.string s] w fun e w' => e = .returned (.tuple #[.int .i64 0, .int .i64 60]) ∧ Below w.heap.size w w' := by
  have HC := Lib.hid hc
  have HT := Lib.hid ht
  have HM := Lib.hid hm
  have HR := Lib.hid hr
  clear hc ht hm hr
  go_enter Try.func6, Try.ntmps6
  go_wp2_with (first
    | (go_at_call 12; (with_reducible refine (cut_yes s t w HC.out HT.out).mono ?_); rintro e w1 ⟨rfl, rfl⟩)
    | (go_at_call 4; (with_reducible refine (read6 t _ HM.out 0 0 HR.out).mono ?_); rintro e w2 ⟨rfl, hb2⟩)
    | fail)
  go_ret2
  exact ⟨rfl, hb2⟩
set_option maxHeartbeats 1000000 in
set_option maxRecDepth 100000 in
theorem lev_b3 (s t : ByteArray) (w : World) (hc : Lib.hasPrefix s.data.toList [45] = true) (ht : t = ⟨(Lib.trimPrefix s.data.toList [45]).toArray⟩) (hm : t.size ≤ 1000000) (n : Nat) (hn : n ≤ 9007199254740991) (hr : readR t.data.toList = ((n : Int), 0)) (h1 : 128 < n) :
    Calls Try.prog 6 #[.string s] w fun e w' => e = .returned (.tuple #[.int .i64 0, .int .i64 60]) ∧ Below w.heap.size w w' := by
  have HC := Lib.hid hc
  have HT := Lib.hid ht
  have HM := Lib.hid hm
  have HR := Lib.hid hr
  have d0 : (-(n : Int) == 0) = false := by simp; omega
  have d0' : ((n : Int) == 0) = false := by simp; omega
  have d1 : decide (-(n : Int) < -128) = true := by simp; omega
  clear hc ht hm hr
  go_enter Try.func6, Try.ntmps6
  go_wp2_with (first
    | (go_at_call 12; (with_reducible refine (cut_yes s t w HC.out HT.out).mono ?_); rintro e w1 ⟨rfl, rfl⟩)
    | (go_at_call 4; (with_reducible refine (read6 t _ HM.out n 0 HR.out).mono ?_); rintro e w2 ⟨rfl, hb2⟩)
    | fail)
  go_ret2
  exact ⟨rfl, hb2⟩
set_option maxHeartbeats 1000000 in
set_option maxRecDepth 100000 in
theorem lev_p0 (s t : ByteArray) (w : World) (hc : Lib.hasPrefix s.data.toList [45] = false) (ht : t = ⟨(Lib.trimPrefix s.data.toList [45]).toArray⟩) (hm : t.size ≤ 1000000) (hr : readR t.data.toList = (0, 60)) :
    Calls Try.prog 6 #[.string s] w fun e w' => e = .returned (.tuple #[.int .i64 0, .int .i64 60]) ∧ Below w.heap.size w w' := by
  have HC := Lib.hid hc
  have HT := Lib.hid ht
  have HM := Lib.hid hm
  have HR := Lib.hid hr
  clear hc ht hm hr
  go_enter Try.func6, Try.ntmps6
  go_wp2_with (first
    | (go_at_call 12; (with_reducible refine (cut_no s t w HC.out HT.out).mono ?_); rintro e w1 ⟨rfl, rfl⟩)
    | (go_at_call 4; (with_reducible refine (read6 t _ HM.out 0 60 HR.out).mono ?_); rintro e w2 ⟨rfl, hb2⟩)
    | fail)
  go_ret2
  exact ⟨rfl, hb2⟩
set_option maxHeartbeats 1000000 in
set_option maxRecDepth 100000 in
theorem lev_p1 (s t : ByteArray) (w : World) (hc : Lib.hasPrefix s.data.toList [45] = false) (ht : t = ⟨(Lib.trimPrefix s.data.toList [45]).toArray⟩) (hm : t.size ≤ 1000000) (n : Nat) (hn : n ≤ 9007199254740991) (hr : readR t.data.toList = ((n : Int), 0)) (h1 : n ≤ 127) :
    Calls Try.prog 6 #[.string s] w fun e w' => e = .returned (.tuple #[.int .i64 (n : Int), .int .i64 0]) ∧ Below w.heap.size w w' := by
  have HC := Lib.hid hc
  have HT := Lib.hid ht
  have HM := Lib.hid hm
  have HR := Lib.hid hr
  have d1 : decide ((n : Int) < -128) = false := decide_eq_false (by omega)
  have d2 : decide ((127 : Int) < (n : Int)) = false := decide_eq_false (by omega)
  clear hc ht hm hr
  go_enter Try.func6, Try.ntmps6
  go_wp2_with (first
    | (go_at_call 12; (with_reducible refine (cut_no s t w HC.out HT.out).mono ?_); rintro e w1 ⟨rfl, rfl⟩)
    | (go_at_call 4; (with_reducible refine (read6 t _ HM.out n 0 HR.out).mono ?_); rintro e w2 ⟨rfl, hb2⟩)
    | fail)
  go_ret2
  exact ⟨rfl, hb2⟩
set_option maxHeartbeats 1000000 in
set_option maxRecDepth 100000 in
theorem lev_p2 (s t : ByteArray) (w : World) (hc : Lib.hasPrefix s.data.toList [45] = false) (ht : t = ⟨(Lib.trimPrefix s.data.toList [45]).toArray⟩) (hm : t.size ≤ 1000000) (n : Nat) (hn : n ≤ 9007199254740991) (hr : readR t.data.toList = ((n : Int), 0)) (h1 : 127 < n) :
    Calls Try.prog 6 #[.string s] w fun e w' => e = .returned (.tuple #[.int .i64 0, .int .i64 60]) ∧ Below w.heap.size w w' := by
  have HC := Lib.hid hc
  have HT := Lib.hid ht
  have HM := Lib.hid hm
  have HR := Lib.hid hr
  have d1 : decide ((n : Int) < -128) = false := decide_eq_false (by omega)
  have d2 : decide ((127 : Int) < (n : Int)) = true := by simp; omega
  clear hc ht hm hr
  go_enter Try.func6, Try.ntmps6
  go_wp2_with (first
    | (go_at_call 12; (with_reducible refine (cut_no s t w HC.out HT.out).mono ?_); rintro e w1 ⟨rfl, rfl⟩)
    | (go_at_call 4; (with_reducible refine (read6 t _ HM.out n 0 HR.out).mono ?_); rintro e w2 ⟨rfl, hb2⟩)
    | fail)
  go_ret2
  exact ⟨rfl, hb2⟩
theorem level6 (s : ByteArray) (w : World) (hm : s.size ≤ 1000000) (a b : Int) (h : levR s.data.toList = (a, b)) :
    Calls Try.prog 6 #[.string s] w fun e w' => e = .returned (.tuple #[.int .i64 a, .int .i64 b]) ∧ Below w.heap.size w w' := by
  have hl := ba_len6 s
  obtain ⟨t, ht⟩ : ∃ t : ByteArray, t = ⟨(Lib.trimPrefix s.data.toList [45]).toArray⟩ := ⟨_, rfl⟩
  rcases cut_dash s.data.toList with ⟨r, h1, h2, h3⟩ | ⟨h1, h2, h3⟩
  · have htr : t.data.toList = r := by rw [ht, h3]
    have htm : t.size ≤ 1000000 := by
      have e := congrArg List.length htr
      have e2 := congrArg List.length h1
      rw [ba_len6] at e
      rw [List.length_cons] at e2
      omega
    rw [h1] at h
    cases hr : readN r with
    | none =>
      have hR : readR t.data.toList = (0, 60) := by unfold readR; rw [htr, hr]
      rcases lev_below r a b h with ⟨n, q1, _⟩ | ⟨_, rfl, rfl⟩
      · rw [hr] at q1; cases q1
      · exact lev_b0 s t w h2 ht htm hR
    | some n =>
      have hR : readR t.data.toList = ((n : Int), 0) := by unfold readR; rw [htr, hr]
      have hn := (rd_most hr).2
      rcases lev_below r a b h with ⟨n', q1, q2, q3, rfl, rfl⟩ | ⟨q, rfl, rfl⟩
      · obtain rfl : n = n' := by rw [hr] at q1; exact Option.some.inj q1
        exact lev_b1 s t w h2 ht htm n hn hR q2 q3
      · rcases q n hr with rfl | q
        · exact lev_b2 s t w h2 ht htm hR
        · exact lev_b3 s t w h2 ht htm n hn hR q
  · have htr : t.data.toList = s.data.toList := by rw [ht, h3]
    have htm : t.size ≤ 1000000 := by
      have e := congrArg List.length htr
      rw [ba_len6, ba_len6] at e
      omega
    cases hr : readN s.data.toList with
    | none =>
      have hR : readR t.data.toList = (0, 60) := by unfold readR; rw [htr, hr]
      rcases lev_plain _ h1 a b h with ⟨n, q1, _⟩ | ⟨_, rfl, rfl⟩
      · rw [hr] at q1; cases q1
      · exact lev_p0 s t w h2 ht htm hR
    | some n =>
      have hR : readR t.data.toList = ((n : Int), 0) := by unfold readR; rw [htr, hr]
      have hn := (rd_most hr).2
      rcases lev_plain _ h1 a b h with ⟨n', q1, q2, rfl, rfl⟩ | ⟨q, rfl, rfl⟩
      · obtain rfl : n = n' := by rw [hr] at q1; exact Option.some.inj q1
        exact lev_p1 s t w h2 ht htm n hn hR q2
      · exact lev_p2 s t w h2 ht htm n hn hR (q n hr)
/-- The library's table of the powers of ten holds them. -/
def Tb (w : World) : Prop := Lib.TabIs Try.prog w "internal/strconv.uint64pow10" .u64 Lib.pow10Tab
theorem Tb.to {w w' : World} (h : Tb w) (hb : Below w.heap.size w w') : Tb w' := (Lib.tabBelow_of_tabIs h) w' hb
theorem dec_dg (u : Nat) : Lib.decDigits u = dg u := by
  induction u using Nat.strongRecOn with
  | ind u ih =>
    rw [Lib.decDigits]
    by_cases h : u < 10
    · rw [dif_pos h, dg_small h]; rfl
    · rw [dif_neg h, dg_more (by omega), ih (u / 10) (by omega)]; rfl
end Hx
end Go.Proofs.Ytllcmfohfnidpaa
