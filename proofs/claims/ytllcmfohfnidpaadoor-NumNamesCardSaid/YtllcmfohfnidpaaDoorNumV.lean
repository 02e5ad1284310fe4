/-
  Contracts of package num.
-/
import Derived.Test.YtllcmfohfnidpaaDoorNumY
import Derived.Test.YtllcmfohfnidpaaDoorShelf
import Derived.Lib.AppendIntMem
import Derived.Lib.ItoaMem
namespace Go.Proofs.YtllcmfohfnidpaaDoor
open Go.RowKit
namespace Hx
open Nmb
set_option linter.unusedVariables false
theorem w64 {q : Int} (h : q = 0 ∨ q = 2 ∨ q = 60) : IntKind.i64.wrap q = q := by rcases h with rfl | rfl | rfl <;> rfl
theorem read_lits {l : List UInt8} {a b : Int} (h : readR l = (a, b)) : b = 0 ∨ b = 2 ∨ b = 60 := by
  unfold readR at h
  split at h <;> (injection h with h1 h2; omega)
theorem write_lits {n : Int} {t : ByteArray} {b : Int} (h : writeR n = (t, b)) : b = 0 ∨ b = 2 ∨ b = 60 := by
  unfold writeR at h
  split at h <;> (injection h with h1 h2; omega)
theorem sum_lits {n m a b : Int} (h : sumR n m = (a, b)) : b = 0 ∨ b = 2 ∨ b = 60 := by
  unfold sumR at h
  split at h <;> (injection h with h1 h2; omega)
theorem lev_lits {l : List UInt8} {a b : Int} (h : levR l = (a, b)) : b = 0 ∨ b = 2 ∨ b = 60 := by
  rcases levR_spec h with ⟨_, _, _, h⟩ | ⟨_, _, h⟩ <;> omega
theorem ver_lits {l : List UInt8} {a b c : Int} (h : verR l = (a, b, c)) : c = 0 ∨ c = 2 ∨ c = 60 := by
  rcases verR_spec h with ⟨_, _, _, _, _, _, _, h⟩ | ⟨_, _, _, h⟩ <;> omega
theorem rd_most {l : List UInt8} {n : Nat} (h : readN l = some n) : l = dg n ∧ n ≤ 9007199254740991 := by
  have := (readN_iff _ _).1 h
  unfold most at this
  exact this
/-- A level behind its sign. -/
theorem lev_below (r : List UInt8) (a b : Int) (h : levR (45 :: r) = (a, b)) : (∃ n : Nat, readN r = some n ∧ 1 ≤ n ∧ n ≤ 128 ∧ a = -(n : Int) ∧ b = 0) ∨ ((∀ n, readN r = some n → n = 0 ∨ 128 < n) ∧ a = 0 ∧ b = 60) := by
  rcases levR_spec h with ⟨h1, h2, h3, rfl⟩ | ⟨h1, rfl, rfl⟩
  · unfold sgn at h3
    by_cases hn : a < 0
    · rw [if_pos hn] at h3
      injection h3 with _ h3
      exact .inl ⟨(-a).toNat, (readN_iff _ _).2 ⟨h3.symm, by unfold most; omega⟩, by omega, by omega, by omega, rfl⟩
    · rw [if_neg hn] at h3
      exact absurd h3 (dg_no _ _ _ (by decide))
  · refine .inr ⟨fun n hn => ?_, rfl, rfl⟩
    obtain ⟨rfl, _⟩ := rd_most hn
    by_cases hz : n = 0
    · exact .inl hz
    · right
      refine Nat.lt_of_not_le fun hle => h1 (-(n : Int)) (by omega) (by omega) ?_
      unfold sgn
      rw [if_pos (by omega), Int.neg_neg, Int.toNat_natCast]
theorem lev_plain (l : List UInt8) (hl : ∀ r, l ≠ 45 :: r) (a b : Int) (h : levR l = (a, b)) : (∃ n : Nat, readN l = some n ∧ n ≤ 127 ∧ a = (n : Int) ∧ b = 0) ∨ ((∀ n, readN l = some n → 127 < n) ∧ a = 0 ∧ b = 60) := by
  rcases levR_spec h with ⟨h1, h2, h3, rfl⟩ | ⟨h1, rfl, rfl⟩
  · unfold sgn at h3
    by_cases hn : a < 0
    · rw [if_pos hn] at h3
      exact absurd h3.symm (hl _)
    · rw [if_neg hn] at h3
      exact .inl ⟨a.toNat, (readN_iff _ _).2 ⟨h3.symm, by unfold most; omega⟩, by omega, by omega, rfl⟩
  · refine .inr ⟨fun n hn => ?_, rfl, rfl⟩
    obtain ⟨rfl, _⟩ := rd_most hn
    refine Nat.lt_of_not_le fun hle => h1 (n : Int) (by omega) (by omega) ?_
    unfold sgn
    rw [if_neg (by omega), Int.toNat_natCast]
theorem cut_dash (l : List UInt8) : (∃ r, l = 45 :: r ∧ Lib.hasPrefix l [45] = true ∧ Lib.trimPrefix l [45] = r) ∨ ((∀ r, l ≠ 45 :: r) ∧ Lib.hasPrefix l [45] = false ∧ Lib.trimPrefix l [45] = l) := by
  cases l with
  | nil => exact .inr ⟨fun r h => (by cases h), rfl, rfl⟩
  | cons b r =>
    by_cases hb : b = 45
    · subst hb
      exact .inl ⟨r, rfl, by simp [Lib.hasPrefix, List.isPrefixOf], by simp [Lib.trimPrefix, Lib.hasPrefix, List.isPrefixOf]⟩
    · have hb2 : (45 == b) = false := by simpa using Ne.symm hb
      exact .inr ⟨fun x h => hb (List.cons.inj h).1, by simp [Lib.hasPrefix, List.isPrefixOf, hb2], by simp [Lib.trimPrefix, Lib.hasPrefix, List.isPrefixOf, hb2]⟩
theorem cut_yes (s t : ByteArray) (w : World) (h1 : Lib.hasPrefix s.data.toList [45] = true) (h2 : t = ⟨(Lib.trimPrefix s.data.toList [45]).toArray⟩) :
    Calls Tryd.prog 19 #[.string s, .string ⟨#[45]⟩] w fun e w' => e = .returned (.tuple #[.string t, .bool true]) ∧ w' = w := by
  have := Tryd.strings_CutPrefix s ⟨#[45]⟩ w
  rw [show (⟨#[45]⟩ : ByteArray).data.toList = [45] from rfl, h1, ← h2] at this
  exact this
theorem cut_no (s t : ByteArray) (w : World) (h1 : Lib.hasPrefix s.data.toList [45] = false) (h2 : t = ⟨(Lib.trimPrefix s.data.toList [45]).toArray⟩) :
    Calls Tryd.prog 19 #[.string s, .string ⟨#[45]⟩] w fun e w' => e = .returned (.tuple #[.string t, .bool false]) ∧ w' = w := by
  have := Tryd.strings_CutPrefix s ⟨#[45]⟩ w
  rw [show (⟨#[45]⟩ : ByteArray).data.toList = [45] from rfl, h1, ← h2] at this
  exact this
set_option maxHeartbeats 1000000 in
set_option maxRecDepth 100000 in
theorem lev_b0 (s t : ByteArray) (w : World) (hc : Lib.hasPrefix s.data.toList [45] = true) (ht : t = ⟨(Lib.trimPrefix s.data.toList [45]).toArray⟩) (hm : t.size ≤ 1000000) (hr : readR t.data.toList = (0, 60)) :
    Calls Tryd.prog 9 #[.string s] w fun e w' => e = .returned (.tuple #[.int .i64 0, .int .i64 60]) ∧ Below w.heap.size w w' := by
  have HC := Lib.hid hc
  have HT := Lib.hid ht
  have HM := Lib.hid hm
  have HR := Lib.hid hr
  clear hc ht hm hr
  go_enter Tryd.func9, Tryd.ntmps9
  go_wp2_with (first
    | (go_at_call 19; (with_reducible refine (cut_yes s t w HC.out HT.out).mono ?_); rintro e w1 ⟨rfl, rfl⟩)
    | (go_at_call 18; (with_reducible refine (read6 t _ HM.out 0 60 HR.out).mono ?_); rintro e w2 ⟨rfl, hb2⟩)
    | fail)
  go_ret2
  exact ⟨rfl, hb2⟩
set_option maxHeartbeats 1000000 in
set_option maxRecDepth 100000 in
theorem lev_b1 (s t : ByteArray) (w : World) (hc : Lib.hasPrefix s.data.toList [45] = true) (ht : t = ⟨(Lib.trimPrefix s.data.toList [45]).toArray⟩) (hm : t.size ≤ 1000000) (n : Nat) (hn : n ≤ 9007199254740991) (hr : readR t.data.toList = ((n : Int), 0)) (h1 : 1 ≤ n) (h2 : n ≤ 128) :
    Calls Tryd.prog 9 #[.string s] w fun e w' => e = .returned (.tuple #[.int .i64 (-(n : Int)), .int .i64 0]) ∧ Below w.heap.size w w' := by
  have HC := Lib.hid hc
  have HT := Lib.hid ht
  have HM := Lib.hid hm
  have HR := Lib.hid hr
  have d0 : (-(n : Int) == 0) = false := by simp; omega
  have d0' : ((n : Int) == 0) = false := by simp; omega
  have d1 : decide (-(n : Int) < -128) = false := decide_eq_false (by omega)
  have d2 : decide ((127 : Int) < -(n : Int)) = false := decide_eq_false (by omega)
  clear hc ht hm hr
  go_enter Tryd.func9, Tryd.ntmps9
  go_wp2_with (first
    | (go_at_call 19; (with_reducible refine (cut_yes s t w HC.out HT.out).mono ?_); rintro e w1 ⟨rfl, rfl⟩)
    | (go_at_call 18; (with_reducible refine (read6 t _ HM.out n 0 HR.out).mono ?_); rintro e w2 ⟨rfl, hb2⟩)
    | fail)
  go_ret2
  exact ⟨rfl, hb2⟩
set_option maxHeartbeats 1000000 in
set_option maxRecDepth 100000 in
theorem lev_b2 (s t : ByteArray) (w : World) (hc : Lib.hasPrefix s.data.toList [45] = true) (ht : t = ⟨(Lib.trimPrefix s.data.toList [45]).toArray⟩) (hm : t.size ≤ 1000000) (hr : readR t.data.toList = (0, 0)) :
    Calls Tryd.prog 9 #[.string s] w fun e w' => e = .returned (.tuple #[.int .i64 0, .int .i64 60]) ∧ Below w.heap.size w w' := by
  have HC := Lib.hid hc
  have HT := Lib.hid ht
  have HM := Lib.hid hm
  have HR := Lib.hid hr
  clear hc ht hm hr
  go_enter Tryd.func9, Tryd.ntmps9
  go_wp2_with (first
    | (go_at_call 19; (with_reducible refine (cut_yes s t w HC.out HT.out).mono ?_); rintro e w1 ⟨rfl, rfl⟩)
    | (go_at_call 18; (with_reducible refine (read6 t _ HM.out 0 0 HR.out).mono ?_); rintro e w2 ⟨rfl, hb2⟩)
    | fail)
  go_ret2
  exact ⟨rfl, hb2⟩
set_option maxHeartbeats 1000000 in
set_option maxRecDepth 100000 in
theorem lev_b3 (s t : ByteArray) (w : World) (hc : Lib.hasPrefix s.data.toList [45] = true) (ht : t = ⟨(Lib.trimPrefix s.data.toList [45]).toArray⟩) (hm : t.size ≤ 1000000) (n : Nat) (hn : n ≤ 9007199254740991) (hr : readR t.data.toList = ((n : Int), 0)) (h1 : 128 < n) :
    Calls Tryd.prog 9 #[.string s] w fun e w' => e = .returned (.tuple #[.int .i64 0, .int .i64 60]) ∧ Below w.heap.size w w' := by
  have HC := Lib.hid hc
  have HT := Lib.hid ht
  have HM := Lib.hid hm
  have HR := Lib.hid hr
  have d0 : (-(n : Int) == 0) = false := by simp; omega
  have d0' : ((n : Int) == 0) = false := by simp; omega
  have d1 : decide (-(n : Int) < -128) = true := by simp; omega
  clear hc ht hm hr
  go_enter Tryd.func9, Tryd.ntmps9
  go_wp2_with (first
    | (go_at_call 19; (with_reducible refine (cut_yes s t w HC.out HT.out).mono ?_); rintro e w1 ⟨rfl, rfl⟩)
    | (go_at_call 18; (with_reducible refine (read6 t _ HM.out n 0 HR.out).mono ?_); rintro e w2 ⟨rfl, hb2⟩)
    | fail)
  go_ret2
  exact ⟨rfl, hb2⟩
set_option maxHeartbeats 1000000 in
set_option maxRecDepth 100000 in
theorem lev_p0 (s t : ByteArray) (w : World) (hc : Lib.hasPrefix s.data.toList [45] = false) (ht : t = ⟨(Lib.trimPrefix s.data.toList [45]).toArray⟩) (hm : t.size ≤ 1000000) (hr : readR t.data.toList = (0, 60)) :
    Calls Tryd.prog 9 #[.string s] w fun e w' => e = .returned (.tuple #[.int .i64 0, .int .i64 60]) ∧ Below w.heap.size w w' := by
  have HC := Lib.hid hc
  have HT := Lib.hid ht
  have HM := Lib.hid hm
  have HR := Lib.hid hr
  clear hc ht hm hr
  go_enter Tryd.func9, Tryd.ntmps9
  go_wp2_with (first
    | (go_at_call 19; (with_reducible refine (cut_no s t w HC.out HT.out).mono ?_); rintro e w1 ⟨rfl, rfl⟩)
    | (go_at_call 18; (with_reducible refine (read6 t _ HM.out 0 60 HR.out).mono ?_); rintro e w2 ⟨rfl, hb2⟩)
    | fail)
  go_ret2
  exact ⟨rfl, hb2⟩
set_option maxHeartbeats 1000000 in
set_option maxRecDepth 100000 in
theorem lev_p1 (s t : ByteArray) (w : World) (hc : Lib.hasPrefix s.data.toList [45] = false) (ht : t = ⟨(Lib.trimPrefix s.data.toList [45]).toArray⟩) (hm : t.size ≤ 1000000) (n : Nat) (hn : n ≤ 9007199254740991) (hr : readR t.data.toList = ((n : Int), 0)) (h1 : n ≤ 127) :
    Calls Tryd.prog 9 #[.string s] w fun e w' => e = .returned (.tuple #[.int .i64 (n : Int), .int .i64 0]) ∧ Below w.heap.size w w' := by
  have HC := Lib.hid hc
  have HT := Lib.hid ht
  have HM := Lib.hid hm
  have HR := Lib.hid hr
  have d1 : decide ((n : Int) < -128) = false := decide_eq_false (by omega)
  have d2 : decide ((127 : Int) < (n : Int)) = false := decide_eq_false (by omega)
  clear hc ht hm hr
  go_enter Tryd.func9, Tryd.ntmps9
  go_wp2_with (first
    | (go_at_call 19; (with_reducible refine (cut_no s t w HC.out HT.out).mono ?_); rintro e w1 ⟨rfl, rfl⟩)
    | (go_at_call 18; (with_reducible refine (read6 t _ HM.out n 0 HR.out).mono ?_); rintro e w2 ⟨rfl, hb2⟩)
    | fail)
  go_ret2
  exact ⟨rfl, hb2⟩
set_option maxHeartbeats 1000000 in
set_option maxRecDepth 100000 in
theorem lev_p2 (s t : ByteArray) (w : World) (hc : Lib.hasPrefix s.data.toList [45] = false) (ht : t = ⟨(Lib.trimPrefix s.data.toList [45]).toArray⟩) (hm : t.size ≤ 1000000) (n : Nat) (hn : n ≤ 9007199254740991) (hr : readR t.data.toList = ((n : Int), 0)) (h1 : 127 < n) :
    Calls Tryd.prog 9 #[.string s] w fun e w' => e = .returned (.tuple #[.int .i64 0, .int .i64 60]) ∧ Below w.heap.size w w' := by
  have HC := Lib.hid hc
  have HT := Lib.hid ht
  have HM := Lib.hid hm
  have HR := Lib.hid hr
  have d1 : decide ((n : Int) < -128) = false := decide_eq_false (by omega)
  have d2 : decide ((127 : Int) < (n : Int)) = true := by simp; omega
  clear hc ht hm hr
  go_enter Tryd.func9, Tryd.ntmps9
  go_wp2_with (first
    | (go_at_call 19; (with_reducible refine (cut_no s t w HC.out HT.out).mono ?_); rintro e w1 ⟨rfl, rfl⟩)
    | (go_at_call 18; (with_reducible refine (read6 t _ HM.out n 0 HR.out).mono ?_); rintro e w2 ⟨rfl, hb2⟩)
    | fail)
  go_ret2
  exact ⟨rfl, hb2⟩
theorem level6 (s : ByteArray) (w : World) (hm : s.size ≤ 1000000) (a b : Int) (h : levR s.data.toList = (a, b)) :
    Calls Tryd.prog 9 #[.string s] w fun e w' => e = .returned (.tuple #[.int .i64 a, .int .i64 b]) ∧ Below w.heap.size w w' := by
  have hl := ba_len6 s
  obtain ⟨t, ht⟩ : ∃ t : ByteArray, t = ⟨(Lib.trimPrefix s.data.toList [45]).toArray⟩ := ⟨_, rfl⟩
  rcases cut_dash s.data.toList with ⟨r, h1, h2, h3⟩ | ⟨h1, h2, h3⟩
  · have htr : t.data.toList = r := by rw [ht, h3]
    have htm : t.size ≤ 1000000 := by
      have e := congrArg List.length htr
      have e2 := congrArg List.length h1
      rw [ba_len6] at e
      rw [List.length_cons] at e2
      omega
    rw [h1] at h
    cases hr : readN r with
    | none =>
      have hR : readR t.data.toList = (0, 60) := by unfold readR; rw [htr, hr]
      rcases lev_below r a b h with ⟨n, q1, _⟩ | ⟨_, rfl, rfl⟩
      · rw [hr] at q1; cases q1
      · exact lev_b0 s t w h2 ht htm hR
    | some n =>
      have hR : readR t.data.toList = ((n : Int), 0) := by unfold readR; rw [htr, hr]
      have hn := (rd_most hr).2
      rcases lev_below r a b h with ⟨n', q1, q2, q3, rfl, rfl⟩ | ⟨q, rfl, rfl⟩
      · obtain rfl : n = n' := by rw [hr] at q1; exact Option.some.inj q1
        exact lev_b1 s t w h2 ht htm n hn hR q2 q3
      · rcases q n hr with rfl | q
        · exact lev_b2 s t w h2 ht htm hR
        · exact lev_b3 s t w h2 ht htm n hn hR q
  · have htr : t.data.toList = s.data.toList := by rw [ht, h3]
    have htm : t.size ≤ 1000000 := by
      have e := congrArg List.length htr
      rw [ba_len6, ba_len6] at e
      omega
    cases hr : readN s.data.toList with
    | none =>
      have hR : readR t.data.toList = (0, 60) := by unfold readR; rw [htr, hr]
      rcases lev_plain _ h1 a b h with ⟨n, q1, _⟩ | ⟨_, rfl, rfl⟩
      · rw [hr] at q1; cases q1
      · exact lev_p0 s t w h2 ht htm hR
    | some n =>
      have hR : readR t.data.toList = ((n : Int), 0) := by unfold readR; rw [htr, hr]
      have hn := (rd_most hr).2
      rcases lev_plain _ h1 a b h with ⟨n', q1, q2, rfl, rfl⟩ | ⟨q, rfl, rfl⟩
      · obtain rfl : n = n' := by rw [hr] at q1; exact Option.some.inj q1
        exact lev_p1 s t w h2 ht htm n hn hR q2
      · exact lev_p2 s t w h2 ht htm n hn hR (q n hr)
/-- The library's table of the powers of ten holds them. -/
def Tb (w : World) : Prop := Lib.TabIs Tryd.prog w "internal/strconv.uint64pow10" .u64 Lib.pow10Tab
theorem Tb.to {w w' : World} (h : Tb w) (hb : Below w.heap.size w w') : Tb w' := (Lib.tabBelow_of_tabIs h) w' hb
theorem dec_dg (u : Nat) : Lib.decDigits u = dg u := by
  induction u using Nat.strongRecOn with
  | ind u ih =>
    rw [Lib.decDigits]
    by_cases h : u < 10
    · rw [dif_pos h, dg_small h]; rfl
    · rw [dif_neg h, dg_more (by omega), ih (u / 10) (by omega)]; rfl
theorem itoa6 (k : Nat) (hk : k ≤ 9007199254740991) (t : ByteArray) (ht : t = ⟨(dg k).toArray⟩) (w : World) (hT : Tb w) :
    Calls Tryd.prog 23 #[.int .i64 k] w fun e w' => e = .returned (.string t) ∧ Below w.heap.size w w' := by
  refine (Tryd.strconv_Itoa (k : Int) (by omega) (by omega) w hT).mono fun e w' h => ?_
  obtain ⟨h1, j, os, h2⟩ := h
  refine ⟨?_, by rw [h2]; exact Lib.below_grow _ w (Nat.le_refl _) j os⟩
  rw [h1, Lib.itoa_nonneg, dec_dg, ht]
set_option maxRecDepth 100000 in
theorem isnum6 (n : Int) (w : World) (b : Bool) (h : decide (0 ≤ n ∧ n ≤ 9007199254740991) = b) :
    Calls Tryd.prog 22 #[.int .i64 n] w fun e w' => e = .returned (.bool b) ∧ w' = w := by
  by_cases h0 : 0 ≤ n
  · have d0 : decide (0 ≤ n) = true := by simpa using h0
    by_cases h1 : n ≤ 9007199254740991
    · have d1 : decide (n ≤ 9007199254740991) = true := by simpa using h1
      obtain rfl : true = b := by rw [← h]; simp [h0, h1]
      clear h
      go_enter Tryd.func22, Tryd.ntmps22
      go_wp2_with fail
      go_ret
      exact ⟨rfl, rfl⟩
    · have d1 : decide (n ≤ 9007199254740991) = false := by simpa using h1
      obtain rfl : false = b := by rw [← h]; simp [h1]
      clear h
      go_enter Tryd.func22, Tryd.ntmps22
      go_wp2_with fail
      go_ret
      exact ⟨rfl, rfl⟩
  · have d0 : decide (0 ≤ n) = false := by simpa using h0
    obtain rfl : false = b := by rw [← h]; simp [h0]
    clear h
    go_enter Tryd.func22, Tryd.ntmps22
    go_wp2_with fail
    go_ret
    exact ⟨rfl, rfl⟩
set_option maxRecDepth 100000 in
theorem write6 (n : Int) (w : World) (hn : -9223372036854775808 ≤ n ∧ n ≤ 9223372036854775807) (t : ByteArray) (b : Int) (h : writeR n = (t, b)) (hT : Tb w := by first | assumption | exact Tb.to (by assumption) (by assumption)) :
    Calls Tryd.prog 11 #[.int .i64 n] w fun e w' => e = .returned (.tuple #[.string t, .int .i64 b]) ∧ Below w.heap.size w w' := by
  unfold writeR at h
  by_cases h0 : 0 ≤ n ∧ n ≤ 9007199254740991
  · rw [if_pos h0] at h
    obtain ⟨k, rfl⟩ : ∃ k : Nat, n = (k : Int) := ⟨n.toNat, by omega⟩
    rw [Int.toNat_natCast] at h
    obtain ⟨ht, rfl⟩ := (Prod.mk.injEq _ _ _ _).mp h
    have HX : Hid (decide (0 ≤ (k : Int) ∧ (k : Int) ≤ 9007199254740991) = true) := Lib.hid (by simpa using h0)
    have HC := Lib.hid (itoa6 k (by omega) t ht.symm w hT)
    clear h ht h0 hT
    go_enter Tryd.func11, Tryd.ntmps11
    go_wp2_with (first
      | (go_at_call 22; (with_reducible refine (isnum6 k w true HX.out).mono ?_); rintro e w1 ⟨rfl, rfl⟩)
      | (go_at_call 23; (with_reducible refine HC.out.mono ?_); rintro e w2 ⟨rfl, hb2⟩)
      | fail)
    go_ret2
    exact ⟨rfl, hb2⟩
  · rw [if_neg h0] at h
    obtain ⟨rfl, rfl⟩ := (Prod.mk.injEq _ _ _ _).mp h
    have HX : Hid (decide (0 ≤ n ∧ n ≤ 9007199254740991) = false) := Lib.hid (by simpa using h0)
    clear h h0 hT
    go_enter Tryd.func11, Tryd.ntmps11
    go_wp2_with (first
      | (go_at_call 22; (with_reducible refine (isnum6 n w false HX.out).mono ?_); rintro e w1 ⟨rfl, rfl⟩)
      | fail)
    go_ret2
    exact ⟨rfl, Below.refl _ _⟩
set_option maxRecDepth 100000 in
theorem sum_a (n m : Int) (w : World) (hn : -9223372036854775808 ≤ n ∧ n ≤ 9223372036854775807) (hm : -9223372036854775808 ≤ m ∧ m ≤ 9223372036854775807) (h : ¬ (0 ≤ n ∧ n ≤ 9007199254740991)) :
    Calls Tryd.prog 12 #[.int .i64 n, .int .i64 m] w fun e w' => e = .returned (.tuple #[.int .i64 0, .int .i64 2]) ∧ Below w.heap.size w w' := by
  have HX : Hid (decide (0 ≤ n ∧ n ≤ 9007199254740991) = false) := Lib.hid (by simpa using h)
  clear h
  go_enter Tryd.func12, Tryd.ntmps12
  go_wp2_with (first
    | (go_at_call 22; (with_reducible refine (isnum6 n _ false HX.out).mono ?_); rintro e w1 ⟨rfl, rfl⟩)
    | fail)
  go_ret2
  exact ⟨rfl, Below.refl _ _⟩
set_option maxRecDepth 100000 in
theorem sum_b (n m : Int) (w : World) (hn : -9223372036854775808 ≤ n ∧ n ≤ 9223372036854775807) (hm : -9223372036854775808 ≤ m ∧ m ≤ 9223372036854775807) (h : (0 ≤ n ∧ n ≤ 9007199254740991)) (h1 : m < -9007199254740991) :
    Calls Tryd.prog 12 #[.int .i64 n, .int .i64 m] w fun e w' => e = .returned (.tuple #[.int .i64 0, .int .i64 2]) ∧ Below w.heap.size w w' := by
  have HX : Hid (decide (0 ≤ n ∧ n ≤ 9007199254740991) = true) := Lib.hid (by simpa using h)
  have d0 : decide (m < -9007199254740991) = true := by simpa using h1
  clear h h1
  go_enter Tryd.func12, Tryd.ntmps12
  go_wp2_with (first
    | (go_at_call 22; (with_reducible refine (isnum6 n _ true HX.out).mono ?_); rintro e w1 ⟨rfl, rfl⟩)
    | fail)
  go_ret2
  exact ⟨rfl, Below.refl _ _⟩
set_option maxRecDepth 100000 in
theorem sum_c (n m : Int) (w : World) (hn : -9223372036854775808 ≤ n ∧ n ≤ 9223372036854775807) (hm : -9223372036854775808 ≤ m ∧ m ≤ 9223372036854775807) (h : (0 ≤ n ∧ n ≤ 9007199254740991)) (h1 : 9007199254740991 < m) :
    Calls Tryd.prog 12 #[.int .i64 n, .int .i64 m] w fun e w' => e = .returned (.tuple #[.int .i64 0, .int .i64 2]) ∧ Below w.heap.size w w' := by
  have HX : Hid (decide (0 ≤ n ∧ n ≤ 9007199254740991) = true) := Lib.hid (by simpa using h)
  have d0 : decide (m < -9007199254740991) = false := decide_eq_false (by omega)
  have d1 : decide (9007199254740991 < m) = true := by simpa using h1
  clear h h1
  go_enter Tryd.func12, Tryd.ntmps12
  go_wp2_with (first
    | (go_at_call 22; (with_reducible refine (isnum6 n _ true HX.out).mono ?_); rintro e w1 ⟨rfl, rfl⟩)
    | fail)
  go_ret2
  exact ⟨rfl, Below.refl _ _⟩
set_option maxRecDepth 100000 in
theorem sum_d (n m : Int) (w : World) (hn : -9223372036854775808 ≤ n ∧ n ≤ 9223372036854775807) (hm : -9223372036854775808 ≤ m ∧ m ≤ 9223372036854775807) (h : (0 ≤ n ∧ n ≤ 9007199254740991)) (h0 : -9007199254740991 ≤ m) (h1 : m ≤ 9007199254740991) (h2 : ¬ (0 ≤ n + m ∧ n + m ≤ 9007199254740991)) :
    Calls Tryd.prog 12 #[.int .i64 n, .int .i64 m] w fun e w' => e = .returned (.tuple #[.int .i64 0, .int .i64 2]) ∧ Below w.heap.size w w' := by
  have HX : Hid (decide (0 ≤ n ∧ n ≤ 9007199254740991) = true) := Lib.hid (by simpa using h)
  have HY : Hid (decide (0 ≤ n + m ∧ n + m ≤ 9007199254740991) = false) := Lib.hid (by simpa using h2)
  have d0 : decide (m < -9007199254740991) = false := decide_eq_false (by omega)
  have d1 : decide (9007199254740991 < m) = false := decide_eq_false (by omega)
  have b1 : -9223372036854775808 ≤ n + m ∧ n + m ≤ 9223372036854775807 := by omega
  clear h2
  go_enter Tryd.func12, Tryd.ntmps12
  go_wp2_with (first
    | (go_at_call 22; (with_reducible refine (isnum6 n _ true HX.out).mono ?_); rintro e w1 ⟨rfl, rfl⟩)
    | (go_at_call 22; (with_reducible refine (isnum6 (n + m) _ false HY.out).mono ?_); rintro e w1 ⟨rfl, rfl⟩)
    | fail)
  go_ret2
  exact ⟨rfl, Below.refl _ _⟩
set_option maxRecDepth 100000 in
theorem sum_e (n m : Int) (w : World) (hn : -9223372036854775808 ≤ n ∧ n ≤ 9223372036854775807) (hm : -9223372036854775808 ≤ m ∧ m ≤ 9223372036854775807) (h : (0 ≤ n ∧ n ≤ 9007199254740991)) (h0 : -9007199254740991 ≤ m) (h1 : m ≤ 9007199254740991) (h2 : (0 ≤ n + m ∧ n + m ≤ 9007199254740991)) :
    Calls Tryd.prog 12 #[.int .i64 n, .int .i64 m] w fun e w' => e = .returned (.tuple #[.int .i64 (n + m), .int .i64 0]) ∧ Below w.heap.size w w' := by
  have HX : Hid (decide (0 ≤ n ∧ n ≤ 9007199254740991) = true) := Lib.hid (by simpa using h)
  have HY : Hid (decide (0 ≤ n + m ∧ n + m ≤ 9007199254740991) = true) := Lib.hid (by simpa using h2)
  have d0 : decide (m < -9007199254740991) = false := decide_eq_false (by omega)
  have d1 : decide (9007199254740991 < m) = false := decide_eq_false (by omega)
  have b1 : -9223372036854775808 ≤ n + m ∧ n + m ≤ 9223372036854775807 := by omega
  clear h2
  go_enter Tryd.func12, Tryd.ntmps12
  go_wp2_with (first
    | (go_at_call 22; (with_reducible refine (isnum6 n _ true HX.out).mono ?_); rintro e w1 ⟨rfl, rfl⟩)
    | (go_at_call 22; (with_reducible refine (isnum6 (n + m) _ true HY.out).mono ?_); rintro e w1 ⟨rfl, rfl⟩)
    | fail)
  go_ret2
  exact ⟨rfl, Below.refl _ _⟩
theorem sum6 (n m : Int) (w : World) (hn : -9223372036854775808 ≤ n ∧ n ≤ 9223372036854775807) (hm : -9223372036854775808 ≤ m ∧ m ≤ 9223372036854775807) (a b : Int) (h : sumR n m = (a, b)) :
    Calls Tryd.prog 12 #[.int .i64 n, .int .i64 m] w fun e w' => e = .returned (.tuple #[.int .i64 a, .int .i64 b]) ∧ Below w.heap.size w w' := by
  unfold sumR at h
  by_cases h0 : 0 ≤ n ∧ n ≤ 9007199254740991
  · by_cases h1 : m < -9007199254740991
    · rw [if_neg (by omega)] at h
      obtain ⟨rfl, rfl⟩ := (Prod.mk.injEq _ _ _ _).mp h
      exact sum_b n m w hn hm h0 h1
    · by_cases h2 : 9007199254740991 < m
      · rw [if_neg (by omega)] at h
        obtain ⟨rfl, rfl⟩ := (Prod.mk.injEq _ _ _ _).mp h
        exact sum_c n m w hn hm h0 h2
      · by_cases h3 : 0 ≤ n + m ∧ n + m ≤ 9007199254740991
        · rw [if_pos (by omega)] at h
          obtain ⟨rfl, rfl⟩ := (Prod.mk.injEq _ _ _ _).mp h
          exact sum_e n m w hn hm h0 (by omega) (by omega) h3
        · rw [if_neg (by omega)] at h
          obtain ⟨rfl, rfl⟩ := (Prod.mk.injEq _ _ _ _).mp h
          exact sum_d n m w hn hm h0 (by omega) (by omega) h3
  · rw [if_neg (by omega)] at h
    obtain ⟨rfl, rfl⟩ := (Prod.mk.injEq _ _ _ _).mp h
    exact sum_a n m w hn hm h0
end Hx
end Go.Proofs.YtllcmfohfnidpaaDoor
