/-
  The document's own Write, Sum, Signed, Level.
-/
import Derived.Test.YtllcmfohfnidpaaNumS
namespace Go.Proofs.Ytllcmfohfnidpaa
open Go.RowKit
namespace Hx
open Nmb
set_option linter.unusedVariables false
/-- What Write answers. -/
def writeR (n : Int) : ByteArray × Int := if 0 ≤ n ∧ n ≤ 9007199254740991 then (⟨(dg n.toNat).toArray⟩, 0) else (⟨#[]⟩, 2)
/-- What Sum answers. -/
def sumR (n m : Int) : Int × Int := if 0 ≤ n ∧ n ≤ 9007199254740991 ∧ -9007199254740991 ≤ m ∧ m ≤ 9007199254740991 ∧ 0 ≤ n + m ∧ n + m ≤ 9007199254740991 then (n + m, 0) else (0, 2)
set_option maxHeartbeats 2000000 in
set_option maxRecDepth 100000 in
theorem rsigned6 (n : Int) (w : World) (h0 : -128 ≤ n) (h1 : n ≤ 127) (t : ByteArray) (ht : t = ⟨(sgn n).toArray⟩) :
    Calls Try.prog 13 #[.int .i64 n] w fun e w' => e = .returned (.string t) ∧ Below w.heap.size w w' := by
  unfold sgn at ht
  by_cases hn : n < 0
  · rw [if_pos hn] at ht
    obtain ⟨k, hk⟩ : ∃ k : Nat, -n = (k : Int) := ⟨(-n).toNat, by omega⟩
    obtain rfl : n = -(k : Int) := by omega
    rw [hk, Int.toNat_natCast] at ht
    obtain ⟨u, hu⟩ : ∃ u : ByteArray, u = ⟨(dg k).toArray⟩ := ⟨_, rfl⟩
    have HU := Lib.hid hu
    have hul : u.size ≤ 19 := by
      have := dg_le (n := k) (by omega)
      rw [hu]
      exact this
    have hcat : ∀ W, (Op.stringOp .add ⟨#[45]⟩ u).run Try.prog W = .ok (.string t) W := fun W => by
      rw [run_string_add W ⟨#[45]⟩ u (by show ((1 : Nat) : Int) ≤ _; decide) (by omega)]
      refine congrArg (fun x => Result.ok (Value.string x) W) ?_
      rw [ht]
      refine ba_ext6 ?_
      rw [hu]
      simp
    have HK : Hid (k ≤ 9223372036854775807) := Lib.hid (by omega)
    have d0 : decide (-(k : Int) < 0) = true := by simpa using hn
    clear ht hu
    go_enter Try.func13, Try.ntmps13
    go_wp2_with (first
      | (go_at_call 11; (with_reducible refine (rdigits6 k w HK.out u HU.out).mono ?_); rintro e w1 ⟨rfl, hb1⟩)
      | fail)
    go_ret
    exact ⟨rfl, hb1⟩
  · rw [if_neg hn] at ht
    obtain ⟨k, rfl⟩ : ∃ k : Nat, n = (k : Int) := ⟨n.toNat, by omega⟩
    rw [Int.toNat_natCast] at ht
    have HT := Lib.hid ht
    have HK : Hid (k ≤ 9223372036854775807) := Lib.hid (by omega)
    have d0 : decide ((k : Int) < 0) = false := by simp
    clear ht
    go_enter Try.func13, Try.ntmps13
    go_wp2_with (first
      | (go_at_call 11; (with_reducible refine (rdigits6 k w HK.out t HT.out).mono ?_); rintro e w1 ⟨rfl, hb1⟩)
      | fail)
    go_ret
    exact ⟨rfl, hb1⟩
/-- What Level answers. -/
def levR (l : List UInt8) : Int × Int := match ((List.range 256).map fun k : Nat => (k : Int) - 128).find? (fun n => decide (sgn n = l)) with | some n => (n, 0) | none => (0, 60)
theorem levR_spec {l : List UInt8} {a b : Int} (h : levR l = (a, b)) : (-128 ≤ a ∧ a ≤ 127 ∧ sgn a = l ∧ b = 0) ∨ ((∀ n, -128 ≤ n → n ≤ 127 → sgn n ≠ l) ∧ a = 0 ∧ b = 60) := by
  unfold levR at h
  cases hf : ((List.range 256).map fun k : Nat => (k : Int) - 128).find? (fun n => decide (sgn n = l)) with
  | some n =>
    rw [hf] at h
    obtain ⟨rfl, rfl⟩ := (Prod.mk.injEq _ _ _ _).mp h
    have h1 := List.find?_some hf
    have h2 := List.mem_of_find?_eq_some hf
    obtain ⟨k, hk, rfl⟩ := List.mem_map.1 h2
    have := List.mem_range.1 hk
    exact .inl ⟨by omega, by omega, of_decide_eq_true h1, rfl⟩
  | none =>
    rw [hf] at h
    obtain ⟨rfl, rfl⟩ := (Prod.mk.injEq _ _ _ _).mp h
    refine .inr ⟨fun n h0 h1 => ?_, rfl, rfl⟩
    have := List.find?_eq_none.1 hf n (List.mem_map.2 ⟨(n + 128).toNat, List.mem_range.2 (by omega), by omega⟩)
    simpa using this
set_option maxHeartbeats 2000000 in
set_option maxRecDepth 100000 in
theorem rlevel6 (s : ByteArray) (w : World) (a b : Int) (h : levR s.data.toList = (a, b)) :
    Calls Try.prog 7 #[.string s] w fun e w' => e = .returned (.tuple #[.int .i64 a, .int .i64 b]) ∧ Below w.heap.size w w' := by
  have HH := Lib.hid (levR_spec h)
  clear h
  go_enter Try.func7, Try.ntmps7
  go_wp2_with fail
  go_loopw [4] (fun i wr => ∃ z : Int, -128 ≤ z ∧ z ≤ 128 ∧ i = .int .i64 z ∧ (∀ y, -128 ≤ y → y < z → sgn y ≠ s.data.toList) ∧ Below w.heap.size w wr) (fun i _ => (128 - intOf i).toNat)
  case atStart => exact ⟨-128, by omega, by omega, rfl, fun y h0 h1 => by omega, Below.refl _ _⟩
  case round =>
    obtain ⟨z, hz0, hz1, rfl, hno, hbw⟩ := hrel
    have HNO := Lib.hid hno
    have HBW := Lib.hid hbw
    by_cases hz : z ≤ 127
    · have d0 : decide (z ≤ 127) = true := by simpa using hz
      obtain ⟨t, ht⟩ : ∃ t : ByteArray, t = ⟨(sgn z).toArray⟩ := ⟨_, rfl⟩
      have HT := Lib.hid ht
      have HZ := Lib.hid (And.intro hz0 hz)
      obtain ⟨q, hq⟩ : ∃ q, (t.toList == s.toList) = q := ⟨_, rfl⟩
      have hqq : q = decide (sgn z = s.data.toList) := by rw [← hq, seq6, ht]
      cases q
      · have hne := of_decide_eq_false hqq.symm
        have HNO2 : Hid (∀ y, -128 ≤ y → y < z + 1 → sgn y ≠ s.data.toList) := Lib.hid fun y h0 h1 => by
          by_cases hy : y = z
          · subst hy; exact hne
          · exact hno y h0 (by omega)
        clear hno hbw ht hqq hne
        go_wp2_with (first
          | (go_at_call 13; (with_reducible refine (rsigned6 z wr HZ.out.1 HZ.out.2 t HT.out).mono ?_); rintro e w1 ⟨rfl, hb1⟩)
          | fail)
        go_roundw
        case rel => exact ⟨z + 1, by omega, by omega, rfl, HNO2.out, stp HBW.out hb1⟩
        case measure => simp [intOf]; omega
      · have he := of_decide_eq_true hqq.symm
        obtain ⟨rfl, rfl⟩ : z = a ∧ 0 = b := by
          rcases HH.out with ⟨p1, p2, p3, p4⟩ | ⟨p1, _⟩
          · exact ⟨sgn_inj (he.trans p3.symm), p4.symm⟩
          · exact absurd he (p1 z hz0 hz)
        clear hno hbw ht hqq he
        go_wp2_with (first
          | (go_at_call 13; (with_reducible refine (rsigned6 z wr HZ.out.1 HZ.out.2 t HT.out).mono ?_); rintro e w1 ⟨rfl, hb1⟩)
          | fail)
        go_ret2
        exact ⟨rfl, stp HBW.out hb1⟩
    · obtain rfl : z = 128 := by omega
      obtain ⟨rfl, rfl⟩ : 0 = a ∧ 60 = b := by
        rcases HH.out with ⟨p1, p2, p3, p4⟩ | ⟨_, p2, p3⟩
        · exact absurd p3 (hno a p1 (by omega))
        · exact ⟨p2.symm, p3.symm⟩
      clear hno hbw
      go_wp2_with fail
      go_ret2
      exact ⟨rfl, HBW.out⟩
end Hx
end Go.Proofs.Ytllcmfohfnidpaa
