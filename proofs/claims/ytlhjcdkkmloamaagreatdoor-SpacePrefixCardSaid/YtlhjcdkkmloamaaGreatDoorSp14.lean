/-
  Texts of one seat, put together: EscC.
-/
import Derived.Test.YtlhjcdkkmloamaaGreatDoorSp04
import Derived.Test.YtlhjcdkkmloamaaGreatDoorShelf
import Derived.Lib.ConvBytes
import Derived.Laws.Externs
set_option linter.unusedSimpArgs false
namespace Go.Proofs.YtlhjcdkkmloamaaGreatDoor
open Go.RowKit
namespace Hx
open Tx Nmb Es
set_option maxRecDepth 100000
set_option maxHeartbeats 16000000
set_option linter.unusedVariables false
def lowv (c : UInt8) : Nat := (c ||| 32).toNat
theorem low_bits (c : UInt8) : bits .or .u8 (c.toNat : Int) 32 = (lowv c : Int) := u8_every (fun c => bits .or .u8 (c.toNat : Int) 32 = (lowv c : Int)) (by decide +kernel) c
theorem low_cases (c : UInt8) : lowv c ≤ 255 ∧ ((48 ≤ c.toNat ∧ c.toNat ≤ 57 ∧ hxv c = some (c.toNat - 48)) ∨ ((c.toNat < 48 ∨ 57 < c.toNat) ∧ c.toNat ≠ 95 ∧ 97 ≤ lowv c ∧ lowv c ≤ 102 ∧ hxv c = some (lowv c - 87)) ∨
    ((c.toNat < 48 ∨ 57 < c.toNat) ∧ c.toNat ≠ 95 ∧ 103 ≤ lowv c ∧ lowv c ≤ 122 ∧ hxv c = none) ∨ ((c.toNat < 48 ∨ 57 < c.toNat) ∧ (lowv c < 97 ∨ 122 < lowv c) ∧ hxv c = none)) :=
  u8_every (fun c => lowv c ≤ 255 ∧ ((48 ≤ c.toNat ∧ c.toNat ≤ 57 ∧ hxv c = some (c.toNat - 48)) ∨ ((c.toNat < 48 ∨ 57 < c.toNat) ∧ c.toNat ≠ 95 ∧ 97 ≤ lowv c ∧ lowv c ≤ 102 ∧ hxv c = some (lowv c - 87)) ∨
    ((c.toNat < 48 ∨ 57 < c.toNat) ∧ c.toNat ≠ 95 ∧ 103 ≤ lowv c ∧ lowv c ≤ 122 ∧ hxv c = none) ∨ ((c.toNat < 48 ∨ 57 < c.toNat) ∧ (lowv c < 97 ∨ 122 < lowv c) ∧ hxv c = none))) (by decide +kernel) c
theorem lower8 (z y : Int) (w : World) (h : bits .or .u8 z 32 = y) :
    Calls Tryz.prog 157 #[.int .u8 z] w fun e w' => e = .returned (.int .u8 y) ∧ w = w' := by
  go_enter Tryz.func157, Tryz.ntmps157
  go_wp2
  go_ret
  exact ⟨rfl, rfl⟩
def puV (o : Option Nat) (ev : Value) : Value := match o with | some n => .tuple #[.int .u64 (n : Int), .nilIface] | none => .tuple #[.int .u64 0, ev]
def puE : Value := .iface 183 (.int .i64 2)
theorem pow16 {k : Nat} (h : k ≤ 5) : 16 ^ k ≤ 1048576 := Nat.le_trans (Nat.pow_le_pow_right (by decide) h) (by decide)
theorem u64_in {x : Int} (h0 : 0 ≤ x) (h1 : x ≤ 9007199254740991) : IntKind.u64.wrap x = x := by rw [IntKind.wrap_u64]; omega
theorem u8_in {x : Int} (h0 : 0 ≤ x) (h1 : x ≤ 255) : IntKind.u8.wrap x = x := by rw [IntKind.wrap_u8]; omega
theorem ipu8 (t : ByteArray) (w : World) (h0 : 1 ≤ t.size) (h6 : t.size ≤ 6) (o : Option Nat) (ho : hexF t.data.toList = o) :
    Calls Tryz.prog 150 #[.string t, .int .i64 16, .int .i64 64] w fun e w' => e = .returned (puV o puE) ∧ Below w.heap.size w w' := by
  have hemp : t.toList.isEmpty = false := by
    rw [← decide_eq_emptyBytes]
    exact decide_eq_false (fun h => by rw [h] at h0; exact absurd h0 (by decide))
  have hcv := Lib.run_convert_string_bytes (P := Tryz.prog) w 9 96 5 t Tryz.underlying9 Tryz.underlying96 Tryz.underlying5
  have hB : Hid (∀ j, j < t.size → (Lib.bytesWorld w 5 t).cell? ⟨w.heap.size, j, none⟩ = some (.int .u8 (t.data.toList.getD j 0).toNat)) := fun j hj => Lib.bytesWorld_cell w 5 t j hj
  have hbel : Hid (Below w.heap.size w (Lib.bytesWorld w 5 t)) := Lib.hid (Lib.bytesWorld_below _ _ _)
  obtain ⟨W1, hW1⟩ : ∃ W1, W1 = Lib.bytesWorld w 5 t := ⟨_, rfl⟩
  rw [← hW1] at hcv hB hbel
  clear hW1
  have HO := Lib.hid ho
  clear ho
  have hmv : IntKind.u64.wrap (IntKind.u64.wrap 18446744073709551616 - 1) = 18446744073709551615 := by
    rw [IntKind.wrap_u64, IntKind.wrap_u64]
    decide
  go_enter Tryz.func150, Tryz.ntmps150
  go_wp2_with fail
  go_loopg [12, 13, 101] t.size (fun gg vu vn vi wr => ∃ (k acc : Nat) (a : Int), k + gg = t.size ∧ vu = .bool false ∧ vn = .int .u64 a ∧ vi = .int .i64 k ∧ wr = W1 ∧ Hid (a = (acc : Int) ∧ acc + 1 ≤ 16 ^ k ∧ hexF (t.data.toList.take k) = some acc))
  case atStart => exact ⟨0, 0, 0, by omega, rfl, rfl, rfl, rfl, Lib.hid ⟨rfl, by decide, rfl⟩⟩
  case round =>
    obtain ⟨k, acc, a, hk, rfl, rfl, rfl, rfl, hh⟩ := hrel
    by_cases hlt : k < t.size
    · obtain ⟨c, hc, hat⟩ := byte_at8 t k hlt
      have hcell := hB.out k hlt
      rw [show t.data.toList.getD k 0 = c by rw [List.getD_eq_getElem?_getD, hc]; rfl] at hcell
      obtain ⟨z, hz⟩ : ∃ z : Int, (c.toNat : Int) = z := ⟨_, rfl⟩
      obtain ⟨y, hy⟩ : ∃ y : Int, (lowv c : Int) = y := ⟨_, rfl⟩
      have HY : Hid (bits .or .u8 z 32 = y) := by show _ = _; rw [← hz, ← hy]; exact low_bits c
      have bk : (0 : Int) ≤ (k : Int) ∧ (k : Int) < (t.size : Int) := by omega
      have hzr : 0 ≤ z ∧ z ≤ 255 := by have := c.toNat_lt; omega
      obtain ⟨hl255, hcs⟩ := low_cases c
      have hyr : 0 ≤ y ∧ y ≤ 255 := by omega
      have ha1 : a + 1 ≤ 1048576 ∧ 0 ≤ a := by
        obtain ⟨h1, h2, _⟩ := hh.out
        have := pow16 (show k ≤ 5 by omega)
        omega
      have d1 : decide ((1152921504606846976 : Int) ≤ a) = false := by simp; omega
      obtain ⟨m, hm⟩ : ∃ m : Int, a * 16 = m := ⟨_, rfl⟩
      have w1 : IntKind.u64.wrap m = m := u64_in (by omega) (by omega)
      rw [hz] at hcell
      rcases hcs with ⟨q1, q2, q3⟩ | ⟨q1, q0, q2, q3, q4⟩ | ⟨q1, q0, q2, q3, q4⟩ | ⟨q1, q2, q4⟩
      · -- a digit
        have z1 : (48 : Int) ≤ z ∧ z ≤ 57 := by omega
        obtain ⟨d, hd⟩ : ∃ d : Int, z - 48 = d := ⟨_, rfl⟩
        have d2 : IntKind.u8.wrap d = d := u8_in (by omega) (by omega)
        have d3 : decide ((16 : Int) ≤ d) = false := by simp; omega
        obtain ⟨v, hv⟩ : ∃ v : Int, m + d = v := ⟨_, rfl⟩
        have w2 : IntKind.u64.wrap d = d := u64_in (by omega) (by omega)
        have w3 : IntKind.u64.wrap v = v := u64_in (by omega) (by omega)
        have d4 : decide (v < m) = false := by simp; omega
        have d5 : decide ((18446744073709551615 : Int) < v) = false := by simp; omega
        have HN : Hid (v = ((16 * acc + (c.toNat - 48) : Nat) : Int) ∧ (16 * acc + (c.toNat - 48)) + 1 ≤ 16 ^ (k + 1) ∧ hexF (t.data.toList.take (k + 1)) = some (16 * acc + (c.toNat - 48))) := by
          obtain ⟨h1, h2, h3⟩ := hh.out
          refine Lib.hid ⟨by omega, ?_, hexF_next hc h3 q3⟩
          rw [Nat.pow_succ]
          omega
        clear hc hat hz hy q1 q2 q3 hl255 ha1 hyr
        go_wp2_with fail
        go_roundg (gk - 1)
        case rel => exact ⟨k + 1, _, v, by omega, rfl, rfl, by go_num, rfl, HN⟩
        case measure => omega
      · -- a letter
        have y1 : (97 : Int) ≤ y ∧ y ≤ 102 := by omega
        obtain ⟨f, hf⟩ : ∃ f : Int, y - 97 = f := ⟨_, rfl⟩
        have d0 : IntKind.u8.wrap f = f := u8_in (by omega) (by omega)
        obtain ⟨d, hd⟩ : ∃ d : Int, f + 10 = d := ⟨_, rfl⟩
        have d2 : IntKind.u8.wrap d = d := u8_in (by omega) (by omega)
        have d3 : decide ((16 : Int) ≤ d) = false := by simp; omega
        obtain ⟨v, hv⟩ : ∃ v : Int, m + d = v := ⟨_, rfl⟩
        have w2 : IntKind.u64.wrap d = d := u64_in (by omega) (by omega)
        have w3 : IntKind.u64.wrap v = v := u64_in (by omega) (by omega)
        have d4 : decide (v < m) = false := by simp; omega
        have d5 : decide ((18446744073709551615 : Int) < v) = false := by simp; omega
        have HN : Hid (v = ((16 * acc + (lowv c - 87) : Nat) : Int) ∧ (16 * acc + (lowv c - 87)) + 1 ≤ 16 ^ (k + 1) ∧ hexF (t.data.toList.take (k + 1)) = some (16 * acc + (lowv c - 87))) := by
          obtain ⟨h1, h2, h3⟩ := hh.out
          refine Lib.hid ⟨by omega, ?_, hexF_next hc h3 q4⟩
          rw [Nat.pow_succ]
          omega
        have z1 : z < 48 ∨ 57 < z := by omega
        have z2 : ¬ z = 95 := by omega
        clear hc hat hz hy q1 q2 q3 q4 hl255 ha1 q0
        rcases z1 with z1 | z1
        · go_wp2_with (first
            | (go_at_call 157; (with_reducible refine (lower8 z y wr HY.out).mono ?_); rintro e1 w4 ⟨rfl, rfl⟩)
            | fail)
          go_roundg (gk - 1)
          case rel => exact ⟨k + 1, _, v, by omega, rfl, rfl, by go_num, rfl, HN⟩
          case measure => omega
        · go_wp2_with (first
            | (go_at_call 157; (with_reducible refine (lower8 z y wr HY.out).mono ?_); rintro e1 w4 ⟨rfl, rfl⟩)
            | fail)
          go_roundg (gk - 1)
          case rel => exact ⟨k + 1, _, v, by omega, rfl, rfl, by go_num, rfl, HN⟩
          case measure => omega
      · -- a letter that is no digit
        have y1 : (103 : Int) ≤ y ∧ y ≤ 122 := by omega
        obtain ⟨f, hf⟩ : ∃ f : Int, y - 97 = f := ⟨_, rfl⟩
        have d0 : IntKind.u8.wrap f = f := u8_in (by omega) (by omega)
        obtain ⟨d, hd⟩ : ∃ d : Int, f + 10 = d := ⟨_, rfl⟩
        have d2 : IntKind.u8.wrap d = d := u8_in (by omega) (by omega)
        have d3 : decide ((16 : Int) ≤ d) = true := by simp; omega
        obtain rfl : none = o := by rw [← HO.out, hexF_stop hc q4]
        have z1 : z < 48 ∨ 57 < z := by omega
        have z2 : ¬ z = 95 := by omega
        clear hc hat hz hy q1 q2 q3 q4 hl255 ha1 q0
        rcases z1 with z1 | z1
        · go_wp2_with (first
            | (go_at_call 157; (with_reducible refine (lower8 z y wr HY.out).mono ?_); rintro e1 w4 ⟨rfl, rfl⟩)
            | fail)
          all_goals go_ret2
          all_goals exact ⟨rfl, hbel.out⟩
        · go_wp2_with (first
            | (go_at_call 157; (with_reducible refine (lower8 z y wr HY.out).mono ?_); rintro e1 w4 ⟨rfl, rfl⟩)
            | fail)
          all_goals go_ret2
          all_goals exact ⟨rfl, hbel.out⟩
      · -- another byte
        obtain rfl : none = o := by rw [← HO.out, hexF_stop hc q4]
        have z1 : z < 48 ∨ 57 < z := by omega
        have y1 : y < 97 ∨ 122 < y := by omega
        clear hc hat hz hy q1 q2 q4 hl255 ha1
        by_cases z2 : z = 95
        · subst z2
          rcases y1 with y1 | y1
          all_goals go_wp2_with (first
            | (go_at_call 157; (with_reducible refine (lower8 95 y wr HY.out).mono ?_); rintro e1 w4 ⟨rfl, rfl⟩)
            | fail)
          all_goals go_ret2
          all_goals exact ⟨rfl, hbel.out⟩
        · rcases z1 with z1 | z1 <;> rcases y1 with y1 | y1
          all_goals go_wp2_with (first
            | (go_at_call 157; (with_reducible refine (lower8 z y wr HY.out).mono ?_); rintro e1 w4 ⟨rfl, rfl⟩)
            | fail)
          all_goals go_ret2
          all_goals exact ⟨rfl, hbel.out⟩
    · obtain rfl : t.size = k := by omega
      obtain ⟨h1, h2, h3⟩ := hh.out
      have htk : t.data.toList.take t.size = t.data.toList := List.take_of_length_le (by rw [ba_len5]; exact Nat.le_refl _)
      rw [htk, HO.out] at h3
      subst h3
      subst h1
      clear hh h2 htk
      go_wp2_with fail
      go_ret2
      exact ⟨rfl, hbel.out⟩
end Hx
end Go.Proofs.YtlhjcdkkmloamaaGreatDoor
