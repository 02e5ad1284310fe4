/-
  Contracts of package hex's small functions: a digit's number, a byte's two digits.
-/
import Derived.Test.YtmgdhkgkjimmoaaMem
namespace Go.Proofs.Ytmgdhkgkjimmoaa
open Go.RowKit
namespace Hx

/-- The digits' text. -/
def DG : ByteArray := ⟨#[48, 49, 50, 51, 52, 53, 54, 55, 56, 57, 97, 98, 99, 100, 101, 102]⟩

def dg (j : Nat) : Int := if j < 10 then 48 + (j : Int) else 87 + (j : Int)
def isD (c : Int) : Bool := decide ((48 ≤ c ∧ c ≤ 57) ∨ (97 ≤ c ∧ c ≤ 102))
def nm (c : Int) : Int := if 48 ≤ c ∧ c ≤ 57 then c - 48 else if 97 ≤ c ∧ c ≤ 102 then c - 87 else 0

theorem DG_at : ∀ j : Nat, (h : j < DG.size) → (((DG[j]'h).toNat : Nat) : Int) = dg j := by
  intro j h
  have all : ∀ j : Fin 16, (((DG[j.val]'(by have := j.isLt; exact this)).toNat : Nat) : Int) = dg j.val := by decide
  exact all ⟨j, h⟩
theorem DG_low (j : Nat) (h : j < DG.size) : (DG[j]'h).toNat < 128 := by
  have e := DG_at j h
  have h' : j < 16 := h
  unfold dg at e
  split at e <;> omega
theorem DG_size : DG.size = 16 := rfl
theorem hit (c : Int) (j : Nat) (h : j < 16) (e : c = dg j) : nm c = j ∧ isD c = true := by
  subst e
  unfold dg nm isD
  by_cases h1 : j < 10
  · rw [if_pos h1, if_pos (by omega)]
    exact ⟨by omega, by simp; omega⟩
  · rw [if_neg h1, if_neg (by omega), if_pos (by omega)]
    exact ⟨by omega, by simp; omega⟩
theorem miss (c : Int) (h : ∀ j, j < 16 → c ≠ dg j) : nm c = 0 ∧ isD c = false := by
  have k : ¬ ((48 ≤ c ∧ c ≤ 57) ∨ (97 ≤ c ∧ c ≤ 102)) := by
    rintro (⟨a, b⟩ | ⟨a, b⟩)
    · exact h (c - 48).toNat (by omega) (by unfold dg; rw [if_pos (by omega)]; omega)
    · exact h (c - 87).toNat (by omega) (by unfold dg; rw [if_neg (by omega)]; omega)
  unfold nm isD
  rw [if_neg (by omega), if_neg (by omega)]
  exact ⟨rfl, by simpa using k⟩

set_option maxHeartbeats 1000000 in
set_option maxRecDepth 100000 in
/-- hex.number: the number of a digit, or none. -/
theorem number_any (c : Int) (w : World) :
    Calls Try.prog 17 #[.int .i32 c] w fun e w' => e = .returned (.tuple #[.int .i64 (nm c), .bool (isD c)]) ∧ Below w.heap.size w w' := by
  go_enter Try.func17, Try.ntmps17
  go_wp2
  go_loopw [] (fun wr => ∃ pos : Nat, pos ≤ 16 ∧ wr = w.iter DG pos ∧ ∀ j, j < pos → c ≠ dg j) (fun wr => 16 - wr.iterPos w.heap.size)
  case atStart => exact ⟨0, by omega, rfl, fun j h => absurd h (by omega)⟩
  case round =>
    obtain ⟨pos, hp, rfl, hno⟩ := hrel
    by_cases hlt : pos < DG.size
    · have hnx : ∀ ty, (Instr.next (.pointer (some ⟨w.heap.size, 0, none⟩)) true ty).run Try.prog (w.iter DG pos) = _ := fun ty => run_next_ascii w DG pos ty hlt (DG_low pos hlt)
      rw [DG_at pos hlt] at hnx
      by_cases he : c = dg pos
      · have hq := hit c pos hlt he
        have hb : (c == dg pos) = true := by simpa using he
        have HQ := Lib.hid hq
        clear hq he hno
        go_wp2
        go_ret2
        exact ⟨ret_ib HQ.out.1.symm HQ.out.2.symm, (Below.refl _ _).alloc (Nat.le_refl _) _⟩
      · have hb : (c == dg pos) = false := by simpa using he
        have HN : Hid (∀ j, j < pos + 1 → c ≠ dg j) := by
          intro j hj
          by_cases e : j = pos
          · subst e; exact he
          · exact hno j (by omega)
        clear he hno
        go_wp2
        go_roundw
        case rel => exact ⟨pos + 1, hlt, rfl, HN.out⟩
        case measure =>
          rw [DG_size] at hlt
          simp
          omega
    · have hnx : ∀ ty, (Instr.next (.pointer (some ⟨w.heap.size, 0, none⟩)) true ty).run Try.prog (w.iter DG pos) = _ := fun ty => run_next_end w DG pos ty hlt
      have HQ := Lib.hid (miss c (fun j hj => hno j (by rw [DG_size] at hlt; omega)))
      clear hno
      go_wp2
      go_ret2
      exact ⟨ret_ib HQ.out.1.symm HQ.out.2.symm, (Below.refl _ _).alloc (Nat.le_refl _) _⟩

set_option maxRecDepth 100000 in
/-- hex.Digit: a digit's number, of a byte. -/
theorem digit_any (c : Int) (w : World) (h0 : 0 ≤ c) (h1 : c ≤ 255) :
    Calls Try.prog 9 #[.int .u8 c] w fun e w' => e = .returned (.tuple #[.int .i64 (nm c), .bool (isD c)]) ∧ Below w.heap.size w w' := by
  go_enter Try.func9, Try.ntmps9
  go_wp2_with (go_at_call 17; refine (number_any _ _).mono ?_; rintro e w' ⟨rfl, hb⟩)
  go_ret2
  exact ⟨rfl, hb⟩

/-- A number's digit. -/
def hx (n : Nat) : UInt8 := if n < 10 then (48 + n).toUInt8 else (87 + n).toUInt8
theorem hx_at : ∀ j : Nat, (h : j < DG.size) → DG[j]'h = hx j := by
  intro j h
  have all : ∀ j : Fin 16, DG[j.val]'(by have := j.isLt; exact this) = hx j.val := by decide
  exact all ⟨j, h⟩

set_option maxRecDepth 100000 in
set_option maxHeartbeats 1000000 in
/-- hex.pair: a byte's two digits. -/
theorem pair_any (c : UInt8) (w : World) :
    Calls Try.prog 18 #[.int .u8 c.toNat] w fun e w' => e = .returned (.agg #[.int .u8 (hx (c.toNat / 16)).toNat, .int .u8 (hx (c.toNat % 16)).toNat]) ∧ Below w.heap.size w w' := by
  have hc := c.toNat_lt
  have a : ∀ h, ((⟨#[48, 49, 50, 51, 52, 53, 54, 55, 56, 57, 97, 98, 99, 100, 101, 102]⟩ : ByteArray)[c.toNat / 16]'h) = hx (c.toNat / 16) := hx_at (c.toNat / 16)
  have b : ∀ h, ((⟨#[48, 49, 50, 51, 52, 53, 54, 55, 56, 57, 97, 98, 99, 100, 101, 102]⟩ : ByteArray)[c.toNat % 16]'h) = hx (c.toNat % 16) := hx_at (c.toNat % 16)
  have e1 : IntKind.u8.wrap ((c.toNat : Int) / 16) = (c.toNat : Int) / 16 := IntWalk.u8_in _ (by omega)
  have e2 : IntKind.u8.wrap ((c.toNat : Int) % 16) = (c.toNat : Int) % 16 := IntWalk.u8_in _ (by omega)
  have e3 : (c.toNat : Int) / 16 < 16 := by omega
  have e4 : (c.toNat : Int) % 16 < 16 := by omega
  have e5 : ((c.toNat : Int) / 16).toNat = c.toNat / 16 := by omega
  have e6 : ((c.toNat : Int) % 16).toNat = c.toNat % 16 := by omega
  go_enter Try.func18, Try.ntmps18
  go_wp2
  go_region
  go_wp2
  refine bodyPost_ret (v := .agg #[.int .u8 (hx (c.toNat / 16)).toNat, .int .u8 (hx (c.toNat % 16)).toNat]) (by simp [results, Try.results18, go_sem]) rfl ⟨rfl, ?_⟩
  exact ((Below.refl _ _).alloc (Nat.le_refl _) _).drew
end Hx
end Go.Proofs.Ytmgdhkgkjimmoaa
