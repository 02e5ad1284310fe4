/-
  What a target is: the document's answer and the landed one.
-/
import Derived.Test.YtagngohemlkkoaaDoorAscT
import Derived.Test.YtagngohemlkkoaaDoorLinM
namespace Go.Proofs.YtagngohemlkkoaaDoor
open Go.RowKit
namespace Hx
open As Ln
set_option linter.unusedVariables false
set_option maxHeartbeats 4000000 in
set_option maxRecDepth 100000 in
theorem rtarget15 (s : ByteArray) (b : Bool) (w : World) (hm : s.size ≤ 1000000) (h : isTgt s.data.toList = b) :
    Calls Tryd.prog 42 #[.string s] w fun e w' => e = .returned (.bool b) ∧ Below w.heap.size w w' := by
  have HM := Lib.hid hm
  have HB := Lib.hid h
  clear hm h
  go_enter Tryd.func42, Tryd.ntmps42
  go_wp2_with fail
  go_loopg [3] s.size (fun gg i wr => ∃ k : Nat, k + gg = s.size ∧ i = .int .i64 k ∧ w = wr ∧ (s.data.toList.take k).all tgb = true)
  case atStart => exact ⟨0, by omega, rfl, rfl, rfl⟩
  case round =>
    obtain ⟨k, hk, rfl, rfl, hall⟩ := hrel
    have HALL := Lib.hid hall
    have hMM := HM.out
    clear hall
    by_cases hlt : k < s.size
    · obtain ⟨c, hc, hat⟩ := byte_at s k hlt
      have bk : (0 : Int) ≤ (k : Int) ∧ (k : Int) < (s.size : Int) := by omega
      have hcl := c.toNat_lt
      have HNEXT : Hid (tgb c = true → (s.data.toList.take (k + 1)).all tgb = true) := fun h => all_takeT tgb hc HALL.out h
      have HSTOP : Hid (tgb c = false → isTgt s.data.toList = false) := fun h => by show _ = _; unfold isTgt; rw [all_noT tgb hc h]; rfl
      have HTK : Hid (tgb c = (decide (33 ≤ c.toNat) && decide (c.toNat ≤ 126))) := Lib.hid rfl
      clear hc
      have hlim := c.toNat_lt
      rcases (show (0 ≤ c.toNat ∧ c.toNat ≤ 32) ∨ (33 ≤ c.toNat ∧ c.toNat ≤ 126) ∨ (127 ≤ c.toNat ∧ c.toNat ≤ 255) by omega) with ⟨q1, q2⟩ | ⟨q1, q2⟩ | ⟨q1, q2⟩
      · have flt33 : decide ((c.toNat : Int) < 33) = true := decide_eq_true (by omega)
        have fgt126 : decide ((126 : Int) < (c.toNat : Int)) = false := decide_eq_false (by omega)
        have n1 : decide (c.toNat < 33) = true := decide_eq_true (by omega)
        have n2 : decide (126 < c.toNat) = false := decide_eq_false (by omega)
        have HK : Hid (tgb c = false) := by show _ = _; rw [HTK.out, decide_eq_false (by omega), decide_eq_true (by omega)]; rfl
        obtain rfl : false = b := by rw [← HB.out]; exact (HSTOP.out HK.out).symm
        clear q1 q2 hlim
        go_wp2_with fail
        go_ret
        exact ⟨rfl, Below.refl _ _⟩
      · have flt33 : decide ((c.toNat : Int) < 33) = false := decide_eq_false (by omega)
        have fgt126 : decide ((126 : Int) < (c.toNat : Int)) = false := decide_eq_false (by omega)
        have n1 : decide (c.toNat < 33) = false := decide_eq_false (by omega)
        have n2 : decide (126 < c.toNat) = false := decide_eq_false (by omega)
        have HK : Hid (tgb c = true) := by show _ = _; rw [HTK.out, decide_eq_true (by omega), decide_eq_true (by omega)]; rfl
        clear q1 q2 hlim
        go_wp2_with fail
        go_roundg (gk - 1)
        case rel => exact ⟨k + 1, by omega, by go_num, rfl, HNEXT.out HK.out⟩
        case measure => omega
      · have flt33 : decide ((c.toNat : Int) < 33) = false := decide_eq_false (by omega)
        have fgt126 : decide ((126 : Int) < (c.toNat : Int)) = true := decide_eq_true (by omega)
        have n1 : decide (c.toNat < 33) = false := decide_eq_false (by omega)
        have n2 : decide (126 < c.toNat) = true := decide_eq_true (by omega)
        have HK : Hid (tgb c = false) := by show _ = _; rw [HTK.out, decide_eq_true (by omega), decide_eq_false (by omega)]; rfl
        obtain rfl : false = b := by rw [← HB.out]; exact (HSTOP.out HK.out).symm
        clear q1 q2 hlim
        go_wp2_with fail
        go_ret
        exact ⟨rfl, Below.refl _ _⟩
    · obtain rfl : s.size = k := by omega
      have hall : s.data.toList.all tgb = true := by
        have := HALL.out
        rwa [List.take_of_length_le (by rw [ba_len7]; exact Nat.le_refl _)] at this
      have hb : decide (s.size ≠ 0) = b := by
        rw [← HB.out]
        unfold isTgt
        rw [hall, Bool.true_and]
        by_cases h0 : s.size = 0
        · have : s.data.toList = [] := List.eq_nil_of_length_eq_zero (by rw [ba_len7]; exact h0)
          rw [this, decide_eq_false (by simpa using h0)]
          rfl
        · cases hl : s.data.toList with
          | nil => rw [← ba_len7, hl] at h0; exact absurd rfl h0
          | cons a r => rw [decide_eq_true h0]; rfl
      by_cases h0 : s.size = 0
      · have e1 : (s.toList == (⟨#[]⟩ : ByteArray).toList) = true := by rw [empty_b]; simpa using h0
        have e2 : (s.toList == []) = true := by rw [empty_b2]; simpa using h0
        obtain rfl : false = b := by rw [← hb]; simp [h0]
        clear hall hb
        go_wp2_with fail
        go_ret
        exact ⟨rfl, Below.refl _ _⟩
      · have e1 : (s.toList == (⟨#[]⟩ : ByteArray).toList) = false := by rw [empty_b]; simpa using h0
        have e2 : (s.toList == []) = false := by rw [empty_b2]; simpa using h0
        obtain rfl : true = b := by rw [← hb]; simp [h0]
        clear hall hb
        go_wp2_with fail
        go_ret
        exact ⟨rfl, Below.refl _ _⟩
set_option maxHeartbeats 4000000 in
set_option maxRecDepth 100000 in
theorem target15 (s : ByteArray) (b : Bool) (w : World) (hm : s.size ≤ 1000000) (h : isTgt s.data.toList = b) :
    Calls Tryd.prog 33 #[.string s] w fun e w' => e = .returned (.bool b) ∧ Below w.heap.size w w' := by
  have HM := Lib.hid hm
  have HB := Lib.hid h
  clear hm h
  go_enter Tryd.func33, Tryd.ntmps33
  go_wp2_with fail
  go_loopg [6] s.size (fun gg i wr => ∃ k : Nat, k + gg = s.size ∧ i = .int .i64 k ∧ w = wr ∧ (s.data.toList.take k).all tgb = true)
  case atStart => exact ⟨0, by omega, rfl, rfl, rfl⟩
  case round =>
    obtain ⟨k, hk, rfl, rfl, hall⟩ := hrel
    have HALL := Lib.hid hall
    have hMM := HM.out
    clear hall
    by_cases hlt : k < s.size
    · obtain ⟨c, hc, hat⟩ := byte_at s k hlt
      have bk : (0 : Int) ≤ (k : Int) ∧ (k : Int) < (s.size : Int) := by omega
      have hcl := c.toNat_lt
      have HNEXT : Hid (tgb c = true → (s.data.toList.take (k + 1)).all tgb = true) := fun h => all_takeT tgb hc HALL.out h
      have HSTOP : Hid (tgb c = false → isTgt s.data.toList = false) := fun h => by show _ = _; unfold isTgt; rw [all_noT tgb hc h]; rfl
      have HTK : Hid (tgb c = (decide (33 ≤ c.toNat) && decide (c.toNat ≤ 126))) := Lib.hid rfl
      clear hc
      have hlim := c.toNat_lt
      rcases (show (0 ≤ c.toNat ∧ c.toNat ≤ 32) ∨ (33 ≤ c.toNat ∧ c.toNat ≤ 126) ∨ (127 ≤ c.toNat ∧ c.toNat ≤ 255) by omega) with ⟨q1, q2⟩ | ⟨q1, q2⟩ | ⟨q1, q2⟩
      · have flt33 : decide ((c.toNat : Int) < 33) = true := decide_eq_true (by omega)
        have fgt126 : decide ((126 : Int) < (c.toNat : Int)) = false := decide_eq_false (by omega)
        have n1 : decide (c.toNat < 33) = true := decide_eq_true (by omega)
        have n2 : decide (126 < c.toNat) = false := decide_eq_false (by omega)
        have HK : Hid (tgb c = false) := by show _ = _; rw [HTK.out, decide_eq_false (by omega), decide_eq_true (by omega)]; rfl
        obtain rfl : false = b := by rw [← HB.out]; exact (HSTOP.out HK.out).symm
        clear q1 q2 hlim
        go_wp2_with fail
        go_ret
        exact ⟨rfl, Below.refl _ _⟩
      · have flt33 : decide ((c.toNat : Int) < 33) = false := decide_eq_false (by omega)
        have fgt126 : decide ((126 : Int) < (c.toNat : Int)) = false := decide_eq_false (by omega)
        have n1 : decide (c.toNat < 33) = false := decide_eq_false (by omega)
        have n2 : decide (126 < c.toNat) = false := decide_eq_false (by omega)
        have HK : Hid (tgb c = true) := by show _ = _; rw [HTK.out, decide_eq_true (by omega), decide_eq_true (by omega)]; rfl
        clear q1 q2 hlim
        go_wp2_with fail
        go_roundg (gk - 1)
        case rel => exact ⟨k + 1, by omega, by go_num, rfl, HNEXT.out HK.out⟩
        case measure => omega
      · have flt33 : decide ((c.toNat : Int) < 33) = false := decide_eq_false (by omega)
        have fgt126 : decide ((126 : Int) < (c.toNat : Int)) = true := decide_eq_true (by omega)
        have n1 : decide (c.toNat < 33) = false := decide_eq_false (by omega)
        have n2 : decide (126 < c.toNat) = true := decide_eq_true (by omega)
        have HK : Hid (tgb c = false) := by show _ = _; rw [HTK.out, decide_eq_true (by omega), decide_eq_false (by omega)]; rfl
        obtain rfl : false = b := by rw [← HB.out]; exact (HSTOP.out HK.out).symm
        clear q1 q2 hlim
        go_wp2_with fail
        go_ret
        exact ⟨rfl, Below.refl _ _⟩
    · obtain rfl : s.size = k := by omega
      have hall : s.data.toList.all tgb = true := by
        have := HALL.out
        rwa [List.take_of_length_le (by rw [ba_len7]; exact Nat.le_refl _)] at this
      have hb : decide (s.size ≠ 0) = b := by
        rw [← HB.out]
        unfold isTgt
        rw [hall, Bool.true_and]
        by_cases h0 : s.size = 0
        · have : s.data.toList = [] := List.eq_nil_of_length_eq_zero (by rw [ba_len7]; exact h0)
          rw [this, decide_eq_false (by simpa using h0)]
          rfl
        · cases hl : s.data.toList with
          | nil => rw [← ba_len7, hl] at h0; exact absurd rfl h0
          | cons a r => rw [decide_eq_true h0]; rfl
      by_cases h0 : s.size = 0
      · have e1 : (s.toList == (⟨#[]⟩ : ByteArray).toList) = true := by rw [empty_b]; simpa using h0
        have e2 : (s.toList == []) = true := by rw [empty_b2]; simpa using h0
        obtain rfl : false = b := by rw [← hb]; simp [h0]
        clear hall hb
        go_wp2_with fail
        go_ret
        exact ⟨rfl, Below.refl _ _⟩
      · have e1 : (s.toList == (⟨#[]⟩ : ByteArray).toList) = false := by rw [empty_b]; simpa using h0
        have e2 : (s.toList == []) = false := by rw [empty_b2]; simpa using h0
        obtain rfl : true = b := by rw [← hb]; simp [h0]
        clear hall hb
        go_wp2_with fail
        go_ret
        exact ⟨rfl, Below.refl _ _⟩
end Hx
end Go.Proofs.YtagngohemlkkoaaDoor
