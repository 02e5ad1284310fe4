/-
  The document's own chunk (tidewaiterref16): digit, begins, size, hex.
-/
import Derived.Test.YtphakhklhicolaaDoorAscT
import Derived.Test.YtphakhklhicolaaDoorNumR
import Derived.Test.YtphakhklhicolaaDoorChkM
import Derived.Lib.Strings
namespace Go.Proofs.YtphakhklhicolaaDoor
open Go.RowKit
namespace Hx
open Ck
set_option linter.unusedVariables false
set_option linter.unusedSimpArgs false
def hvI (c : UInt8) : Int := match hv c with
  | some n => n
  | none => -1
set_option maxHeartbeats 4000000 in
set_option maxRecDepth 100000 in
theorem rdigit16 (c : UInt8) (d : Int) (w : World) (h : hvI c = d) :
    Calls Tryd.prog 24 #[.int .u8 (c.toNat : Int)] w fun e w' => e = .returned (.int .i64 d) ∧ w = w' := by
  unfold hvI hv at h
  have hcl := c.toNat_lt
  have hlim := c.toNat_lt
  rcases (show (0 ≤ c.toNat ∧ c.toNat ≤ 47) ∨ (48 ≤ c.toNat ∧ c.toNat ≤ 57) ∨ (58 ≤ c.toNat ∧ c.toNat ≤ 64) ∨ (65 ≤ c.toNat ∧ c.toNat ≤ 70) ∨ (71 ≤ c.toNat ∧ c.toNat ≤ 96) ∨ (97 ≤ c.toNat ∧ c.toNat ≤ 102) ∨ (103 ≤ c.toNat ∧ c.toNat ≤ 255) by omega) with ⟨q1, q2⟩ | ⟨q1, q2⟩ | ⟨q1, q2⟩ | ⟨q1, q2⟩ | ⟨q1, q2⟩ | ⟨q1, q2⟩ | ⟨q1, q2⟩
  · have fge48 : decide ((48 : Int) ≤ (c.toNat : Int)) = false := decide_eq_false (by omega)
    have fle57 : decide ((c.toNat : Int) ≤ 57) = true := decide_eq_true (by omega)
    have fge97 : decide ((97 : Int) ≤ (c.toNat : Int)) = false := decide_eq_false (by omega)
    have fle102 : decide ((c.toNat : Int) ≤ 102) = true := decide_eq_true (by omega)
    have fge65 : decide ((65 : Int) ≤ (c.toNat : Int)) = false := decide_eq_false (by omega)
    have fle70 : decide ((c.toNat : Int) ≤ 70) = true := decide_eq_true (by omega)
    have nge48 : decide (48 ≤ c.toNat) = false := decide_eq_false (by omega)
    have nle57 : decide (c.toNat ≤ 57) = true := decide_eq_true (by omega)
    have nge97 : decide (97 ≤ c.toNat) = false := decide_eq_false (by omega)
    have nle102 : decide (c.toNat ≤ 102) = true := decide_eq_true (by omega)
    have nge65 : decide (65 ≤ c.toNat) = false := decide_eq_false (by omega)
    have nle70 : decide (c.toNat ≤ 70) = true := decide_eq_true (by omega)
    rw [if_neg (show ¬ (48 ≤ c.toNat ∧ c.toNat ≤ 57) by omega), if_neg (show ¬ (97 ≤ c.toNat ∧ c.toNat ≤ 102) by omega), if_neg (show ¬ (65 ≤ c.toNat ∧ c.toNat ≤ 70) by omega)] at h
    dsimp only at h
    subst h
    clear q1 q2 hlim hcl
    go_enter Tryd.func24, Tryd.ntmps24
    go_wp2_with fail
    go_ret
    exact ⟨rfl, rfl⟩
  · have fge48 : decide ((48 : Int) ≤ (c.toNat : Int)) = true := decide_eq_true (by omega)
    have fle57 : decide ((c.toNat : Int) ≤ 57) = true := decide_eq_true (by omega)
    have fge97 : decide ((97 : Int) ≤ (c.toNat : Int)) = false := decide_eq_false (by omega)
    have fle102 : decide ((c.toNat : Int) ≤ 102) = true := decide_eq_true (by omega)
    have fge65 : decide ((65 : Int) ≤ (c.toNat : Int)) = false := decide_eq_false (by omega)
    have fle70 : decide ((c.toNat : Int) ≤ 70) = true := decide_eq_true (by omega)
    have nge48 : decide (48 ≤ c.toNat) = true := decide_eq_true (by omega)
    have nle57 : decide (c.toNat ≤ 57) = true := decide_eq_true (by omega)
    have nge97 : decide (97 ≤ c.toNat) = false := decide_eq_false (by omega)
    have nle102 : decide (c.toNat ≤ 102) = true := decide_eq_true (by omega)
    have nge65 : decide (65 ≤ c.toNat) = false := decide_eq_false (by omega)
    have nle70 : decide (c.toNat ≤ 70) = true := decide_eq_true (by omega)
    rw [if_pos (show 48 ≤ c.toNat ∧ c.toNat ≤ 57 by omega)] at h
    dsimp only at h
    subst h
    have u1 : IntKind.i64.wrap (c.toNat : Int) = (c.toNat : Int) := IntWalk.i64_in _ (by omega)
    have u2 : IntKind.i64.wrap ((c.toNat : Int) - 48) = ((c.toNat - 48 : Nat) : Int) := by rw [IntWalk.i64_in _ (by omega)]; omega
    clear q1 q2 hlim hcl
    go_enter Tryd.func24, Tryd.ntmps24
    go_wp2_with fail
    go_ret
    exact ⟨rfl, rfl⟩
  · have fge48 : decide ((48 : Int) ≤ (c.toNat : Int)) = true := decide_eq_true (by omega)
    have fle57 : decide ((c.toNat : Int) ≤ 57) = false := decide_eq_false (by omega)
    have fge97 : decide ((97 : Int) ≤ (c.toNat : Int)) = false := decide_eq_false (by omega)
    have fle102 : decide ((c.toNat : Int) ≤ 102) = true := decide_eq_true (by omega)
    have fge65 : decide ((65 : Int) ≤ (c.toNat : Int)) = false := decide_eq_false (by omega)
    have fle70 : decide ((c.toNat : Int) ≤ 70) = true := decide_eq_true (by omega)
    have nge48 : decide (48 ≤ c.toNat) = true := decide_eq_true (by omega)
    have nle57 : decide (c.toNat ≤ 57) = false := decide_eq_false (by omega)
    have nge97 : decide (97 ≤ c.toNat) = false := decide_eq_false (by omega)
    have nle102 : decide (c.toNat ≤ 102) = true := decide_eq_true (by omega)
    have nge65 : decide (65 ≤ c.toNat) = false := decide_eq_false (by omega)
    have nle70 : decide (c.toNat ≤ 70) = true := decide_eq_true (by omega)
    rw [if_neg (show ¬ (48 ≤ c.toNat ∧ c.toNat ≤ 57) by omega), if_neg (show ¬ (97 ≤ c.toNat ∧ c.toNat ≤ 102) by omega), if_neg (show ¬ (65 ≤ c.toNat ∧ c.toNat ≤ 70) by omega)] at h
    dsimp only at h
    subst h
    clear q1 q2 hlim hcl
    go_enter Tryd.func24, Tryd.ntmps24
    go_wp2_with fail
    go_ret
    exact ⟨rfl, rfl⟩
  · have fge48 : decide ((48 : Int) ≤ (c.toNat : Int)) = true := decide_eq_true (by omega)
    have fle57 : decide ((c.toNat : Int) ≤ 57) = false := decide_eq_false (by omega)
    have fge97 : decide ((97 : Int) ≤ (c.toNat : Int)) = false := decide_eq_false (by omega)
    have fle102 : decide ((c.toNat : Int) ≤ 102) = true := decide_eq_true (by omega)
    have fge65 : decide ((65 : Int) ≤ (c.toNat : Int)) = true := decide_eq_true (by omega)
    have fle70 : decide ((c.toNat : Int) ≤ 70) = true := decide_eq_true (by omega)
    have nge48 : decide (48 ≤ c.toNat) = true := decide_eq_true (by omega)
    have nle57 : decide (c.toNat ≤ 57) = false := decide_eq_false (by omega)
    have nge97 : decide (97 ≤ c.toNat) = false := decide_eq_false (by omega)
    have nle102 : decide (c.toNat ≤ 102) = true := decide_eq_true (by omega)
    have nge65 : decide (65 ≤ c.toNat) = true := decide_eq_true (by omega)
    have nle70 : decide (c.toNat ≤ 70) = true := decide_eq_true (by omega)
    rw [if_neg (show ¬ (48 ≤ c.toNat ∧ c.toNat ≤ 57) by omega), if_neg (show ¬ (97 ≤ c.toNat ∧ c.toNat ≤ 102) by omega), if_pos (show 65 ≤ c.toNat ∧ c.toNat ≤ 70 by omega)] at h
    dsimp only at h
    subst h
    have u1 : IntKind.i64.wrap (c.toNat : Int) = (c.toNat : Int) := IntWalk.i64_in _ (by omega)
    have u2 : IntKind.i64.wrap ((c.toNat : Int) - 55) = ((c.toNat - 55 : Nat) : Int) := by rw [IntWalk.i64_in _ (by omega)]; omega
    clear q1 q2 hlim hcl
    go_enter Tryd.func24, Tryd.ntmps24
    go_wp2_with fail
    go_ret
    exact ⟨rfl, rfl⟩
  · have fge48 : decide ((48 : Int) ≤ (c.toNat : Int)) = true := decide_eq_true (by omega)
    have fle57 : decide ((c.toNat : Int) ≤ 57) = false := decide_eq_false (by omega)
    have fge97 : decide ((97 : Int) ≤ (c.toNat : Int)) = false := decide_eq_false (by omega)
    have fle102 : decide ((c.toNat : Int) ≤ 102) = true := decide_eq_true (by omega)
    have fge65 : decide ((65 : Int) ≤ (c.toNat : Int)) = true := decide_eq_true (by omega)
    have fle70 : decide ((c.toNat : Int) ≤ 70) = false := decide_eq_false (by omega)
    have nge48 : decide (48 ≤ c.toNat) = true := decide_eq_true (by omega)
    have nle57 : decide (c.toNat ≤ 57) = false := decide_eq_false (by omega)
    have nge97 : decide (97 ≤ c.toNat) = false := decide_eq_false (by omega)
    have nle102 : decide (c.toNat ≤ 102) = true := decide_eq_true (by omega)
    have nge65 : decide (65 ≤ c.toNat) = true := decide_eq_true (by omega)
    have nle70 : decide (c.toNat ≤ 70) = false := decide_eq_false (by omega)
    rw [if_neg (show ¬ (48 ≤ c.toNat ∧ c.toNat ≤ 57) by omega), if_neg (show ¬ (97 ≤ c.toNat ∧ c.toNat ≤ 102) by omega), if_neg (show ¬ (65 ≤ c.toNat ∧ c.toNat ≤ 70) by omega)] at h
    dsimp only at h
    subst h
    clear q1 q2 hlim hcl
    go_enter Tryd.func24, Tryd.ntmps24
    go_wp2_with fail
    go_ret
    exact ⟨rfl, rfl⟩
  · have fge48 : decide ((48 : Int) ≤ (c.toNat : Int)) = true := decide_eq_true (by omega)
    have fle57 : decide ((c.toNat : Int) ≤ 57) = false := decide_eq_false (by omega)
    have fge97 : decide ((97 : Int) ≤ (c.toNat : Int)) = true := decide_eq_true (by omega)
    have fle102 : decide ((c.toNat : Int) ≤ 102) = true := decide_eq_true (by omega)
    have fge65 : decide ((65 : Int) ≤ (c.toNat : Int)) = true := decide_eq_true (by omega)
    have fle70 : decide ((c.toNat : Int) ≤ 70) = false := decide_eq_false (by omega)
    have nge48 : decide (48 ≤ c.toNat) = true := decide_eq_true (by omega)
    have nle57 : decide (c.toNat ≤ 57) = false := decide_eq_false (by omega)
    have nge97 : decide (97 ≤ c.toNat) = true := decide_eq_true (by omega)
    have nle102 : decide (c.toNat ≤ 102) = true := decide_eq_true (by omega)
    have nge65 : decide (65 ≤ c.toNat) = true := decide_eq_true (by omega)
    have nle70 : decide (c.toNat ≤ 70) = false := decide_eq_false (by omega)
    rw [if_neg (show ¬ (48 ≤ c.toNat ∧ c.toNat ≤ 57) by omega), if_pos (show 97 ≤ c.toNat ∧ c.toNat ≤ 102 by omega)] at h
    dsimp only at h
    subst h
    have u1 : IntKind.i64.wrap (c.toNat : Int) = (c.toNat : Int) := IntWalk.i64_in _ (by omega)
    have u2 : IntKind.i64.wrap ((c.toNat : Int) - 87) = ((c.toNat - 87 : Nat) : Int) := by rw [IntWalk.i64_in _ (by omega)]; omega
    clear q1 q2 hlim hcl
    go_enter Tryd.func24, Tryd.ntmps24
    go_wp2_with fail
    go_ret
    exact ⟨rfl, rfl⟩
  · have fge48 : decide ((48 : Int) ≤ (c.toNat : Int)) = true := decide_eq_true (by omega)
    have fle57 : decide ((c.toNat : Int) ≤ 57) = false := decide_eq_false (by omega)
    have fge97 : decide ((97 : Int) ≤ (c.toNat : Int)) = true := decide_eq_true (by omega)
    have fle102 : decide ((c.toNat : Int) ≤ 102) = false := decide_eq_false (by omega)
    have fge65 : decide ((65 : Int) ≤ (c.toNat : Int)) = true := decide_eq_true (by omega)
    have fle70 : decide ((c.toNat : Int) ≤ 70) = false := decide_eq_false (by omega)
    have nge48 : decide (48 ≤ c.toNat) = true := decide_eq_true (by omega)
    have nle57 : decide (c.toNat ≤ 57) = false := decide_eq_false (by omega)
    have nge97 : decide (97 ≤ c.toNat) = true := decide_eq_true (by omega)
    have nle102 : decide (c.toNat ≤ 102) = false := decide_eq_false (by omega)
    have nge65 : decide (65 ≤ c.toNat) = true := decide_eq_true (by omega)
    have nle70 : decide (c.toNat ≤ 70) = false := decide_eq_false (by omega)
    rw [if_neg (show ¬ (48 ≤ c.toNat ∧ c.toNat ≤ 57) by omega), if_neg (show ¬ (97 ≤ c.toNat ∧ c.toNat ≤ 102) by omega), if_neg (show ¬ (65 ≤ c.toNat ∧ c.toNat ≤ 70) by omega)] at h
    dsimp only at h
    subst h
    clear q1 q2 hlim hcl
    go_enter Tryd.func24, Tryd.ntmps24
    go_wp2_with fail
    go_ret
    exact ⟨rfl, rfl⟩
set_option maxHeartbeats 4000000 in
set_option maxRecDepth 100000 in
theorem rbegins16 (a b : ByteArray) (q : Bool) (w : World) (ha : a.size ≤ 1000000) (hb : b.size ≤ 1000000) (h : decide (a.data.toList <+: b.data.toList) = q) :
    Calls Tryd.prog 18 #[.string a, .string b] w fun e w' => e = .returned (.bool q) ∧ Below w.heap.size w w' := by
  by_cases hl : a.size ≤ b.size
  · have d1 : decide ((a.size : Int) ≤ (b.size : Int)) = true := decide_eq_true (by omega)
    have d2 : decide (a.size ≤ b.size) = true := decide_eq_true hl
    have b1 : (0 : Int) ≤ (a.size : Int) ∧ (a.size : Int) ≤ (b.size : Int) := by omega
    have b2 : a.size ≤ b.size := hl
    obtain ⟨x, hx⟩ : ∃ x, b.extract 0 a.size = x := ⟨_, rfl⟩
    have hxl : x.data.toList = b.data.toList.take a.size := by rw [← hx, Lib.extract_data, List.drop_zero, Nat.sub_zero]
    have e1 : (x.toList == a.toList) = q := by
      rw [seq_b7, ← h]
      refine decide_eq_decide.2 ⟨fun e => ?_, fun e => ?_⟩
      · rw [← e, hxl]; exact List.take_prefix _ _
      · refine ba_ext7 ?_
        rw [hxl, ← ba_len7 a]
        exact (List.prefix_iff_eq_take.1 e).symm
    clear h hl hxl
    go_enter Tryd.func18, Tryd.ntmps18
    go_wp2_with fail
    go_ret
    exact ⟨rfl, Below.refl _ _⟩
  · have d1 : decide ((a.size : Int) ≤ (b.size : Int)) = false := decide_eq_false (by omega)
    have d2 : decide (a.size ≤ b.size) = false := decide_eq_false hl
    obtain rfl : false = q := by
      rw [← h]
      refine (decide_eq_false fun e => hl ?_).symm
      have := e.length_le
      rwa [ba_len7, ba_len7] at this
    clear h hl
    go_enter Tryd.func18, Tryd.ntmps18
    go_wp2_with fail
    go_ret
    exact ⟨rfl, Below.refl _ _⟩
set_option maxHeartbeats 4000000 in
set_option maxRecDepth 100000 in
theorem rsize16 (s : ByteArray) (n k : Nat) (w : World) (hm : s.size ≤ 1000000) (h : sz s.data.toList = (n, k)) :
    Calls Tryd.prog 19 #[.string s] w fun e w' => e = .returned (.tuple #[.int .i64 n, .int .i64 k]) ∧ Below w.heap.size w w' := by
  have HM := Lib.hid hm
  have HH := Lib.hid h
  clear hm h
  go_enter Tryd.func19, Tryd.ntmps19
  go_wp2_with fail
  go_loopg [4, 5] 4 (fun gg x4 x5 wr => ∃ m j : Nat, j + gg = 4 ∧ x4 = .int .i64 m ∧ x5 = .int .i64 j ∧ m < 16 ^ j ∧ j ≤ s.size ∧ szF gg m j (s.data.toList.drop j) = (n, k) ∧ w = wr)
  case atStart => exact ⟨0, 0, by omega, rfl, rfl, by decide, Nat.zero_le _, HH.out, rfl⟩
  case round =>
    obtain ⟨m, j, hj, rfl, rfl, hpow, hjs, hinv, rfl⟩ := hrel
    have hMM := HM.out
    have hp4 : m < 65536 := Nat.lt_of_lt_of_le hpow (Nat.pow_le_pow_right (by decide) (show j ≤ 4 by omega))
    by_cases hlt : j < s.size
    · obtain ⟨c, hc, hat⟩ := byte_at s j hlt
      obtain ⟨c0, hc0, hat0⟩ := byte_at s 0 (by omega)
      obtain ⟨hk, e⟩ := List.getElem?_eq_some_iff.1 hc
      rw [List.drop_eq_getElem_cons hk, e] at hinv
      have bk : (0 : Int) ≤ (j : Int) ∧ (j : Int) < (s.size : Int) := by omega
      have bk0 : (0 : Int) ≤ 0 ∧ (0 : Int) < (s.size : Int) := by omega
      have d1 : decide ((j : Int) < (s.size : Int)) = true := decide_eq_true (by omega)
      have hcl := c.toNat_lt
      have hcl0 := c0.toNat_lt
      have hls : 0 < s.size := by omega
      cases gk with
      | zero =>
        obtain rfl : j = 4 := by omega
        rw [szF] at hinv
        obtain ⟨rfl, rfl⟩ := (Prod.mk.injEq _ _ _ _).mp hinv
        clear hc hc0 hk e
        clear hinv hpow
        go_wp2_with fail
        go_ret2
        exact ⟨rfl, Below.refl _ _⟩
      | succ f =>
        have d2 : decide ((j : Int) < 4) = true := decide_eq_true (by omega)
        have hj4 : j < 4 := by omega
        rw [szF] at hinv
        cases hv1 : hv c with
        | none =>
          rw [hv1] at hinv
          dsimp only at hinv
          obtain ⟨rfl, rfl⟩ := (Prod.mk.injEq _ _ _ _).mp hinv
          have HDG := Lib.hid fun W => rdigit16 c (-1) W (by unfold hvI; rw [hv1])
          clear hc hc0 hk e hv1
          clear hinv hpow
          go_wp2_with (first
            | (go_at_call 24; (with_reducible refine (HDG.out _).mono ?_); rintro e w1 ⟨rfl, rfl⟩)
            | fail)
          go_ret2
          exact ⟨rfl, Below.refl _ _⟩
        | some d =>
          rw [hv1] at hinv
          dsimp only at hinv
          have HDG := Lib.hid fun W => rdigit16 c d W (by unfold hvI; rw [hv1])
          have d3 : decide ((0 : Int) ≤ (d : Int)) = true := decide_eq_true (by omega)
          have hd16 : d < 16 := by
            unfold hv at hv1
            split at hv1
            · cases hv1; omega
            · split at hv1
              · cases hv1; omega
              · split at hv1
                · cases hv1; omega
                · cases hv1
          have hpn : 16 * m + d < 16 ^ (j + 1) := by rw [Nat.pow_succ]; omega
          have u1 : IntKind.i64.wrap (16 * (m : Int)) = 16 * (m : Int) := IntWalk.i64_in _ (by omega)
          have u2 : IntKind.i64.wrap (16 * (m : Int) + (d : Int)) = ((16 * m + d : Nat) : Int) := by rw [IntWalk.i64_in _ (by omega)]; omega
          have u3 : IntKind.i64.wrap ((j : Int) + 1) = ((j + 1 : Nat) : Int) := by rw [IntWalk.i64_in _ (by omega)]; omega
          by_cases hj0 : j = 0
          · subst hj0
            have hcc : c = c0 := by rw [hc] at hc0; exact Option.some.inj hc0
            subst hcc
            by_cases h48 : c = 48
            · rw [if_pos ⟨rfl, h48⟩] at hinv
              obtain ⟨rfl, rfl⟩ := (Prod.mk.injEq _ _ _ _).mp hinv
              have d5 : ((c.toNat : Int) != 48) = false := by rw [h48]; rfl
              have d6 : (c.toNat != 48) = false := by rw [h48]; rfl
              clear hc hc0 hk e hv1 h48 hpn
              clear hinv hpow
              go_wp2_with (first
                | (go_at_call 24; (with_reducible refine (HDG.out _).mono ?_); rintro e w1 ⟨rfl, rfl⟩)
                | fail)
              go_ret2
              exact ⟨rfl, Below.refl _ _⟩
            · rw [if_neg (fun e => h48 e.2)] at hinv
              have h48n : c.toNat ≠ 48 := fun e => h48 (UInt8.toNat_inj.1 e)
              have d5 : ((c.toNat : Int) != 48) = true := by simp; omega
              have d6 : (c.toNat != 48) = true := by simpa using h48n
              have HIV := Lib.hid hinv
              have HPN := Lib.hid hpn
              clear hc hc0 hk e hv1 h48 hinv hpow hpn
              go_wp2_with (first
                | (go_at_call 24; (with_reducible refine (HDG.out _).mono ?_); rintro e w1 ⟨rfl, rfl⟩)
                | fail)
              go_roundg f
              case rel => exact ⟨16 * m + d, 0 + 1, by omega, by go_num, by go_num, HPN.out, by omega, HIV.out, rfl⟩
              case measure => omega
          · rw [if_neg (fun e => hj0 e.1)] at hinv
            have d4 : decide ((0 : Int) < (j : Int)) = true := decide_eq_true (by omega)
            have HIV := Lib.hid hinv
            have HPN := Lib.hid hpn
            clear hc hc0 hk e hv1 hinv hpow hpn
            go_wp2_with (first
              | (go_at_call 24; (with_reducible refine (HDG.out _).mono ?_); rintro e w1 ⟨rfl, rfl⟩)
              | fail)
            go_roundg f
            case rel => exact ⟨16 * m + d, j + 1, by omega, by go_num, by go_num, HPN.out, by omega, HIV.out, rfl⟩
            case measure => omega
    · obtain rfl : j = s.size := by omega
      have d1 : decide ((s.size : Int) < (s.size : Int)) = false := by simp
      rw [List.drop_of_length_le (by rw [ba_len7]; exact Nat.le_refl _)] at hinv
      have : szF gk m s.size [] = (m, s.size) := by cases gk <;> rfl
      rw [this] at hinv
      obtain ⟨rfl, rfl⟩ := (Prod.mk.injEq _ _ _ _).mp hinv
      clear this
      clear hinv hpow
      go_wp2_with fail
      go_ret2
      exact ⟨rfl, Below.refl _ _⟩
end Hx
end Go.Proofs.YtphakhklhicolaaDoor
