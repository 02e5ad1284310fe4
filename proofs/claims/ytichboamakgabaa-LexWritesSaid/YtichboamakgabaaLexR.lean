/-
  The document's own lex: letters, names, blanks, words.
-/
import Derived.Test.YtichboamakgabaaLexC
import Derived.Lib.Strings
import Derived.Deep.LoopGhost
namespace Go.Proofs.Ytichboamakgabaa
open Go.RowKit
namespace Hx
open Lx
set_option linter.unusedVariables false
theorem ba_l (s : ByteArray) : s.data.toList.length = s.size := by cases s; simp [ByteArray.size]
theorem at_l (s : ByteArray) (k : Nat) (h : k < s.size) : s.data.toList[k]'(by rw [ba_l]; exact h) = s[k]'h := by cases s; rfl
theorem ba_x {s t : ByteArray} (h : s.data.toList = t.data.toList) : s = t := by
  cases s; cases t
  simpa using h
theorem empty_l (s : ByteArray) : s.toList.isEmpty = decide (s.size = 0) := by
  rw [ByteArray.toList_eq, Bool.eq_iff_iff, List.isEmpty_iff, decide_eq_true_eq, ← ba_l]
  constructor
  · intro e; rw [e]; rfl
  · exact List.eq_nil_of_length_eq_zero
theorem extract_l (s : ByteArray) (a b : Nat) (h : b ≤ s.size) : (s.extract a b).data.toList = (s.data.toList.drop a).take (b - a) := Lib.extract_data s a b
set_option maxHeartbeats 1000000 in
set_option maxRecDepth 100000 in
theorem rletter9 (c : UInt8) (w : World) (b : Bool) (h : ltr c = b) :
    Calls Try.prog 42 #[.int .u8 c.toNat] w fun e w' => e = .returned (.bool b) ∧ w = w' := by
  have hlim := c.toNat_lt
  rcases (show (0 ≤ c.toNat ∧ c.toNat ≤ 64) ∨ (65 ≤ c.toNat ∧ c.toNat ≤ 90) ∨ (91 ≤ c.toNat ∧ c.toNat ≤ 94) ∨ (95 ≤ c.toNat ∧ c.toNat ≤ 95) ∨ (96 ≤ c.toNat ∧ c.toNat ≤ 96) ∨ (97 ≤ c.toNat ∧ c.toNat ≤ 122) ∨ (123 ≤ c.toNat ∧ c.toNat ≤ 255) by omega) with ⟨q1, q2⟩ | ⟨q1, q2⟩ | ⟨q1, q2⟩ | ⟨q1, q2⟩ | ⟨q1, q2⟩ | ⟨q1, q2⟩ | ⟨q1, q2⟩
  · obtain rfl : false = b := by
      rw [← h]
      unfold ltr
      have e95 : (c == 95) = false := by rw [Bool.eq_iff_iff]; simp [← UInt8.toNat_inj]; omega
      rw [e95]
      simp <;> omega
    clear h
    have fge97 : decide ((97 : Int) ≤ (c.toNat : Int)) = false := decide_eq_false (by omega)
    have fle122 : decide ((c.toNat : Int) ≤ 122) = true := decide_eq_true (by omega)
    have fge65 : decide ((65 : Int) ≤ (c.toNat : Int)) = false := decide_eq_false (by omega)
    have fle90 : decide ((c.toNat : Int) ≤ 90) = true := decide_eq_true (by omega)
    have feq95 : ((c.toNat : Int) == 95) = false := by simp; omega
    go_enter Try.func42, Try.ntmps42
    go_wp2_with fail
    go_ret
    exact ⟨rfl, rfl⟩
  · obtain rfl : true = b := by
      rw [← h]
      unfold ltr
      have e95 : (c == 95) = false := by rw [Bool.eq_iff_iff]; simp [← UInt8.toNat_inj]; omega
      rw [e95]
      simp <;> omega
    clear h
    have fge97 : decide ((97 : Int) ≤ (c.toNat : Int)) = false := decide_eq_false (by omega)
    have fle122 : decide ((c.toNat : Int) ≤ 122) = true := decide_eq_true (by omega)
    have fge65 : decide ((65 : Int) ≤ (c.toNat : Int)) = true := decide_eq_true (by omega)
    have fle90 : decide ((c.toNat : Int) ≤ 90) = true := decide_eq_true (by omega)
    have feq95 : ((c.toNat : Int) == 95) = false := by simp; omega
    go_enter Try.func42, Try.ntmps42
    go_wp2_with fail
    go_ret
    exact ⟨rfl, rfl⟩
  · obtain rfl : false = b := by
      rw [← h]
      unfold ltr
      have e95 : (c == 95) = false := by rw [Bool.eq_iff_iff]; simp [← UInt8.toNat_inj]; omega
      rw [e95]
      simp <;> omega
    clear h
    have fge97 : decide ((97 : Int) ≤ (c.toNat : Int)) = false := decide_eq_false (by omega)
    have fle122 : decide ((c.toNat : Int) ≤ 122) = true := decide_eq_true (by omega)
    have fge65 : decide ((65 : Int) ≤ (c.toNat : Int)) = true := decide_eq_true (by omega)
    have fle90 : decide ((c.toNat : Int) ≤ 90) = false := decide_eq_false (by omega)
    have feq95 : ((c.toNat : Int) == 95) = false := by simp; omega
    go_enter Try.func42, Try.ntmps42
    go_wp2_with fail
    go_ret
    exact ⟨rfl, rfl⟩
  · obtain rfl : true = b := by
      rw [← h]
      unfold ltr
      have e95 : (c == 95) = true := by rw [Bool.eq_iff_iff]; simp [← UInt8.toNat_inj]; omega
      rw [e95]
      simp <;> omega
    clear h
    have fge97 : decide ((97 : Int) ≤ (c.toNat : Int)) = false := decide_eq_false (by omega)
    have fle122 : decide ((c.toNat : Int) ≤ 122) = true := decide_eq_true (by omega)
    have fge65 : decide ((65 : Int) ≤ (c.toNat : Int)) = true := decide_eq_true (by omega)
    have fle90 : decide ((c.toNat : Int) ≤ 90) = false := decide_eq_false (by omega)
    have feq95 : ((c.toNat : Int) == 95) = true := by simp; omega
    go_enter Try.func42, Try.ntmps42
    go_wp2_with fail
    go_ret
    exact ⟨rfl, rfl⟩
  · obtain rfl : false = b := by
      rw [← h]
      unfold ltr
      have e95 : (c == 95) = false := by rw [Bool.eq_iff_iff]; simp [← UInt8.toNat_inj]; omega
      rw [e95]
      simp <;> omega
    clear h
    have fge97 : decide ((97 : Int) ≤ (c.toNat : Int)) = false := decide_eq_false (by omega)
    have fle122 : decide ((c.toNat : Int) ≤ 122) = true := decide_eq_true (by omega)
    have fge65 : decide ((65 : Int) ≤ (c.toNat : Int)) = true := decide_eq_true (by omega)
    have fle90 : decide ((c.toNat : Int) ≤ 90) = false := decide_eq_false (by omega)
    have feq95 : ((c.toNat : Int) == 95) = false := by simp; omega
    go_enter Try.func42, Try.ntmps42
    go_wp2_with fail
    go_ret
    exact ⟨rfl, rfl⟩
  · obtain rfl : true = b := by
      rw [← h]
      unfold ltr
      have e95 : (c == 95) = false := by rw [Bool.eq_iff_iff]; simp [← UInt8.toNat_inj]; omega
      rw [e95]
      simp <;> omega
    clear h
    have fge97 : decide ((97 : Int) ≤ (c.toNat : Int)) = true := decide_eq_true (by omega)
    have fle122 : decide ((c.toNat : Int) ≤ 122) = true := decide_eq_true (by omega)
    have fge65 : decide ((65 : Int) ≤ (c.toNat : Int)) = true := decide_eq_true (by omega)
    have fle90 : decide ((c.toNat : Int) ≤ 90) = false := decide_eq_false (by omega)
    have feq95 : ((c.toNat : Int) == 95) = false := by simp; omega
    go_enter Try.func42, Try.ntmps42
    go_wp2_with fail
    go_ret
    exact ⟨rfl, rfl⟩
  · obtain rfl : false = b := by
      rw [← h]
      unfold ltr
      have e95 : (c == 95) = false := by rw [Bool.eq_iff_iff]; simp [← UInt8.toNat_inj]; omega
      rw [e95]
      simp <;> omega
    clear h
    have fge97 : decide ((97 : Int) ≤ (c.toNat : Int)) = true := decide_eq_true (by omega)
    have fle122 : decide ((c.toNat : Int) ≤ 122) = false := decide_eq_false (by omega)
    have fge65 : decide ((65 : Int) ≤ (c.toNat : Int)) = true := decide_eq_true (by omega)
    have fle90 : decide ((c.toNat : Int) ≤ 90) = false := decide_eq_false (by omega)
    have feq95 : ((c.toNat : Int) == 95) = false := by simp; omega
    go_enter Try.func42, Try.ntmps42
    go_wp2_with fail
    go_ret
    exact ⟨rfl, rfl⟩
theorem ret_b9 {x y : Bool} (h : x = y) : Ending.returned (.bool x) = .returned (.bool y) := by rw [h]
/-- So far a name. -/
def nameP (l : List UInt8) : Prop := l = [] ∨ nameL l = true
theorem nameP_step {l : List UInt8} {c : UInt8} (h : nameP l) (h0 : l = [] → ltr c = true) (h1 : nch c = true) : nameP (l ++ [c]) := by
  right
  cases l with
  | nil => show (ltr c && [].all nch) = true; rw [h0 rfl]; rfl
  | cons d r =>
    rcases h with h | h
    · cases h
    · unfold nameL at h ⊢
      rw [Bool.and_eq_true] at h
      show (ltr d && (r ++ [c]).all nch) = true
      rw [h.1, List.all_append, h.2]
      simp [h1]
theorem nameL_no {l : List UInt8} {k : Nat} (h : k < l.length) (h1 : nch (l[k]'h) = false) : nameL l = false := by
  cases hq : nameL l with
  | false => rfl
  | true => have := nameL_all hq _ (List.getElem_mem h); rw [h1] at this; cases this
theorem nameL_no0 {l : List UInt8} (h : 0 < l.length) (h1 : ltr (l[0]'h) = false) : nameL l = false := by
  cases l with
  | nil => simp at h
  | cons c r =>
    have h1' : ltr c = false := h1
    show (ltr c && r.all nch) = false
    rw [h1']
    rfl
theorem nch_not {c : UInt8} (h : ltr c = false) : nch c = (decide (48 ≤ c.toNat) && decide (c.toNat ≤ 57) || c == 46 || c == 45) := by unfold nch; rw [h]; simp
set_option maxHeartbeats 4000000 in
set_option maxRecDepth 100000 in
theorem rname9 (s : ByteArray) (w : World) (hm : s.size ≤ 1000000) (b : Bool) (h : nameL s.data.toList = b) :
    Calls Try.prog 31 #[.string s] w fun e w' => e = .returned (.bool b) ∧ w = w' := by
  have hem := empty_l s
  have HH := Lib.hid h
  have HM := Lib.hid hm
  obtain ⟨ie, hie⟩ : ∃ ie, decide (s.size = 0) = ie := ⟨_, rfl⟩
  rw [hie] at hem
  have HIE := Lib.hid hie
  clear h hm hie
  go_enter Try.func31, Try.ntmps31
  go_wp2_with fail
  go_loopw [3] (fun i wr => ∃ k : Nat, k ≤ s.size ∧ i = .int .i64 k ∧ nameP (s.data.toList.take k) ∧ w = wr) (fun i _ => s.size - (intOf i).toNat)
  case atStart => exact ⟨0, Nat.zero_le _, rfl, .inl rfl, by first | rfl | trivial⟩
  case round =>
    obtain ⟨k, hk, rfl, hn, rfl⟩ := hrel
    have hs := HM.out
    by_cases hlt : k < s.size
    · obtain ⟨c, hc⟩ : ∃ c, s[k]'hlt = c := ⟨_, rfl⟩
      have hca : ∀ h, s[k]'h = c := fun _ => hc
      have hkl : k < s.data.toList.length := by rw [ba_l]; exact hlt
      have hck : s.data.toList[k]'hkl = c := (at_l s k hlt).trans hc
      have bk : (0 : Int) ≤ (k : Int) ∧ (k : Int) < (s.size : Int) := by omega
      have hstep := fun h0 h1 => nameP_step (c := c) hn h0 h1
      rw [← hck, ← List.take_succ_eq_append_getElem hkl, hck] at hstep
      have HST := Lib.hid hstep
      have HCK := Lib.hid hck
      clear hck hc hn hstep
      cases hl : ltr c
      · have HL := Lib.hid hl
        by_cases h0 : k = 0
        · subst h0
          obtain rfl : false = b := by
            have := nameL_no0 (l := s.data.toList) hkl (by rw [HCK.out]; exact HL.out)
            rw [← HH.out, this]
          clear hl hem
          go_wp2_with (first
            | (go_at_call 42; (with_reducible refine (rletter9 c _ false HL.out).mono ?_); rintro e w1 ⟨rfl, rfl⟩)
            | fail)
          go_ret
          exact ⟨rfl, rfl⟩
        · have hk0 : ((k : Int) == 0) = false := by simp; omega
          have HK0 : Hid (s.data.toList.take k ≠ []) := Lib.hid fun e => by
            have := congrArg List.length e
            rw [List.length_take, List.length_nil] at this
            omega
          clear hl h0
          have hlim := c.toNat_lt
          rcases (show (0 ≤ c.toNat ∧ c.toNat ≤ 44) ∨ (45 ≤ c.toNat ∧ c.toNat ≤ 45) ∨ (46 ≤ c.toNat ∧ c.toNat ≤ 46) ∨ (47 ≤ c.toNat ∧ c.toNat ≤ 47) ∨ (48 ≤ c.toNat ∧ c.toNat ≤ 57) ∨ (58 ≤ c.toNat ∧ c.toNat ≤ 255) by omega) with ⟨q1, q2⟩ | ⟨q1, q2⟩ | ⟨q1, q2⟩ | ⟨q1, q2⟩ | ⟨q1, q2⟩ | ⟨q1, q2⟩
          · have hv : nch c = false := by
              rw [nch_not HL.out]
              have e45 : (c == 45) = false := by rw [Bool.eq_iff_iff]; simp [← UInt8.toNat_inj]; omega
              have e46 : (c == 46) = false := by rw [Bool.eq_iff_iff]; simp [← UInt8.toNat_inj]; omega
              rw [e45, e46]
              simp
              omega
            have flt48 : decide ((c.toNat : Int) < 48) = true := decide_eq_true (by omega)
            have fgt57 : decide ((57 : Int) < (c.toNat : Int)) = false := decide_eq_false (by omega)
            have fne46 : ((c.toNat : Int) != 46) = true := by simp; omega
            have fne45 : ((c.toNat : Int) != 45) = true := by simp; omega
            obtain rfl : false = b := by
              have := nameL_no (l := s.data.toList) hkl (by rw [HCK.out]; exact hv)
              rw [← HH.out, this]
            clear hv hem
            go_wp2_with (first
              | (go_at_call 42; (with_reducible refine (rletter9 c _ false HL.out).mono ?_); rintro e w1 ⟨rfl, rfl⟩)
              | fail)
            go_ret
            exact ⟨rfl, rfl⟩
          · have hv : nch c = true := by
              rw [nch_not HL.out]
              have e45 : (c == 45) = true := by rw [Bool.eq_iff_iff]; simp [← UInt8.toNat_inj]; omega
              have e46 : (c == 46) = false := by rw [Bool.eq_iff_iff]; simp [← UInt8.toNat_inj]; omega
              rw [e45, e46]
              simp
            have flt48 : decide ((c.toNat : Int) < 48) = true := decide_eq_true (by omega)
            have fgt57 : decide ((57 : Int) < (c.toNat : Int)) = false := decide_eq_false (by omega)
            have fne46 : ((c.toNat : Int) != 46) = true := by simp; omega
            have fne45 : ((c.toNat : Int) != 45) = false := by simp; omega
            have HV := Lib.hid (HST.out (fun e => absurd e HK0.out) hv)
            clear hv
            go_wp2_with (first
              | (go_at_call 42; (with_reducible refine (rletter9 c _ false HL.out).mono ?_); rintro e w1 ⟨rfl, rfl⟩)
              | fail)
            go_roundw
            case rel => exact ⟨k + 1, hlt, by go_num, HV.out, by first | rfl | trivial⟩
            case measure => simp [intOf]; omega
          · have hv : nch c = true := by
              rw [nch_not HL.out]
              have e45 : (c == 45) = false := by rw [Bool.eq_iff_iff]; simp [← UInt8.toNat_inj]; omega
              have e46 : (c == 46) = true := by rw [Bool.eq_iff_iff]; simp [← UInt8.toNat_inj]; omega
              rw [e45, e46]
              simp
            have flt48 : decide ((c.toNat : Int) < 48) = true := decide_eq_true (by omega)
            have fgt57 : decide ((57 : Int) < (c.toNat : Int)) = false := decide_eq_false (by omega)
            have fne46 : ((c.toNat : Int) != 46) = false := by simp; omega
            have fne45 : ((c.toNat : Int) != 45) = true := by simp; omega
            have HV := Lib.hid (HST.out (fun e => absurd e HK0.out) hv)
            clear hv
            go_wp2_with (first
              | (go_at_call 42; (with_reducible refine (rletter9 c _ false HL.out).mono ?_); rintro e w1 ⟨rfl, rfl⟩)
              | fail)
            go_roundw
            case rel => exact ⟨k + 1, hlt, by go_num, HV.out, by first | rfl | trivial⟩
            case measure => simp [intOf]; omega
          · have hv : nch c = false := by
              rw [nch_not HL.out]
              have e45 : (c == 45) = false := by rw [Bool.eq_iff_iff]; simp [← UInt8.toNat_inj]; omega
              have e46 : (c == 46) = false := by rw [Bool.eq_iff_iff]; simp [← UInt8.toNat_inj]; omega
              rw [e45, e46]
              simp
              omega
            have flt48 : decide ((c.toNat : Int) < 48) = true := decide_eq_true (by omega)
            have fgt57 : decide ((57 : Int) < (c.toNat : Int)) = false := decide_eq_false (by omega)
            have fne46 : ((c.toNat : Int) != 46) = true := by simp; omega
            have fne45 : ((c.toNat : Int) != 45) = true := by simp; omega
            obtain rfl : false = b := by
              have := nameL_no (l := s.data.toList) hkl (by rw [HCK.out]; exact hv)
              rw [← HH.out, this]
            clear hv hem
            go_wp2_with (first
              | (go_at_call 42; (with_reducible refine (rletter9 c _ false HL.out).mono ?_); rintro e w1 ⟨rfl, rfl⟩)
              | fail)
            go_ret
            exact ⟨rfl, rfl⟩
          · have hv : nch c = true := by
              rw [nch_not HL.out]
              have e45 : (c == 45) = false := by rw [Bool.eq_iff_iff]; simp [← UInt8.toNat_inj]; omega
              have e46 : (c == 46) = false := by rw [Bool.eq_iff_iff]; simp [← UInt8.toNat_inj]; omega
              rw [e45, e46]
              simp
              omega
            have flt48 : decide ((c.toNat : Int) < 48) = false := decide_eq_false (by omega)
            have fgt57 : decide ((57 : Int) < (c.toNat : Int)) = false := decide_eq_false (by omega)
            have fne46 : ((c.toNat : Int) != 46) = true := by simp; omega
            have fne45 : ((c.toNat : Int) != 45) = true := by simp; omega
            have HV := Lib.hid (HST.out (fun e => absurd e HK0.out) hv)
            clear hv
            go_wp2_with (first
              | (go_at_call 42; (with_reducible refine (rletter9 c _ false HL.out).mono ?_); rintro e w1 ⟨rfl, rfl⟩)
              | fail)
            go_roundw
            case rel => exact ⟨k + 1, hlt, by go_num, HV.out, by first | rfl | trivial⟩
            case measure => simp [intOf]; omega
          · have hv : nch c = false := by
              rw [nch_not HL.out]
              have e45 : (c == 45) = false := by rw [Bool.eq_iff_iff]; simp [← UInt8.toNat_inj]; omega
              have e46 : (c == 46) = false := by rw [Bool.eq_iff_iff]; simp [← UInt8.toNat_inj]; omega
              rw [e45, e46]
              simp
              omega
            have flt48 : decide ((c.toNat : Int) < 48) = false := decide_eq_false (by omega)
            have fgt57 : decide ((57 : Int) < (c.toNat : Int)) = true := decide_eq_true (by omega)
            have fne46 : ((c.toNat : Int) != 46) = true := by simp; omega
            have fne45 : ((c.toNat : Int) != 45) = true := by simp; omega
            obtain rfl : false = b := by
              have := nameL_no (l := s.data.toList) hkl (by rw [HCK.out]; exact hv)
              rw [← HH.out, this]
            clear hv hem
            go_wp2_with (first
              | (go_at_call 42; (with_reducible refine (rletter9 c _ false HL.out).mono ?_); rintro e w1 ⟨rfl, rfl⟩)
              | fail)
            go_ret
            exact ⟨rfl, rfl⟩
      · have HL := Lib.hid hl
        have HV := Lib.hid (HST.out (fun _ => hl) (nch_of_ltr hl))
        clear hl
        go_wp2_with (first
          | (go_at_call 42; (with_reducible refine (rletter9 c _ true HL.out).mono ?_); rintro e w1 ⟨rfl, rfl⟩)
          | fail)
        go_roundw
        case rel => exact ⟨k + 1, hlt, by go_num, HV.out, by first | rfl | trivial⟩
        case measure => simp [intOf]; omega
    · obtain rfl : k = s.size := by omega
      have HX : Hid ((!ie) = b) := Lib.hid (by
        have hn' := hn
        rw [List.take_of_length_le (by rw [ba_l]; omega)] at hn'
        rw [← HIE.out, ← HH.out]
        rcases hn' with h | h
        · rw [h]
          have : s.size = 0 := by rw [← ba_l, h]; rfl
          simp [this, nameL]
        · rw [h]
          have : s.size ≠ 0 := by
            intro e
            rw [List.eq_nil_of_length_eq_zero ((ba_l s).trans e)] at h
            cases h
          simp [this])
      clear hn
      go_wp2_with fail
      go_ret
      exact ⟨ret_b9 HX.out, rfl⟩
end Hx
end Go.Proofs.Ytichboamakgabaa
