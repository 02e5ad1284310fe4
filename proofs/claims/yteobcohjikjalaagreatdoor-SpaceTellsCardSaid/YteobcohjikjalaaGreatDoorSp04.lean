/-
  Texts of one seat, put together: LexR, LexS.
-/
import Derived.Test.YteobcohjikjalaaGreatDoorSp02
import Derived.Lib.Strings
import Derived.Deep.LoopGhost
set_option linter.unusedSimpArgs false
namespace Go.Proofs.YteobcohjikjalaaGreatDoor
open Go.RowKit
namespace Hx
open Lx
set_option maxRecDepth 100000
set_option maxHeartbeats 16000000
set_option linter.unusedVariables false
theorem ba_l (s : ByteArray) : s.data.toList.length = s.size := by cases s; simp [ByteArray.size]
theorem at_l (s : ByteArray) (k : Nat) (h : k < s.size) : s.data.toList[k]'(by rw [ba_l]; exact h) = s[k]'h := by cases s; rfl
theorem ba_x {s t : ByteArray} (h : s.data.toList = t.data.toList) : s = t := by
  cases s; cases t
  simpa using h
theorem empty_l (s : ByteArray) : s.toList.isEmpty = decide (s.size = 0) := by
  rw [ByteArray.toList_eq, Bool.eq_iff_iff, List.isEmpty_iff, decide_eq_true_eq, ← ba_l]
  constructor
  · intro e; rw [e]; rfl
  · exact List.eq_nil_of_length_eq_zero
theorem extract_l (s : ByteArray) (a b : Nat) (h : b ≤ s.size) : (s.extract a b).data.toList = (s.data.toList.drop a).take (b - a) := Lib.extract_data s a b
theorem rletter9 (c : UInt8) (w : World) (b : Bool) (h : ltr c = b) :
    Calls Tryz.prog 72 #[.int .u8 c.toNat] w fun e w' => e = .returned (.bool b) ∧ w = w' := by
  have hlim := c.toNat_lt
  rcases (show (0 ≤ c.toNat ∧ c.toNat ≤ 64) ∨ (65 ≤ c.toNat ∧ c.toNat ≤ 90) ∨ (91 ≤ c.toNat ∧ c.toNat ≤ 94) ∨ (95 ≤ c.toNat ∧ c.toNat ≤ 95) ∨ (96 ≤ c.toNat ∧ c.toNat ≤ 96) ∨ (97 ≤ c.toNat ∧ c.toNat ≤ 122) ∨ (123 ≤ c.toNat ∧ c.toNat ≤ 255) by omega) with ⟨q1, q2⟩ | ⟨q1, q2⟩ | ⟨q1, q2⟩ | ⟨q1, q2⟩ | ⟨q1, q2⟩ | ⟨q1, q2⟩ | ⟨q1, q2⟩
  · obtain rfl : false = b := by
      rw [← h]
      unfold ltr
      have e95 : (c == 95) = false := by rw [Bool.eq_iff_iff]; simp [← UInt8.toNat_inj]; omega
      rw [e95]
      simp <;> omega
    clear h
    have fge97 : decide ((97 : Int) ≤ (c.toNat : Int)) = false := decide_eq_false (by omega)
    have fle122 : decide ((c.toNat : Int) ≤ 122) = true := decide_eq_true (by omega)
    have fge65 : decide ((65 : Int) ≤ (c.toNat : Int)) = false := decide_eq_false (by omega)
    have fle90 : decide ((c.toNat : Int) ≤ 90) = true := decide_eq_true (by omega)
    have feq95 : ((c.toNat : Int) == 95) = false := by simp; omega
    go_enter Tryz.func72, Tryz.ntmps72
    go_wp2_with fail
    go_ret
    exact ⟨rfl, rfl⟩
  · obtain rfl : true = b := by
      rw [← h]
      unfold ltr
      have e95 : (c == 95) = false := by rw [Bool.eq_iff_iff]; simp [← UInt8.toNat_inj]; omega
      rw [e95]
      simp <;> omega
    clear h
    have fge97 : decide ((97 : Int) ≤ (c.toNat : Int)) = false := decide_eq_false (by omega)
    have fle122 : decide ((c.toNat : Int) ≤ 122) = true := decide_eq_true (by omega)
    have fge65 : decide ((65 : Int) ≤ (c.toNat : Int)) = true := decide_eq_true (by omega)
    have fle90 : decide ((c.toNat : Int) ≤ 90) = true := decide_eq_true (by omega)
    have feq95 : ((c.toNat : Int) == 95) = false := by simp; omega
    go_enter Tryz.func72, Tryz.ntmps72
    go_wp2_with fail
    go_ret
    exact ⟨rfl, rfl⟩
  · obtain rfl : false = b := by
      rw [← h]
      unfold ltr
      have e95 : (c == 95) = false := by rw [Bool.eq_iff_iff]; simp [← UInt8.toNat_inj]; omega
      rw [e95]
      simp <;> omega
    clear h
    have fge97 : decide ((97 : Int) ≤ (c.toNat : Int)) = false := decide_eq_false (by omega)
    have fle122 : decide ((c.toNat : Int) ≤ 122) = true := decide_eq_true (by omega)
    have fge65 : decide ((65 : Int) ≤ (c.toNat : Int)) = true := decide_eq_true (by omega)
    have fle90 : decide ((c.toNat : Int) ≤ 90) = false := decide_eq_false (by omega)
    have feq95 : ((c.toNat : Int) == 95) = false := by simp; omega
    go_enter Tryz.func72, Tryz.ntmps72
    go_wp2_with fail
    go_ret
    exact ⟨rfl, rfl⟩
  · obtain rfl : true = b := by
      rw [← h]
      unfold ltr
      have e95 : (c == 95) = true := by rw [Bool.eq_iff_iff]; simp [← UInt8.toNat_inj]; omega
      rw [e95]
      simp <;> omega
    clear h
    have fge97 : decide ((97 : Int) ≤ (c.toNat : Int)) = false := decide_eq_false (by omega)
    have fle122 : decide ((c.toNat : Int) ≤ 122) = true := decide_eq_true (by omega)
    have fge65 : decide ((65 : Int) ≤ (c.toNat : Int)) = true := decide_eq_true (by omega)
    have fle90 : decide ((c.toNat : Int) ≤ 90) = false := decide_eq_false (by omega)
    have feq95 : ((c.toNat : Int) == 95) = true := by simp; omega
    go_enter Tryz.func72, Tryz.ntmps72
    go_wp2_with fail
    go_ret
    exact ⟨rfl, rfl⟩
  · obtain rfl : false = b := by
      rw [← h]
      unfold ltr
      have e95 : (c == 95) = false := by rw [Bool.eq_iff_iff]; simp [← UInt8.toNat_inj]; omega
      rw [e95]
      simp <;> omega
    clear h
    have fge97 : decide ((97 : Int) ≤ (c.toNat : Int)) = false := decide_eq_false (by omega)
    have fle122 : decide ((c.toNat : Int) ≤ 122) = true := decide_eq_true (by omega)
    have fge65 : decide ((65 : Int) ≤ (c.toNat : Int)) = true := decide_eq_true (by omega)
    have fle90 : decide ((c.toNat : Int) ≤ 90) = false := decide_eq_false (by omega)
    have feq95 : ((c.toNat : Int) == 95) = false := by simp; omega
    go_enter Tryz.func72, Tryz.ntmps72
    go_wp2_with fail
    go_ret
    exact ⟨rfl, rfl⟩
  · obtain rfl : true = b := by
      rw [← h]
      unfold ltr
      have e95 : (c == 95) = false := by rw [Bool.eq_iff_iff]; simp [← UInt8.toNat_inj]; omega
      rw [e95]
      simp <;> omega
    clear h
    have fge97 : decide ((97 : Int) ≤ (c.toNat : Int)) = true := decide_eq_true (by omega)
    have fle122 : decide ((c.toNat : Int) ≤ 122) = true := decide_eq_true (by omega)
    have fge65 : decide ((65 : Int) ≤ (c.toNat : Int)) = true := decide_eq_true (by omega)
    have fle90 : decide ((c.toNat : Int) ≤ 90) = false := decide_eq_false (by omega)
    have feq95 : ((c.toNat : Int) == 95) = false := by simp; omega
    go_enter Tryz.func72, Tryz.ntmps72
    go_wp2_with fail
    go_ret
    exact ⟨rfl, rfl⟩
  · obtain rfl : false = b := by
      rw [← h]
      unfold ltr
      have e95 : (c == 95) = false := by rw [Bool.eq_iff_iff]; simp [← UInt8.toNat_inj]; omega
      rw [e95]
      simp <;> omega
    clear h
    have fge97 : decide ((97 : Int) ≤ (c.toNat : Int)) = true := decide_eq_true (by omega)
    have fle122 : decide ((c.toNat : Int) ≤ 122) = false := decide_eq_false (by omega)
    have fge65 : decide ((65 : Int) ≤ (c.toNat : Int)) = true := decide_eq_true (by omega)
    have fle90 : decide ((c.toNat : Int) ≤ 90) = false := decide_eq_false (by omega)
    have feq95 : ((c.toNat : Int) == 95) = false := by simp; omega
    go_enter Tryz.func72, Tryz.ntmps72
    go_wp2_with fail
    go_ret
    exact ⟨rfl, rfl⟩
theorem ret_b9 {x y : Bool} (h : x = y) : Ending.returned (.bool x) = .returned (.bool y) := by rw [h]
def nameP (l : List UInt8) : Prop := l = [] ∨ nameL l = true
theorem nameP_step {l : List UInt8} {c : UInt8} (h : nameP l) (h0 : l = [] → ltr c = true) (h1 : nch c = true) : nameP (l ++ [c]) := by
  right
  cases l with
  | nil => show (ltr c && [].all nch) = true; rw [h0 rfl]; rfl
  | cons d r =>
    rcases h with h | h
    · cases h
    · unfold nameL at h ⊢
      rw [Bool.and_eq_true] at h
      show (ltr d && (r ++ [c]).all nch) = true
      rw [h.1, List.all_append, h.2]
      simp [h1]
theorem nameL_no {l : List UInt8} {k : Nat} (h : k < l.length) (h1 : nch (l[k]'h) = false) : nameL l = false := by
  cases hq : nameL l with
  | false => rfl
  | true => have := nameL_all hq _ (List.getElem_mem h); rw [h1] at this; cases this
theorem nameL_no0 {l : List UInt8} (h : 0 < l.length) (h1 : ltr (l[0]'h) = false) : nameL l = false := by
  cases l with
  | nil => simp at h
  | cons c r =>
    have h1' : ltr c = false := h1
    show (ltr c && r.all nch) = false
    rw [h1']
    rfl
theorem nch_not {c : UInt8} (h : ltr c = false) : nch c = (decide (48 ≤ c.toNat) && decide (c.toNat ≤ 57) || c == 46 || c == 45) := by unfold nch; rw [h]; simp
theorem rname9 (s : ByteArray) (w : World) (hm : s.size ≤ 1000000) (b : Bool) (h : nameL s.data.toList = b) :
    Calls Tryz.prog 52 #[.string s] w fun e w' => e = .returned (.bool b) ∧ w = w' := by
  have hem := empty_l s
  have HH := Lib.hid h
  have HM := Lib.hid hm
  obtain ⟨ie, hie⟩ : ∃ ie, decide (s.size = 0) = ie := ⟨_, rfl⟩
  rw [hie] at hem
  have HIE := Lib.hid hie
  clear h hm hie
  go_enter Tryz.func52, Tryz.ntmps52
  go_wp2_with fail
  go_loopw [3] (fun i wr => ∃ k : Nat, k ≤ s.size ∧ i = .int .i64 k ∧ nameP (s.data.toList.take k) ∧ w = wr) (fun i _ => s.size - (intOf i).toNat)
  case atStart => exact ⟨0, Nat.zero_le _, rfl, .inl rfl, by first | rfl | trivial⟩
  case round =>
    obtain ⟨k, hk, rfl, hn, rfl⟩ := hrel
    have hs := HM.out
    by_cases hlt : k < s.size
    · obtain ⟨c, hc⟩ : ∃ c, s[k]'hlt = c := ⟨_, rfl⟩
      have hca : ∀ h, s[k]'h = c := fun _ => hc
      have hkl : k < s.data.toList.length := by rw [ba_l]; exact hlt
      have hck : s.data.toList[k]'hkl = c := (at_l s k hlt).trans hc
      have bk : (0 : Int) ≤ (k : Int) ∧ (k : Int) < (s.size : Int) := by omega
      have hstep := fun h0 h1 => nameP_step (c := c) hn h0 h1
      rw [← hck, ← List.take_succ_eq_append_getElem hkl, hck] at hstep
      have HST := Lib.hid hstep
      have HCK := Lib.hid hck
      clear hck hc hn hstep
      cases hl : ltr c
      · have HL := Lib.hid hl
        by_cases h0 : k = 0
        · subst h0
          obtain rfl : false = b := by
            have := nameL_no0 (l := s.data.toList) hkl (by rw [HCK.out]; exact HL.out)
            rw [← HH.out, this]
          clear hl hem
          go_wp2_with (first
            | (go_at_call 72; (with_reducible refine (rletter9 c _ false HL.out).mono ?_); rintro e w1 ⟨rfl, rfl⟩)
            | fail)
          go_ret
          exact ⟨rfl, rfl⟩
        · have hk0 : ((k : Int) == 0) = false := by simp; omega
          have HK0 : Hid (s.data.toList.take k ≠ []) := Lib.hid fun e => by
            have := congrArg List.length e
            rw [List.length_take, List.length_nil] at this
            omega
          clear hl h0
          have hlim := c.toNat_lt
          rcases (show (0 ≤ c.toNat ∧ c.toNat ≤ 44) ∨ (45 ≤ c.toNat ∧ c.toNat ≤ 45) ∨ (46 ≤ c.toNat ∧ c.toNat ≤ 46) ∨ (47 ≤ c.toNat ∧ c.toNat ≤ 47) ∨ (48 ≤ c.toNat ∧ c.toNat ≤ 57) ∨ (58 ≤ c.toNat ∧ c.toNat ≤ 255) by omega) with ⟨q1, q2⟩ | ⟨q1, q2⟩ | ⟨q1, q2⟩ | ⟨q1, q2⟩ | ⟨q1, q2⟩ | ⟨q1, q2⟩
          · have hv : nch c = false := by
              rw [nch_not HL.out]
              have e45 : (c == 45) = false := by rw [Bool.eq_iff_iff]; simp [← UInt8.toNat_inj]; omega
              have e46 : (c == 46) = false := by rw [Bool.eq_iff_iff]; simp [← UInt8.toNat_inj]; omega
              rw [e45, e46]
              simp
              omega
            have flt48 : decide ((c.toNat : Int) < 48) = true := decide_eq_true (by omega)
            have fgt57 : decide ((57 : Int) < (c.toNat : Int)) = false := decide_eq_false (by omega)
            have fne46 : ((c.toNat : Int) != 46) = true := by simp; omega
            have fne45 : ((c.toNat : Int) != 45) = true := by simp; omega
            obtain rfl : false = b := by
              have := nameL_no (l := s.data.toList) hkl (by rw [HCK.out]; exact hv)
              rw [← HH.out, this]
            clear hv hem
            go_wp2_with (first
              | (go_at_call 72; (with_reducible refine (rletter9 c _ false HL.out).mono ?_); rintro e w1 ⟨rfl, rfl⟩)
              | fail)
            go_ret
            exact ⟨rfl, rfl⟩
          · have hv : nch c = true := by
              rw [nch_not HL.out]
              have e45 : (c == 45) = true := by rw [Bool.eq_iff_iff]; simp [← UInt8.toNat_inj]; omega
              have e46 : (c == 46) = false := by rw [Bool.eq_iff_iff]; simp [← UInt8.toNat_inj]; omega
              rw [e45, e46]
              simp
            have flt48 : decide ((c.toNat : Int) < 48) = true := decide_eq_true (by omega)
            have fgt57 : decide ((57 : Int) < (c.toNat : Int)) = false := decide_eq_false (by omega)
            have fne46 : ((c.toNat : Int) != 46) = true := by simp; omega
            have fne45 : ((c.toNat : Int) != 45) = false := by simp; omega
            have HV := Lib.hid (HST.out (fun e => absurd e HK0.out) hv)
            clear hv
            go_wp2_with (first
              | (go_at_call 72; (with_reducible refine (rletter9 c _ false HL.out).mono ?_); rintro e w1 ⟨rfl, rfl⟩)
              | fail)
            go_roundw
            case rel => exact ⟨k + 1, hlt, by go_num, HV.out, by first | rfl | trivial⟩
            case measure => simp [intOf]; omega
          · have hv : nch c = true := by
              rw [nch_not HL.out]
              have e45 : (c == 45) = false := by rw [Bool.eq_iff_iff]; simp [← UInt8.toNat_inj]; omega
              have e46 : (c == 46) = true := by rw [Bool.eq_iff_iff]; simp [← UInt8.toNat_inj]; omega
              rw [e45, e46]
              simp
            have flt48 : decide ((c.toNat : Int) < 48) = true := decide_eq_true (by omega)
            have fgt57 : decide ((57 : Int) < (c.toNat : Int)) = false := decide_eq_false (by omega)
            have fne46 : ((c.toNat : Int) != 46) = false := by simp; omega
            have fne45 : ((c.toNat : Int) != 45) = true := by simp; omega
            have HV := Lib.hid (HST.out (fun e => absurd e HK0.out) hv)
            clear hv
            go_wp2_with (first
              | (go_at_call 72; (with_reducible refine (rletter9 c _ false HL.out).mono ?_); rintro e w1 ⟨rfl, rfl⟩)
              | fail)
            go_roundw
            case rel => exact ⟨k + 1, hlt, by go_num, HV.out, by first | rfl | trivial⟩
            case measure => simp [intOf]; omega
          · have hv : nch c = false := by
              rw [nch_not HL.out]
              have e45 : (c == 45) = false := by rw [Bool.eq_iff_iff]; simp [← UInt8.toNat_inj]; omega
              have e46 : (c == 46) = false := by rw [Bool.eq_iff_iff]; simp [← UInt8.toNat_inj]; omega
              rw [e45, e46]
              simp
              omega
            have flt48 : decide ((c.toNat : Int) < 48) = true := decide_eq_true (by omega)
            have fgt57 : decide ((57 : Int) < (c.toNat : Int)) = false := decide_eq_false (by omega)
            have fne46 : ((c.toNat : Int) != 46) = true := by simp; omega
            have fne45 : ((c.toNat : Int) != 45) = true := by simp; omega
            obtain rfl : false = b := by
              have := nameL_no (l := s.data.toList) hkl (by rw [HCK.out]; exact hv)
              rw [← HH.out, this]
            clear hv hem
            go_wp2_with (first
              | (go_at_call 72; (with_reducible refine (rletter9 c _ false HL.out).mono ?_); rintro e w1 ⟨rfl, rfl⟩)
              | fail)
            go_ret
            exact ⟨rfl, rfl⟩
          · have hv : nch c = true := by
              rw [nch_not HL.out]
              have e45 : (c == 45) = false := by rw [Bool.eq_iff_iff]; simp [← UInt8.toNat_inj]; omega
              have e46 : (c == 46) = false := by rw [Bool.eq_iff_iff]; simp [← UInt8.toNat_inj]; omega
              rw [e45, e46]
              simp
              omega
            have flt48 : decide ((c.toNat : Int) < 48) = false := decide_eq_false (by omega)
            have fgt57 : decide ((57 : Int) < (c.toNat : Int)) = false := decide_eq_false (by omega)
            have fne46 : ((c.toNat : Int) != 46) = true := by simp; omega
            have fne45 : ((c.toNat : Int) != 45) = true := by simp; omega
            have HV := Lib.hid (HST.out (fun e => absurd e HK0.out) hv)
            clear hv
            go_wp2_with (first
              | (go_at_call 72; (with_reducible refine (rletter9 c _ false HL.out).mono ?_); rintro e w1 ⟨rfl, rfl⟩)
              | fail)
            go_roundw
            case rel => exact ⟨k + 1, hlt, by go_num, HV.out, by first | rfl | trivial⟩
            case measure => simp [intOf]; omega
          · have hv : nch c = false := by
              rw [nch_not HL.out]
              have e45 : (c == 45) = false := by rw [Bool.eq_iff_iff]; simp [← UInt8.toNat_inj]; omega
              have e46 : (c == 46) = false := by rw [Bool.eq_iff_iff]; simp [← UInt8.toNat_inj]; omega
              rw [e45, e46]
              simp
              omega
            have flt48 : decide ((c.toNat : Int) < 48) = false := decide_eq_false (by omega)
            have fgt57 : decide ((57 : Int) < (c.toNat : Int)) = true := decide_eq_true (by omega)
            have fne46 : ((c.toNat : Int) != 46) = true := by simp; omega
            have fne45 : ((c.toNat : Int) != 45) = true := by simp; omega
            obtain rfl : false = b := by
              have := nameL_no (l := s.data.toList) hkl (by rw [HCK.out]; exact hv)
              rw [← HH.out, this]
            clear hv hem
            go_wp2_with (first
              | (go_at_call 72; (with_reducible refine (rletter9 c _ false HL.out).mono ?_); rintro e w1 ⟨rfl, rfl⟩)
              | fail)
            go_ret
            exact ⟨rfl, rfl⟩
      · have HL := Lib.hid hl
        have HV := Lib.hid (HST.out (fun _ => hl) (nch_of_ltr hl))
        clear hl
        go_wp2_with (first
          | (go_at_call 72; (with_reducible refine (rletter9 c _ true HL.out).mono ?_); rintro e w1 ⟨rfl, rfl⟩)
          | fail)
        go_roundw
        case rel => exact ⟨k + 1, hlt, by go_num, HV.out, by first | rfl | trivial⟩
        case measure => simp [intOf]; omega
    · obtain rfl : k = s.size := by omega
      have HX : Hid ((!ie) = b) := Lib.hid (by
        have hn' := hn
        rw [List.take_of_length_le (by rw [ba_l]; omega)] at hn'
        rw [← HIE.out, ← HH.out]
        rcases hn' with h | h
        · rw [h]
          have : s.size = 0 := by rw [← ba_l, h]; rfl
          simp [this, nameL]
        · rw [h]
          have : s.size ≠ 0 := by
            intro e
            rw [List.eq_nil_of_length_eq_zero ((ba_l s).trans e)] at h
            cases h
          simp [this])
      clear hn
      go_wp2_with fail
      go_ret
      exact ⟨ret_b9 HX.out, rfl⟩
theorem cutC_at {l : List UInt8} {k : Nat} (h : k < l.length) (h1 : (58 : UInt8) ∉ l.take k) (h2 : l[k]'h = 58) : cutC l = some (l.take k, l.drop (k + 1)) := by
  have e : l = l.take k ++ 58 :: l.drop (k + 1) := by rw [← h2, ← List.drop_eq_getElem_cons h, List.take_append_drop]
  have gen : ∀ (a b : List UInt8), (58 : UInt8) ∉ a → cutC (a ++ 58 :: b) = some (a, b) := by
    intro a
    induction a with
    | nil => intro b _; show (if (58 : UInt8) = 58 then _ else _) = _; rw [if_pos rfl]
    | cons c a ih =>
      intro b hn
      rw [List.mem_cons, not_or] at hn
      show (if c = 58 then _ else _) = _
      rw [if_neg (Ne.symm hn.1)]
      show Option.map _ (cutC (a ++ 58 :: b)) = _
      rw [ih b hn.2]
      rfl
  have := gen _ (l.drop (k + 1)) h1
  rwa [← e] at this
theorem cutC_no {l : List UInt8} (h : (58 : UInt8) ∉ l) : cutC l = none := by
  induction l with
  | nil => rfl
  | cons c l ih =>
    rw [List.mem_cons, not_or] at h
    show (if c = 58 then _ else _) = _
    rw [if_neg (Ne.symm h.1), ih h.2]
    rfl
def PartsTo (s : ByteArray) (w : World) (e : Ending) (w' : World) : Prop := (∃ n, w' = w.drewN n) ∧
  ((∃ x y : ByteArray, cutC s.data.toList = some (x.data.toList, y.data.toList) ∧ e = .returned (.tuple #[.string x, .string y, .bool true])) ∨ (cutC s.data.toList = none ∧ e = .returned (.tuple #[.string ⟨#[]⟩, .string s, .bool false])))
theorem rparts9 (s : ByteArray) (w : World) (hm : s.size ≤ 1000000) : Calls Tryz.prog 65 #[.string s] w (PartsTo s w) := by
  have HM := Lib.hid hm
  clear hm
  go_enter Tryz.func65, Tryz.ntmps65
  go_wp2_with fail
  go_loopw [5] (fun i wr => ∃ k : Nat, k ≤ s.size ∧ i = .int .i64 k ∧ (58 : UInt8) ∉ s.data.toList.take k ∧ w = wr) (fun i _ => s.size - (intOf i).toNat)
  case atStart => exact ⟨0, Nat.zero_le _, rfl, by simp, by first | rfl | trivial⟩
  case round =>
    obtain ⟨k, hk, rfl, hn, rfl⟩ := hrel
    have hs := HM.out
    by_cases hlt : k < s.size
    · obtain ⟨c, hc⟩ : ∃ c, s[k]'hlt = c := ⟨_, rfl⟩
      have hca : ∀ h, s[k]'h = c := fun _ => hc
      have hkl : k < s.data.toList.length := by rw [ba_l]; exact hlt
      have hck : s.data.toList[k]'hkl = c := (at_l s k hlt).trans hc
      have bk : (0 : Int) ≤ (k : Int) ∧ (k : Int) < (s.size : Int) := by omega
      have hcl := c.toNat_lt
      by_cases h58 : c.toNat = 58
      · have e58 : c = 58 := UInt8.toNat_inj.1 h58
        have f58 : ((c.toNat : Int) == 58) = true := by simp; omega
        obtain ⟨x, hx⟩ : ∃ x, s.extract 0 k = x := ⟨_, rfl⟩
        obtain ⟨y, hy⟩ : ∃ y, s.extract (k + 1) s.size = y := ⟨_, rfl⟩
        have HC : Hid (cutC s.data.toList = some (x.data.toList, y.data.toList)) := Lib.hid (by
          rw [cutC_at hkl hn (hck.trans e58), ← hx, ← hy, extract_l s 0 k hk, extract_l s (k + 1) s.size (Nat.le_refl _), List.drop_zero, Nat.sub_zero, List.take_of_length_le (l := s.data.toList.drop (k + 1)) (by rw [List.length_drop, ba_l]; omega)])
        clear hck hc hn e58 h58
        go_wp2_with fail
        go_region
        go_wp2_with fail
        refine bodyPost_ret (v := .tuple #[.string x, .string y, .bool true]) ?_ rfl ⟨⟨1, rfl⟩, .inl ⟨x, y, HC.out, rfl⟩⟩
        simp [results, Tryz.results65, go_sem]
      · have f58 : ((c.toNat : Int) == 58) = false := by simp; omega
        have HV : Hid ((58 : UInt8) ∉ s.data.toList.take (k + 1)) := Lib.hid (by
          rw [List.take_succ_eq_append_getElem hkl, hck, List.mem_append, not_or]
          refine ⟨hn, ?_⟩
          rw [List.mem_singleton]
          rintro rfl
          exact h58 rfl)
        clear hck hc hn h58
        go_wp2_with fail
        go_roundw
        case rel => exact ⟨k + 1, hlt, by go_num, HV.out, by first | rfl | trivial⟩
        case measure => simp [intOf]; omega
    · obtain rfl : k = s.size := by omega
      have HC : Hid (cutC s.data.toList = none) := Lib.hid (by
        rw [List.take_of_length_le (by rw [ba_l]; omega)] at hn
        exact cutC_no hn)
      clear hn
      go_wp2_with fail
      refine bodyPost_ret (v := .tuple #[.string ⟨#[]⟩, .string s, .bool false]) ?_ rfl ⟨⟨0, rfl⟩, .inr ⟨HC.out, rfl⟩⟩
      simp [results, Tryz.results65, go_sem]
theorem ex_size {l : List UInt8} {x y : ByteArray} (h : cutC l = some (x.data.toList, y.data.toList)) : x.size + y.size + 1 = l.length := by
  have := congrArg List.length (cutC_some h).1
  rw [List.length_append, List.length_cons, ba_l, ba_l] at this
  omega
theorem rparts_some (s x y : ByteArray) (w : World) (hm : s.size ≤ 1000000) (h : cutC s.data.toList = some (x.data.toList, y.data.toList)) : Calls Tryz.prog 65 #[.string s] w fun e w' => e = .returned (.tuple #[.string x, .string y, .bool true]) ∧ ∃ n, w' = w.drewN n :=
  (rparts9 s w hm).mono fun e w' hp => by
    obtain ⟨hb, ⟨x', y', h1, h2⟩ | ⟨h1, _⟩⟩ := hp
    · rw [h] at h1
      obtain ⟨e1, e2⟩ := (Prod.mk.injEq _ _ _ _).mp (Option.some.inj h1)
      rw [ba_x e1, ba_x e2]
      exact ⟨h2, hb⟩
    · rw [h] at h1; cases h1
theorem rparts_none (s : ByteArray) (w : World) (hm : s.size ≤ 1000000) (h : cutC s.data.toList = none) : Calls Tryz.prog 65 #[.string s] w fun e w' => e = .returned (.tuple #[.string ⟨#[]⟩, .string s, .bool false]) ∧ ∃ n, w' = w.drewN n :=
  (rparts9 s w hm).mono fun e w' hp => by
    obtain ⟨hb, ⟨x', y', h1, h2⟩ | ⟨h1, h2⟩⟩ := hp
    · rw [h] at h1; cases h1
    · exact ⟨h2, hb⟩
theorem rfull9q (s : ByteArray) (w : World) (hm : s.size ≤ 1000000) (b : Bool) (h : fullL s.data.toList = b) :
    Calls Tryz.prog 82 #[.string s] w fun e w' => e = .returned (.bool b) ∧ ∃ n, w' = w.drewN n := by
  unfold fullL at h
  have HM := Lib.hid hm
  cases hc : cutC s.data.toList with
  | none =>
    rw [hc] at h
    have HC := Lib.hid hc
    have HH : Hid (nameL s.data.toList = b) := h
    clear hc h hm
    cases b <;> (
      go_enter Tryz.func82, Tryz.ntmps82
      go_wp2_with (first
        | (go_at_call 65; (with_reducible refine (rparts_none s w HM.out HC.out).mono ?_); rintro e w1 ⟨rfl, n1, rfl⟩)
        | (go_at_call 52; (with_reducible refine (rname9 s _ HM.out _ HH.out).mono ?_); rintro e w2 ⟨rfl, rfl⟩)
        | fail)
      go_ret
      exact ⟨rfl, n1, rfl⟩)
  | some p =>
    obtain ⟨a, c⟩ := p
    rw [hc] at h
    dsimp only at h
    obtain ⟨x, hx⟩ : ∃ x : ByteArray, x.data.toList = a := ⟨⟨a.toArray⟩, rfl⟩
    obtain ⟨y, hy⟩ : ∃ y : ByteArray, y.data.toList = c := ⟨⟨c.toArray⟩, rfl⟩
    subst hx hy
    have hsz := ex_size hc
    rw [ba_l] at hsz
    have HX : Hid (x.size ≤ 1000000) := Lib.hid (by omega)
    have HY : Hid (y.size ≤ 1000000) := Lib.hid (by omega)
    obtain ⟨b1, h1⟩ : ∃ b1, nameL y.data.toList = b1 := ⟨_, rfl⟩
    obtain ⟨b2, h2⟩ : ∃ b2, nameL x.data.toList = b2 := ⟨_, rfl⟩
    rw [h1, h2] at h
    have HC := Lib.hid hc
    have H1 := Lib.hid h1
    have H2 := Lib.hid h2
    clear hc h1 h2 hm hsz
    subst h
    cases b1
    · go_enter Tryz.func82, Tryz.ntmps82
      go_wp2_with (first
        | (go_at_call 65; (with_reducible refine (rparts_some s x y w HM.out HC.out).mono ?_); rintro e w1 ⟨rfl, n1, rfl⟩)
        | (go_at_call 52; (with_reducible refine (rname9 y _ HY.out _ H1.out).mono ?_); rintro e w2 ⟨rfl, rfl⟩)
        | fail)
      go_ret
      exact ⟨rfl, n1, rfl⟩
    · cases b2 <;> (
      go_enter Tryz.func82, Tryz.ntmps82
      go_wp2_with (first
        | (go_at_call 65; (with_reducible refine (rparts_some s x y w HM.out HC.out).mono ?_); rintro e w1 ⟨rfl, n1, rfl⟩)
        | (go_at_call 52; (with_reducible refine (rname9 y _ HY.out _ H1.out).mono ?_); rintro e w2 ⟨rfl, rfl⟩)
        | (go_at_call 52; (with_reducible refine (rname9 x _ HX.out _ H2.out).mono ?_); rintro e w3 ⟨rfl, rfl⟩)
        | fail)
      go_ret
      exact ⟨rfl, n1, rfl⟩)
theorem rfull9 (s : ByteArray) (w : World) (hm : s.size ≤ 1000000) (b : Bool) (h : fullL s.data.toList = b) :
    Calls Tryz.prog 82 #[.string s] w fun e w' => e = .returned (.bool b) ∧ Below w.heap.size w w' :=
  (rfull9q s w hm b h).mono fun e w' ⟨h1, n, h2⟩ => ⟨h1, by rw [h2]; exact ⟨rfl, rfl, rfl, Nat.le_refl _, fun _ _ => rfl⟩⟩
end Hx
end Go.Proofs.YteobcohjikjalaaGreatDoor
