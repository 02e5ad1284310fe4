/-
  The document's own value, Read, Write, Sum.
-/
import Derived.Test.YtjdeomlpipdopaaDoorNumR
namespace Go.Proofs.YtjdeomlpipdopaaDoor
open Go.RowKit
namespace Hx
open Nmb
set_option linter.unusedVariables false
theorem ret_i6 {a b : Int} (h : a = b) : Ending.returned (.int .i64 a) = .returned (.int .i64 b) := by rw [h]
/-- What value answers. -/
def valR (l : List UInt8) : Int := if l.all isDg then (val l : Int) else -1
theorem not_all6 (l : List UInt8) (k : Nat) (h : k < l.length) (h2 : isDg (l[k]'h) = false) : l.all isDg = false := by
  rw [List.all_eq_false]
  exact ⟨l[k]'h, List.getElem_mem h, by simp [h2]⟩
theorem at6 (s : ByteArray) (k : Nat) (h : k < s.size) : s.data.toList[k]'(by rw [ba_len6]; exact h) = s[k]'h := by cases s; rfl
set_option maxHeartbeats 2000000 in
set_option maxRecDepth 100000 in
theorem rvalue6 (s : ByteArray) (w : World) (hs : s.size ≤ 16) (v : Int) (hv : valR s.data.toList = v) :
    Calls Tryd.prog 84 #[.string s] w fun e w' => e = .returned (.int .i64 v) ∧ Below w.heap.size w w' := by
  have HS := Lib.hid hs
  have HV := Lib.hid hv
  clear hs hv
  go_enter Tryd.func84, Tryd.ntmps84
  go_wp2_with fail
  go_loopw [3, 4] (fun n i wr => ∃ k : Nat, k ≤ s.size ∧ i = .int .i64 k ∧ n = .int .i64 (val (s.data.toList.take k) : Nat) ∧ (s.data.toList.take k).all isDg = true ∧ Below w.heap.size w wr) (fun _ i _ => s.size - (intOf i).toNat)
  case atStart => exact ⟨0, Nat.zero_le _, rfl, rfl, rfl, Below.refl _ _⟩
  case round =>
    obtain ⟨k, hk, rfl, rfl, hall, hbw⟩ := hrel
    have hs := HS.out
    by_cases hlt : k < s.size
    · obtain ⟨m, hm⟩ : ∃ m, val (s.data.toList.take k) = m := ⟨_, rfl⟩
      have hml : m < 1000000000000000 := by
        have h1 := val_lt _ hall
        rw [hm, List.length_take, ba_len6, Nat.min_eq_left hk] at h1
        exact Nat.lt_of_lt_of_le h1 (Nat.le_trans (Nat.pow_le_pow_right (by decide) (show k ≤ 15 by omega)) (by decide))
      obtain ⟨c, hc⟩ : ∃ c, s[k]'hlt = c := ⟨_, rfl⟩
      have hca : ∀ h, s[k]'h = c := fun _ => hc
      have hcl := c.toNat_lt
      have hkl : k < s.data.toList.length := by rw [ba_len6]; exact hlt
      have hck : s.data.toList[k]'hkl = c := (at6 s k hlt).trans hc
      have bk : (0 : Int) ≤ (k : Int) ∧ (k : Int) < (s.size : Int) := by omega
      have HALL := Lib.hid hall
      have HBW := Lib.hid hbw
      have HCK := Lib.hid hck
      have HM := Lib.hid hm
      rw [hm]
      by_cases h1 : c.toNat < 48
      · have HX : Hid (v = -1) := Lib.hid (by
          have := not_all6 s.data.toList k hkl (by rw [hck]; simp [isDg]; omega)
          rw [← HV.out]
          unfold valR
          rw [this]
          rfl)
        have d1 : decide ((c.toNat : Int) < 48) = true := by simp; omega
        clear hck hall hbw hm hc HV
        go_wp2_with fail
        go_ret
        exact ⟨ret_i6 HX.out.symm, HBW.out⟩
      · by_cases h2 : 57 < c.toNat
        · have HX : Hid (v = -1) := Lib.hid (by
            have := not_all6 s.data.toList k hkl (by rw [hck]; simp [isDg]; omega)
            rw [← HV.out]
            unfold valR
            rw [this]
            rfl)
          have d1 : decide ((c.toNat : Int) < 48) = false := by simp; omega
          have d2 : decide ((57 : Int) < (c.toNat : Int)) = true := by simp; omega
          clear hck hall hbw hm hc HV
          go_wp2_with fail
          go_ret
          exact ⟨ret_i6 HX.out.symm, HBW.out⟩
        · have d1 : decide ((c.toNat : Int) < 48) = false := by simp; omega
          have d2 : decide ((57 : Int) < (c.toNat : Int)) = false := by simp; omega
          obtain ⟨m', hm'⟩ : ∃ m', 10 * m + (c.toNat - 48) = m' := ⟨_, rfl⟩
          have HT : Hid (val (s.data.toList.take (k + 1)) = m' ∧ (s.data.toList.take (k + 1)).all isDg = true) := Lib.hid (by
            rw [List.take_succ_eq_append_getElem hkl, hck, val_snoc, hm, List.all_append, hall]
            refine ⟨hm', ?_⟩
            simp [isDg]
            omega)
          clear hck hall hbw hm hc
          go_wp2_with fail
          go_roundw
          case rel => exact ⟨k + 1, hlt, by go_num, by rw [HT.out.1]; go_num, HT.out.2, HBW.out⟩
          case measure => simp [intOf]; omega
    · obtain rfl : k = s.size := by omega
      have HX : Hid (v = (val (s.data.toList.take s.size) : Nat)) := Lib.hid (by
        rw [List.take_of_length_le (by rw [ba_len6]; omega)] at hall ⊢
        rw [← HV.out]
        unfold valR
        rw [if_pos hall])
      go_wp2_with fail
      go_ret
      exact ⟨ret_i6 HX.out.symm, hbw⟩
/-- What Read answers. -/
def readR (l : List UInt8) : Int × Int := match readN l with | some n => (n, 0) | none => (0, 60)
theorem list6 (l : List UInt8) : (⟨l.toArray⟩ : ByteArray).data.toList = l := rfl
theorem seq6 (a b : ByteArray) : (a.toList == b.toList) = decide (a.data.toList = b.data.toList) := by
  rw [Bool.eq_iff_iff]
  simp only [beq_iff_eq, decide_eq_true_eq, ByteArray.toList_eq]
set_option maxHeartbeats 2000000 in
set_option maxRecDepth 100000 in
theorem rread6 (s : ByteArray) (w : World) (a b : Int) (h : readR s.data.toList = (a, b)) :
    Calls Tryd.prog 68 #[.string s] w fun e w' => e = .returned (.tuple #[.int .i64 a, .int .i64 b]) ∧ Below w.heap.size w w' := by
  by_cases h0 : s.size < 1
  · have d0 : decide ((s.size : Int) < 1) = true := by simp; omega
    have hn : readN s.data.toList = none := by
      have : s.data.toList = [] := List.eq_nil_of_length_eq_zero (by rw [ba_len6]; omega)
      rw [this]; rfl
    unfold readR at h
    rw [hn] at h
    obtain ⟨rfl, rfl⟩ : 0 = a ∧ 60 = b := by simpa using h
    clear h hn h0
    go_enter Tryd.func68, Tryd.ntmps68
    go_wp2_with fail
    go_ret2
    exact ⟨rfl, Below.refl _ _⟩
  · have d0 : decide ((s.size : Int) < 1) = false := by simp; omega
    by_cases h1 : 16 < s.size
    · have d1 : decide ((16 : Int) < (s.size : Int)) = true := by simp; omega
      have hn : readN s.data.toList = none := readN_long _ (by rw [ba_len6]; exact h1)
      unfold readR at h
      rw [hn] at h
      obtain ⟨rfl, rfl⟩ : 0 = a ∧ 60 = b := by simpa using h
      clear h hn h0 h1
      go_enter Tryd.func68, Tryd.ntmps68
      go_wp2_with fail
      go_ret2
      exact ⟨rfl, Below.refl _ _⟩
    · have d1 : decide ((16 : Int) < (s.size : Int)) = false := by simp; omega
      obtain ⟨v, hv⟩ : ∃ v, valR s.data.toList = v := ⟨_, rfl⟩
      have HV := Lib.hid hv
      have HS : Hid (s.size ≤ 16) := Lib.hid (by omega)
      by_cases ha : s.data.toList.all isDg = true
      · obtain ⟨m, hm⟩ : ∃ m, val s.data.toList = m := ⟨_, rfl⟩
        obtain rfl : v = (m : Int) := by rw [← hv]; unfold valR; rw [if_pos ha, hm]
        have d2 : decide ((m : Int) < 0) = false := by simp
        by_cases h3 : most < m
        · have d3 : decide ((9007199254740991 : Int) < (m : Int)) = true := by simp; unfold most at h3; omega
          have hn : readN s.data.toList = none := by unfold readN; rw [if_neg (by rw [hm, Bool.and_eq_true, decide_eq_true_eq]; omega)]
          unfold readR at h
          rw [hn] at h
          obtain ⟨rfl, rfl⟩ : 0 = a ∧ 60 = b := by simpa using h
          clear h hn h0 h1 h3 ha hm hv
          go_enter Tryd.func68, Tryd.ntmps68
          go_wp2_with (first
            | (go_at_call 84; (with_reducible refine (rvalue6 s w HS.out m HV.out).mono ?_); rintro e w1 ⟨rfl, hb1⟩)
            | fail)
          go_ret2
          exact ⟨rfl, hb1⟩
        · have d3 : decide ((9007199254740991 : Int) < (m : Int)) = false := by simp; unfold most at h3; omega
          obtain ⟨t, ht⟩ : ∃ t : ByteArray, t = ⟨(dg m).toArray⟩ := ⟨_, rfl⟩
          have HT := Lib.hid ht
          have HM : Hid (m ≤ 9223372036854775807) := Lib.hid (by unfold most at h3; omega)
          obtain ⟨q, hq⟩ : ∃ q, (t.toList == s.toList) = q := ⟨_, rfl⟩
          have hqq : q = decide (dg m = s.data.toList) := by rw [← hq, seq6, ht]
          cases q
          · have hn : readN s.data.toList = none := by
              cases hr : readN s.data.toList with
              | none => rfl
              | some n =>
                obtain ⟨e1, e2⟩ := (readN_iff _ _).1 hr
                have : m = n := by rw [← hm, e1, val_dg]
                subst this
                have := of_decide_eq_false hqq.symm
                exact absurd e1.symm this
            unfold readR at h
            rw [hn] at h
            obtain ⟨rfl, rfl⟩ : 0 = a ∧ 60 = b := by simpa using h
            clear h hn h0 h1 h3 ha hm hv ht hqq
            go_enter Tryd.func68, Tryd.ntmps68
            go_wp2_with (first
              | (go_at_call 84; (with_reducible refine (rvalue6 s w HS.out m HV.out).mono ?_); rintro e w1 ⟨rfl, hb1⟩)
              | (go_at_call 85; (with_reducible refine (rdigits6 m w1 HM.out t HT.out).mono ?_); rintro e w2 ⟨rfl, hb2⟩; have hB2 := stp hb1 hb2)
              | fail)
            go_ret2
            exact ⟨rfl, hB2⟩
          · have e1 : dg m = s.data.toList := of_decide_eq_true hqq.symm
            have hn : readN s.data.toList = some m := (readN_iff _ _).2 ⟨e1.symm, by omega⟩
            unfold readR at h
            rw [hn] at h
            obtain ⟨rfl, rfl⟩ : (m : Int) = a ∧ 0 = b := by simpa using h
            clear h hn h0 h1 h3 ha hm hv ht hqq e1
            go_enter Tryd.func68, Tryd.ntmps68
            go_wp2_with (first
              | (go_at_call 84; (with_reducible refine (rvalue6 s w HS.out m HV.out).mono ?_); rintro e w1 ⟨rfl, hb1⟩)
              | (go_at_call 85; (with_reducible refine (rdigits6 m w1 HM.out t HT.out).mono ?_); rintro e w2 ⟨rfl, hb2⟩; have hB2 := stp hb1 hb2)
              | fail)
            go_ret2
            exact ⟨rfl, hB2⟩
      · obtain rfl : v = -1 := by rw [← hv]; unfold valR; rw [if_neg ha]
        have hn : readN s.data.toList = none := by unfold readN; rw [if_neg (by unfold okN; simp [ha])]
        unfold readR at h
        rw [hn] at h
        obtain ⟨rfl, rfl⟩ : 0 = a ∧ 60 = b := by simpa using h
        clear h hn h0 h1 ha hv
        go_enter Tryd.func68, Tryd.ntmps68
        go_wp2_with (first
          | (go_at_call 84; (with_reducible refine (rvalue6 s w HS.out (-1) HV.out).mono ?_); rintro e w1 ⟨rfl, hb1⟩)
          | fail)
        go_ret2
        exact ⟨rfl, hb1⟩
end Hx
end Go.Proofs.YtjdeomlpipdopaaDoor
