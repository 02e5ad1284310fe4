/-
  The contract of num.Read.
-/
import Derived.Test.YtjdeomlpipdopaaDoorNumU
namespace Go.Proofs.YtjdeomlpipdopaaDoor
open Go.RowKit
namespace Hx
open Nmb
set_option linter.unusedVariables false
theorem val_grows (a b : List UInt8) : val a ≤ val (a ++ b) := by
  have gen : ∀ (r : List UInt8) (x : Nat), x ≤ r.foldl (fun n b => 10 * n + (b.toNat - 48)) x := by
    intro r
    induction r with
    | nil => exact fun x => Nat.le_refl _
    | cons c r ih => exact fun x => Nat.le_trans (show x ≤ 10 * x + (c.toNat - 48) by omega) (ih _)
  unfold val
  rw [List.foldl_append]
  exact gen b _
theorem val_take (l : List UInt8) (k : Nat) : val (l.take k) ≤ val l := by
  have := val_grows (l.take k) (l.drop k)
  rwa [List.take_append_drop] at this
/-- A byte that is no digit. -/
theorem readN_sign (l : List UInt8) (k : Nat) (h : k < l.length) (h2 : isDg (l[k]'h) = false) : readN l = none := by
  unfold readN okN
  rw [not_all6 l k h h2]
  simp
/-- A 0 ahead of others. -/
theorem readN_zero (l : List UInt8) (k : Nat) (h : k < l.length) (h0 : 0 < k) (ha : (l.take k).all isDg = true) (hv : val (l.take k) = 0) : readN l = none := by
  have hn : l.take k ≠ [] := by
    intro e
    have := congrArg List.length e
    rw [List.length_take, List.length_nil] at this
    omega
  by_cases hf : (l.take k).head? = some 48
  · have hl : l.head? = some 48 := by
      rw [← head_app (r := l.drop k) hn, List.take_append_drop] at hf
      exact hf
    have hlen : (l.length == 1) = false := by simp; omega
    unfold readN okN
    rw [hl, hlen]
    simp
  · have := val_pos (l.take k) ha hn hf
    omega
/-- One that is too great. -/
theorem readN_great (l : List UInt8) (k : Nat) (h : most < val (l.take k)) : readN l = none := by
  unfold readN
  have := val_take l k
  rw [if_neg]
  rw [Bool.and_eq_true, decide_eq_true_eq]
  omega
/-- What was read of a text so far. -/
def okP (l : List UInt8) (k : Nat) : Prop := (l.take k).all isDg = true ∧ val (l.take k) ≤ most ∧ (2 ≤ k → (l.take k).head? ≠ some 48)
theorem okP_step (l : List UInt8) (k : Nat) (h : k < l.length) (h1 : okP l k) (hd : isDg (l[k]'h) = true) (h2 : k = 0 ∨ val (l.take k) ≠ 0) (h3 : val (l.take (k + 1)) ≤ most) : okP l (k + 1) := by
  refine ⟨?_, h3, fun hk => ?_⟩
  · rw [List.take_succ_eq_append_getElem h, List.all_append, h1.1]
    simp [hd]
  · have hn : l.take k ≠ [] := by
      intro e
      have := congrArg List.length e
      rw [List.length_take, List.length_nil] at this
      omega
    rw [List.take_succ_eq_append_getElem h, head_app hn]
    by_cases hk2 : 2 ≤ k
    · exact h1.2.2 hk2
    · obtain rfl : k = 1 := by omega
      intro e
      apply h2.resolve_left (by omega)
      cases l with
      | nil => simp at h
      | cons b r =>
        simp only [List.take_succ_cons, List.take_zero, List.head?_cons, Option.some.injEq] at e ⊢
        subst e
        rfl
theorem okP_end (l : List UInt8) (h0 : 0 < l.length) (h : okP l l.length) : readN l = some (val l) := by
  obtain ⟨h1, h2, h3⟩ := h
  rw [List.take_of_length_le (Nat.le_refl _)] at h1 h2 h3
  unfold readN okN
  rw [if_pos]
  rw [Bool.and_eq_true, decide_eq_true_eq]
  refine ⟨?_, h2⟩
  rw [h1]
  have hn : l.isEmpty = false := by rw [List.isEmpty_eq_false_iff]; intro e; rw [e] at h0; simp at h0
  rw [hn]
  by_cases hl : l.length = 1
  · simp [hl]
  · have := h3 (by omega)
    simp [this]
set_option maxHeartbeats 4000000 in
set_option maxRecDepth 100000 in
theorem read6 (s : ByteArray) (w : World) (hm : s.size ≤ 1000000) (a b : Int) (h : readR s.data.toList = (a, b)) :
    Calls Tryd.prog 43 #[.string s] w fun e w' => e = .returned (.tuple #[.int .i64 a, .int .i64 b]) ∧ Below w.heap.size w w' := by
  have hempty : s.toList.isEmpty = decide (s.size = 0) := by
    rw [ByteArray.toList_eq, Bool.eq_iff_iff, List.isEmpty_iff, decide_eq_true_eq, ← ba_len6]
    constructor
    · intro e; rw [e]; rfl
    · exact List.eq_nil_of_length_eq_zero
  obtain ⟨ie, his⟩ : ∃ ie, decide (s.size = 0) = ie := ⟨_, rfl⟩
  rw [his] at hempty
  have HIS := Lib.hid his
  have HH := Lib.hid h
  have HM := Lib.hid hm
  clear his h hm
  go_enter Tryd.func43, Tryd.ntmps43
  go_wp2_with fail
  go_step3
  go_wp2_with fail
  go_step3
  go_wp2_with fail
  go_loopw [12, 4, 5] (fun i n x wr => ∃ k : Nat, k ≤ s.size ∧ i = .int .i64 k ∧ n = .int .i64 (val (s.data.toList.take k) : Nat) ∧ x = .bool (!ie) ∧ okP s.data.toList k ∧ Below w.heap.size w wr) (fun i _ _ _ => s.size - (intOf i).toNat)
  case atStart => exact ⟨0, Nat.zero_le _, rfl, rfl, rfl, ⟨rfl, Nat.zero_le _, fun h => absurd h (by omega)⟩, Below.refl _ _⟩
  case round =>
    obtain ⟨k, hk, rfl, rfl, rfl, hok, hbw⟩ := hrel
    have hs := HM.out
    by_cases hlt : k < s.size
    · obtain rfl : false = ie := by rw [← HIS.out, decide_eq_false (by omega)]
      obtain ⟨m, hm⟩ : ∃ m, val (s.data.toList.take k) = m := ⟨_, rfl⟩
      have hml : m ≤ 9007199254740991 := by have := hok.2.1; unfold most at this; omega
      obtain ⟨c, hc⟩ : ∃ c, s[k]'hlt = c := ⟨_, rfl⟩
      have hca : ∀ h, s[k]'h = c := fun _ => hc
      have hcl := c.toNat_lt
      have hkl : k < s.data.toList.length := by rw [ba_len6]; exact hlt
      have hck : s.data.toList[k]'hkl = c := (at6 s k hlt).trans hc
      have bk : (0 : Int) ≤ (k : Int) ∧ (k : Int) < (s.size : Int) := by omega
      have HBW := Lib.hid hbw
      have hm2 := hm
      rw [hm]
      by_cases h1 : c.toNat < 48
      · have d1 : decide ((c.toNat : Int) < 48) = true := by simp; omega
        have HX := Lib.hid (readN_sign s.data.toList k hkl (by rw [hck]; simp [isDg]; omega))
        obtain ⟨rfl, rfl⟩ : 0 = a ∧ 60 = b := by
          have h := HH.out
          unfold readR at h
          rw [HX.out] at h
          exact (Prod.mk.injEq _ _ _ _).mp h
        clear hck hok hbw hm2 hm hc HH
        go_wp2_with fail
        rw [Exit.noGoto_ret]
        go_ret2
        exact ⟨rfl, HBW.out⟩
      · by_cases h2 : 57 < c.toNat
        · have d1 : decide ((c.toNat : Int) < 48) = false := by simp; omega
          have d2 : decide ((57 : Int) < (c.toNat : Int)) = true := by simp; omega
          have HX := Lib.hid (readN_sign s.data.toList k hkl (by rw [hck]; simp [isDg]; omega))
          obtain ⟨rfl, rfl⟩ : 0 = a ∧ 60 = b := by
            have h := HH.out
            unfold readR at h
            rw [HX.out] at h
            exact (Prod.mk.injEq _ _ _ _).mp h
          clear hck hok hbw hm2 hm hc HH
          go_wp2_with fail
          rw [Exit.noGoto_ret]
          go_ret2
          exact ⟨rfl, HBW.out⟩
        · have d1 : decide ((c.toNat : Int) < 48) = false := by simp; omega
          have d2 : decide ((57 : Int) < (c.toNat : Int)) = false := by simp; omega
          by_cases h0 : 0 < k
          · by_cases h3 : m = 0
            · subst h3
              have HX := Lib.hid (readN_zero s.data.toList k hkl h0 hok.1 hm)
              obtain ⟨rfl, rfl⟩ : 0 = a ∧ 60 = b := by
                have h := HH.out
                unfold readR at h
                rw [HX.out] at h
                exact (Prod.mk.injEq _ _ _ _).mp h
              clear hck hok hbw hm2 hm hc HH
              go_wp2_with fail
              rw [Exit.noGoto_ret]
              go_ret2
              exact ⟨rfl, HBW.out⟩
            · have d4 : ((m : Int) == 0) = false := by simp; omega
              have hv : val (s.data.toList.take (k + 1)) = 10 * m + (c.toNat - 48) := by rw [List.take_succ_eq_append_getElem hkl, hck, val_snoc, hm]
              by_cases h5 : (9007199254740991 - ((c.toNat : Int) - 48)) / 10 < (m : Int)
              · have d5 : decide ((9007199254740991 - ((c.toNat : Int) - 48)) / 10 < (m : Int)) = true := by simpa using h5
                have HX := Lib.hid (readN_great s.data.toList (k + 1) (by rw [hv]; unfold most; omega))
                obtain ⟨rfl, rfl⟩ : 0 = a ∧ 60 = b := by
                  have h := HH.out
                  unfold readR at h
                  rw [HX.out] at h
                  exact (Prod.mk.injEq _ _ _ _).mp h
                clear hck hok hbw hm2 hm hc HH hv h5
                go_wp2_with fail
                rw [Exit.noGoto_ret]
                go_ret2
                exact ⟨rfl, HBW.out⟩
              · have d5 : decide ((9007199254740991 - ((c.toNat : Int) - 48)) / 10 < (m : Int)) = false := by simpa using h5
                have HK := Lib.hid (okP_step s.data.toList k hkl hok (by rw [hck]; simp [isDg]; omega) (Or.inr (by omega)) (by rw [hv]; unfold most; omega))
                have bm : (0 : Int) ≤ 10 * (m : Int) + ((c.toNat : Int) - 48) ∧ 10 * (m : Int) + ((c.toNat : Int) - 48) ≤ 9007199254740991 := by omega
                have HV : Hid (((val (s.data.toList.take (k + 1)) : Nat) : Int) = 10 * (m : Int) + ((c.toNat : Int) - 48)) := Lib.hid (by rw [hv]; omega)
                clear hck hok hbw hm2 hm hc hv h5
                go_wp2_with fail
                go_roundw
                case rel => exact ⟨k + 1, hlt, by go_num, by rw [HV.out], rfl, HK.out, HBW.out⟩
                case measure => simp [intOf]; omega
          · have hk0 : k = 0 := by omega
            have HK0 := Lib.hid hk0
            clear hk0
            have hv : val (s.data.toList.take (k + 1)) = 10 * m + (c.toNat - 48) := by rw [List.take_succ_eq_append_getElem hkl, hck, val_snoc, hm]
            by_cases h5 : (9007199254740991 - ((c.toNat : Int) - 48)) / 10 < (m : Int)
            · have d5 : decide ((9007199254740991 - ((c.toNat : Int) - 48)) / 10 < (m : Int)) = true := by simpa using h5
              have HX := Lib.hid (readN_great s.data.toList (k + 1) (by rw [hv]; unfold most; omega))
              obtain ⟨rfl, rfl⟩ : 0 = a ∧ 60 = b := by
                have h := HH.out
                unfold readR at h
                rw [HX.out] at h
                exact (Prod.mk.injEq _ _ _ _).mp h
              clear hck hok hbw hm2 hm hc HH hv h5
              go_wp2_with fail
              rw [Exit.noGoto_ret]
              go_ret2
              exact ⟨rfl, HBW.out⟩
            · have d5 : decide ((9007199254740991 - ((c.toNat : Int) - 48)) / 10 < (m : Int)) = false := by simpa using h5
              have HK := Lib.hid (okP_step s.data.toList k hkl hok (by rw [hck]; simp [isDg]; omega) (Or.inl HK0.out) (by rw [hv]; unfold most; omega))
              have bm : (0 : Int) ≤ 10 * (m : Int) + ((c.toNat : Int) - 48) ∧ 10 * (m : Int) + ((c.toNat : Int) - 48) ≤ 9007199254740991 := by omega
              have HV : Hid (((val (s.data.toList.take (k + 1)) : Nat) : Int) = 10 * (m : Int) + ((c.toNat : Int) - 48)) := Lib.hid (by rw [hv]; omega)
              clear hck hok hbw hm2 hm hc hv h5
              go_wp2_with fail
              go_roundw
              case rel => exact ⟨k + 1, hlt, by go_num, by rw [HV.out], rfl, HK.out, HBW.out⟩
              case measure => simp [intOf]; omega
    · obtain rfl : k = s.size := by omega
      have h := HH.out
      unfold readR at h
      cases ie
      · have h0 := of_decide_eq_false HIS.out
        have hl := ba_len6 s
        rw [okP_end s.data.toList (by omega) (by rw [hl]; exact hok)] at h
        obtain ⟨hv, rfl⟩ : (val s.data.toList : Int) = a ∧ 0 = b := (Prod.mk.injEq _ _ _ _).mp h
        have he : s.data.toList.take s.size = s.data.toList := List.take_of_length_le (by omega)
        rw [he, hv]
        clear hok h HH hv he
        go_wp2_with fail
        rw [Exit.noGoto_ret]
        go_ret2
        exact ⟨rfl, hbw⟩
      · have h0 := of_decide_eq_true HIS.out
        have hl := ba_len6 s
        have hn : s.data.toList = [] := List.eq_nil_of_length_eq_zero (by omega)
        rw [hn] at h
        obtain ⟨rfl, rfl⟩ : 0 = a ∧ 60 = b := (Prod.mk.injEq _ _ _ _).mp h
        clear hok h HH hn hl
        go_wp2_with fail
        rw [Exit.noGoto_ret]
        go_ret2
        exact ⟨rfl, hbw⟩
end Hx
end Go.Proofs.YtjdeomlpipdopaaDoor
