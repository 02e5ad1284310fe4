/-
  The contract of tidewaiterref05.One.
-/
import Derived.Test.YtichboamakgabaaTextO
import Derived.BigQuiet
import Derived.Deep.RegionWith
namespace Go.Proofs.Ytichboamakgabaa
open Go.RowKit
namespace Hx
open Tx
set_option linter.unusedVariables false
theorem ba_eq5 (s : ByteArray) : s = ⟨s.data.toList.toArray⟩ := by cases s; simp
theorem ba_len5 (s : ByteArray) : s.data.toList.length = s.size := by rw [Array.length_toList]; rfl
theorem seq_b5 (a b : ByteArray) : (a.toList == b.toList) = decide (a = b) := by
  rw [Bool.eq_iff_iff]
  simp only [beq_iff_eq, decide_eq_true_eq, ByteArray.toList_eq]
  constructor
  · intro h
    cases a; cases b
    simpa using h
  · intro h; rw [h]
theorem extract_list (s : ByteArray) (k : Nat) : s.extract 0 k = ⟨(s.data.toList.take k).toArray⟩ := by
  have := ByteArray.extract_mk s.data.toList 0 k
  rw [← ba_eq5] at this
  rw [this]
  simp
theorem pow_le (j : Nat) (h : j ≤ 3) : 64 ^ j ≤ 262144 := by
  have : j = 0 ∨ j = 1 ∨ j = 2 ∨ j = 3 := by omega
  rcases this with rfl | rfl | rfl | rfl <;> decide

theorem below_dn5 {B : Nat} {a w : World} (h : Below B a w) (q : Nat) : Below B a (w.drewN q) := ⟨h.os, h.tape, h.output, h.size, h.block⟩
theorem below_of_drew5 {W w : World} (h : Below W.drew.heap.size W.drew w) : Below W.heap.size W w := ⟨h.os, h.tape, h.output, h.size, h.block⟩
set_option maxHeartbeats 2000000 in
set_option maxRecDepth 100000 in
theorem one_core (s : ByteArray) (a : UInt8) (r : List UInt8) (k b v : Nat) (w : World) (hs : s.data.toList = a :: r) (hh : hd a.toNat = (k, b)) (h0 : 0 < k) (hk : k ≤ s.size) (hv : fd b (r.take (k - 1)) = v) (hm : s.size ≤ 1000000) (n m : Nat)
    (hres : (may v = true ∧ enc v = s.data.toList.take k ∧ n = v ∧ m = k) ∨ (¬ (may v = true ∧ enc v = s.data.toList.take k) ∧ n = 0 ∧ m = 0)) :
    Calls Try.prog 49 #[.string s] w fun e w' => e = .returned (.tuple #[.int .i64 n, .int .i64 m]) ∧ Below w.heap.size w w' := by
  have hle := hd_le a.toNat
  rw [hh] at hle
  have hk4 : k ≤ 4 := hle.1
  have hb7 : b ≤ 127 := hle.2
  have hsz : 0 < s.size := by omega
  have hlen : r.length + 1 = s.size := by rw [← ba_len5, hs]; rfl
  have hat : ∀ (h : 0 < s.size), s[0]'h = a := by
    intro h
    have e : s.data.toList[0]? = some a := by rw [hs]; rfl
    have e2 : s.data.toList[0]? = some (s[0]'h) := by
      rw [List.getElem?_eq_getElem (by rw [ba_len5]; exact h)]
      simp [ByteArray.getElem_eq_getElem_data]
    rw [e] at e2
    cases e2
    rfl
  have hgo : ∀ j (h : j < s.size), 0 < j → r[j - 1]? = some (s[j]'h) := by
    intro j h hj
    have e2 : s.data.toList[j]? = some (s[j]'h) := by
      rw [List.getElem?_eq_getElem (by rw [ba_len5]; exact h)]
      simp [ByteArray.getElem_eq_getElem_data]
    rw [hs] at e2
    obtain ⟨i, rfl⟩ : ∃ i, j = i + 1 := ⟨j - 1, by omega⟩
    simpa using e2
  have ha := a.toNat_lt
  have HAT := hat
  have HGO := Lib.hid hgo
  have HH := Lib.hid hh
  have HV := Lib.hid hv
  have HRES := Lib.hid hres
  have HS := Lib.hid hs
  have HLEN := Lib.hid hlen
  have HK := Lib.hid (And.intro h0 (And.intro hk (And.intro hk4 hb7)))
  have hne : (s.toList == (⟨#[]⟩ : ByteArray).toList) = false := by
    rw [seq_b5]
    simp only [decide_eq_false_iff_not]
    rintro rfl
    exact absurd hsz (by decide)
  have hne2 : (s.toList == []) = false := by
    rw [ByteArray.toList_eq, hs]
    rfl
  have g0 : IntKind.i64.wrap (a.toNat : Int) = (a.toNat : Int) := IntWalk.i64_in _ (by omega)
  have c0 : ((k : Int) == 0) = false := by simp; omega
  have c1 : decide ((s.size : Int) < (k : Int)) = false := by simp; omega
  have c2 : ¬ (s.size < k) := by omega
  clear hgo hh hv hres hs hlen hle hat
  go_enter Try.func49, Try.ntmps49
  go_wp2_with (first
    | (go_at_call 54; (with_reducible refine (head_any a.toNat w k b ha HH.out).mono ?_); rintro e w1 ⟨rfl, rfl⟩)
    | fail)
  clear g0 c0 c1 c2 hne hne2 HAT
  go_loop [5, 6] (fun v i => ∃ j m p : Nat, 1 ≤ j ∧ j ≤ k ∧ i = .int .i64 j ∧ v = .int .i64 m ∧ fd b (r.take (j - 1)) = m ∧ 64 ^ (j - 1) = p ∧ m + 1 ≤ 128 * p) (fun _ i => k - (intOf i).toNat)
  case atStart => exact ⟨1, b, 1, Nat.le_refl _, h0, rfl, rfl, rfl, rfl, by omega⟩
  case round =>
    obtain ⟨j, x, p, hj1, hjk, rfl, rfl, hx, hp, hxp⟩ := hrel
    have hp3 : p ≤ 262144 := by rw [← hp]; exact pow_le _ (by omega)
    by_cases hlt : j < k
    · obtain ⟨c, hc⟩ : ∃ c, s[j]'(by omega) = c := ⟨_, rfl⟩
      have hcj : ∀ (h : j < s.size), s[j]'h = c := fun h => hc
      have hrc : r[j - 1]? = some c := by rw [← hc]; exact HGO.out j (by omega) (by omega)
      have hcl := c.toNat_lt
      obtain ⟨q, hq⟩ : ∃ q, c.toNat % 64 = q := ⟨_, rfl⟩
      obtain ⟨y, hy⟩ : ∃ y, 64 * x + q = y := ⟨_, rfl⟩
      have g0 : IntKind.i64.wrap (c.toNat : Int) = (c.toNat : Int) := IntWalk.i64_in _ (by omega)
      have g1 : (c.toNat : Int).tmod 64 = (q : Int) := by rw [Int.tmod_eq_emod_of_nonneg (by omega)]; omega
      have g2 : IntKind.i64.wrap (64 * (x : Int)) = 64 * (x : Int) := IntWalk.i64_in _ (by omega)
      have g3 : IntKind.i64.wrap (64 * (x : Int) + (q : Int)) = (y : Int) := by rw [IntWalk.i64_in _ (by omega)]; omega
      have g4 : IntKind.i64.wrap (q : Int) = (q : Int) := IntWalk.i64_in _ (by omega)
      have bj : (0 : Int) ≤ (j : Int) ∧ (j : Int) < (s.size : Int) := by omega
      have bj' : j < s.size := by omega
      have hnx : fd b (r.take (j + 1 - 1)) = y := by
        have e : j + 1 - 1 = (j - 1) + 1 := by omega
        rw [e, List.take_add_one, hrc, Option.toList_some, fd_snoc, hx, hq, hy]
      have hnp : 64 ^ (j + 1 - 1) = p * 64 := by
        have e : j + 1 - 1 = (j - 1) + 1 := by omega
        rw [e, Nat.pow_succ, hp]
      have HNX := Lib.hid hnx
      have HNP := Lib.hid hnp
      have HYB : Hid (y + 1 ≤ 128 * (p * 64)) := Lib.hid (by omega)
      clear hc hrc hq hy hnx hnp hx hp
      go_wp2
      go_round
      case rel => exact ⟨j + 1, y, p * 64, by omega, by omega, by go_num, rfl, HNX.out, HNP.out, HYB.out⟩
      case measure => simp [intOf]; omega
    · obtain rfl : j = k := by omega
      rw [HV.out] at hx
      subst hx
      have hvb : v ≤ 1114111 ∨ ¬ v ≤ 1114111 := by omega
      clear hp hlt hjk
      cases hmv : may v
      · as_aux_lemma =>
        have HMV := Lib.hid hmv
        have hr2 : n = 0 ∧ m = 0 := by
          rcases HRES.out with ⟨h1, _⟩ | ⟨_, h2⟩
          · rw [hmv] at h1; cases h1
          · exact h2
        obtain ⟨rfl, rfl⟩ := hr2
        clear hmv HRES
        go_wp2_with fail
        go_quiet ((go_at_call 55; exact Calls.quiet_of_same ((rmay_any v false _ HMV.out).mono fun e w' h => ⟨h.1, h.2.symm⟩)))
        go_wp2_with fail
        go_ret2
        exact ⟨rfl, below_dn5 (Below.refl _ _) _⟩
      · as_aux_lemma =>
        have hv1 := (may_sv hmv).2.1
        have HMV := Lib.hid hmv
        have HV1 : Hid (v ≤ 1114111) := Lib.hid (by omega)
        obtain ⟨t, ht⟩ : ∃ t, s.extract 0 j = t := ⟨_, rfl⟩
        have htl : t = ⟨(s.data.toList.take j).toArray⟩ := by rw [← ht]; exact extract_list s j
        have hbk : (0 : Int) ≤ (j : Int) ∧ (j : Int) ≤ (s.size : Int) := by have := HK.out; omega
        have hbk' : j ≤ s.size := by have := HK.out; omega
        obtain ⟨E, hE⟩ : ∃ E, enc v = E := ⟨_, rfl⟩
        have HB : Hid (∀ W : World, Calls Try.prog 56 #[.int .i64 v] W (BytesTo E W)) := fun W => by rw [← hE]; exact rbytes5_any v W HV1.out
        obtain ⟨lE, hlE⟩ : ∃ lE, E.length = lE := ⟨_, rfl⟩
        have HLE := Lib.hid hlE
        obtain ⟨TS, hTS⟩ : ∃ TS, (⟨E.toArray⟩ : ByteArray) = TS := ⟨_, rfl⟩
        have hqb : enc v = s.data.toList.take j ↔ TS = t := by
          rw [htl, hE, ← hTS]
          constructor
          · intro h; rw [h]
          · intro h
            have := congrArg (fun b : ByteArray => b.data.toList) h
            simpa using this
        have HTS := Lib.hid hTS
        by_cases hqt : TS ≠ t
        · have hr2 : n = 0 ∧ m = 0 := by
            rcases HRES.out with ⟨_, h1, _⟩ | ⟨_, h2⟩
            · exact absurd (hqb.1 h1) hqt
            · exact h2
          have hq : (TS.toList == t.toList) = false := by rw [seq_b5]; simpa using hqt
          obtain ⟨rfl, rfl⟩ := hr2
          clear hmv HRES hv1 htl hE hlE hqb hTS hqt
          go_wp2_with fail
          refine wp_region_noPanic ?_
          refine wp_region_held_drew (S := fun _ => True) (by kernel_rfl) trivial (fun hHeld => ?_)
          refine takeD (i := 0) (v := .int .i64 v) rfl (by kernel_rfl) (by kernel_rfl) (by kernel_rfl) (fun _ _ _ h => h) (Or.inl ⟨by rfl, ?_⟩) hHeld ?_
          · intro w' hSw; go_simp
          try simp only [Act.put, List.setIfInBounds_toArray, List.set_cons_zero, List.set_cons_succ]
          refine wpAnyH_ready (rs := [1]) (by kernel_rfl) (by simp) ?_
          refine AllReadyH.cons rfl (fun K hK => ?_) AllReadyH.nil
          go_simp
          go_at_call 55; (with_reducible refine (rmay_any v true _ HMV.out).mono ?_); rintro e w2 ⟨rfl, rfl⟩
          go_wp2_with fail
          refine hK.out _ _ trivial (fun hHeld => ?_)
          clear hK K
          try simp only [Act.put, List.setIfInBounds_toArray, List.set_cons_zero, List.set_cons_succ]
          refine takeD (i := 2) (v := .bool false) rfl (by kernel_rfl) (by kernel_rfl) (by kernel_rfl) (fun _ _ _ h => h) (Or.inl ⟨by rfl, ?_⟩) hHeld ?_
          · intro w' hSw; go_simp
          try simp only [Act.put, List.setIfInBounds_toArray, List.set_cons_zero, List.set_cons_succ]
          refine takeD (i := 3) (v := .bool false) rfl (by kernel_rfl) (by kernel_rfl) (by kernel_rfl) (fun _ _ _ h => h) (Or.inl ⟨by rfl, ?_⟩) hHeld ?_
          · intro w' hSw; go_simp
          try simp only [Act.put, List.setIfInBounds_toArray, List.set_cons_zero, List.set_cons_succ]
          refine takeD (i := 4) (v := .int .i64 v) rfl (by kernel_rfl) (by kernel_rfl) (by kernel_rfl) (fun _ _ _ h => h) (Or.inl ⟨by rfl, ?_⟩) hHeld ?_
          · intro w' hSw; go_simp
          try simp only [Act.put, List.setIfInBounds_toArray, List.set_cons_zero, List.set_cons_succ]
          refine takeD (i := 7) (v := .string s) rfl (by kernel_rfl) (by kernel_rfl) (by kernel_rfl) (fun _ _ _ h => h) (Or.inl ⟨by rfl, ?_⟩) hHeld ?_
          · intro w' hSw; go_simp
          try simp only [Act.put, List.setIfInBounds_toArray, List.set_cons_zero, List.set_cons_succ]
          refine takeD (i := 8) (v := .int .i64 j) rfl (by kernel_rfl) (by kernel_rfl) (by kernel_rfl) (fun _ _ _ h => h) (Or.inl ⟨by rfl, ?_⟩) hHeld ?_
          · intro w' hSw; go_simp
          try simp only [Act.put, List.setIfInBounds_toArray, List.set_cons_zero, List.set_cons_succ]
          refine takeD (i := 9) (v := .string t) rfl (by kernel_rfl) (by kernel_rfl) (by kernel_rfl) (fun _ _ _ h => h) (Or.inl ⟨by rfl, ?_⟩) hHeld ?_
          · intro w' hSw; go_simp
          try simp only [Act.put, List.setIfInBounds_toArray, List.set_cons_zero, List.set_cons_succ]
          refine wpAnyH_ready (rs := [5]) (by kernel_rfl) (by simp) ?_
          refine AllReadyH.cons rfl (fun K hK => ?_) AllReadyH.nil
          go_simp
          go_at_call 56; (with_reducible refine (HB.out _).mono ?_); rintro e w3 ⟨hb3, g3, c3, rfl, hg3, hr3⟩; have hb3' := below_of_drew5 hb3; have cv := conv_str (P := Try.prog) (n := E.length) (c := c3) hr3 rfl Try.underlying40 Try.underlying5 Try.underlying9; rw [HTS.out] at cv
          go_wp2_with fail
          refine hK.out _ _ trivial (fun hHeld => ?_)
          clear hK K
          try simp only [Act.put, List.setIfInBounds_toArray, List.set_cons_zero, List.set_cons_succ]
          refine wpAnyH_ready (rs := [6]) (by kernel_rfl) (by simp) ?_
          refine AllReadyH.cons rfl (fun K hK => ?_) AllReadyH.nil
          go_simp
          refine hK.out _ _ trivial (fun hHeld => ?_)
          clear hK K
          try simp only [Act.put, List.setIfInBounds_toArray, List.set_cons_zero, List.set_cons_succ]
          refine takeD (i := 10) (v := .bool true) rfl (by kernel_rfl) (by kernel_rfl) (by kernel_rfl) (fun _ _ _ h => h) (Or.inl ⟨by rfl, ?_⟩) hHeld ?_
          · intro w' hSw; go_simp
          try simp only [Act.put, List.setIfInBounds_toArray, List.set_cons_zero, List.set_cons_succ]
          refine takeD (i := 11) (v := .bool true) rfl (by kernel_rfl) (by kernel_rfl) (by kernel_rfl) (fun _ _ _ h => h) (Or.inl ⟨by rfl, ?_⟩) hHeld ?_
          · intro w' hSw; go_simp
          try simp only [Act.put, List.setIfInBounds_toArray, List.set_cons_zero, List.set_cons_succ]
          refine wpAnyH_done (by kernel_rfl) ?_ _
          refine NoPanic.normal ?_
          go_wp2_with fail
          go_ret2
          exact ⟨rfl, hb3'⟩
        · have hr2 : n = v ∧ m = j := by
            rcases HRES.out with ⟨_, _, h1⟩ | ⟨h2, _⟩
            · exact h1
            · exact absurd ⟨hmv, hqb.2 (Classical.not_not.1 hqt)⟩ h2
          obtain rfl : TS = t := Classical.not_not.1 hqt
          obtain ⟨rfl, rfl⟩ := hr2
          clear hmv HRES hv1 htl hE hlE hqb hTS hqt
          go_wp2_with fail
          refine wp_region_noPanic ?_
          refine wp_region_held_drew (S := fun _ => True) (by kernel_rfl) trivial (fun hHeld => ?_)
          refine takeD (i := 0) (v := .int .i64 n) rfl (by kernel_rfl) (by kernel_rfl) (by kernel_rfl) (fun _ _ _ h => h) (Or.inl ⟨by rfl, ?_⟩) hHeld ?_
          · intro w' hSw; go_simp
          try simp only [Act.put, List.setIfInBounds_toArray, List.set_cons_zero, List.set_cons_succ]
          refine wpAnyH_ready (rs := [1]) (by kernel_rfl) (by simp) ?_
          refine AllReadyH.cons rfl (fun K hK => ?_) AllReadyH.nil
          go_simp
          go_at_call 55; (with_reducible refine (rmay_any n true _ HMV.out).mono ?_); rintro e w2 ⟨rfl, rfl⟩
          go_wp2_with fail
          refine hK.out _ _ trivial (fun hHeld => ?_)
          clear hK K
          try simp only [Act.put, List.setIfInBounds_toArray, List.set_cons_zero, List.set_cons_succ]
          refine takeD (i := 2) (v := .bool false) rfl (by kernel_rfl) (by kernel_rfl) (by kernel_rfl) (fun _ _ _ h => h) (Or.inl ⟨by rfl, ?_⟩) hHeld ?_
          · intro w' hSw; go_simp
          try simp only [Act.put, List.setIfInBounds_toArray, List.set_cons_zero, List.set_cons_succ]
          refine takeD (i := 3) (v := .bool false) rfl (by kernel_rfl) (by kernel_rfl) (by kernel_rfl) (fun _ _ _ h => h) (Or.inl ⟨by rfl, ?_⟩) hHeld ?_
          · intro w' hSw; go_simp
          try simp only [Act.put, List.setIfInBounds_toArray, List.set_cons_zero, List.set_cons_succ]
          refine takeD (i := 4) (v := .int .i64 n) rfl (by kernel_rfl) (by kernel_rfl) (by kernel_rfl) (fun _ _ _ h => h) (Or.inl ⟨by rfl, ?_⟩) hHeld ?_
          · intro w' hSw; go_simp
          try simp only [Act.put, List.setIfInBounds_toArray, List.set_cons_zero, List.set_cons_succ]
          refine takeD (i := 7) (v := .string s) rfl (by kernel_rfl) (by kernel_rfl) (by kernel_rfl) (fun _ _ _ h => h) (Or.inl ⟨by rfl, ?_⟩) hHeld ?_
          · intro w' hSw; go_simp
          try simp only [Act.put, List.setIfInBounds_toArray, List.set_cons_zero, List.set_cons_succ]
          refine takeD (i := 8) (v := .int .i64 m) rfl (by kernel_rfl) (by kernel_rfl) (by kernel_rfl) (fun _ _ _ h => h) (Or.inl ⟨by rfl, ?_⟩) hHeld ?_
          · intro w' hSw; go_simp
          try simp only [Act.put, List.setIfInBounds_toArray, List.set_cons_zero, List.set_cons_succ]
          refine takeD (i := 9) (v := .string TS) rfl (by kernel_rfl) (by kernel_rfl) (by kernel_rfl) (fun _ _ _ h => h) (Or.inl ⟨by rfl, ?_⟩) hHeld ?_
          · intro w' hSw; go_simp
          try simp only [Act.put, List.setIfInBounds_toArray, List.set_cons_zero, List.set_cons_succ]
          refine wpAnyH_ready (rs := [5]) (by kernel_rfl) (by simp) ?_
          refine AllReadyH.cons rfl (fun K hK => ?_) AllReadyH.nil
          go_simp
          go_at_call 56; (with_reducible refine (HB.out _).mono ?_); rintro e w3 ⟨hb3, g3, c3, rfl, hg3, hr3⟩; have hb3' := below_of_drew5 hb3; have cv := conv_str (P := Try.prog) (n := E.length) (c := c3) hr3 rfl Try.underlying40 Try.underlying5 Try.underlying9; rw [HTS.out] at cv
          go_wp2_with fail
          refine hK.out _ _ trivial (fun hHeld => ?_)
          clear hK K
          try simp only [Act.put, List.setIfInBounds_toArray, List.set_cons_zero, List.set_cons_succ]
          refine wpAnyH_ready (rs := [6]) (by kernel_rfl) (by simp) ?_
          refine AllReadyH.cons rfl (fun K hK => ?_) AllReadyH.nil
          go_simp
          refine hK.out _ _ trivial (fun hHeld => ?_)
          clear hK K
          try simp only [Act.put, List.setIfInBounds_toArray, List.set_cons_zero, List.set_cons_succ]
          refine takeD (i := 10) (v := .bool false) rfl (by kernel_rfl) (by kernel_rfl) (by kernel_rfl) (fun _ _ _ h => h) (Or.inl ⟨by rfl, ?_⟩) hHeld ?_
          · intro w' hSw; go_simp
          try simp only [Act.put, List.setIfInBounds_toArray, List.set_cons_zero, List.set_cons_succ]
          refine takeD (i := 11) (v := .bool false) rfl (by kernel_rfl) (by kernel_rfl) (by kernel_rfl) (fun _ _ _ h => h) (Or.inl ⟨by rfl, ?_⟩) hHeld ?_
          · intro w' hSw; go_simp
          try simp only [Act.put, List.setIfInBounds_toArray, List.set_cons_zero, List.set_cons_succ]
          refine wpAnyH_done (by kernel_rfl) ?_ _
          refine NoPanic.normal ?_
          go_wp2_with fail
          go_ret2
          exact ⟨rfl, hb3'⟩

set_option maxRecDepth 100000 in
theorem one_empty (w : World) : Calls Try.prog 49 #[.string ⟨#[]⟩] w fun e w' => e = .returned (.tuple #[.int .i64 0, .int .i64 0]) ∧ Below w.heap.size w w' := by
  go_enter Try.func49, Try.ntmps49
  go_wp2
  go_ret2
  exact ⟨rfl, Below.refl _ _⟩
set_option maxHeartbeats 1000000 in
set_option maxRecDepth 100000 in
theorem one_refuse (s : ByteArray) (a : UInt8) (r : List UInt8) (k b : Nat) (w : World) (hs : s.data.toList = a :: r) (hh : hd a.toNat = (k, b)) (h0 : k = 0 ∨ s.size < k) :
    Calls Try.prog 49 #[.string s] w fun e w' => e = .returned (.tuple #[.int .i64 0, .int .i64 0]) ∧ Below w.heap.size w w' := by
  have hlen : r.length + 1 = s.size := by rw [← ba_len5, hs]; rfl
  have hsz : 0 < s.size := by omega
  have hat : ∀ (h : 0 < s.size), s[0]'h = a := by
    intro h
    have e : s.data.toList[0]? = some a := by rw [hs]; rfl
    have e2 : s.data.toList[0]? = some (s[0]'h) := by
      rw [List.getElem?_eq_getElem (by rw [ba_len5]; exact h)]
      simp [ByteArray.getElem_eq_getElem_data]
    rw [e] at e2
    cases e2
    rfl
  have ha := a.toNat_lt
  have hne : (s.toList == (⟨#[]⟩ : ByteArray).toList) = false := by
    rw [seq_b5]
    simp only [decide_eq_false_iff_not]
    rintro rfl
    exact absurd hsz (by decide)
  have hne2 : (s.toList == []) = false := by
    rw [ByteArray.toList_eq, hs]
    rfl
  have g0 : IntKind.i64.wrap (a.toNat : Int) = (a.toNat : Int) := IntWalk.i64_in _ (by omega)
  have HAT := hat
  have HH := Lib.hid hh
  rcases h0 with rfl | h0
  · clear hh hs hlen hat
    go_enter Try.func49, Try.ntmps49
    go_wp2_with (first
      | (go_at_call 54; (with_reducible refine (head_any a.toNat w 0 b ha HH.out).mono ?_); rintro e w1 ⟨rfl, rfl⟩)
      | fail)
    go_ret2
    exact ⟨rfl, Below.refl _ _⟩
  · have c0 : ((k : Int) == 0) = false := by simp; omega
    have c1 : decide ((s.size : Int) < (k : Int)) = true := by simp; omega
    clear hh hs hlen hat
    go_enter Try.func49, Try.ntmps49
    go_wp2_with (first
      | (go_at_call 54; (with_reducible refine (head_any a.toNat w k b ha HH.out).mono ?_); rintro e w1 ⟨rfl, rfl⟩)
      | fail)
    go_ret2
    exact ⟨rfl, Below.refl _ _⟩
/-- ref.One. -/
theorem one_any (s : ByteArray) (w : World) (hm : s.size ≤ 1000000) (n m : Nat) (h : (one s.data.toList).getD (0, 0) = (n, m)) :
    Calls Try.prog 49 #[.string s] w fun e w' => e = .returned (.tuple #[.int .i64 n, .int .i64 m]) ∧ Below w.heap.size w w' := by
  cases hs : s.data.toList with
  | nil =>
    obtain rfl : s = ⟨#[]⟩ := by rw [ba_eq5 s, hs]
    obtain ⟨rfl, rfl⟩ : 0 = n ∧ 0 = m := by
      rw [hs] at h
      cases h
      exact ⟨rfl, rfl⟩
    exact one_empty w
  | cons a r =>
    obtain ⟨k, b, hh⟩ : ∃ k b, hd a.toNat = (k, b) := ⟨_, _, rfl⟩
    have hlen : r.length + 1 = s.size := by rw [← ba_len5, hs]; rfl
    by_cases h0 : k = 0 ∨ s.size < k
    · have hno : one s.data.toList = none := by
        cases ho : one s.data.toList with
        | none => rfl
        | some q =>
          obtain ⟨n', k'⟩ := q
          obtain ⟨a', r', b', e1, e2, h1, h2, _⟩ := one_ref ho
          rw [hs] at e1
          cases e1
          rw [hh] at e2
          cases e2
          rw [ba_len5] at h2
          omega
      rw [hno] at h
      obtain ⟨rfl, rfl⟩ : 0 = n ∧ 0 = m := by cases h; exact ⟨rfl, rfl⟩
      exact one_refuse s a r k b w hs hh h0
    · refine one_core s a r k b _ w hs hh (by omega) (by omega) rfl hm n m ?_
      by_cases hq : may (fd b (r.take (k - 1)) : Nat) = true ∧ enc (fd b (r.take (k - 1))) = s.data.toList.take k
      · have ho := one_ref2 (k := k) hq.1 (by rw [ba_len5]; omega) hq.2
        rw [ho] at h
        cases h
        exact .inl ⟨hq.1, hq.2, rfl, rfl⟩
      · have hno : one s.data.toList = none := by
          cases ho : one s.data.toList with
          | none => rfl
          | some q =>
            obtain ⟨n', k'⟩ := q
            obtain ⟨a', r', b', e1, e2, h1, h2, h3, h4, h5⟩ := one_ref ho
            rw [hs] at e1
            cases e1
            rw [hh] at e2
            cases e2
            rw [← h3] at h4 h5
            exact absurd ⟨h4, h5⟩ hq
        rw [hno] at h
        cases h
        exact .inr ⟨hq, rfl, rfl⟩
end Hx
end Go.Proofs.Ytichboamakgabaa
