/-
  Texts of one seat, put together: TextS, WordM, MemG, TextT, TextU, TextP.
-/
import Derived.Test.YtkmaogafknehgaaG03
import Derived.BigQuiet
import Derived.Deep.RegionWith
import Derived.Laws.BitsAllLaws
import Derived.Test.YtkmaogafknehgaaG00
import Derived.Deep.AppendLies
namespace Go.Proofs.Ytkmaogafknehgaa
open Go.RowKit
namespace Hx
open Tx
set_option linter.unusedVariables false
theorem ba_eq5 (s : ByteArray) : s = ⟨s.data.toList.toArray⟩ := by cases s; simp
theorem ba_len5 (s : ByteArray) : s.data.toList.length = s.size := by rw [Array.length_toList]; rfl
theorem seq_b5 (a b : ByteArray) : (a.toList == b.toList) = decide (a = b) := by
  rw [Bool.eq_iff_iff]
  simp only [beq_iff_eq, decide_eq_true_eq, ByteArray.toList_eq]
  constructor
  · intro h
    cases a; cases b
    simpa using h
  · intro h; rw [h]
theorem extract_list (s : ByteArray) (k : Nat) : s.extract 0 k = ⟨(s.data.toList.take k).toArray⟩ := by
  have := ByteArray.extract_mk s.data.toList 0 k
  rw [← ba_eq5] at this
  rw [this]
  simp
theorem pow_le (j : Nat) (h : j ≤ 3) : 64 ^ j ≤ 262144 := by
  have : j = 0 ∨ j = 1 ∨ j = 2 ∨ j = 3 := by omega
  rcases this with rfl | rfl | rfl | rfl <;> decide

theorem below_dn5 {B : Nat} {a w : World} (h : Below B a w) (q : Nat) : Below B a (w.drewN q) := ⟨h.os, h.tape, h.output, h.size, h.block⟩
theorem below_of_drew5 {W w : World} (h : Below W.drew.heap.size W.drew w) : Below W.heap.size W w := ⟨h.os, h.tape, h.output, h.size, h.block⟩
set_option maxHeartbeats 2000000 in
set_option maxRecDepth 100000 in
theorem one_core (s : ByteArray) (a : UInt8) (r : List UInt8) (k b v : Nat) (w : World) (hs : s.data.toList = a :: r) (hh : hd a.toNat = (k, b)) (h0 : 0 < k) (hk : k ≤ s.size) (hv : fd b (r.take (k - 1)) = v) (hm : s.size ≤ 1000000) (n m : Nat)
    (hres : (may v = true ∧ enc v = s.data.toList.take k ∧ n = v ∧ m = k) ∨ (¬ (may v = true ∧ enc v = s.data.toList.take k) ∧ n = 0 ∧ m = 0)) :
    Calls Try.prog 76 #[.string s] w fun e w' => e = .returned (.tuple #[.int .i64 n, .int .i64 m]) ∧ Below w.heap.size w w' := by
  have hle := hd_le a.toNat
  rw [hh] at hle
  have hk4 : k ≤ 4 := hle.1
  have hb7 : b ≤ 127 := hle.2
  have hsz : 0 < s.size := by omega
  have hlen : r.length + 1 = s.size := by rw [← ba_len5, hs]; rfl
  have hat : ∀ (h : 0 < s.size), s[0]'h = a := by
    intro h
    have e : s.data.toList[0]? = some a := by rw [hs]; rfl
    have e2 : s.data.toList[0]? = some (s[0]'h) := by
      rw [List.getElem?_eq_getElem (by rw [ba_len5]; exact h)]
      simp [ByteArray.getElem_eq_getElem_data]
    rw [e] at e2
    cases e2
    rfl
  have hgo : ∀ j (h : j < s.size), 0 < j → r[j - 1]? = some (s[j]'h) := by
    intro j h hj
    have e2 : s.data.toList[j]? = some (s[j]'h) := by
      rw [List.getElem?_eq_getElem (by rw [ba_len5]; exact h)]
      simp [ByteArray.getElem_eq_getElem_data]
    rw [hs] at e2
    obtain ⟨i, rfl⟩ : ∃ i, j = i + 1 := ⟨j - 1, by omega⟩
    simpa using e2
  have ha := a.toNat_lt
  have HAT := hat
  have HGO := Lib.hid hgo
  have HH := Lib.hid hh
  have HV := Lib.hid hv
  have HRES := Lib.hid hres
  have HS := Lib.hid hs
  have HLEN := Lib.hid hlen
  have HK := Lib.hid (And.intro h0 (And.intro hk (And.intro hk4 hb7)))
  have hne : (s.toList == (⟨#[]⟩ : ByteArray).toList) = false := by
    rw [seq_b5]
    simp only [decide_eq_false_iff_not]
    rintro rfl
    exact absurd hsz (by decide)
  have hne2 : (s.toList == []) = false := by
    rw [ByteArray.toList_eq, hs]
    rfl
  have g0 : IntKind.i64.wrap (a.toNat : Int) = (a.toNat : Int) := IntWalk.i64_in _ (by omega)
  have c0 : ((k : Int) == 0) = false := by simp; omega
  have c1 : decide ((s.size : Int) < (k : Int)) = false := by simp; omega
  have c2 : ¬ (s.size < k) := by omega
  clear hgo hh hv hres hs hlen hle hat
  go_enter Try.func76, Try.ntmps76
  go_wp2_with (first
    | (go_at_call 82; (with_reducible refine (head_any a.toNat w k b ha HH.out).mono ?_); rintro e w1 ⟨rfl, rfl⟩)
    | fail)
  clear g0 c0 c1 c2 hne hne2 HAT
  go_loop [5, 6] (fun v i => ∃ j m p : Nat, 1 ≤ j ∧ j ≤ k ∧ i = .int .i64 j ∧ v = .int .i64 m ∧ fd b (r.take (j - 1)) = m ∧ 64 ^ (j - 1) = p ∧ m + 1 ≤ 128 * p) (fun _ i => k - (intOf i).toNat)
  case atStart => exact ⟨1, b, 1, Nat.le_refl _, h0, rfl, rfl, rfl, rfl, by omega⟩
  case round =>
    obtain ⟨j, x, p, hj1, hjk, rfl, rfl, hx, hp, hxp⟩ := hrel
    have hp3 : p ≤ 262144 := by rw [← hp]; exact pow_le _ (by omega)
    by_cases hlt : j < k
    · obtain ⟨c, hc⟩ : ∃ c, s[j]'(by omega) = c := ⟨_, rfl⟩
      have hcj : ∀ (h : j < s.size), s[j]'h = c := fun h => hc
      have hrc : r[j - 1]? = some c := by rw [← hc]; exact HGO.out j (by omega) (by omega)
      have hcl := c.toNat_lt
      obtain ⟨q, hq⟩ : ∃ q, c.toNat % 64 = q := ⟨_, rfl⟩
      obtain ⟨y, hy⟩ : ∃ y, 64 * x + q = y := ⟨_, rfl⟩
      have g0 : IntKind.i64.wrap (c.toNat : Int) = (c.toNat : Int) := IntWalk.i64_in _ (by omega)
      have g1 : (c.toNat : Int).tmod 64 = (q : Int) := by rw [Int.tmod_eq_emod_of_nonneg (by omega)]; omega
      have g2 : IntKind.i64.wrap (64 * (x : Int)) = 64 * (x : Int) := IntWalk.i64_in _ (by omega)
      have g3 : IntKind.i64.wrap (64 * (x : Int) + (q : Int)) = (y : Int) := by rw [IntWalk.i64_in _ (by omega)]; omega
      have g4 : IntKind.i64.wrap (q : Int) = (q : Int) := IntWalk.i64_in _ (by omega)
      have bj : (0 : Int) ≤ (j : Int) ∧ (j : Int) < (s.size : Int) := by omega
      have bj' : j < s.size := by omega
      have hnx : fd b (r.take (j + 1 - 1)) = y := by
        have e : j + 1 - 1 = (j - 1) + 1 := by omega
        rw [e, List.take_add_one, hrc, Option.toList_some, fd_snoc, hx, hq, hy]
      have hnp : 64 ^ (j + 1 - 1) = p * 64 := by
        have e : j + 1 - 1 = (j - 1) + 1 := by omega
        rw [e, Nat.pow_succ, hp]
      have HNX := Lib.hid hnx
      have HNP := Lib.hid hnp
      have HYB : Hid (y + 1 ≤ 128 * (p * 64)) := Lib.hid (by omega)
      clear hc hrc hq hy hnx hnp hx hp
      go_wp2
      go_round
      case rel => exact ⟨j + 1, y, p * 64, by omega, by omega, by go_num, rfl, HNX.out, HNP.out, HYB.out⟩
      case measure => simp [intOf]; omega
    · obtain rfl : j = k := by omega
      rw [HV.out] at hx
      subst hx
      have hvb : v ≤ 1114111 ∨ ¬ v ≤ 1114111 := by omega
      clear hp hlt hjk
      cases hmv : may v
      · as_aux_lemma =>
        have HMV := Lib.hid hmv
        have hr2 : n = 0 ∧ m = 0 := by
          rcases HRES.out with ⟨h1, _⟩ | ⟨_, h2⟩
          · rw [hmv] at h1; cases h1
          · exact h2
        obtain ⟨rfl, rfl⟩ := hr2
        clear hmv HRES
        go_wp2_with fail
        go_quiet ((go_at_call 83; exact Calls.quiet_of_same ((rmay_any v false _ HMV.out).mono fun e w' h => ⟨h.1, h.2.symm⟩)))
        go_wp2_with fail
        go_ret2
        exact ⟨rfl, below_dn5 (Below.refl _ _) _⟩
      · as_aux_lemma =>
        have hv1 := (may_sv hmv).2.1
        have HMV := Lib.hid hmv
        have HV1 : Hid (v ≤ 1114111) := Lib.hid (by omega)
        obtain ⟨t, ht⟩ : ∃ t, s.extract 0 j = t := ⟨_, rfl⟩
        have htl : t = ⟨(s.data.toList.take j).toArray⟩ := by rw [← ht]; exact extract_list s j
        have hbk : (0 : Int) ≤ (j : Int) ∧ (j : Int) ≤ (s.size : Int) := by have := HK.out; omega
        have hbk' : j ≤ s.size := by have := HK.out; omega
        obtain ⟨E, hE⟩ : ∃ E, enc v = E := ⟨_, rfl⟩
        have HB : Hid (∀ W : World, Calls Try.prog 84 #[.int .i64 v] W (BytesTo E W)) := fun W => by rw [← hE]; exact rbytes5_any v W HV1.out
        obtain ⟨lE, hlE⟩ : ∃ lE, E.length = lE := ⟨_, rfl⟩
        have HLE := Lib.hid hlE
        obtain ⟨TS, hTS⟩ : ∃ TS, (⟨E.toArray⟩ : ByteArray) = TS := ⟨_, rfl⟩
        have hqb : enc v = s.data.toList.take j ↔ TS = t := by
          rw [htl, hE, ← hTS]
          constructor
          · intro h; rw [h]
          · intro h
            have := congrArg (fun b : ByteArray => b.data.toList) h
            simpa using this
        have HTS := Lib.hid hTS
        by_cases hqt : TS ≠ t
        · have hr2 : n = 0 ∧ m = 0 := by
            rcases HRES.out with ⟨_, h1, _⟩ | ⟨_, h2⟩
            · exact absurd (hqb.1 h1) hqt
            · exact h2
          have hq : (TS.toList == t.toList) = false := by rw [seq_b5]; simpa using hqt
          obtain ⟨rfl, rfl⟩ := hr2
          clear hmv HRES hv1 htl hE hlE hqb hTS hqt
          go_wp2_with fail
          refine wp_region_noPanic ?_
          refine wp_region_held_drew (S := fun _ => True) (by kernel_rfl) trivial (fun hHeld => ?_)
          refine takeD (i := 0) (v := .int .i64 v) rfl (by kernel_rfl) (by kernel_rfl) (by kernel_rfl) (fun _ _ _ h => h) (Or.inl ⟨by rfl, ?_⟩) hHeld ?_
          · intro w' hSw; go_simp
          try simp only [Act.put, List.setIfInBounds_toArray, List.set_cons_zero, List.set_cons_succ]
          refine wpAnyH_ready (rs := [1]) (by kernel_rfl) (by simp) ?_
          refine AllReadyH.cons rfl (fun K hK => ?_) AllReadyH.nil
          go_simp
          go_at_call 83; (with_reducible refine (rmay_any v true _ HMV.out).mono ?_); rintro e w2 ⟨rfl, rfl⟩
          go_wp2_with fail
          refine hK.out _ _ trivial (fun hHeld => ?_)
          clear hK K
          try simp only [Act.put, List.setIfInBounds_toArray, List.set_cons_zero, List.set_cons_succ]
          refine takeD (i := 2) (v := .bool false) rfl (by kernel_rfl) (by kernel_rfl) (by kernel_rfl) (fun _ _ _ h => h) (Or.inl ⟨by rfl, ?_⟩) hHeld ?_
          · intro w' hSw; go_simp
          try simp only [Act.put, List.setIfInBounds_toArray, List.set_cons_zero, List.set_cons_succ]
          refine takeD (i := 3) (v := .bool false) rfl (by kernel_rfl) (by kernel_rfl) (by kernel_rfl) (fun _ _ _ h => h) (Or.inl ⟨by rfl, ?_⟩) hHeld ?_
          · intro w' hSw; go_simp
          try simp only [Act.put, List.setIfInBounds_toArray, List.set_cons_zero, List.set_cons_succ]
          refine takeD (i := 4) (v := .int .i64 v) rfl (by kernel_rfl) (by kernel_rfl) (by kernel_rfl) (fun _ _ _ h => h) (Or.inl ⟨by rfl, ?_⟩) hHeld ?_
          · intro w' hSw; go_simp
          try simp only [Act.put, List.setIfInBounds_toArray, List.set_cons_zero, List.set_cons_succ]
          refine takeD (i := 7) (v := .string s) rfl (by kernel_rfl) (by kernel_rfl) (by kernel_rfl) (fun _ _ _ h => h) (Or.inl ⟨by rfl, ?_⟩) hHeld ?_
          · intro w' hSw; go_simp
          try simp only [Act.put, List.setIfInBounds_toArray, List.set_cons_zero, List.set_cons_succ]
          refine takeD (i := 8) (v := .int .i64 j) rfl (by kernel_rfl) (by kernel_rfl) (by kernel_rfl) (fun _ _ _ h => h) (Or.inl ⟨by rfl, ?_⟩) hHeld ?_
          · intro w' hSw; go_simp
          try simp only [Act.put, List.setIfInBounds_toArray, List.set_cons_zero, List.set_cons_succ]
          refine takeD (i := 9) (v := .string t) rfl (by kernel_rfl) (by kernel_rfl) (by kernel_rfl) (fun _ _ _ h => h) (Or.inl ⟨by rfl, ?_⟩) hHeld ?_
          · intro w' hSw; go_simp
          try simp only [Act.put, List.setIfInBounds_toArray, List.set_cons_zero, List.set_cons_succ]
          refine wpAnyH_ready (rs := [5]) (by kernel_rfl) (by simp) ?_
          refine AllReadyH.cons rfl (fun K hK => ?_) AllReadyH.nil
          go_simp
          go_at_call 84; (with_reducible refine (HB.out _).mono ?_); rintro e w3 ⟨hb3, g3, c3, rfl, hg3, hr3⟩; have hb3' := below_of_drew5 hb3; have cv := conv_str (P := Try.prog) (n := E.length) (c := c3) hr3 rfl Try.underlying68 Try.underlying5 Try.underlying9; rw [HTS.out] at cv
          go_wp2_with fail
          refine hK.out _ _ trivial (fun hHeld => ?_)
          clear hK K
          try simp only [Act.put, List.setIfInBounds_toArray, List.set_cons_zero, List.set_cons_succ]
          refine wpAnyH_ready (rs := [6]) (by kernel_rfl) (by simp) ?_
          refine AllReadyH.cons rfl (fun K hK => ?_) AllReadyH.nil
          go_simp
          refine hK.out _ _ trivial (fun hHeld => ?_)
          clear hK K
          try simp only [Act.put, List.setIfInBounds_toArray, List.set_cons_zero, List.set_cons_succ]
          refine takeD (i := 10) (v := .bool true) rfl (by kernel_rfl) (by kernel_rfl) (by kernel_rfl) (fun _ _ _ h => h) (Or.inl ⟨by rfl, ?_⟩) hHeld ?_
          · intro w' hSw; go_simp
          try simp only [Act.put, List.setIfInBounds_toArray, List.set_cons_zero, List.set_cons_succ]
          refine takeD (i := 11) (v := .bool true) rfl (by kernel_rfl) (by kernel_rfl) (by kernel_rfl) (fun _ _ _ h => h) (Or.inl ⟨by rfl, ?_⟩) hHeld ?_
          · intro w' hSw; go_simp
          try simp only [Act.put, List.setIfInBounds_toArray, List.set_cons_zero, List.set_cons_succ]
          refine wpAnyH_done (by kernel_rfl) ?_ _
          refine NoPanic.normal ?_
          go_wp2_with fail
          go_ret2
          exact ⟨rfl, hb3'⟩
        · have hr2 : n = v ∧ m = j := by
            rcases HRES.out with ⟨_, _, h1⟩ | ⟨h2, _⟩
            · exact h1
            · exact absurd ⟨hmv, hqb.2 (Classical.not_not.1 hqt)⟩ h2
          obtain rfl : TS = t := Classical.not_not.1 hqt
          obtain ⟨rfl, rfl⟩ := hr2
          clear hmv HRES hv1 htl hE hlE hqb hTS hqt
          go_wp2_with fail
          refine wp_region_noPanic ?_
          refine wp_region_held_drew (S := fun _ => True) (by kernel_rfl) trivial (fun hHeld => ?_)
          refine takeD (i := 0) (v := .int .i64 n) rfl (by kernel_rfl) (by kernel_rfl) (by kernel_rfl) (fun _ _ _ h => h) (Or.inl ⟨by rfl, ?_⟩) hHeld ?_
          · intro w' hSw; go_simp
          try simp only [Act.put, List.setIfInBounds_toArray, List.set_cons_zero, List.set_cons_succ]
          refine wpAnyH_ready (rs := [1]) (by kernel_rfl) (by simp) ?_
          refine AllReadyH.cons rfl (fun K hK => ?_) AllReadyH.nil
          go_simp
          go_at_call 83; (with_reducible refine (rmay_any n true _ HMV.out).mono ?_); rintro e w2 ⟨rfl, rfl⟩
          go_wp2_with fail
          refine hK.out _ _ trivial (fun hHeld => ?_)
          clear hK K
          try simp only [Act.put, List.setIfInBounds_toArray, List.set_cons_zero, List.set_cons_succ]
          refine takeD (i := 2) (v := .bool false) rfl (by kernel_rfl) (by kernel_rfl) (by kernel_rfl) (fun _ _ _ h => h) (Or.inl ⟨by rfl, ?_⟩) hHeld ?_
          · intro w' hSw; go_simp
          try simp only [Act.put, List.setIfInBounds_toArray, List.set_cons_zero, List.set_cons_succ]
          refine takeD (i := 3) (v := .bool false) rfl (by kernel_rfl) (by kernel_rfl) (by kernel_rfl) (fun _ _ _ h => h) (Or.inl ⟨by rfl, ?_⟩) hHeld ?_
          · intro w' hSw; go_simp
          try simp only [Act.put, List.setIfInBounds_toArray, List.set_cons_zero, List.set_cons_succ]
          refine takeD (i := 4) (v := .int .i64 n) rfl (by kernel_rfl) (by kernel_rfl) (by kernel_rfl) (fun _ _ _ h => h) (Or.inl ⟨by rfl, ?_⟩) hHeld ?_
          · intro w' hSw; go_simp
          try simp only [Act.put, List.setIfInBounds_toArray, List.set_cons_zero, List.set_cons_succ]
          refine takeD (i := 7) (v := .string s) rfl (by kernel_rfl) (by kernel_rfl) (by kernel_rfl) (fun _ _ _ h => h) (Or.inl ⟨by rfl, ?_⟩) hHeld ?_
          · intro w' hSw; go_simp
          try simp only [Act.put, List.setIfInBounds_toArray, List.set_cons_zero, List.set_cons_succ]
          refine takeD (i := 8) (v := .int .i64 m) rfl (by kernel_rfl) (by kernel_rfl) (by kernel_rfl) (fun _ _ _ h => h) (Or.inl ⟨by rfl, ?_⟩) hHeld ?_
          · intro w' hSw; go_simp
          try simp only [Act.put, List.setIfInBounds_toArray, List.set_cons_zero, List.set_cons_succ]
          refine takeD (i := 9) (v := .string TS) rfl (by kernel_rfl) (by kernel_rfl) (by kernel_rfl) (fun _ _ _ h => h) (Or.inl ⟨by rfl, ?_⟩) hHeld ?_
          · intro w' hSw; go_simp
          try simp only [Act.put, List.setIfInBounds_toArray, List.set_cons_zero, List.set_cons_succ]
          refine wpAnyH_ready (rs := [5]) (by kernel_rfl) (by simp) ?_
          refine AllReadyH.cons rfl (fun K hK => ?_) AllReadyH.nil
          go_simp
          go_at_call 84; (with_reducible refine (HB.out _).mono ?_); rintro e w3 ⟨hb3, g3, c3, rfl, hg3, hr3⟩; have hb3' := below_of_drew5 hb3; have cv := conv_str (P := Try.prog) (n := E.length) (c := c3) hr3 rfl Try.underlying68 Try.underlying5 Try.underlying9; rw [HTS.out] at cv
          go_wp2_with fail
          refine hK.out _ _ trivial (fun hHeld => ?_)
          clear hK K
          try simp only [Act.put, List.setIfInBounds_toArray, List.set_cons_zero, List.set_cons_succ]
          refine wpAnyH_ready (rs := [6]) (by kernel_rfl) (by simp) ?_
          refine AllReadyH.cons rfl (fun K hK => ?_) AllReadyH.nil
          go_simp
          refine hK.out _ _ trivial (fun hHeld => ?_)
          clear hK K
          try simp only [Act.put, List.setIfInBounds_toArray, List.set_cons_zero, List.set_cons_succ]
          refine takeD (i := 10) (v := .bool false) rfl (by kernel_rfl) (by kernel_rfl) (by kernel_rfl) (fun _ _ _ h => h) (Or.inl ⟨by rfl, ?_⟩) hHeld ?_
          · intro w' hSw; go_simp
          try simp only [Act.put, List.setIfInBounds_toArray, List.set_cons_zero, List.set_cons_succ]
          refine takeD (i := 11) (v := .bool false) rfl (by kernel_rfl) (by kernel_rfl) (by kernel_rfl) (fun _ _ _ h => h) (Or.inl ⟨by rfl, ?_⟩) hHeld ?_
          · intro w' hSw; go_simp
          try simp only [Act.put, List.setIfInBounds_toArray, List.set_cons_zero, List.set_cons_succ]
          refine wpAnyH_done (by kernel_rfl) ?_ _
          refine NoPanic.normal ?_
          go_wp2_with fail
          go_ret2
          exact ⟨rfl, hb3'⟩

set_option maxRecDepth 100000 in
theorem one_empty (w : World) : Calls Try.prog 76 #[.string ⟨#[]⟩] w fun e w' => e = .returned (.tuple #[.int .i64 0, .int .i64 0]) ∧ Below w.heap.size w w' := by
  go_enter Try.func76, Try.ntmps76
  go_wp2
  go_ret2
  exact ⟨rfl, Below.refl _ _⟩
set_option maxHeartbeats 1000000 in
set_option maxRecDepth 100000 in
theorem one_refuse (s : ByteArray) (a : UInt8) (r : List UInt8) (k b : Nat) (w : World) (hs : s.data.toList = a :: r) (hh : hd a.toNat = (k, b)) (h0 : k = 0 ∨ s.size < k) :
    Calls Try.prog 76 #[.string s] w fun e w' => e = .returned (.tuple #[.int .i64 0, .int .i64 0]) ∧ Below w.heap.size w w' := by
  have hlen : r.length + 1 = s.size := by rw [← ba_len5, hs]; rfl
  have hsz : 0 < s.size := by omega
  have hat : ∀ (h : 0 < s.size), s[0]'h = a := by
    intro h
    have e : s.data.toList[0]? = some a := by rw [hs]; rfl
    have e2 : s.data.toList[0]? = some (s[0]'h) := by
      rw [List.getElem?_eq_getElem (by rw [ba_len5]; exact h)]
      simp [ByteArray.getElem_eq_getElem_data]
    rw [e] at e2
    cases e2
    rfl
  have ha := a.toNat_lt
  have hne : (s.toList == (⟨#[]⟩ : ByteArray).toList) = false := by
    rw [seq_b5]
    simp only [decide_eq_false_iff_not]
    rintro rfl
    exact absurd hsz (by decide)
  have hne2 : (s.toList == []) = false := by
    rw [ByteArray.toList_eq, hs]
    rfl
  have g0 : IntKind.i64.wrap (a.toNat : Int) = (a.toNat : Int) := IntWalk.i64_in _ (by omega)
  have HAT := hat
  have HH := Lib.hid hh
  rcases h0 with rfl | h0
  · clear hh hs hlen hat
    go_enter Try.func76, Try.ntmps76
    go_wp2_with (first
      | (go_at_call 82; (with_reducible refine (head_any a.toNat w 0 b ha HH.out).mono ?_); rintro e w1 ⟨rfl, rfl⟩)
      | fail)
    go_ret2
    exact ⟨rfl, Below.refl _ _⟩
  · have c0 : ((k : Int) == 0) = false := by simp; omega
    have c1 : decide ((s.size : Int) < (k : Int)) = true := by simp; omega
    clear hh hs hlen hat
    go_enter Try.func76, Try.ntmps76
    go_wp2_with (first
      | (go_at_call 82; (with_reducible refine (head_any a.toNat w k b ha HH.out).mono ?_); rintro e w1 ⟨rfl, rfl⟩)
      | fail)
    go_ret2
    exact ⟨rfl, Below.refl _ _⟩
/-- ref.One. -/
theorem one_any (s : ByteArray) (w : World) (hm : s.size ≤ 1000000) (n m : Nat) (h : (one s.data.toList).getD (0, 0) = (n, m)) :
    Calls Try.prog 76 #[.string s] w fun e w' => e = .returned (.tuple #[.int .i64 n, .int .i64 m]) ∧ Below w.heap.size w w' := by
  cases hs : s.data.toList with
  | nil =>
    obtain rfl : s = ⟨#[]⟩ := by rw [ba_eq5 s, hs]
    obtain ⟨rfl, rfl⟩ : 0 = n ∧ 0 = m := by
      rw [hs] at h
      cases h
      exact ⟨rfl, rfl⟩
    exact one_empty w
  | cons a r =>
    obtain ⟨k, b, hh⟩ : ∃ k b, hd a.toNat = (k, b) := ⟨_, _, rfl⟩
    have hlen : r.length + 1 = s.size := by rw [← ba_len5, hs]; rfl
    by_cases h0 : k = 0 ∨ s.size < k
    · have hno : one s.data.toList = none := by
        cases ho : one s.data.toList with
        | none => rfl
        | some q =>
          obtain ⟨n', k'⟩ := q
          obtain ⟨a', r', b', e1, e2, h1, h2, _⟩ := one_ref ho
          rw [hs] at e1
          cases e1
          rw [hh] at e2
          cases e2
          rw [ba_len5] at h2
          omega
      rw [hno] at h
      obtain ⟨rfl, rfl⟩ : 0 = n ∧ 0 = m := by cases h; exact ⟨rfl, rfl⟩
      exact one_refuse s a r k b w hs hh h0
    · refine one_core s a r k b _ w hs hh (by omega) (by omega) rfl hm n m ?_
      by_cases hq : may (fd b (r.take (k - 1)) : Nat) = true ∧ enc (fd b (r.take (k - 1))) = s.data.toList.take k
      · have ho := one_ref2 (k := k) hq.1 (by rw [ba_len5]; omega) hq.2
        rw [ho] at h
        cases h
        exact .inl ⟨hq.1, hq.2, rfl, rfl⟩
      · have hno : one s.data.toList = none := by
          cases ho : one s.data.toList with
          | none => rfl
          | some q =>
            obtain ⟨n', k'⟩ := q
            obtain ⟨a', r', b', e1, e2, h1, h2, h3, h4, h5⟩ := one_ref ho
            rw [hs] at e1
            cases e1
            rw [hh] at e2
            cases e2
            rw [← h3] at h4 h5
            exact absurd ⟨h4, h5⟩ hq
        rw [hno] at h
        cases h
        exact .inr ⟨hq, rfl, rfl⟩
end Hx
end Go.Proofs.Ytkmaogafknehgaa
namespace Go.Proofs.Ytkmaogafknehgaa
namespace Wd
open Go

abbrev W32 := BitVec 32

/-- x turned up by k places. -/
def rot (x : W32) (k : Nat) : W32 := x <<< k ||| x >>> (32 - k)
/-- x turned by n. -/
def trn (x : W32) (n : Int) : W32 := rot x (n % 32).toNat

theorem rot_bit (x : W32) (k i : Nat) (hk : k < 32) (hi : i < 32) : (rot x k).getLsbD i = x.getLsbD ((i + 32 - k) % 32) := by
  unfold rot
  rw [BitVec.getLsbD_or, BitVec.getLsbD_shiftLeft, BitVec.getLsbD_ushiftRight]
  by_cases h : i < k
  · rw [show (i + 32 - k) % 32 = 32 - k + i by omega]
    simp [hi, h]
  · rw [show (i + 32 - k) % 32 = i - k by omega]
    have : x.getLsbD (32 - k + i) = false := BitVec.getLsbD_of_ge _ _ (by omega)
    simp [hi, h, this]
theorem trn_bit (x : W32) (n : Int) (i : Nat) (hi : i < 32) : (trn x n).getLsbD i = x.getLsbD (((i : Int) - n) % 32).toNat := by
  unfold trn
  rw [rot_bit x _ i (by omega) hi]
  congr 1
  omega
theorem trn_trn (x : W32) (n m k : Int) (h : k % 32 = (n + m) % 32) : trn (trn x n) m = trn x k := by
  apply BitVec.eq_of_getLsbD_eq
  intro i hi
  rw [trn_bit _ _ _ hi, trn_bit _ _ _ (by omega), trn_bit _ _ _ hi]
  congr 1
  omega
theorem trn_zero (x : W32) (n : Int) (h : n % 32 = 0) : trn x n = x := by
  apply BitVec.eq_of_getLsbD_eq
  intro i hi
  rw [trn_bit _ _ _ hi]
  congr 1
  omega
theorem trn_mod (x : W32) (n m : Int) (h : n % 32 = m % 32) : trn x n = trn x m := by
  unfold trn
  rw [h]

/-- y's bit, where x's is 1, else z's. -/
def chs (x y z : W32) : W32 := (x &&& y) ||| (~~~x &&& z)
def odd (x y z : W32) : W32 := x ^^^ y ^^^ z
def mst (x y z : W32) : W32 := (x &&& y) ||| (x &&& z) ||| (y &&& z)
theorem chs_bit (x y z : W32) (i : Nat) (hi : i < 32) : (chs x y z).getLsbD i = (if x.getLsbD i then y.getLsbD i else z.getLsbD i) := by
  unfold chs
  simp only [BitVec.getLsbD_or, BitVec.getLsbD_and, BitVec.getLsbD_not, hi, decide_true, Bool.true_and]
  cases x.getLsbD i <;> simp
theorem odd_bit (x y z : W32) (i : Nat) : (odd x y z).getLsbD i = (x.getLsbD i ^^ y.getLsbD i ^^ z.getLsbD i) := by
  unfold odd
  simp only [BitVec.getLsbD_xor]
theorem mst_bit (x y z : W32) (i : Nat) : (mst x y z).getLsbD i = ((x.getLsbD i && y.getLsbD i) || (x.getLsbD i && z.getLsbD i) || (y.getLsbD i && z.getLsbD i)) := by
  unfold mst
  simp only [BitVec.getLsbD_or, BitVec.getLsbD_and]
theorem chs_trn (x y z : W32) (n : Int) : chs (trn x n) (trn y n) (trn z n) = trn (chs x y z) n := by
  apply BitVec.eq_of_getLsbD_eq
  intro i hi
  rw [chs_bit _ _ _ _ hi, trn_bit _ _ _ hi, trn_bit _ _ _ hi, trn_bit _ _ _ hi, trn_bit _ _ _ hi, chs_bit _ _ _ _ (by omega)]
theorem odd_trn (x y z : W32) (n : Int) : odd (trn x n) (trn y n) (trn z n) = trn (odd x y z) n := by
  apply BitVec.eq_of_getLsbD_eq
  intro i hi
  rw [odd_bit, trn_bit _ _ _ hi, trn_bit _ _ _ hi, trn_bit _ _ _ hi, trn_bit _ _ _ hi, odd_bit]
theorem mst_trn (x y z : W32) (n : Int) : mst (trn x n) (trn y n) (trn z n) = trn (mst x y z) n := by
  apply BitVec.eq_of_getLsbD_eq
  intro i hi
  rw [mst_bit, trn_bit _ _ _ hi, trn_bit _ _ _ hi, trn_bit _ _ _ hi, trn_bit _ _ _ hi, mst_bit]

theorem ones_bit (i : Nat) (hi : i < 32) : (4294967295#32).getLsbD i = true := by
  have all : ∀ j : Fin 32, (4294967295#32).getLsbD j.val = true := by decide
  exact all ⟨i, hi⟩
theorem mst_chs (x y z : W32) : mst x y z = chs x (y ||| z) (y &&& z) := by
  apply BitVec.eq_of_getLsbD_eq
  intro i hi
  rw [mst_bit, chs_bit _ _ _ _ hi, BitVec.getLsbD_or, BitVec.getLsbD_and]
  cases x.getLsbD i <;> cases y.getLsbD i <;> cases z.getLsbD i <;> rfl
theorem odd_chs (x y z : W32) : odd x y z = chs x (odd 4294967295#32 y z) (odd 0#32 y z) := by
  apply BitVec.eq_of_getLsbD_eq
  intro i hi
  rw [odd_bit, chs_bit _ _ _ _ hi, odd_bit, odd_bit, ones_bit i hi, BitVec.getLsbD_zero]
  cases x.getLsbD i <;> cases y.getLsbD i <;> cases z.getLsbD i <;> rfl
theorem chs_ones (y z : W32) : chs 4294967295#32 y z = y := by
  apply BitVec.eq_of_getLsbD_eq
  intro i hi
  rw [chs_bit _ _ _ _ hi, ones_bit i hi, if_pos rfl]
theorem chs_zero (y z : W32) : chs 0#32 y z = z := by
  apply BitVec.eq_of_getLsbD_eq
  intro i hi
  rw [chs_bit _ _ _ _ hi, BitVec.getLsbD_zero, if_neg (by simp)]
theorem mst_same (x z : W32) : mst x x z = x := by
  apply BitVec.eq_of_getLsbD_eq
  intro i hi
  rw [mst_bit]
  cases x.getLsbD i <;> cases z.getLsbD i <;> rfl

/-- The number whose bits below k are f's. -/
def bvn (f : Nat → Bool) : Nat → Nat
  | 0 => 0
  | k + 1 => bvn f k + (f k).toNat * 2 ^ k
theorem bvn_lt (f : Nat → Bool) (k : Nat) : bvn f k < 2 ^ k := by
  induction k with
  | zero => simp [bvn]
  | succ k ih =>
    have h2 : (f k).toNat ≤ 1 := by cases f k <;> decide
    have h3 : (f k).toNat * 2 ^ k ≤ 1 * 2 ^ k := Nat.mul_le_mul_right _ h2
    rw [bvn, Nat.pow_succ]
    omega
theorem bvn_lt32 (f : Nat → Bool) (k : Nat) (h : k ≤ 32) : bvn f k < 4294967296 := by
  have h1 := bvn_lt f k
  have h2 : 2 ^ k ≤ 2 ^ 32 := Nat.pow_le_pow_right (by decide) h
  omega
theorem bvn_or (f : Nat → Bool) (k : Nat) (h : f k = true) : bvn f k ||| 2 ^ k = bvn f (k + 1) := by
  rw [bvn, h, Nat.or_comm]
  have := Nat.two_pow_add_eq_or_of_lt (bvn_lt f k) 1
  rw [Nat.mul_one] at this
  rw [← this]
  simp
  omega
theorem bvn_no (f : Nat → Bool) (k : Nat) (h : f k = false) : bvn f (k + 1) = bvn f k := by
  rw [bvn, h]
  simp
theorem bvn_mod (f : Nat → Bool) (X : W32) (k : Nat) (h : ∀ i, i < k → f i = X.getLsbD i) : bvn f k = X.toNat % 2 ^ k := by
  induction k with
  | zero => simp [bvn, Nat.mod_one]
  | succ k ih =>
    rw [bvn, ih (fun i hi => h i (by omega)), h k (by omega), Nat.mod_pow_succ, ← BitVec.testBit_toNat, Nat.toNat_testBit, Nat.mul_comm]
theorem bvn_of (f : Nat → Bool) (X : W32) (h : ∀ i, i < 32 → f i = X.getLsbD i) : bvn f 32 = X.toNat := by
  rw [bvn_mod f X 32 h]
  exact Nat.mod_eq_of_lt X.isLt

/-- A bit as a number. -/
def bt (x : W32) (i : Nat) : Nat := x.toNat / 2 ^ i % 2
theorem bt_bit (x : W32) (i : Nat) : bt x i = (x.getLsbD i).toNat := by
  unfold bt
  rw [← BitVec.testBit_toNat, Nat.toNat_testBit]
theorem bt_le (x : W32) (i : Nat) : bt x i ≤ 1 := by unfold bt; omega
theorem hi_succ (x : W32) (k : Nat) : x.toNat / 2 ^ k = 2 * (x.toNat / 2 ^ (k + 1)) + bt x k := by
  unfold bt
  rw [Nat.pow_succ, ← Nat.div_div_eq_div_mul]
  omega
theorem hi_top (x : W32) : x.toNat / 2 ^ 32 = 0 := Nat.div_eq_of_lt x.isLt
theorem chs_bt (x y z : W32) (i : Nat) (hi : i < 32) : bt (chs x y z) i = if bt x i = 1 then bt y i else bt z i := by
  rw [bt_bit, bt_bit, bt_bit, bt_bit, chs_bit _ _ _ _ hi]
  cases x.getLsbD i <;> simp
theorem odd_bt (x y z : W32) (i : Nat) : bt (odd x y z) i = (bt x i + bt y i + bt z i) % 2 := by
  rw [bt_bit, bt_bit, bt_bit, bt_bit, odd_bit]
  cases x.getLsbD i <;> cases y.getLsbD i <;> cases z.getLsbD i <;> rfl
theorem mst_bt (x y z : W32) (i : Nat) : bt (mst x y z) i = (bt x i + bt y i + bt z i) / 2 := by
  rw [bt_bit, bt_bit, bt_bit, bt_bit, mst_bit]
  cases x.getLsbD i <;> cases y.getLsbD i <;> cases z.getLsbD i <;> rfl

theorem rot_nat (x : W32) (k : Nat) : (rot x k).toNat = x.toNat * 2 ^ k % 4294967296 ||| x.toNat / 2 ^ (32 - k) := by
  unfold rot
  rw [BitVec.toNat_or, BitVec.toNat_shiftLeft, BitVec.toNat_ushiftRight, Nat.shiftLeft_eq, Nat.shiftRight_eq_div_pow]
theorem rot_one (x : W32) : (rot x 1).toNat = x.toNat * 2 % 4294967296 + x.toNat / 2147483648 := by
  rw [rot_nat]
  have hx := x.isLt
  have h := Nat.two_pow_add_eq_or_of_lt (i := 1) (b := x.toNat / 2147483648) (by omega) (x.toNat % 2147483648)
  rw [show x.toNat * 2 ^ 1 % 4294967296 = 2 ^ 1 * (x.toNat % 2147483648) by omega, show x.toNat / 2 ^ (32 - 1) = x.toNat / 2147483648 by rfl, ← h]
theorem up_trn (x : W32) (i : Nat) : (trn x ((i + 1 : Nat) : Int)).toNat = (trn x i).toNat * 2 % 4294967296 + (trn x i).toNat / 2147483648 := by
  rw [← rot_one, ← trn_trn x i 1 ((i + 1 : Nat) : Int) (by omega)]
  rfl

/-- The sum of words, whole. -/
def smN (l : List W32) : Nat := (l.map BitVec.toNat).sum
def sm (l : List W32) : Nat := smN l % 4294967296
theorem sm_lt (l : List W32) : sm l < 4294967296 := Nat.mod_lt _ (by decide)
theorem smN_append (a b : List W32) : smN (a ++ b) = smN a + smN b := by simp [smN]
theorem sm_take (l : List W32) (k : Nat) (h : k < l.length) : sm (l.take (k + 1)) = (sm (l.take k) + (l[k]'h).toNat) % 4294967296 := by
  unfold sm
  rw [List.take_succ_eq_append_getElem h, smN_append, Nat.mod_add_mod]
  simp [smN]
theorem sm_turn (l : List W32) (k : Nat) : sm (l.drop k ++ l.take k) = sm l := by
  unfold sm
  conv => rhs; rw [← List.take_append_drop k l]
  rw [smN_append, smN_append, Nat.add_comm]
theorem sm_parts (l : List W32) (k : Nat) (a b : W32) (ha : a.toNat = sm (l.take k)) (hb : b.toNat = sm (l.drop k)) : sm [a, b] = sm l := by
  conv => rhs; rw [← List.take_append_drop k l]
  unfold sm at *
  rw [smN_append]
  simp only [smN, List.map_cons, List.map_nil, List.sum_cons, List.sum_nil] at *
  omega

/-- A word's bytes. -/
def w4 (x : W32) : List UInt8 := [(x.toNat / 16777216).toUInt8, (x.toNat / 65536 % 256).toUInt8, (x.toNat / 256 % 256).toUInt8, (x.toNat % 256).toUInt8]
def bytesL (l : List W32) : List UInt8 := l.flatMap w4
theorem bytesL_length (l : List W32) : (bytesL l).length = 4 * l.length := by
  induction l with
  | nil => rfl
  | cons a l ih => simp only [bytesL, List.flatMap_cons, List.length_append, List.length_cons] at *; simp only [w4, List.length_cons, List.length_nil]; omega
theorem bytesL_append (a b : List W32) : bytesL (a ++ b) = bytesL a ++ bytesL b := by simp [bytesL]
theorem bytesL_take (l : List W32) (k : Nat) (h : k < l.length) : bytesL (l.take (k + 1)) = bytesL (l.take k) ++ w4 (l[k]'h) := by
  rw [List.take_succ_eq_append_getElem h, bytesL_append]; simp [bytesL]

/-- The first r bytes of the j-th four, as a number. -/
def pw (b : List UInt8) (j : Nat) : Nat → Nat
  | 0 => 0
  | r + 1 => 256 * pw b j r + (b.getD (4 * j + r) 0).toNat
theorem pw_lt (b : List UInt8) (j r : Nat) : pw b j r < 256 ^ r := by
  induction r with
  | zero => simp [pw]
  | succ r ih =>
    have := (b.getD (4 * j + r) 0).toNat_lt
    rw [pw, Nat.pow_succ]
    omega
theorem pw_lt4 (b : List UInt8) (j r : Nat) (h : r ≤ 4) : pw b j r < 4294967296 := by
  have h1 := pw_lt b j r
  have h2 : 256 ^ r ≤ 256 ^ 4 := Nat.pow_le_pow_right (by decide) h
  omega
theorem pw_lt3 (b : List UInt8) (j r : Nat) (h : r ≤ 3) : pw b j r < 16777216 := by
  have h1 := pw_lt b j r
  have h2 : 256 ^ r ≤ 256 ^ 3 := Nat.pow_le_pow_right (by decide) h
  omega
/-- The n words behind 'at' bytes. -/
def rowW (b : List UInt8) (n at_ : Nat) : List W32 := (List.range n).map fun j => BitVec.ofNat 32 (pw b j (min 4 (at_ - 4 * j)))
theorem rowW_length (b : List UInt8) (n at_ : Nat) : (rowW b n at_).length = n := by simp [rowW]
theorem rowW_zero (b : List UInt8) (n : Nat) : rowW b n 0 = List.replicate n 0#32 := by
  apply List.ext_getElem
  · simp [rowW]
  · intro j h1 h2
    simp [rowW, pw]
theorem rowW_get (b : List UInt8) (n at_ : Nat) (h : at_ / 4 < n) : (rowW b n at_)[at_ / 4]'(by rw [rowW_length]; exact h) = BitVec.ofNat 32 (pw b (at_ / 4) (at_ % 4)) := by
  simp only [rowW, List.getElem_map, List.getElem_range]
  rw [show min 4 (at_ - 4 * (at_ / 4)) = at_ % 4 by omega]
theorem rowW_set (b : List UInt8) (n at_ : Nat) : (rowW b n at_).set (at_ / 4) (BitVec.ofNat 32 (256 * pw b (at_ / 4) (at_ % 4) + (b.getD at_ 0).toNat)) = rowW b n (at_ + 1) := by
  apply List.ext_getElem
  · simp [rowW]
  · intro j h1 h2
    have hj : j < n := by simpa [rowW] using h2
    rw [List.getElem_set]
    simp only [rowW, List.getElem_map, List.getElem_range]
    split
    · rename_i e
      subst e
      rw [show min 4 (at_ + 1 - 4 * (at_ / 4)) = at_ % 4 + 1 by omega, pw, show 4 * (at_ / 4) + at_ % 4 = at_ by omega]
    · rename_i e
      rw [show min 4 (at_ + 1 - 4 * j) = min 4 (at_ - 4 * j) by omega]
/-- The words whose bytes b is. -/
def wordL (b : List UInt8) : List W32 := (List.range (b.length / 4)).map fun j => BitVec.ofNat 32 (pw b j 4)
theorem wordL_length (b : List UInt8) : (wordL b).length = b.length / 4 := by simp [wordL]
theorem rowW_full (b : List UInt8) (at_ : Nat) (h : at_ = 4 * (b.length / 4)) : rowW b (b.length / 4) at_ = wordL b := by
  subst h
  apply List.ext_getElem
  · simp [rowW, wordL]
  · intro j h1 h2
    have hj : j < b.length / 4 := by simpa [wordL] using h2
    simp only [rowW, wordL, List.getElem_map, List.getElem_range]
    rw [show min 4 (4 * (b.length / 4) - 4 * j) = 4 by omega]
/-- The first k words. -/
def wordK (b : List UInt8) (k : Nat) : List W32 := (List.range k).map fun j => BitVec.ofNat 32 (pw b j 4)
theorem wordK_length (b : List UInt8) (k : Nat) : (wordK b k).length = k := by simp [wordK]
theorem wordK_succ (b : List UInt8) (k : Nat) : wordK b (k + 1) = wordK b k ++ [BitVec.ofNat 32 (pw b k 4)] := by simp [wordK, List.range_succ]
theorem wordK_full (b : List UInt8) : wordK b (b.length / 4) = wordL b := rfl
theorem pw4 (b : List UInt8) (j : Nat) : pw b j 4 = 16777216 * (b.getD (4 * j) 0).toNat + 65536 * (b.getD (4 * j + 1) 0).toNat + 256 * (b.getD (4 * j + 2) 0).toNat + (b.getD (4 * j + 3) 0).toNat := by
  simp only [pw, Nat.add_zero, Nat.mul_zero, Nat.zero_add]
  omega
theorem bytesL_at (l : List W32) (j r : Nat) (h : j < l.length) (hr : r < 4) : (bytesL l).getD (4 * j + r) 0 = (w4 (l[j]'h)).getD r 0 := by
  induction l generalizing j with
  | nil => simp at h
  | cons a l ih =>
    have e : bytesL (a :: l) = w4 a ++ bytesL l := by simp [bytesL]
    have e4 : (w4 a).length = 4 := rfl
    cases j with
    | zero =>
      rw [e, List.getD_eq_getElem?_getD, List.getD_eq_getElem?_getD, List.getElem?_append_left (by rw [e4]; omega)]
      simp
    | succ j =>
      have h' : j < l.length := by simpa using h
      have := ih j h'
      rw [List.getD_eq_getElem?_getD] at this
      rw [e, List.getD_eq_getElem?_getD, List.getElem?_append_right (by rw [e4]; omega), e4, show 4 * (j + 1) + r - 4 = 4 * j + r by omega, this]
      simp
theorem u8_nat (n : Nat) (h : n < 256) : n.toUInt8.toNat = n := by rw [Nat.toUInt8, UInt8.toNat_ofNat']; omega
theorem w4_word (x : W32) : 16777216 * ((w4 x).getD 0 0).toNat + 65536 * ((w4 x).getD 1 0).toNat + 256 * ((w4 x).getD 2 0).toNat + ((w4 x).getD 3 0).toNat = x.toNat := by
  have hx := x.isLt
  simp only [w4, List.getD_cons_zero, List.getD_cons_succ]
  rw [u8_nat _ (by omega), u8_nat _ (by omega), u8_nat _ (by omega), u8_nat _ (by omega)]
  omega
theorem wordL_bytesL (l : List W32) : wordL (bytesL l) = l := by
  apply List.ext_getElem
  · rw [wordL_length, bytesL_length]; omega
  · intro j h1 h2
    simp only [wordL, List.getElem_map, List.getElem_range]
    rw [pw4, show 4 * j = 4 * j + 0 by rfl, bytesL_at l j 0 h2 (by omega), bytesL_at l j 1 h2 (by omega), bytesL_at l j 2 h2 (by omega), bytesL_at l j 3 h2 (by omega), w4_word]
    simp
theorem w4_bytes (a b c d : UInt8) : w4 (BitVec.ofNat 32 (16777216 * a.toNat + 65536 * b.toNat + 256 * c.toNat + d.toNat)) = [a, b, c, d] := by
  have ha := a.toNat_lt
  have hb := b.toNat_lt
  have hc := c.toNat_lt
  have hd := d.toNat_lt
  have e : (BitVec.ofNat 32 (16777216 * a.toNat + 65536 * b.toNat + 256 * c.toNat + d.toNat)).toNat = 16777216 * a.toNat + 65536 * b.toNat + 256 * c.toNat + d.toNat := by
    rw [BitVec.toNat_ofNat]; omega
  unfold w4
  rw [e]
  have f : ∀ (n : Nat) (u : UInt8), n = u.toNat → n.toUInt8 = u := by
    intro n u h
    subst h
    simp
  rw [f _ a (by omega), f _ b (by omega), f _ c (by omega), f _ d (by omega)]
theorem bytesL_wordL (b : List UInt8) (h : b.length % 4 = 0) : bytesL (wordL b) = b := by
  have key : ∀ k, 4 * k ≤ b.length → bytesL (wordK b k) = b.take (4 * k) := by
    intro k
    induction k with
    | zero => intro _; simp [wordK, bytesL]
    | succ k ih =>
      intro hk
      rw [wordK_succ, bytesL_append, ih (by omega)]
      have g : ∀ r, r < 4 → b.getD (4 * k + r) 0 = b[4 * k + r]?.getD 0 := fun r _ => List.getD_eq_getElem?_getD ..
      have e : bytesL [BitVec.ofNat 32 (pw b k 4)] = [b.getD (4 * k) 0, b.getD (4 * k + 1) 0, b.getD (4 * k + 2) 0, b.getD (4 * k + 3) 0] := by
        rw [pw4]
        have := w4_bytes (b.getD (4 * k) 0) (b.getD (4 * k + 1) 0) (b.getD (4 * k + 2) 0) (b.getD (4 * k + 3) 0)
        simp only [bytesL, List.flatMap_cons, List.flatMap_nil, List.append_nil]
        exact this
      rw [e]
      have t : ∀ m, m < b.length → b.take (m + 1) = b.take m ++ [b.getD m 0] := by
        intro m hm
        rw [List.take_succ_eq_append_getElem hm, List.getD_eq_getElem?_getD, List.getElem?_eq_getElem hm]; rfl
      rw [show 4 * (k + 1) = 4 * k + 1 + 1 + 1 + 1 by omega, t _ (by omega), t _ (by omega), t _ (by omega), t _ (by omega)]
      simp
  have := key (b.length / 4) (by omega)
  rw [wordK_full] at this
  rw [this, show 4 * (b.length / 4) = b.length by omega, List.take_length]
end Wd
end Go.Proofs.Ytkmaogafknehgaa
namespace Go.Proofs.Ytkmaogafknehgaa
open Go.RowKit
namespace Hx

/-- The slice at address A reads as the list l, each element one cell, all below block B. -/
def RdG {α : Type} (enc : α → Value) (w : World) (B : Nat) (A : Option Addr) (l : List α) : Prop :=
  0 < l.length → ∃ b off, A = some ⟨b, off, none⟩ ∧ b < B ∧ ∀ j (h : j < l.length), w.cell? ⟨b, off + j, none⟩ = some (enc (l[j]'h))

section
variable {α : Type} {enc : α → Value}
theorem RdG.keep {w w' : World} {B B' : Nat} {A : Option Addr} {l : List α} (h : RdG enc w B A l) (hB : B ≤ B') (hk : ∀ b o, b < B → w'.cell? ⟨b, o, none⟩ = w.cell? ⟨b, o, none⟩) : RdG enc w' B' A l := by
  intro hp
  obtain ⟨b, off, e, hb, hc⟩ := h hp
  exact ⟨b, off, e, by omega, fun j hj => (hk _ _ hb).trans (hc j hj)⟩
theorem RdG.below {w w' : World} {B : Nat} {A : Option Addr} {l : List α} (h : RdG enc w B A l) (hb : Below B w w') : RdG enc w' B A l :=
  h.keep (Nat.le_refl _) fun b o hlt => hb.cell (p := ⟨b, o, none⟩) hlt
theorem RdG.mono {w : World} {B B' : Nat} {A : Option Addr} {l : List α} (h : RdG enc w B A l) (hB : B ≤ B') : RdG enc w B' A l := h.keep hB fun _ _ _ => rfl
/-- Kept through a stretch of the run, up to its end's size. -/
theorem RdG.on {w w' : World} {A : Option Addr} {l : List α} (h : RdG enc w w.heap.size A l) (hb : Below w.heap.size w w') : RdG enc w' w'.heap.size A l := (h.below hb).mono hb.size
theorem RdG.nil (w : World) (B : Nat) (A : Option Addr) : RdG enc w B A [] := fun h => absurd h (by simp)
theorem RdG.of_own {w : World} {base : Nat} {e : TypeId} {A : Option Addr} {n c : Nat} {l : List α} (h : w.ownsRow base e 1 (.slice A n c) n (l.map enc)) : RdG enc w w.heap.size A l ∧ l.length = n := by
  have hl : l.length = n := by have := h.1; rw [List.length_map] at this; omega
  refine ⟨fun hp => ?_, hl⟩
  rcases h.2 with ⟨_, h0⟩ | ⟨g, cap, cur, hv, _, hg, _⟩
  · omega
  injection hv with hA _ _
  subst hA
  have hlt : g < w.heap.size := (Array.getElem?_eq_some_iff.1 hg).1
  refine ⟨g, 0, rfl, hlt, fun j hj => ?_⟩
  have := h.cells (g := g) rfl j (enc (l[j]'hj)) (by simp [hj])
  rw [addr_plain] at this
  exact this
theorem RdG.new (w : World) (t : TypeId) (l : List α) : RdG enc (w.alloc (.cells (l.map enc).toArray t)) (w.heap.size + 1) (some ⟨w.heap.size, 0, none⟩) l := by
  intro _
  refine ⟨_, _, rfl, Nat.lt_succ_self _, fun j hj => ?_⟩
  rw [World.cell?_alloc_new]
  simp [hj]
theorem RdG.newS (w : World) (t : TypeId) (l : List α) : RdG enc (w.alloc (.cells (l.map enc).toArray t)) (w.alloc (.cells (l.map enc).toArray t)).heap.size (some ⟨w.heap.size, 0, none⟩) l :=
  (RdG.new w t l).mono (by simp)
/-- A piece of a slice. -/
theorem RdG.piece {w : World} {B b off : Nat} {l : List α} (h : RdG enc w B (some ⟨b, off, none⟩) l) (k n : Nat) (hk : k + n ≤ l.length) : RdG enc w B (some ⟨b, off + k, none⟩) ((l.drop k).take n) := by
  intro hp
  have hl : ((l.drop k).take n).length = n := by rw [List.length_take, List.length_drop]; omega
  obtain ⟨b', off', e, hb, hc⟩ := h (by omega)
  injection e with e
  injection e with e1 e2
  subst e1 e2
  refine ⟨_, _, rfl, hb, fun j hj => ?_⟩
  have := hc (k + j) (by omega)
  rw [← Nat.add_assoc] at this
  rw [this]
  simp
end

/-- append(own, b...) of a slice of one-cell elements, whatever its address. -/
theorem wpList_append_rdg {α : Type} {enc : α → Value} (h1c : ∀ x, (enc x).oneCell' = true) {P : Program} {w : World} {ops : Array Oper} {rest : List Oper} {o : Oper} {a : Act} {Q : Exit → Act → World → Prop} (hgd : o.guard = none) (s x : Operand) (t : TypeId)
    (ho : o.op = .call { callee := .builtin .append, args := #[s, x], argTypes := #[t, t] })
    (base : Nat) (e : TypeId) (i : TypeInfo) (z : Value) (bytes : Nat) (ht : P.underlying t = some (.slice e)) (hi : P.info? e = some i) (hz : i.zero = some z) (hsize : i.size = 1) (hby : i.bytes = bytes) (hb8 : bytes ≤ 16) (hzs : z.cells.size = 1)
    (v : Value) (n : Nat) (xs : List Value) (hs : a.eval s = v) (hown : w.ownsRow base e 1 v n xs)
    (B : Nat) (A : Option Addr) (m c : Nat) (l : List α) (hx : a.eval x = .slice A m c) (hr : RdG enc w B A l) (hl : l.length = m) (hc0 : A = none → c = 0) (hb : n + m ≤ 1000000000000) (hbase : base ≤ w.heap.size)
    (h : ∀ v' w', w'.ownsRow base e 1 v' (n + m) (xs ++ l.map enc) → w.grownBy w' v.ownBlock → wpList P ops Q rest (a.put o.dst v') w') : wpList P ops Q (o :: rest) a w := by
  rcases A with _ | ad
  · have h0 : l = [] := by
      rcases Nat.eq_zero_or_pos l.length with h0 | h0
      · exact List.eq_nil_of_length_eq_zero h0
      · obtain ⟨_, _, he, _⟩ := hr h0
        cases he
    subst h0
    obtain rfl : 0 = m := hl
    rw [hc0 rfl] at hx
    exact wpList_append_own_none hgd s x t ho base e i 1 ht hi v n xs hs hown hx (h v w (by simpa using hown) (World.grownBy.refl _ _))
  · refine wpList_append_own w hgd s x t ho base e i z 1 bytes ht hi hz hsize hby hzs (by decide) v n xs hs hown ad m c (l.map enc) hx (by rw [List.length_map]; omega) ?_ (fun v hv => by obtain ⟨y, _, rfl⟩ := List.mem_map.1 hv; exact h1c y) (by unfold maxLen; omega) (Nat.le_trans (Nat.mul_le_mul hb hb8) (by decide)) hbase (fun v' w' h1 h2 _ => h v' w' h1 h2)
    intro j u hu
    have hj : j < l.length := by
      have := (List.getElem?_eq_some_iff.1 hu).1
      simpa using this
    obtain ⟨b, off, he, _, hc⟩ := hr (by omega)
    cases he
    rw [addr_plain, hc j hj]
    simpa [hj] using hu

/-- The same at a step of a region that draws its order. -/
theorem step_append_rdg {α : Type} {enc : α → Value} (h1c : ∀ x, (enc x).oneCell' = true) {P : Program} {w : World} {ops : Array Oper} {o : Oper} {a : Act} {K : Act → World → Prop} {Q : Exit → Act → World → Prop} {E : Prop} (hgd : o.guard = none) (s x : Operand) (t : TypeId)
    (ho : o.op = .call { callee := .builtin .append, args := #[s, x], argTypes := #[t, t] })
    (base : Nat) (e : TypeId) (i : TypeInfo) (z : Value) (bytes : Nat) (ht : P.underlying t = some (.slice e)) (hi : P.info? e = some i) (hz : i.zero = some z) (hsize : i.size = 1) (hby : i.bytes = bytes) (hb8 : bytes ≤ 16) (hzs : z.cells.size = 1)
    (v : Value) (n : Nat) (xs : List Value) (hs : a.eval s = v) (hown : w.ownsRow base e 1 v n xs)
    (B : Nat) (A : Option Addr) (m c : Nat) (l : List α) (hx : a.eval x = .slice A m c) (hr : RdG enc w B A l) (hl : l.length = m) (hc0 : A = none → c = 0) (hb : n + m ≤ 1000000000000) (hbase : base ≤ w.heap.size)
    (h : ∀ v' w', w'.ownsRow base e 1 v' (n + m) (xs ++ l.map enc) → w.grownBy w' v.ownBlock → K (a.put o.dst v') w') : if Region.wanted o (yielded ops a.tmps) = true then Oper.wp P o a w K Q else E := by
  have hw : Region.wanted o (yielded ops a.tmps) = true := by simp [Region.wanted, hgd]
  rw [if_pos hw]
  have key : ∃ v' w', (Builtin.append_ #[t, t] o.type #[v, .slice A m c]).run P w = .ok v' w' ∧ w'.ownsRow base e 1 v' (n + m) (xs ++ l.map enc) ∧ w.grownBy w' v.ownBlock := by
    rcases A with _ | ad
    · have h0 : l = [] := by
        rcases Nat.eq_zero_or_pos l.length with h0 | h0
        · exact List.eq_nil_of_length_eq_zero h0
        · obtain ⟨_, _, he, _⟩ := hr h0
          cases he
      subst h0
      obtain rfl : 0 = m := hl
      rw [hc0 rfl]
      exact ⟨v, w, run_append_owned_none w base t o.type e i 1 ht hi v n xs hown, by simpa using hown, World.grownBy.refl _ _⟩
    · obtain ⟨v', w', hr', h2, h3, _⟩ := run_append_own (P := P) w base t o.type e i z 1 bytes ht hi hz hsize hby hzs (by decide) v n xs hown ad m c (l.map enc) (by rw [List.length_map]; omega) (by
          intro j u hu
          have hj : j < l.length := by
            have := (List.getElem?_eq_some_iff.1 hu).1
            simpa using this
          obtain ⟨b, off, he, _, hc⟩ := hr (by omega)
          cases he
          rw [addr_plain, hc j hj]
          simpa [hj] using hu) (fun v hv => by obtain ⟨y, _, rfl⟩ := List.mem_map.1 hv; exact h1c y) (by unfold maxLen; omega) (Nat.le_trans (Nat.mul_le_mul hb hb8) (by decide)) hbase
      exact ⟨v', w', hr', h2, h3⟩
  obtain ⟨v', w', hrun, h2, h3⟩ := key
  unfold Oper.wp execOp
  simp only [ho, resolve, invoke, builtin, Sem.run_bind, Sem.run_pure, Result.andThen_ok, List.map_toArray, List.map_cons, List.map_nil, hs, hx, hrun]
  exact h v' w' h2 h3

/-- s[k:] and s[:k] of a slice, with an address that reads as the list's end, or beginning. -/
theorem slice_from {α : Type} {enc : α → Value} {P : Program} (t e : TypeId) (ht : P.underlying t = some (.slice e)) (i : TypeInfo) (hi : P.info? e = some i) (hsz : i.size = 1) {w : World} {B : Nat} {A : Option Addr} {l : List α} {n c : Nat} (hr : RdG enc w B A l) (hn : l.length = n) (hc0 : A = none → c = 0) (k : Nat) (hk : k ≤ n) (hnc : n ≤ c) :
    ∃ A', RdG enc w B A' (l.drop k) ∧ (A' = none → c - k = 0) ∧ ∀ W, (Instr.slice t (.slice A n c) (some (.int .i64 (k : Int))) none none).run P W = .ok (.slice A' (n - k) (c - k)) W := by
  have htt : P.underlying t = some (.slice (P.elem t)) := by rw [show P.elem t = e by simp [Program.elem, ht]]; exact ht
  have he : P.elem t = e := by simp [Program.elem, ht]
  have run : ∀ W, (Instr.slice t (.slice A n c) (some (.int .i64 (k : Int))) none none).run P W = .ok (.slice (if c = k then A else A.map (·.add (k * 1))) (n - k) (c - k)) W := by
    intro W
    have hs : (sizeOf e).run P W = .ok 1 W := by simp [sizeOf, typeInfo, hi, hsz]
    rw [run_slice_l W t A n c htt .i64 (k : Int) (by omega) (by omega), he, hs]
    rfl
  by_cases hck : c = k
  · refine ⟨A, ?_, fun _ => by omega, fun W => by rw [run W, if_pos hck]⟩
    have : l.drop k = [] := List.drop_eq_nil_of_le (by omega)
    rw [this]
    exact RdG.nil _ _ _
  · refine ⟨A.map (·.add (k * 1)), ?_, ?_, fun W => by rw [run W, if_neg hck]⟩
    · intro hp
      have hlt : k < l.length := by rw [List.length_drop] at hp; omega
      obtain ⟨b, off, rfl, hb, hc⟩ := hr (by omega)
      refine ⟨b, off + k, by simp [addr_plain], hb, fun j hj => ?_⟩
      have hj' : k + j < l.length := by rw [List.length_drop] at hj; omega
      have := hc (k + j) hj'
      rw [← Nat.add_assoc] at this
      rw [this]
      simp
    · intro h
      have : A = none := by simpa using h
      have := hc0 this
      omega
theorem slice_to {α : Type} {enc : α → Value} {P : Program} (t e : TypeId) (ht : P.underlying t = some (.slice e)) (i : TypeInfo) (hi : P.info? e = some i) (hsz : i.size = 1) {w : World} {B : Nat} {A : Option Addr} {l : List α} {n c : Nat} (hr : RdG enc w B A l) (hn : l.length = n) (hc0 : A = none → c = 0) (k : Nat) (hk : k ≤ n) (hnc : n ≤ c) :
    ∃ A', RdG enc w B A' (l.take k) ∧ (A' = none → c = 0) ∧ ∀ W, (Instr.slice t (.slice A n c) none (some (.int .i64 (k : Int))) none).run P W = .ok (.slice A' k c) W := by
  have htt : P.underlying t = some (.slice (P.elem t)) := by rw [show P.elem t = e by simp [Program.elem, ht]]; exact ht
  have he : P.elem t = e := by simp [Program.elem, ht]
  have run : ∀ W, (Instr.slice t (.slice A n c) none (some (.int .i64 (k : Int))) none).run P W = .ok (.slice (if c = 0 then A else A.map (·.add (0 * 1))) (k - 0) (c - 0)) W := by
    intro W
    have hs : (sizeOf e).run P W = .ok 1 W := by simp [sizeOf, typeInfo, hi, hsz]
    rw [run_slice_h W t A n c htt .i64 (k : Int) (by omega) (by omega), he, hs]
    rfl
  by_cases hck : c = 0
  · refine ⟨A, ?_, fun _ => hck, fun W => by rw [run W, if_pos hck]; rfl⟩
    have : l.take k = [] := by have : k = 0 := by omega
                               simp [this]
    rw [this]
    exact RdG.nil _ _ _
  · refine ⟨A.map (·.add (0 * 1)), ?_, ?_, fun W => by rw [run W, if_neg hck]; rfl⟩
    · intro hp
      have hlt : 0 < l.length := by rw [List.length_take] at hp; omega
      obtain ⟨b, off, rfl, hb, hc⟩ := hr hlt
      refine ⟨b, off, by simp [addr_plain], hb, fun j hj => ?_⟩
      have hj' : j < l.length := by rw [List.length_take] at hj; omega
      rw [hc j hj']
      simp
    · intro h
      have : A = none := by simpa using h
      exact hc0 this

/-- Words. -/
def encW (x : Wd.W32) : Value := .int .u32 (x.toNat : Int)
theorem encW_one (x : Wd.W32) : (encW x).oneCell' = true := rfl
abbrev RdW := @RdG Wd.W32 encW
theorem bounds_u32 {n : Int} (h : (Lit.int .u32 n).wf = true) : 0 ≤ n ∧ n ≤ 4294967295 := by
  simp only [Lit.wf, Bool.and_eq_true, decide_eq_true_eq] at h
  have h1 : IntKind.u32.min = 0 := rfl
  have h2 : IntKind.u32.max = 4294967295 := rfl
  omega
theorem bounds_i64 {n : Int} (h : (Lit.int .i64 n).wf = true) : -9223372036854775808 ≤ n ∧ n ≤ 9223372036854775807 := by
  simp only [Lit.wf, Bool.and_eq_true, decide_eq_true_eq] at h
  have h1 : IntKind.i64.min = -9223372036854775808 := rfl
  have h2 : IntKind.i64.max = 9223372036854775807 := rfl
  omega
theorem word_of {n : Int} (h : (Lit.int .u32 n).wf = true) : ∃ x : Wd.W32, n = (x.toNat : Int) := by
  have := bounds_u32 h
  refine ⟨BitVec.ofNat 32 n.toNat, ?_⟩
  rw [BitVec.toNat_ofNat]
  omega
theorem word_lt (x : Wd.W32) : ((x.toNat : Nat) : Int) < 4294967296 := by have := x.isLt; omega
/-- What a slice of words that came in reads as. -/
theorem rdW_of_row {w : World} {x : Addr} {len cap : Nat} {zs : List Int} (hl : len ≤ cap) (hz : zs.length = cap)
    (hcell : ∀ i, i < zs.length → w.cell? (x.add i) = some (.int .u32 (zs.getD i 0))) (hwz : ∀ n ∈ zs, (Lit.int .u32 n).wf = true) :
    ∃ l : List Wd.W32, RdW w w.heap.size (some x) l ∧ l.length = len := by
  refine ⟨(zs.take len).map fun n => BitVec.ofNat 32 n.toNat, fun hp => ?_, by simp; omega⟩
  have hp' : 0 < len := by
    simp at hp
    omega
  obtain ⟨b, off, spot⟩ := x
  have hspot : spot = none := by simpa [Addr.add] using World.cell?_spot (hcell 0 (by omega))
  subst hspot
  refine ⟨b, off, rfl, ?_, fun j hj => ?_⟩
  · have := hcell 0 (by omega)
    rw [addr_plain] at this
    exact World.block_lt_of_cell? (a := ⟨b, off + 0, none⟩) w this
  · have hj' : j < len := by
      simp at hj
      omega
    have hjz : j < zs.length := by omega
    have := hcell j hjz
    rw [addr_plain] at this
    rw [this]
    have hw := bounds_u32 (hwz _ (List.getElem_mem hjz))
    simp [List.getD, hjz, encW]
    omega
theorem ret_w {a b : Int} (h : a = b) : Ending.returned (.int .u32 a) = .returned (.int .u32 b) := by rw [h]
theorem ret_i {a b : Int} (h : a = b) : Ending.returned (.int .i64 a) = .returned (.int .i64 b) := by rw [h]
end Hx
end Go.Proofs.Ytkmaogafknehgaa
namespace Go.Proofs.Ytkmaogafknehgaa
open Go.RowKit
namespace Hx
open Tx
set_option linter.unusedVariables false

/-- A number, as a value. -/
def encZ (z : Int) : Value := .int .i64 z
theorem encZ_one (z : Int) : (encZ z).oneCell' = true := rfl
abbrev RdZ := @RdG Int encZ
/-- Code points, as numbers. -/
def zs (l : List Nat) : List Int := l.map fun n : Nat => (n : Int)
theorem zs_length (l : List Nat) : (zs l).length = l.length := by simp [zs]
theorem zs_append (a b : List Nat) : zs (a ++ b) = zs a ++ zs b := by simp [zs]
theorem infoZ : (Try.prog.info? 3).map (fun i => (i.zero, i.size, i.bytes)) = some (some (.int .i64 0), 1, 8) := by kernel_rfl
theorem extract_drop (s : ByteArray) (a : Nat) : s.extract a s.size = ⟨(s.data.toList.drop a).toArray⟩ := by
  have := ByteArray.extract_mk s.data.toList a s.size
  rw [← ba_eq5] at this
  rw [this, List.take_of_length_le (by rw [List.length_drop, ba_len5]; omega)]
theorem list_mk (l : List UInt8) : (⟨l.toArray⟩ : ByteArray).data.toList = l := rfl
theorem size_mk5 (l : List UInt8) : (⟨l.toArray⟩ : ByteArray).size = l.length := rfl
theorem one_le {l : List UInt8} {n k : Nat} (h : one l = some (n, k)) : 1 ≤ k ∧ k ≤ l.length ∧ n ≤ 1114111 := by
  obtain ⟨_, hs, rfl, r, rfl⟩ := one_sound h
  exact ⟨(enc_length n).1, by rw [List.length_append]; omega, sv_le hs⟩

/-- What All answers. -/
def AllTo (l : List UInt8) (w : World) (e : Ending) (w' : World) : Prop := Below w.heap.size w w' ∧
  ((∃ ns A c, pts l = some ns ∧ e = .returned (.tuple #[.slice A ns.length c, .bool true]) ∧ (A = none → c = 0) ∧ RdZ w' w'.heap.size A (zs ns)) ∨ (pts l = none ∧ e = .returned (.tuple #[.slice none 0 0, .bool false])))
def strSize : Value → Nat
  | .string t => t.size
  | _ => 0
set_option maxHeartbeats 4000000 in
set_option maxRecDepth 100000 in
theorem all_any (s : ByteArray) (w : World) (hm : s.size ≤ 1000000) : Calls Try.prog 72 #[.string s] w (AllTo s.data.toList w) := by
  obtain ⟨i0, hi, hz0, hz1, hz2⟩ := info_parts infoZ
  have QI := Lib.hid hi
  have QZ0 := Lib.hid hz0
  have QZ1 := Lib.hid hz1
  have QZ2 := Lib.hid hz2
  have HM := Lib.hid hm
  clear hi hz0 hz1 hz2 hm
  go_enter Try.func72, Try.ntmps72
  go_wp2_with fail
  go_loopw [0, 4] (fun sv v wr => ∃ (t : ByteArray) (ns : List Nat), sv = .string t ∧ wr.ownsRow w.heap.size 3 1 v ns.length ((zs ns).map encZ) ∧ Below w.heap.size w wr ∧ pts s.data.toList = (pts t.data.toList).map (ns ++ ·) ∧ ns.length + t.size ≤ s.size) (fun sv _ _ => strSize sv)
  case atStart => exact ⟨s, [], rfl, World.ownsRow_nil _ _ _ _, Below.refl _ _, by cases pts s.data.toList <;> rfl, by simp⟩
  case round =>
    obtain ⟨t, ns, rfl, hown, hbw, hp, hn⟩ := hrel
    have HO := Lib.hid hown
    have HBW := Lib.hid hbw
    have HP := Lib.hid hp
    have HN := Lib.hid hn
    have hsz := hbw.size
    clear hbw hp hn
    cases htl : t.data.toList with
    | nil =>
      obtain rfl : t = ⟨#[]⟩ := by rw [ba_eq5 t, htl]
      obtain ⟨A', c', rfl⟩ := own_form hown
      have HRD := Lib.hid (RdG.of_own hown).1
      have HZN : Hid (A' = none → c' = 0) := by
        intro hA
        subst hA
        rcases HO.out.2 with ⟨e, _⟩ | ⟨g, cap, cur, e, _⟩
        · injection e with _ _ h3
        · injection e with h3 _ _
          cases h3
      clear hown htl
      go_wp2_with fail
      go_ret2
      exact ⟨HBW.out, .inl ⟨ns, A', c', by rw [HP.out]; show some (ns ++ []) = _; rw [List.append_nil], rfl, HZN.out, HRD.out⟩⟩
    | cons b r =>
      have htz : 0 < t.size := by rw [← ba_len5, htl]; simp
      have hne : (t.toList == (⟨#[]⟩ : ByteArray).toList) = false := by
        rw [seq_b5]
        simp only [decide_eq_false_iff_not]
        rintro rfl
        exact absurd htz (by decide)
      have hne2 : (t.toList == []) = false := by rw [ByteArray.toList_eq, htl]; rfl
      have hts : t.size ≤ 1000000 := by have := HN.out; have := HM.out; omega
      have HTS := Lib.hid hts
      have hstep := pts_step t.data.toList (by rw [htl]; simp)
      cases ho : one t.data.toList with
      | none =>
        rw [ho] at hstep
        have hpn : pts s.data.toList = none := by rw [HP.out, hstep]; rfl
        have HPN := Lib.hid hpn
        have HO1 : Hid ((one t.data.toList).getD (0, 0) = (0, 0)) := by show _ = _; rw [ho]; rfl
        have HC : Hid (∀ W : World, Calls Try.prog 76 #[.string t] W fun e w' => e = .returned (.tuple #[.int .i64 0, .int .i64 0]) ∧ Below W.heap.size W w') := fun W => one_any t W HTS.out 0 0 HO1.out
        clear htl hstep ho hts hpn hown
        go_wp2_with (first
          | (go_at_call 76; (with_reducible refine (HC.out _).mono ?_); rintro e w1 ⟨rfl, hb1⟩)
          | fail)
        go_ret2
        exact ⟨stp HBW.out hb1, .inr ⟨HPN.out, rfl⟩⟩
      | some x =>
        obtain ⟨n, k⟩ := x
        rw [ho] at hstep
        have hle := one_le ho
        rw [ba_len5] at hle
        obtain ⟨u, hu⟩ : ∃ u, t.extract k t.size = u := ⟨_, rfl⟩
        have hul : u = ⟨(t.data.toList.drop k).toArray⟩ := by rw [← hu]; exact extract_drop t k
        have hud : u.data.toList = t.data.toList.drop k := by rw [hul]
        have hus : u.size + k = t.size := by rw [hul, size_mk5, List.length_drop, ba_len5]; omega
        have HO1 : Hid ((one t.data.toList).getD (0, 0) = (n, k)) := by show _ = _; rw [ho]; rfl
        have HP2 : Hid (pts s.data.toList = (pts u.data.toList).map ((ns ++ [n]) ++ ·)) := by
          show _ = _
          rw [HP.out, hstep, hud]
          cases hq : pts (t.data.toList.drop k) <;> simp [hq]
        have c0 : ((k : Int) == 0) = false := by simp; omega
        have b0 : (0 : Int) ≤ (k : Int) ∧ (k : Int) ≤ (t.size : Int) := by omega
        have b1 : k ≤ t.size := hle.2.1
        have HUS := Lib.hid hus
        have HLE := Lib.hid hle
        clear htl hstep ho hts hul hud hus hle hown
        go_wp2_with (first
          | (go_at_call 76; (with_reducible refine (one_any t wr HTS.out n k HO1.out).mono ?_); rintro e w1 ⟨rfl, hb1⟩; have HB1 := Lib.hid hb1; have hs1 := hb1.size; have HO2 := Lib.hid (own_below HO.out hb1 (Nat.le_refl _)))
          | (at_builtin; refine wpList_append_rdg encZ_one rfl (.tmp 16) (.tmp 18) 31 rfl w.heap.size 3 i0 (.int .i64 0) 8 Try.underlying31 QI.out QZ0.out QZ1.out QZ2.out (by decide) rfl _ ns.length _ rfl (own_below HO2.out (stpA (Below.refl w1.heap.size w1) (.cells #[.int .i64 n] 3)) (Nat.le_refl _)) (w1.heap.size + 1) (some ⟨w1.heap.size, 0, none⟩) 1 1 [(n : Int)] rfl (RdG.new (enc := encZ) w1 3 [(n : Int)]) rfl (fun h => by cases h) (by have := HN.out; have := HM.out; omega) (by rw [World.size_alloc]; omega) ?_; intro v4 w4 hown4 hgr4; have HO4 := Lib.hid hown4; have HG4 := Lib.hid hgr4; clear hown4 hgr4)
          | fail)
        have hb4 : Below w.heap.size w w4 := ((stp HBW.out HB1.out).alloc (by omega) _).grown HG4.out (by rw [World.size_alloc]; omega) (fun g hg => (HO.out.lt g hg).1)
        go_roundw
        case rel =>
          refine ⟨u, ns ++ [n], rfl, ?_, hb4, HP2.out, ?_⟩
          · rw [List.length_append, zs_append, List.map_append]
            exact HO4.out
          · have := HN.out
            have := HUS.out
            have := HLE.out
            simp
            omega
        case measure =>
          have := HUS.out
          have := HLE.out
          simp [strSize]
          omega

theorem all_is (s : ByteArray) (w : World) (hm : s.size ≤ 1000000) (b : Bool) (h : (pts s.data.toList).isSome = b) :
    Calls Try.prog 72 #[.string s] w fun e w' => Below w.heap.size w w' ∧ ∃ A n c, e = .returned (.tuple #[.slice A n c, .bool b]) := by
  subst h
  refine (all_any s w hm).mono fun e w' ⟨hb, hh⟩ => ⟨hb, ?_⟩
  rcases hh with ⟨ns, A, c, e1, e2, _⟩ | ⟨e1, e2⟩
  · exact ⟨A, _, c, by rw [e2, e1]; rfl⟩
  · exact ⟨none, 0, 0, by rw [e2, e1]; rfl⟩
set_option maxRecDepth 100000 in
theorem ris5_any (s : ByteArray) (w : World) (hm : s.size ≤ 1000000) (b : Bool) (h : (pts s.data.toList).isSome = b) :
    Calls Try.prog 66 #[.string s] w fun e w' => e = .returned (.bool b) ∧ Below w.heap.size w w' := by
  have HM := Lib.hid hm
  have HB := Lib.hid h
  clear hm h
  go_enter Try.func66, Try.ntmps66
  go_wp2_with (first
    | (go_at_call 72; (with_reducible refine (all_is s w HM.out b HB.out).mono ?_); rintro e w1 ⟨hb1, A1, n1, c1, rfl⟩)
    | fail)
  go_ret
  exact ⟨rfl, hb1⟩
/-- The error of a text. -/
def chkE (s : ByteArray) : Int := if 16384 < s.size then 4 else if (pts s.data.toList).isSome then 0 else 50
set_option maxHeartbeats 1000000 in
set_option maxRecDepth 100000 in
theorem rcheck_any (s : ByteArray) (w : World) (hm : s.size ≤ 1000000) (q : Int) (h : chkE s = q) :
    Calls Try.prog 59 #[.string s] w fun e w' => e = .returned (.int .i64 q) ∧ Below w.heap.size w w' := by
  unfold chkE at h
  have HM := Lib.hid hm
  by_cases h1 : 16384 < s.size
  · rw [if_pos h1] at h
    subst h
    have d0 : decide ((16384 : Int) < (s.size : Int)) = true := by simp; omega
    clear hm
    go_enter Try.func59, Try.ntmps59
    go_wp2
    go_ret
    exact ⟨rfl, Below.refl _ _⟩
  · rw [if_neg h1] at h
    have d0 : decide ((16384 : Int) < (s.size : Int)) = false := by simp; omega
    have d1 : ¬ (16384 < s.size) := h1
    cases hp : (pts s.data.toList).isSome
    · rw [hp] at h
      obtain rfl : (50 : Int) = q := h
      have HP := Lib.hid hp
      clear hm h1 hp
      go_enter Try.func59, Try.ntmps59
      go_wp2_with (go_at_call 66; (with_reducible refine (ris5_any s w HM.out false HP.out).mono ?_); rintro e w1 ⟨rfl, hb1⟩)
      go_ret
      exact ⟨rfl, hb1⟩
    · rw [hp] at h
      obtain rfl : (0 : Int) = q := h
      have HP := Lib.hid hp
      clear hm h1 hp
      go_enter Try.func59, Try.ntmps59
      go_wp2_with (go_at_call 66; (with_reducible refine (ris5_any s w HM.out true HP.out).mono ?_); rintro e w1 ⟨rfl, hb1⟩)
      go_ret
      exact ⟨rfl, hb1⟩
end Hx
end Go.Proofs.Ytkmaogafknehgaa
namespace Go.Proofs.Ytkmaogafknehgaa
open Go.RowKit
namespace Hx
open Tx
set_option linter.unusedVariables false

/-- A slice of numbers that came in reads as a list. -/
theorem rdZ_of_row {w : World} {x : Addr} {len cap : Nat} {vs : List Int} (hl : len ≤ cap) (hz : vs.length = cap)
    (hcell : ∀ i, i < vs.length → w.cell? (x.add i) = some (.int .i64 (vs.getD i 0))) (_hwz : ∀ n ∈ vs, (Lit.int .i64 n).wf = true) :
    ∃ l : List Int, RdZ w w.heap.size (some x) l ∧ l.length = len := by
  refine ⟨vs.take len, fun hp => ?_, by simp; omega⟩
  have hp' : 0 < len := by
    simp at hp
    omega
  obtain ⟨b, off, spot⟩ := x
  have hspot : spot = none := by simpa [Addr.add] using World.cell?_spot (hcell 0 (by omega))
  subst hspot
  refine ⟨b, off, rfl, ?_, fun j hj => ?_⟩
  · have := hcell 0 (by omega)
    rw [addr_plain] at this
    exact World.block_lt_of_cell? (a := ⟨b, off + 0, none⟩) w this
  · have hj' : j < len := by
      simp at hj
      omega
    have hjz : j < vs.length := by omega
    have := hcell j hjz
    rw [addr_plain] at this
    rw [this]
    simp [List.getD, hjz, encZ]

theorem chk_ok {s : ByteArray} (h : chkE s = 0) : ∃ ns, pts s.data.toList = some ns ∧ s.size ≤ 16384 := by
  unfold chkE at h
  by_cases h1 : 16384 < s.size
  · rw [if_pos h1] at h; cases h
  · rw [if_neg h1] at h
    cases hp : pts s.data.toList with
    | none => rw [hp] at h; cases h
    | some ns => exact ⟨ns, rfl, by omega⟩
theorem all_ok (s : ByteArray) (ns : List Nat) (w : World) (hm : s.size ≤ 1000000) (h : pts s.data.toList = some ns) :
    Calls Try.prog 72 #[.string s] w fun e w' => Below w.heap.size w w' ∧ ∃ A c, e = .returned (.tuple #[.slice A ns.length c, .bool true]) ∧ (A = none → c = 0) ∧ RdZ w' w'.heap.size A (zs ns) := by
  refine (all_any s w hm).mono fun e w' ⟨hb, hh⟩ => ⟨hb, ?_⟩
  rcases hh with ⟨ms, A, c, e1, e2, e3, e4⟩ | ⟨e1, _⟩
  · rw [h] at e1
    cases e1
    exact ⟨A, c, e2, e3, e4⟩
  · rw [h] at e1
    cases e1
set_option maxHeartbeats 1000000 in
set_option maxRecDepth 100000 in
/-- ref.Same of two slices that read as the same numbers. -/
theorem rsame5_yes (A B : Option Addr) (n c d : Nat) (l : List Int) (w : World) (ha : RdZ w w.heap.size A l) (hb : RdZ w w.heap.size B l) (hn : l.length = n) (hm : n ≤ 1000000) :
    Calls Try.prog 39 #[.slice A n c, .slice B n d] w fun e w' => e = .returned (.bool true) ∧ Below w.heap.size w w' := by
  have HA := Lib.hid ha
  have HB := Lib.hid hb
  have HN := Lib.hid hn
  have HM := Lib.hid hm
  clear ha hb hn hm
  go_enter Try.func39, Try.ntmps39
  go_wp2_with fail
  go_loopw [5] (fun i wr => ∃ k : Nat, k ≤ n ∧ i = .int .i64 k ∧ Below w.heap.size w wr) (fun i _ => n - (intOf i).toNat)
  case atStart => exact ⟨0, Nat.zero_le _, rfl, Below.refl _ _⟩
  case round =>
    obtain ⟨k, hk, rfl, hbw⟩ := hrel
    by_cases hlt : k < n
    · obtain ⟨ga, oa, rfl, hga, hca⟩ := HA.out (by rw [HN.out]; omega)
      obtain ⟨gb, ob, rfl, hgb, hcb⟩ := HB.out (by rw [HN.out]; omega)
      have k1 := (hbw.cell (p := ⟨ga, oa + k, none⟩) hga).trans (hca k (by rw [HN.out]; exact hlt))
      have k2 := (hbw.cell (p := ⟨gb, ob + k, none⟩) hgb).trans (hcb k (by rw [HN.out]; exact hlt))
      obtain ⟨x, hx⟩ : ∃ x, l[k]'(by rw [HN.out]; exact hlt) = x := ⟨_, rfl⟩
      rw [hx] at k1 k2
      have k1' : wr.cell? ⟨ga, oa + k, none⟩ = some (.int .i64 x) := k1
      have k2' : wr.cell? ⟨gb, ob + k, none⟩ = some (.int .i64 x) := k2
      have bk : (0 : Int) ≤ (k : Int) ∧ (k : Int) < (n : Int) := by omega
      have HBW := Lib.hid hbw
      have hMM := HM.out
      clear hca hcb hx k1 k2 hbw
      go_wp2_with fail
      go_quiet (fail)
      go_wp2_with fail
      go_roundw
      case rel => exact ⟨k + 1, hlt, by go_num, below_dn5 HBW.out _⟩
      case measure => simp [intOf]; omega
    · obtain rfl : k = n := by omega
      go_wp2_with fail
      go_ret
      exact ⟨rfl, hbw⟩

theorem infoU8 : (Try.prog.info? 5).map (fun i => (i.zero, i.size, i.bytes)) = some (some (.int .u8 0), 1, 1) := by kernel_rfl
/-- The bytes of numbers that may be. -/
def byL (l : List Int) : List UInt8 := encs (l.map Int.toNat)
theorem byL_length (l : List Int) : (byL l).length ≤ 4 * l.length := by
  unfold byL
  induction l with
  | nil => simp [encs]
  | cons z l ih =>
    rw [List.map_cons, encs_cons, List.length_append]
    have := (enc_length z.toNat).2
    simp only [List.length_cons]
    omega
theorem byL_snoc (l : List Int) (z : Int) : byL (l ++ [z]) = byL l ++ enc z.toNat := by
  unfold byL
  rw [List.map_append, encs_append]
  simp [encs]
/-- The text of numbers, and the error. -/
def ofR (l : List Int) : ByteArray × Int := if l.all may then (if 16384 < (byL l).length then (⟨#[]⟩, 4) else (⟨(byL l).toArray⟩, 0)) else (⟨#[]⟩, 50)
theorem all_take (l : List Int) (k : Nat) (h : k < l.length) (h1 : (l.take k).all may = true) (h2 : may (l[k]'h) = true) : (l.take (k + 1)).all may = true := by
  rw [List.take_succ_eq_append_getElem h, List.all_append, h1]
  simp [h2]
theorem not_all_may (l : List Int) (k : Nat) (h : k < l.length) (h2 : may (l[k]'h) = false) : l.all may = false := by
  rw [List.all_eq_false]
  exact ⟨l[k]'h, List.getElem_mem h, by simp [h2]⟩
theorem chk_lits (s : ByteArray) : chkE s = 0 ∨ chkE s = 4 ∨ chkE s = 50 := by
  unfold chkE
  split
  · exact .inr (.inl rfl)
  · split
    · exact .inl rfl
    · exact .inr (.inr rfl)
theorem of_lits (l : List Int) : (ofR l).2 = 0 ∨ (ofR l).2 = 4 ∨ (ofR l).2 = 50 := by
  unfold ofR
  split
  · split
    · exact .inr (.inl rfl)
    · exact .inl rfl
  · exact .inr (.inr rfl)
/-- What stands at a place. -/
def nextR (l : List UInt8) : Nat × Nat × Nat := match one l with | none => (0, 0, 50) | some (p, k) => (p, k, 0)
theorem nextR_match (l : List UInt8) (p k q : Nat) (h : nextR l = (p, k, q)) : match one l with | none => p = 0 ∧ k = 0 ∧ q = 50 | some (p', k') => p = p' ∧ k = k' ∧ q = 0 := by
  unfold nextR at h
  cases ho : one l with
  | none => rw [ho] at h; cases h; exact ⟨rfl, rfl, rfl⟩
  | some x => obtain ⟨a, b⟩ := x; rw [ho] at h; cases h; exact ⟨rfl, rfl, rfl⟩
theorem nextR_lits {l : List UInt8} {p k q : Nat} (h : nextR l = (p, k, q)) : q = 0 ∨ q = 50 := by
  unfold nextR at h
  split at h
  · cases h; exact .inr rfl
  · cases h; exact .inl rfl
end Hx
end Go.Proofs.Ytkmaogafknehgaa
namespace Go.Proofs.Ytkmaogafknehgaa
open Go.RowKit
namespace Hx
open Tx
set_option linter.unusedVariables false
set_option maxHeartbeats 1000000 in
set_option maxRecDepth 100000 in
/-- text.May. -/
theorem may5w (n : Int) (b : Bool) (w : World) (hb : may n = b) :
    Calls Try.prog 74 #[.int .i64 n] w fun e w' => e = .returned (.bool b) ∧ w = w' := by
  by_cases a : n = 9
  · subst a
    obtain rfl : true = b := hb
    go_enter Try.func74, Try.ntmps74
    go_wp2
    go_ret
    exact ⟨rfl, rfl⟩
  have q1 : (n == 9) = false := by simpa using a
  by_cases a2 : n = 10
  · subst a2
    obtain rfl : true = b := hb
    go_enter Try.func74, Try.ntmps74
    go_wp2
    go_ret
    exact ⟨rfl, rfl⟩
  have q2 : (n == 10) = false := by simpa using a2
  by_cases a3 : n = 13
  · subst a3
    obtain rfl : true = b := hb
    go_enter Try.func74, Try.ntmps74
    go_wp2
    go_ret
    exact ⟨rfl, rfl⟩
  have q3 : (n == 13) = false := by simpa using a3
  by_cases a6 : n = 65534
  · subst a6
    obtain rfl : false = b := hb
    go_enter Try.func74, Try.ntmps74
    go_wp2
    go_ret
    exact ⟨rfl, rfl⟩
  have q6 : (n == 65534) = false := by simpa using a6
  by_cases a7 : n = 65535
  · subst a7
    obtain rfl : false = b := hb
    go_enter Try.func74, Try.ntmps74
    go_wp2
    go_ret
    exact ⟨rfl, rfl⟩
  have q7 : (n == 65535) = false := by simpa using a7
  by_cases a4 : 55296 ≤ n
  · have d4 : decide (55296 ≤ n) = true := by simpa using a4
    have d8 : decide (32 ≤ n) = true := by simp; omega
    by_cases a5 : n ≤ 57343
    · have d5 : decide (n ≤ 57343) = true := by simpa using a5
      obtain rfl : false = b := by
        rw [← hb, may_high (by omega)]
        have e1 : decide (n < 55296) = false := by simp; omega
        have e2 : decide (57343 < n) = false := by simp; omega
        rw [e1, e2]; simp
      clear hb a4 a5
      go_enter Try.func74, Try.ntmps74
      go_wp2
      go_ret
      exact ⟨rfl, rfl⟩
    · have d5 : decide (n ≤ 57343) = false := by simpa using a5
      have hb2 : decide (n ≤ 1114111) = b := by
        rw [← hb, may_high (by omega)]
        have e1 : decide (n < 55296) = false := by simp; omega
        have e2 : decide (57343 < n) = true := by simp; omega
        rw [e1, e2]; simp [a6, a7]
      clear hb a4 a5 a a2 a3 a6 a7
      go_enter Try.func74, Try.ntmps74
      go_wp2
      go_ret
      exact ⟨rfl, rfl⟩
  · have d4 : decide (55296 ≤ n) = false := by simpa using a4
    by_cases a8 : 32 ≤ n
    · have d8 : decide (32 ≤ n) = true := by simpa using a8
      have d9 : decide (n ≤ 1114111) = true := by simp; omega
      obtain rfl : true = b := by
        rw [← hb, may_high (by omega), d9]
        have e1 : decide (n < 55296) = true := by simp; omega
        rw [e1]; simp [a6, a7]
      clear hb a4 a8 a a2 a3 a6 a7
      go_enter Try.func74, Try.ntmps74
      go_wp2
      go_ret
      exact ⟨rfl, rfl⟩
    · have d8 : decide (32 ≤ n) = false := by simpa using a8
      obtain rfl : false = b := by
        rw [← hb, may_low (by omega)]
        simp [a, a2, a3]
      clear hb a4 a8 a a2 a3 a6 a7
      go_enter Try.func74, Try.ntmps74
      go_wp2
      go_ret
      exact ⟨rfl, rfl⟩
theorem may5 (n : Int) (b : Bool) (w : World) (hb : may n = b) : Calls Try.prog 74 #[.int .i64 n] w fun e w' => e = .returned (.bool b) ∧ Below w.heap.size w w' :=
  (may5w n b w hb).mono fun e w' ⟨h1, h2⟩ => ⟨h1, by subst h2; exact Below.refl _ _⟩
set_option maxHeartbeats 1000000 in
set_option maxRecDepth 100000 in
/-- strings.HasPrefix, of a prefix that is there, or not. -/
theorem slpre (s p : ByteArray) (q : Bool) (w : World) (hq : (decide (p.size ≤ s.size) && decide ((s.extract 0 p.size) = p)) = q) :
    Calls Try.prog 77 #[.string s, .string p] w fun e w' => e = .returned (.bool q) ∧ w = w' := by
  by_cases h : p.size ≤ s.size
  · have d0 : decide ((p.size : Int) ≤ (s.size : Int)) = true := by simp; omega
    have e : ((s.extract 0 p.size).toList == p.toList) = q := by rw [seq_b5, ← hq]; simp [h]
    clear hq
    go_enter Try.func77, Try.ntmps77
    go_wp2
    go_ret
    exact ⟨rfl, rfl⟩
  · have d0 : decide ((p.size : Int) ≤ (s.size : Int)) = false := by simp; omega
    obtain rfl : false = q := by rw [← hq]; simp [h]
    clear hq
    go_enter Try.func77, Try.ntmps77
    go_wp2
    go_ret
    exact ⟨rfl, rfl⟩
set_option maxRecDepth 100000 in
theorem pre5 (s p : ByteArray) (q : Bool) (w : World) (hq : (decide (p.size ≤ s.size) && decide ((s.extract 0 p.size) = p)) = q) :
    Calls Try.prog 73 #[.string s, .string p] w fun e w' => e = .returned (.bool q) ∧ w = w' := by
  have HQ := Lib.hid hq
  clear hq
  go_enter Try.func73, Try.ntmps73
  go_wp2_with (go_at_call 77; (with_reducible refine (slpre s p q w HQ.out).mono ?_); rintro e w1 ⟨rfl, rfl⟩)
  go_ret
  exact ⟨rfl, rfl⟩
/-- The bytes of the code point that stands for none. -/
def stnd : ByteArray := ⟨#[239, 191, 189]⟩
theorem enc_stnd : enc 65533 = [239, 191, 189] := by decide +kernel
theorem extract_take (s : ByteArray) (n : Nat) : s.extract 0 n = ⟨(s.data.toList.take n).toArray⟩ := by
  have := ByteArray.extract_mk s.data.toList 0 n
  rw [← ba_eq5] at this
  rw [this]
  simp
theorem stnd_pre (l : List UInt8) : (decide (stnd.size ≤ (⟨l.toArray⟩ : ByteArray).size) && decide (((⟨l.toArray⟩ : ByteArray).extract 0 stnd.size) = stnd)) = decide (l.take 3 = [239, 191, 189]) := by
  rw [extract_take]
  show (decide (3 ≤ l.length) && decide ((⟨(l.take 3).toArray⟩ : ByteArray) = ⟨#[239, 191, 189]⟩)) = _
  rw [Bool.eq_iff_iff]
  simp only [Bool.and_eq_true, decide_eq_true_eq]
  constructor
  · rintro ⟨_, h⟩
    have := congrArg (fun x : ByteArray => x.data.toList) h
    simpa using this
  · intro h
    refine ⟨?_, by rw [h]⟩
    have := congrArg List.length h
    rw [List.length_take] at this
    simp at this
    omega
/-- The rune that a range tells of bytes. -/
def runeL (l : List UInt8) : Nat := match decL l with | some p => p.1 | none => 65533
theorem dec_stnd (l : List UInt8) : l.take 3 = [239, 191, 189] ↔ decL l = some (65533, 3) := by
  constructor
  · intro h
    have e : l = enc 65533 ++ l.drop 3 := by rw [enc_stnd, ← h, List.take_append_drop]
    rw [e, dec_enc 65533 (by decide), enc_stnd]
    rfl
  · intro h
    obtain ⟨_, _, r, e⟩ := dec_sound l _ _ h
    rw [e, enc_stnd]
    rfl
theorem runeL_le (l : List UInt8) : runeL l ≤ 1114111 := by
  unfold runeL
  cases h : decL l with
  | none => simp
  | some p =>
    obtain ⟨p, k⟩ := p
    exact sv_le (dec_sound l _ _ h).1
theorem one_rune (l : List UInt8) : (one l).isSome = if runeL l = 65533 then decide (l.take 3 = [239, 191, 189]) else may (runeL l) := by
  unfold runeL one
  cases h : decL l with
  | none =>
    have : ¬ l.take 3 = [239, 191, 189] := by rw [dec_stnd, h]; simp
    simp [this]
  | some p =>
    obtain ⟨p, k⟩ := p
    simp only
    by_cases hp : p = 65533
    · subst hp
      have hs := (dec_sound l _ _ h).2.1
      rw [enc_stnd] at hs
      obtain rfl : k = 3 := hs
      rw [if_pos rfl, decide_eq_true ((dec_stnd l).2 h)]
      decide
    · rw [if_neg hp]
      cases hm : may p <;> simp [hm]
set_option maxHeartbeats 1000000 in
set_option maxRecDepth 100000 in
/-- text.begins. -/
theorem begins5 (l : List UInt8) (s : ByteArray) (c : Nat) (b : Bool) (w : World) (hs : s = ⟨l.toArray⟩) (hc : runeL l = c) (hb : (one l).isSome = b) :
    Calls Try.prog 67 #[.string s, .int .i32 c] w fun e w' => e = .returned (.bool b) ∧ w = w' := by
  have hle := runeL_le l
  rw [one_rune, hc] at hb
  rw [hc] at hle
  have g1 : IntKind.i64.wrap (c : Int) = (c : Int) := IntWalk.i64_in _ (by omega)
  have hpre := stnd_pre l
  rw [← hs] at hpre
  by_cases h : c = 65533
  · rw [if_pos h] at hb
    rw [hb] at hpre
    have HP : Hid (∀ W : World, Calls Try.prog 73 #[.string s, .string ⟨#[239, 191, 189]⟩] W fun e w' => e = .returned (.bool b) ∧ W = w') := fun W => pre5 s stnd b W hpre
    subst h
    clear hle hc hb hs hpre
    cases b
    · go_enter Try.func67, Try.ntmps67
      go_wp2_with (go_at_call 73; (with_reducible refine (HP.out _).mono ?_); rintro e w1 ⟨rfl, rfl⟩)
      go_ret
      exact ⟨rfl, rfl⟩
    · go_enter Try.func67, Try.ntmps67
      go_wp2_with (first
        | (go_at_call 73; (with_reducible refine (HP.out _).mono ?_); rintro e w1 ⟨rfl, rfl⟩)
        | (go_at_call 74; (with_reducible refine (may5w 65533 true w rfl).mono ?_); rintro e w1 ⟨rfl, rfl⟩)
        | fail)
      go_ret
      exact ⟨rfl, rfl⟩
  · rw [if_neg h] at hb
    have d0 : ((c : Int) == 65533) = false := by simp; omega
    have HB := Lib.hid hb
    clear hle hc hb hs hpre h
    go_enter Try.func67, Try.ntmps67
    go_wp2_with (first
      | (go_at_call 74; (with_reducible refine (may5w c b w HB.out).mono ?_); rintro e w1 ⟨rfl, rfl⟩)
      | fail)
    go_ret
    exact ⟨rfl, rfl⟩
theorem i64_and63 (n : Int) : bits .and .i64 n 63 = n % 64 := by
  have h63 : (BitVec.ofInt 64 63).toNat = 2 ^ 6 - 1 := by decide
  have key : (BitVec.ofInt 64 n &&& BitVec.ofInt 64 63).toNat = (n % ((2 ^ 64 : Nat) : Int)).toNat % 2 ^ 6 := by
    rw [BitVec.toNat_and, BitVec.toNat_ofInt, h63, Nat.and_two_pow_sub_one_eq_mod]
  show IntKind.i64.wrap ((BitVec.ofInt 64 n &&& BitVec.ofInt 64 63).toNat : Nat) = n % 64
  rw [key, IntKind.wrap_i64]
  omega
end Hx
end Go.Proofs.Ytkmaogafknehgaa
