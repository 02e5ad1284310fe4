/-
  The document's own chunk (tidewaiterref16): hex, Decode.
-/
import Derived.Test.YtphakhklhicolaaDoorChkA
namespace Go.Proofs.YtphakhklhicolaaDoor
open Go.RowKit
namespace Hx
open Ck
set_option linter.unusedVariables false
set_option linter.unusedSimpArgs false
theorem results_tmp4 {fn : Func} {a b c d : Tmp} (h : fn.results = #[.tmp a, .tmp b, .tmp c, .tmp d]) (tmps : Array Value) (P : Program) (w : World) :
    (results fn tmps).run P w = .ok (.tuple #[tmps.getD a undef, tmps.getD b undef, tmps.getD c undef, tmps.getD d undef]) w := by
  simp [results, h]
set_option maxHeartbeats 8000000 in
set_option maxRecDepth 100000 in
theorem rhex16 (n : Nat) (w : World) (hn : n ≤ 8192) (t : ByteArray) (ht : t.data.toList = hexL n) :
    Calls Tryd.prog 20 #[.int .i64 n] w fun e w' => e = .returned (.string t) ∧ Below w.heap.size w w' := by
  have HD := Lib.hid ht
  have HL := Lib.hid (hexL_len 4 n (by omega))
  have HN := Lib.hid hn
  clear ht hn
  go_enter Tryd.func20, Tryd.ntmps20
  go_wp2_with fail
  go_loopw [0, 3] (fun i s wr => ∃ (k : Nat) (u : ByteArray), i = .int .i64 k ∧ s = .string u ∧ k ≤ 8192 ∧ hexL n = hexL k ++ u.data.toList ∧ Below w.heap.size w wr) (fun i _ _ => (intOf i).toNat)
  case atStart => exact ⟨n, ⟨#[]⟩, rfl, rfl, HN.out, by simp, Below.refl _ _⟩
  case round =>
    obtain ⟨k, u, rfl, rfl, hk, hdk, hbw⟩ := hrel
    have hul : u.size ≤ 4 := by
      have h1 := congrArg List.length hdk
      rw [List.length_append, ba_len7] at h1
      have := HL.out
      omega
    have HBW := Lib.hid hbw
    by_cases h0 : k = 0
    · subst h0
      have hvt : u = t := by
        refine ba_ext7 ?_
        rw [HD.out, hdk, hexL_0, List.nil_append]
      subst hvt
      clear hdk hbw HD
      go_wp2_with fail
      go_ret
      exact ⟨rfl, HBW.out⟩
    · obtain ⟨q, hq⟩ : ∃ q, k / 16 = q := ⟨_, rfl⟩
      obtain ⟨r, hr⟩ : ∃ r, k % 16 = r := ⟨_, rfl⟩
      have hr16 : r < 16 := by omega
      obtain ⟨c, hc⟩ : ∃ c, hx r = c := ⟨_, rfl⟩
      have hcl := c.toNat_lt
      have d0 : decide ((0 : Int) < (k : Int)) = true := decide_eq_true (by omega)
      have g1 : (k : Int).tmod 16 = (r : Int) := by rw [Int.tmod_eq_emod_of_nonneg (by omega)]; omega
      have g2 : (k : Int).tdiv 16 = (q : Int) := by rw [Int.tdiv_eq_ediv_of_nonneg (by omega)]; omega
      obtain ⟨v, hv⟩ : ∃ v, (⟨#[c]⟩ : ByteArray) ++ u = v := ⟨_, rfl⟩
      have hcat : ∀ W, (Op.stringOp .add ⟨#[c]⟩ u).run Tryd.prog W = .ok (.string v) W := fun W => by rw [run_string_add W ⟨#[c]⟩ u (by show ((1 : Nat) : Int) ≤ _; decide) (by omega), hv]
      have HV : Hid (hexL n = hexL q ++ v.data.toList) := Lib.hid (by
        rw [hdk, hexL_pos (by omega), hq, hr, hc, ← hv]
        simp)
      have hqk : q < k := by omega
      have hcv := conv_one (P := Tryd.prog) wr c Tryd.underlying29 Tryd.underlying5 Tryd.underlying9
      have v1 : IntKind.i64.wrap (48 + (r : Int)) = 48 + (r : Int) := IntWalk.i64_in _ (by omega)
      have v2 : IntKind.i64.wrap (87 + (r : Int)) = 87 + (r : Int) := IntWalk.i64_in _ (by omega)
      have v3 : IntKind.u8.wrap (48 + (r : Int)) = 48 + (r : Int) := IntWalk.u8_in _ (by omega)
      have v4 : IntKind.u8.wrap (87 + (r : Int)) = 87 + (r : Int) := IntWalk.u8_in _ (by omega)
      by_cases h9 : r < 10
      · have hcn : (48 : Int) + (r : Int) = (c.toNat : Int) := by rw [← hc]; unfold hx; rw [if_pos h9, UInt8.toNat_ofNat']; omega
        have d9 : decide ((9 : Int) < (r : Int)) = false := decide_eq_false (by omega)
        clear hdk hv hc hbw HD hq hr
        go_wp2_with fail
        go_roundw
        case rel => exact ⟨q, v, rfl, rfl, by omega, HV.out, stpA HBW.out _⟩
        case measure => simp [intOf]; omega
      · have hcn : (87 : Int) + (r : Int) = (c.toNat : Int) := by rw [← hc]; unfold hx; rw [if_neg h9, UInt8.toNat_ofNat']; omega
        have d9 : decide ((9 : Int) < (r : Int)) = true := decide_eq_true (by omega)
        clear hdk hv hc hbw HD hq hr
        go_wp2_with fail
        go_roundw
        case rel => exact ⟨q, v, rfl, rfl, by omega, HV.out, stpA HBW.out _⟩
        case measure => simp [intOf]; omega
set_option maxHeartbeats 8000000 in
set_option maxRecDepth 100000 in
theorem rdecode16 (s b : ByteArray) (u : Nat) (d : Bool) (er : Int) (w : World) (hm : s.size ≤ 1000000) (h : decL [] 0 s.data.toList = (b.data.toList, u, d, er)) :
    Calls Tryd.prog 13 #[.string s] w fun e w' => e = .returned (.tuple #[.string b, .int .i64 u, .bool d, .int .i64 er]) ∧ Below w.heap.size w w' := by
  have HM := Lib.hid hm
  have HH := Lib.hid h
  clear hm h
  go_enter Tryd.func13, Tryd.ntmps13
  go_wp2_with fail
  go_loopw [6, 7] (fun x6 x7 wr => ∃ (c : ByteArray) (p : Nat), x6 = .string c ∧ x7 = .int .i64 p ∧ p ≤ s.size ∧ c.size ≤ p ∧ decL c.data.toList p (s.data.toList.drop p) = (b.data.toList, u, d, er) ∧ Below w.heap.size w wr) (fun _ x7 _ => s.size - (intOf x7).toNat)
  case atStart => exact ⟨⟨#[]⟩, 0, rfl, rfl, Nat.zero_le _, Nat.le_refl _, HH.out, Below.refl _ _⟩
  case round =>
    obtain ⟨c, p, rfl, rfl, hp, hcp, hinv, hbw⟩ := hrel
    have HBW := Lib.hid hbw
    have hMM := HM.out
    obtain ⟨r, hr⟩ : ∃ r, s.extract p s.size = r := ⟨_, rfl⟩
    have hrl : r.data.toList = s.data.toList.drop p := by rw [← hr, Lib.extract_data, List.take_of_length_le (by rw [List.length_drop, ba_len7]; exact Nat.le_refl _)]
    have hrz : r.size + p = s.size := by rw [← ba_len7 r, hrl, List.length_drop, ba_len7]; omega
    have bp : (0 : Int) ≤ (p : Int) ∧ (p : Int) ≤ (s.size : Int) := by omega
    rw [← hrl] at hinv
    obtain ⟨q1, hq1⟩ : ∃ q, decide (last5 <+: r.data.toList) = q := ⟨_, rfl⟩
    obtain ⟨q2, hq2⟩ : ∃ q, decide (r.data.toList <+: last5) = q := ⟨_, rfl⟩
    have HQ1 := Lib.hid fun W => rbegins16 ⟨#[48, 13, 10, 13, 10]⟩ r q1 W (by decide) (by omega) hq1
    have HQ2 := Lib.hid fun W => rbegins16 r ⟨#[48, 13, 10, 13, 10]⟩ q2 W (by omega) (by decide) hq2
    obtain ⟨n, k, hnk⟩ : ∃ n k, sz r.data.toList = (n, k) := ⟨_, _, rfl⟩
    have HSZ := Lib.hid fun W => rsize16 r n k W (by omega) hnk
    have hk4 := sz_len r.data.toList
    have hpos := fun h => sz_pos (l := r.data.toList) h
    have hn16 : n ≤ 65535 := Nat.le_of_lt_succ (sz_lt hnk)
    rw [hnk, ba_len7] at hk4
    rw [hnk] at hpos
    dsimp only at hk4 hpos
    have HCL : Hid (c.data.toList.length = c.size) := Lib.hid (ba_len7 c)
    cases q1 with
    | true =>
      have e : stepL c.data.toList.length r.data.toList = .fin := by unfold stepL; rw [if_pos (of_decide_eq_true hq1)]
      have u5 : IntKind.i64.wrap ((p : Int) + 5) = ((p + 5 : Nat) : Int) := by rw [IntWalk.i64_in _ (by omega)]; omega
      rw [dec_fin e] at hinv
      obtain ⟨z1, hz⟩ := (Prod.mk.injEq _ _ _ _).mp hinv
      obtain ⟨z2, hz⟩ := (Prod.mk.injEq _ _ _ _).mp hz
      obtain ⟨z3, z4⟩ := (Prod.mk.injEq _ _ _ _).mp hz
      obtain rfl : c = b := ba_ext7 z1
      subst z2 z3 z4
      clear z1
      clear hinv hbw hq1 hq2 hnk hpos HSZ HQ2 HCL hrl e
      go_wp2_with (first
        | (go_at_call 18; (with_reducible refine (HQ1.out _).mono ?_); rintro e w1 ⟨rfl, hb1⟩; have HB1 := Lib.hid (stp HBW.out hb1); clear hb1)
        | fail)
      (try simp only [Exit.inBlock, Exit.then])
      exact bodyPost_ret (results_tmp4 rfl _ _ _) rfl ⟨rfl, HB1.out⟩
    | false =>
      have g1 := of_decide_eq_false hq1
      cases q2 with
      | true =>
        have e : stepL c.data.toList.length r.data.toList = .begun := by unfold stepL; rw [if_neg g1, if_pos (of_decide_eq_true hq2)]
        rw [dec_open e] at hinv
        obtain ⟨z1, hz⟩ := (Prod.mk.injEq _ _ _ _).mp hinv
        obtain ⟨z2, hz⟩ := (Prod.mk.injEq _ _ _ _).mp hz
        obtain ⟨z3, z4⟩ := (Prod.mk.injEq _ _ _ _).mp hz
        obtain rfl : (⟨#[]⟩ : ByteArray) = b := ba_ext7 z1
        subst z2 z3 z4
        clear z1
        clear hinv hbw hq1 hq2 hnk hpos HSZ HCL hrl e g1
        go_wp2_with (first
          | (go_at_call 18; (with_reducible refine (HQ1.out _).mono ?_); rintro e w1 ⟨rfl, hb1⟩; have HB1 := Lib.hid (stp HBW.out hb1); clear hb1)
          | (go_at_call 18; (with_reducible refine (HQ2.out _).mono ?_); rintro e w2 ⟨rfl, hb2⟩; have HB2 := Lib.hid (stp HB1.out hb2); clear hb2)
          | fail)
        (try simp only [Exit.inBlock, Exit.then])
        exact bodyPost_ret (results_tmp4 rfl _ _ _) rfl ⟨rfl, HB2.out⟩
      | false =>
        have g2 := of_decide_eq_false hq2
        by_cases h3 : k = 0
        · have e : stepL c.data.toList.length r.data.toList = .bad := by unfold stepL; rw [if_neg g1, if_neg g2, hnk, if_pos h3]
          have e0 : ((k : Int) == 0) = true := by simp [h3]
          rw [dec_bad e] at hinv
          obtain ⟨z1, hz⟩ := (Prod.mk.injEq _ _ _ _).mp hinv
          obtain ⟨z2, hz⟩ := (Prod.mk.injEq _ _ _ _).mp hz
          obtain ⟨z3, z4⟩ := (Prod.mk.injEq _ _ _ _).mp hz
          obtain rfl : (⟨#[]⟩ : ByteArray) = b := ba_ext7 z1
          subst z2 z3 z4
          clear z1
          clear hinv hbw hq1 hq2 hnk hpos HCL hrl e g1 g2
          go_wp2_with (first
            | (go_at_call 18; (with_reducible refine (HQ1.out _).mono ?_); rintro e w1 ⟨rfl, hb1⟩; have HB1 := Lib.hid (stp HBW.out hb1); clear hb1)
            | (go_at_call 18; (with_reducible refine (HQ2.out _).mono ?_); rintro e w2 ⟨rfl, hb2⟩; have HB2 := Lib.hid (stp HB1.out hb2); clear hb2)
            | (go_at_call 19; (with_reducible refine (HSZ.out _).mono ?_); rintro e w3 ⟨rfl, hb3⟩; have HB3 := Lib.hid (stp HB2.out hb3); clear hb3)
            | fail)
          (try simp only [Exit.inBlock, Exit.then])
          exact bodyPost_ret (results_tmp4 rfl _ _ _) rfl ⟨rfl, HB3.out⟩
        · have e0 : ((k : Int) == 0) = false := by simp; omega
          have e00 : (k == 0) = false := by simpa using h3
          by_cases h4 : k = r.size
          · have e : stepL c.data.toList.length r.data.toList = .begun := by unfold stepL; rw [if_neg g1, if_neg g2, hnk, if_neg h3, if_pos (.inl (by rw [ba_len7]; exact h4))]
            have e1 : ((k : Int) == (r.size : Int)) = true := by simp; omega
            have e11 : (k == r.size) = true := by simpa using h4
            rw [dec_open e] at hinv
            obtain ⟨z1, hz⟩ := (Prod.mk.injEq _ _ _ _).mp hinv
            obtain ⟨z2, hz⟩ := (Prod.mk.injEq _ _ _ _).mp hz
            obtain ⟨z3, z4⟩ := (Prod.mk.injEq _ _ _ _).mp hz
            obtain rfl : (⟨#[]⟩ : ByteArray) = b := ba_ext7 z1
            subst z2 z3 z4
            clear z1
            clear hinv hbw hq1 hq2 hnk hpos HCL hrl e g1 g2
            go_wp2_with (first
              | (go_at_call 18; (with_reducible refine (HQ1.out _).mono ?_); rintro e w1 ⟨rfl, hb1⟩; have HB1 := Lib.hid (stp HBW.out hb1); clear hb1)
              | (go_at_call 18; (with_reducible refine (HQ2.out _).mono ?_); rintro e w2 ⟨rfl, hb2⟩; have HB2 := Lib.hid (stp HB1.out hb2); clear hb2)
              | (go_at_call 19; (with_reducible refine (HSZ.out _).mono ?_); rintro e w3 ⟨rfl, hb3⟩; have HB3 := Lib.hid (stp HB2.out hb3); clear hb3)
              | fail)
            (try simp only [Exit.inBlock, Exit.then])
            exact bodyPost_ret (results_tmp4 rfl _ _ _) rfl ⟨rfl, HB3.out⟩
          · have e1 : ((k : Int) == (r.size : Int)) = false := by simp; omega
            have e11 : (k == r.size) = false := by simpa using h4
            have bkk : (0 : Int) ≤ (k : Int) ∧ (k : Int) ≤ (r.size : Int) := by omega
            obtain ⟨x, hx⟩ : ∃ x, r.extract k r.size = x := ⟨_, rfl⟩
            have hxl : x.data.toList = r.data.toList.drop k := by rw [← hx, Lib.extract_data, List.take_of_length_le (by rw [List.length_drop, ba_len7]; exact Nat.le_refl _)]
            have hxz : x.size + k = r.size := by rw [← ba_len7 x, hxl, List.length_drop, ba_len7]; omega
            obtain ⟨q3, hq3⟩ : ∃ q, decide (x.data.toList = [13]) = q := ⟨_, rfl⟩
            have f3 : (x.toList == (⟨#[13]⟩ : ByteArray).toList) = q3 := by rw [seq_b7, ← hq3]; exact decide_eq_decide.2 ⟨fun h => by rw [h], fun h => ba_ext7 h⟩
            have f33 : (x.toList == [13]) = q3 := by rw [← f3, ByteArray.toList_eq (⟨#[13]⟩ : ByteArray)]
            obtain ⟨q4, hq4⟩ : ∃ q, decide ([13, 10] <+: x.data.toList) = q := ⟨_, rfl⟩
            have HQ4 := Lib.hid fun W => rbegins16 ⟨#[13, 10]⟩ x q4 W (by decide) (by omega) hq4
            cases q3 with
            | true =>
              have e : stepL c.data.toList.length r.data.toList = .begun := by unfold stepL; rw [if_neg g1, if_neg g2, hnk, if_neg h3, if_pos (.inr (by rw [← hxl]; exact of_decide_eq_true hq3))]
              rw [dec_open e] at hinv
              obtain ⟨z1, hz⟩ := (Prod.mk.injEq _ _ _ _).mp hinv
              obtain ⟨z2, hz⟩ := (Prod.mk.injEq _ _ _ _).mp hz
              obtain ⟨z3, z4⟩ := (Prod.mk.injEq _ _ _ _).mp hz
              obtain rfl : (⟨#[]⟩ : ByteArray) = b := ba_ext7 z1
              subst z2 z3 z4
              clear z1
              clear hinv hbw hq1 hq2 hnk hpos HCL hrl e g1 g2 hxl hq4 HQ4 hq3
              go_wp2_with (first
                | (go_at_call 18; (with_reducible refine (HQ1.out _).mono ?_); rintro e w1 ⟨rfl, hb1⟩; have HB1 := Lib.hid (stp HBW.out hb1); clear hb1)
                | (go_at_call 18; (with_reducible refine (HQ2.out _).mono ?_); rintro e w2 ⟨rfl, hb2⟩; have HB2 := Lib.hid (stp HB1.out hb2); clear hb2)
                | (go_at_call 19; (with_reducible refine (HSZ.out _).mono ?_); rintro e w3 ⟨rfl, hb3⟩; have HB3 := Lib.hid (stp HB2.out hb3); clear hb3)
                | fail)
              (try simp only [Exit.inBlock, Exit.then])
              exact bodyPost_ret (results_tmp4 rfl _ _ _) rfl ⟨rfl, HB3.out⟩
            | false =>
              have g4 : ¬ (k = r.data.toList.length ∨ r.data.toList.drop k = [13]) := by
                rw [ba_len7, ← hxl]
                exact fun h => h.elim h4 (of_decide_eq_false hq3)
              cases q4 with
              | false =>
                have e : stepL c.data.toList.length r.data.toList = .bad := by unfold stepL; rw [if_neg g1, if_neg g2, hnk, if_neg h3, if_neg g4, ← hxl, if_pos (of_decide_eq_false hq4)]
                rw [dec_bad e] at hinv
                obtain ⟨z1, hz⟩ := (Prod.mk.injEq _ _ _ _).mp hinv
                obtain ⟨z2, hz⟩ := (Prod.mk.injEq _ _ _ _).mp hz
                obtain ⟨z3, z4⟩ := (Prod.mk.injEq _ _ _ _).mp hz
                obtain rfl : (⟨#[]⟩ : ByteArray) = b := ba_ext7 z1
                subst z2 z3 z4
                clear z1
                clear hinv hbw hq1 hq2 hnk hpos HCL hrl e g1 g2 hxl hq4 g4 hq3
                go_wp2_with (first
                  | (go_at_call 18; (with_reducible refine (HQ1.out _).mono ?_); rintro e w1 ⟨rfl, hb1⟩; have HB1 := Lib.hid (stp HBW.out hb1); clear hb1)
                  | (go_at_call 18; (with_reducible refine (HQ2.out _).mono ?_); rintro e w2 ⟨rfl, hb2⟩; have HB2 := Lib.hid (stp HB1.out hb2); clear hb2)
                  | (go_at_call 19; (with_reducible refine (HSZ.out _).mono ?_); rintro e w3 ⟨rfl, hb3⟩; have HB3 := Lib.hid (stp HB2.out hb3); clear hb3)
                  | (go_at_call 18; (with_reducible refine (HQ4.out _).mono ?_); rintro e w4 ⟨rfl, hb4⟩; have HB4 := Lib.hid (stp HB3.out hb4); clear hb4)
                  | fail)
                (try simp only [Exit.inBlock, Exit.then])
                exact bodyPost_ret (results_tmp4 rfl _ _ _) rfl ⟨rfl, HB4.out⟩
              | true =>
                have g5 := of_decide_eq_true hq4
                have g5n : ¬ ¬ [13, 10] <+: r.data.toList.drop k := by rw [← hxl]; exact fun h => h g5
                have hx2 : 2 ≤ x.size := by have := g5.length_le; rw [ba_len7] at this; exact this
                have us : IntKind.i64.wrap ((c.size : Int) + (n : Int)) = (c.size : Int) + (n : Int) := IntWalk.i64_in _ (by omega)
                by_cases h6 : 8192 < c.size + n
                · have e : stepL c.data.toList.length r.data.toList = .many := by unfold stepL; rw [if_neg g1, if_neg g2, hnk, if_neg h3, if_neg g4, if_neg g5n, if_pos (by rw [HCL.out]; exact h6)]
                  have d6 : decide ((8192 : Int) < (c.size : Int) + (n : Int)) = true := decide_eq_true (by omega)
                  rw [dec_many e] at hinv
                  obtain ⟨z1, hz⟩ := (Prod.mk.injEq _ _ _ _).mp hinv
                  obtain ⟨z2, hz⟩ := (Prod.mk.injEq _ _ _ _).mp hz
                  obtain ⟨z3, z4⟩ := (Prod.mk.injEq _ _ _ _).mp hz
                  obtain rfl : (⟨#[]⟩ : ByteArray) = b := ba_ext7 z1
                  subst z2 z3 z4
                  clear z1
                  clear hinv hbw hq1 hq2 hnk hpos HCL hrl e g1 g2 hxl hq4 g4 hq3 g5 g5n
                  go_wp2_with (first
                    | (go_at_call 18; (with_reducible refine (HQ1.out _).mono ?_); rintro e w1 ⟨rfl, hb1⟩; have HB1 := Lib.hid (stp HBW.out hb1); clear hb1)
                    | (go_at_call 18; (with_reducible refine (HQ2.out _).mono ?_); rintro e w2 ⟨rfl, hb2⟩; have HB2 := Lib.hid (stp HB1.out hb2); clear hb2)
                    | (go_at_call 19; (with_reducible refine (HSZ.out _).mono ?_); rintro e w3 ⟨rfl, hb3⟩; have HB3 := Lib.hid (stp HB2.out hb3); clear hb3)
                    | (go_at_call 18; (with_reducible refine (HQ4.out _).mono ?_); rintro e w4 ⟨rfl, hb4⟩; have HB4 := Lib.hid (stp HB3.out hb4); clear hb4)
                    | fail)
                  (try simp only [Exit.inBlock, Exit.then])
                  exact bodyPost_ret (results_tmp4 rfl _ _ _) rfl ⟨rfl, HB4.out⟩
                · have g6 : ¬ 8192 < c.data.toList.length + n := by rw [HCL.out]; exact h6
                  have d6 : decide ((8192 : Int) < (c.size : Int) + (n : Int)) = false := decide_eq_false (by omega)
                  have uk : IntKind.i64.wrap ((k : Int) + 2) = ((k + 2 : Nat) : Int) := by rw [IntWalk.i64_in _ (by omega)]; omega
                  obtain ⟨k2, hk2⟩ : ∃ k2, k + 2 = k2 := ⟨_, rfl⟩
                  rw [hk2] at uk
                  have bk2 : (0 : Int) ≤ (k2 : Int) ∧ (k2 : Int) ≤ (r.size : Int) := by omega
                  obtain ⟨D, hD⟩ : ∃ D, r.extract k2 r.size = D := ⟨_, rfl⟩
                  have hDl : D.data.toList = r.data.toList.drop (k + 2) := by rw [← hD, hk2, Lib.extract_data, List.take_of_length_le (by rw [List.length_drop, ba_len7]; exact Nat.le_refl _)]
                  have hDz : D.size + k2 = r.size := by rw [← ba_len7 D, hDl, hk2, List.length_drop, ba_len7]; omega
                  by_cases h7 : D.size ≤ n
                  · have e : stepL c.data.toList.length r.data.toList = .begun := by unfold stepL; rw [if_neg g1, if_neg g2, hnk, if_neg h3, if_neg g4, if_neg g5n, if_neg g6, ← hDl, if_pos (.inl (by rw [ba_len7]; exact h7))]
                    have d7 : decide ((D.size : Int) ≤ (n : Int)) = true := decide_eq_true (by omega)
                    have d77 : decide (D.size ≤ n) = true := decide_eq_true h7
                    rw [dec_open e] at hinv
                    obtain ⟨z1, hz⟩ := (Prod.mk.injEq _ _ _ _).mp hinv
                    obtain ⟨z2, hz⟩ := (Prod.mk.injEq _ _ _ _).mp hz
                    obtain ⟨z3, z4⟩ := (Prod.mk.injEq _ _ _ _).mp hz
                    obtain rfl : (⟨#[]⟩ : ByteArray) = b := ba_ext7 z1
                    subst z2 z3 z4
                    clear z1
                    clear hinv hbw hq1 hq2 hnk hpos HCL hrl e g1 g2 hxl hq4 g4 hq3 g5 g5n g6 hDl
                    go_wp2_with (first
                      | (go_at_call 18; (with_reducible refine (HQ1.out _).mono ?_); rintro e w1 ⟨rfl, hb1⟩; have HB1 := Lib.hid (stp HBW.out hb1); clear hb1)
                      | (go_at_call 18; (with_reducible refine (HQ2.out _).mono ?_); rintro e w2 ⟨rfl, hb2⟩; have HB2 := Lib.hid (stp HB1.out hb2); clear hb2)
                      | (go_at_call 19; (with_reducible refine (HSZ.out _).mono ?_); rintro e w3 ⟨rfl, hb3⟩; have HB3 := Lib.hid (stp HB2.out hb3); clear hb3)
                      | (go_at_call 18; (with_reducible refine (HQ4.out _).mono ?_); rintro e w4 ⟨rfl, hb4⟩; have HB4 := Lib.hid (stp HB3.out hb4); clear hb4)
                      | fail)
                    (try simp only [Exit.inBlock, Exit.then])
                    exact bodyPost_ret (results_tmp4 rfl _ _ _) rfl ⟨rfl, HB4.out⟩
                  · have d7 : decide ((D.size : Int) ≤ (n : Int)) = false := decide_eq_false (by omega)
                    have d77 : decide (D.size ≤ n) = false := decide_eq_false h7
                    have bn : (0 : Int) ≤ (n : Int) ∧ (n : Int) ≤ (D.size : Int) := by omega
                    obtain ⟨y, hy⟩ : ∃ y, D.extract n D.size = y := ⟨_, rfl⟩
                    have hyl : y.data.toList = D.data.toList.drop n := by rw [← hy, Lib.extract_data, List.take_of_length_le (by rw [List.length_drop, ba_len7]; exact Nat.le_refl _)]
                    have hyz : y.size + n = D.size := by rw [← ba_len7 y, hyl, List.length_drop, ba_len7]; omega
                    obtain ⟨q8, hq8⟩ : ∃ q, decide (y.data.toList <+: [13, 10]) = q := ⟨_, rfl⟩
                    obtain ⟨q9, hq9⟩ : ∃ q, decide ([13, 10] <+: y.data.toList) = q := ⟨_, rfl⟩
                    have HQ5 := Lib.hid fun W => rbegins16 y ⟨#[13, 10]⟩ q8 W (by omega) (by decide) hq8
                    have HQ6 := Lib.hid fun W => rbegins16 ⟨#[13, 10]⟩ y q9 W (by decide) (by omega) hq9
                    have un : IntKind.i64.wrap ((n : Int) + 2) = (n : Int) + 2 := IntWalk.i64_in _ (by omega)
                    by_cases h8 : q8 = true ∧ D.size < n + 2
                    · obtain ⟨rfl, h8⟩ := h8
                      have e : stepL c.data.toList.length r.data.toList = .begun := by unfold stepL; rw [if_neg g1, if_neg g2, hnk, if_neg h3, if_neg g4, if_neg g5n, if_neg g6, ← hDl, if_pos (.inr ⟨by rw [← hyl]; exact of_decide_eq_true hq8, by rw [ba_len7]; exact h8⟩)]
                      have d8 : decide ((D.size : Int) < (n : Int) + 2) = true := decide_eq_true (by omega)
                      rw [dec_open e] at hinv
                      obtain ⟨z1, hz⟩ := (Prod.mk.injEq _ _ _ _).mp hinv
                      obtain ⟨z2, hz⟩ := (Prod.mk.injEq _ _ _ _).mp hz
                      obtain ⟨z3, z4⟩ := (Prod.mk.injEq _ _ _ _).mp hz
                      obtain rfl : (⟨#[]⟩ : ByteArray) = b := ba_ext7 z1
                      subst z2 z3 z4
                      clear z1
                      clear hinv hbw hq1 hq2 hnk hpos HCL hrl e g1 g2 hxl hq4 g4 hq3 g5 g5n g6 hDl hyl hq8 hq9 HQ6
                      go_wp2_with (first
                        | (go_at_call 18; (with_reducible refine (HQ1.out _).mono ?_); rintro e w1 ⟨rfl, hb1⟩; have HB1 := Lib.hid (stp HBW.out hb1); clear hb1)
                        | (go_at_call 18; (with_reducible refine (HQ2.out _).mono ?_); rintro e w2 ⟨rfl, hb2⟩; have HB2 := Lib.hid (stp HB1.out hb2); clear hb2)
                        | (go_at_call 19; (with_reducible refine (HSZ.out _).mono ?_); rintro e w3 ⟨rfl, hb3⟩; have HB3 := Lib.hid (stp HB2.out hb3); clear hb3)
                        | (go_at_call 18; (with_reducible refine (HQ4.out _).mono ?_); rintro e w4 ⟨rfl, hb4⟩; have HB4 := Lib.hid (stp HB3.out hb4); clear hb4)
                        | (go_at_call 18; (with_reducible refine (HQ5.out _).mono ?_); rintro e w5 ⟨rfl, hb5⟩; have HB5 := Lib.hid (stp HB4.out hb5); clear hb5)
                        | fail)
                      (try simp only [Exit.inBlock, Exit.then])
                      exact bodyPost_ret (results_tmp4 rfl _ _ _) rfl ⟨rfl, HB5.out⟩
                    · have g7 : ¬ (D.data.toList.length ≤ n ∨ (D.data.toList.drop n <+: [13, 10] ∧ D.data.toList.length < n + 2)) := by
                        rw [ba_len7, ← hyl]
                        rintro (k1 | ⟨k1, k2⟩)
                        · exact h7 k1
                        · exact h8 ⟨by rw [← hq8]; exact decide_eq_true k1, k2⟩
                      cases q9 with
                      | false =>
                        have e : stepL c.data.toList.length r.data.toList = .bad := by unfold stepL; rw [if_neg g1, if_neg g2, hnk, if_neg h3, if_neg g4, if_neg g5n, if_neg g6, ← hDl, if_neg g7, ← hyl, if_pos (of_decide_eq_false hq9)]
                        cases q8 with
                        | true =>
                          have d8 : decide ((D.size : Int) < (n : Int) + 2) = false := decide_eq_false (fun hh => h8 ⟨rfl, by omega⟩)
                          rw [dec_bad e] at hinv
                          obtain ⟨z1, hz⟩ := (Prod.mk.injEq _ _ _ _).mp hinv
                          obtain ⟨z2, hz⟩ := (Prod.mk.injEq _ _ _ _).mp hz
                          obtain ⟨z3, z4⟩ := (Prod.mk.injEq _ _ _ _).mp hz
                          obtain rfl : (⟨#[]⟩ : ByteArray) = b := ba_ext7 z1
                          subst z2 z3 z4
                          clear z1
                          clear hinv hbw hq1 hq2 hnk hpos HCL hrl e g1 g2 hxl hq4 g4 hq3 g5 g5n g6 hDl hyl hq8 hq9 g7 h8
                          go_wp2_with (first
                            | (go_at_call 18; (with_reducible refine (HQ1.out _).mono ?_); rintro e w1 ⟨rfl, hb1⟩; have HB1 := Lib.hid (stp HBW.out hb1); clear hb1)
                            | (go_at_call 18; (with_reducible refine (HQ2.out _).mono ?_); rintro e w2 ⟨rfl, hb2⟩; have HB2 := Lib.hid (stp HB1.out hb2); clear hb2)
                            | (go_at_call 19; (with_reducible refine (HSZ.out _).mono ?_); rintro e w3 ⟨rfl, hb3⟩; have HB3 := Lib.hid (stp HB2.out hb3); clear hb3)
                            | (go_at_call 18; (with_reducible refine (HQ4.out _).mono ?_); rintro e w4 ⟨rfl, hb4⟩; have HB4 := Lib.hid (stp HB3.out hb4); clear hb4)
                            | (go_at_call 18; (with_reducible refine (HQ5.out _).mono ?_); rintro e w5 ⟨rfl, hb5⟩; have HB5 := Lib.hid (stp HB4.out hb5); clear hb5)
                            | (go_at_call 18; (with_reducible refine (HQ6.out _).mono ?_); rintro e w6 ⟨rfl, hb6⟩; have HB6 := Lib.hid (stp HB5.out hb6); clear hb6)
                            | fail)
                          (try simp only [Exit.inBlock, Exit.then])
                          exact bodyPost_ret (results_tmp4 rfl _ _ _) rfl ⟨rfl, HB6.out⟩
                        | false =>
                          rw [dec_bad e] at hinv
                          obtain ⟨z1, hz⟩ := (Prod.mk.injEq _ _ _ _).mp hinv
                          obtain ⟨z2, hz⟩ := (Prod.mk.injEq _ _ _ _).mp hz
                          obtain ⟨z3, z4⟩ := (Prod.mk.injEq _ _ _ _).mp hz
                          obtain rfl : (⟨#[]⟩ : ByteArray) = b := ba_ext7 z1
                          subst z2 z3 z4
                          clear z1
                          clear hinv hbw hq1 hq2 hnk hpos HCL hrl e g1 g2 hxl hq4 g4 hq3 g5 g5n g6 hDl hyl hq8 hq9 g7 h8
                          go_wp2_with (first
                            | (go_at_call 18; (with_reducible refine (HQ1.out _).mono ?_); rintro e w1 ⟨rfl, hb1⟩; have HB1 := Lib.hid (stp HBW.out hb1); clear hb1)
                            | (go_at_call 18; (with_reducible refine (HQ2.out _).mono ?_); rintro e w2 ⟨rfl, hb2⟩; have HB2 := Lib.hid (stp HB1.out hb2); clear hb2)
                            | (go_at_call 19; (with_reducible refine (HSZ.out _).mono ?_); rintro e w3 ⟨rfl, hb3⟩; have HB3 := Lib.hid (stp HB2.out hb3); clear hb3)
                            | (go_at_call 18; (with_reducible refine (HQ4.out _).mono ?_); rintro e w4 ⟨rfl, hb4⟩; have HB4 := Lib.hid (stp HB3.out hb4); clear hb4)
                            | (go_at_call 18; (with_reducible refine (HQ5.out _).mono ?_); rintro e w5 ⟨rfl, hb5⟩; have HB5 := Lib.hid (stp HB4.out hb5); clear hb5)
                            | (go_at_call 18; (with_reducible refine (HQ6.out _).mono ?_); rintro e w6 ⟨rfl, hb6⟩; have HB6 := Lib.hid (stp HB5.out hb6); clear hb6)
                            | fail)
                          (try simp only [Exit.inBlock, Exit.then])
                          exact bodyPost_ret (results_tmp4 rfl _ _ _) rfl ⟨rfl, HB6.out⟩
                      | true =>
                        obtain ⟨z, hz⟩ : ∃ z, D.extract 0 n = z := ⟨_, rfl⟩
                        have hzl : z.data.toList = D.data.toList.take n := by rw [← hz, Lib.extract_data, List.drop_zero, Nat.sub_zero]
                        have hzz : z.size = n := by rw [← ba_len7, hzl, List.length_take, ba_len7]; omega
                        have g9n : ¬ ¬ [13, 10] <+: D.data.toList.drop n := by rw [← hyl]; exact fun h => h (of_decide_eq_true hq9)
                        have hy2 : 2 ≤ y.size := by have := (of_decide_eq_true hq9).length_le; rw [ba_len7] at this; exact this
                        have e : stepL c.data.toList.length r.data.toList = .go z.data.toList (s.data.toList.drop (p + k + 2 + n + 2)) := by
                          unfold stepL
                          rw [if_neg g1, if_neg g2, hnk, if_neg h3, if_neg g4, if_neg g5n, if_neg g6, ← hDl, if_neg g7, if_neg g9n, hzl, hDl, hrl]
                          dsimp only
                          rw [List.drop_drop, List.drop_drop]
                          congr 2
                        rw [dec_go e] at hinv
                        obtain ⟨v, hv⟩ : ∃ v, c ++ z = v := ⟨_, rfl⟩
                        have HIV : Hid (decL v.data.toList (p + k + 2 + n + 2) (s.data.toList.drop (p + k + 2 + n + 2)) = (b.data.toList, u, d, er)) := Lib.hid (by
                          rw [← hinv, ← hv, show p + (r.data.toList.length - (s.data.toList.drop (p + k + 2 + n + 2)).length) = p + k + 2 + n + 2 by rw [ba_len7, List.length_drop, ba_len7]; omega]
                          simp)
                        have HVZ : Hid (v.size ≤ p + k + 2 + n + 2) := Lib.hid (by rw [← hv, ByteArray.size_append, hzz]; omega)
                        have lv : ¬ 9223372036854775807 < c.size + z.size := by omega
                        have w1_ : IntKind.i64.wrap ((p : Int) + (k : Int)) = (p : Int) + (k : Int) := IntWalk.i64_in _ (by omega)
                        have w2_ : IntKind.i64.wrap ((p : Int) + (k : Int) + 2) = (p : Int) + (k : Int) + 2 := IntWalk.i64_in _ (by omega)
                        have w3_ : IntKind.i64.wrap ((p : Int) + (k : Int) + 2 + (n : Int)) = (p : Int) + (k : Int) + 2 + (n : Int) := IntWalk.i64_in _ (by omega)
                        have w4_ : IntKind.i64.wrap ((p : Int) + (k : Int) + 2 + (n : Int) + 2) = (p : Int) + (k : Int) + 2 + (n : Int) + 2 := IntWalk.i64_in _ (by omega)
                        have HSP : Hid (p + k + 2 + n + 2 ≤ s.size) := Lib.hid (by omega)
                        cases q8 with
                        | true =>
                          have d8 : decide ((D.size : Int) < (n : Int) + 2) = false := decide_eq_false (fun hh => h8 ⟨rfl, by omega⟩)
                          clear hinv hbw hq1 hq2 hnk hpos HCL hrl e g1 g2 hxl hq4 g4 hq3 g5 g5n g6 hDl hyl hq8 hq9 g7 h8 hzl g9n
                          go_wp2_with (first
                            | (go_at_call 18; (with_reducible refine (HQ1.out _).mono ?_); rintro e w1 ⟨rfl, hb1⟩; have HB1 := Lib.hid (stp HBW.out hb1); clear hb1)
                            | (go_at_call 18; (with_reducible refine (HQ2.out _).mono ?_); rintro e w2 ⟨rfl, hb2⟩; have HB2 := Lib.hid (stp HB1.out hb2); clear hb2)
                            | (go_at_call 19; (with_reducible refine (HSZ.out _).mono ?_); rintro e w3 ⟨rfl, hb3⟩; have HB3 := Lib.hid (stp HB2.out hb3); clear hb3)
                            | (go_at_call 18; (with_reducible refine (HQ4.out _).mono ?_); rintro e w4 ⟨rfl, hb4⟩; have HB4 := Lib.hid (stp HB3.out hb4); clear hb4)
                            | (go_at_call 18; (with_reducible refine (HQ5.out _).mono ?_); rintro e w5 ⟨rfl, hb5⟩; have HB5 := Lib.hid (stp HB4.out hb5); clear hb5)
                            | (go_at_call 18; (with_reducible refine (HQ6.out _).mono ?_); rintro e w6 ⟨rfl, hb6⟩; have HB6 := Lib.hid (stp HB5.out hb6); clear hb6)
                            | fail)
                          go_roundw
                          case rel => exact ⟨v, p + k + 2 + n + 2, rfl, by go_num, HSP.out, HVZ.out, HIV.out, HB6.out⟩
                          case measure => have := HSP.out; simp [intOf]; omega
                        | false =>
                          clear hinv hbw hq1 hq2 hnk hpos HCL hrl e g1 g2 hxl hq4 g4 hq3 g5 g5n g6 hDl hyl hq8 hq9 g7 h8 hzl g9n
                          go_wp2_with (first
                            | (go_at_call 18; (with_reducible refine (HQ1.out _).mono ?_); rintro e w1 ⟨rfl, hb1⟩; have HB1 := Lib.hid (stp HBW.out hb1); clear hb1)
                            | (go_at_call 18; (with_reducible refine (HQ2.out _).mono ?_); rintro e w2 ⟨rfl, hb2⟩; have HB2 := Lib.hid (stp HB1.out hb2); clear hb2)
                            | (go_at_call 19; (with_reducible refine (HSZ.out _).mono ?_); rintro e w3 ⟨rfl, hb3⟩; have HB3 := Lib.hid (stp HB2.out hb3); clear hb3)
                            | (go_at_call 18; (with_reducible refine (HQ4.out _).mono ?_); rintro e w4 ⟨rfl, hb4⟩; have HB4 := Lib.hid (stp HB3.out hb4); clear hb4)
                            | (go_at_call 18; (with_reducible refine (HQ5.out _).mono ?_); rintro e w5 ⟨rfl, hb5⟩; have HB5 := Lib.hid (stp HB4.out hb5); clear hb5)
                            | (go_at_call 18; (with_reducible refine (HQ6.out _).mono ?_); rintro e w6 ⟨rfl, hb6⟩; have HB6 := Lib.hid (stp HB5.out hb6); clear hb6)
                            | fail)
                          go_roundw
                          case rel => exact ⟨v, p + k + 2 + n + 2, rfl, by go_num, HSP.out, HVZ.out, HIV.out, HB6.out⟩
                          case measure => have := HSP.out; simp [intOf]; omega
end Hx
end Go.Proofs.YtphakhklhicolaaDoor
