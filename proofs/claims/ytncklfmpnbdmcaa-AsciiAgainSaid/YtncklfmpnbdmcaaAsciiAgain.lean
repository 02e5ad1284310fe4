/-
  Small letters, and what is trimmed, done again turn nothing; what is turned is as long, and the same; what is trimmed begins and ends with no blank, and stands in the text between blanks; for every text, and no condition besides.
-/
import Derived.Test.YtncklfmpnbdmcaaAscW
import Derived.WalkKit
import Derived.ProofKit
import Derived.OpenShut
import Derived.ShutString
import Derived.ChangeOld
import Derived.Below
namespace Go.Proofs.Ytncklfmpnbdmcaa.asciiAgain
open Go.ChangeShapes Go.WideShapes Go.ChangeAt Go.RowKit
open Go.ChangeMaps (open_string shut_string)
open Hx As
set_option linter.unusedVariables false

theorem own : ownKnob Try.prog.godebug = none := by kernel_rfl
theorem laidOut : laidOutB Try.prog = true := by kernel_rfl

set_option maxHeartbeats 1000000 in
set_option maxRecDepth 100000 in
theorem walkOut (s : ByteArray) (w : World) (h : 1000 < s.size) :
    Calls Try.prog 5 #[.string s] w fun e w' => e = .returned (.bool true) ∧ Below w.heap.size w w' := by
  have d0 : decide ((1000 : Int) < (s.size : Int)) = true := by simp; omega
  go_enter Try.func5, Try.ntmps5
  go_wp2_with (first
    | (go_at_call 10; (with_reducible refine (alive7 w).mono ?_); rintro e w1 ⟨rfl, hb1⟩)
    | fail)
  go_ret
  exact ⟨rfl, hb1⟩
theorem lowS_size (s : ByteArray) : (lowS s).size = s.size := by rw [← ba_len7, ← ba_len7]; exact lows_length _
theorem lowS_lowS (s : ByteArray) : lowS (lowS s) = lowS s := by
  refine ba_ext7 ?_
  exact lows_lows _
theorem trimS_trimS (s : ByteArray) : trimS (trimS s) = trimS s := by
  refine ba_ext7 ?_
  exact trim_trim _
theorem trimS_size (s : ByteArray) : (trimS s).size ≤ s.size := by rw [← ba_len7, ← ba_len7]; exact trim_len _
theorem mid_of (a x b : List UInt8) : ((a ++ x ++ b).drop a.length).take x.length = x := by
  rw [List.append_assoc, List.drop_left, List.take_left]
/-- Where what is trimmed stands. -/
theorem place7 (s b : ByteArray) (h : trimS s = b) : ∃ i0, i0 + b.size ≤ s.size ∧ s.extract i0 (i0 + b.size) = b ∧ (s.extract 0 i0).data.toList.all blk = true ∧ (s.extract (i0 + b.size) s.size).data.toList.all blk = true := by
  obtain ⟨p, q, e, hp, hq⟩ := trim_split s.data.toList
  have hbl : b.data.toList = trim s.data.toList := by rw [← h]; rfl
  rw [← hbl] at e
  have hsz : b.size = b.data.toList.length := (ba_len7 b).symm
  have hs : s.size = p.length + b.data.toList.length + q.length := by rw [← ba_len7, e]; simp; omega
  refine ⟨p.length, by omega, ?_, ?_, ?_⟩
  · refine ba_ext7 ?_
    rw [extract_mid, mkB_list, show p.length + b.size - p.length = b.data.toList.length by omega]
    conv => lhs; rw [e]
    exact mid_of p b.data.toList q
  · rw [extract_take7]
    show (s.data.toList.take p.length).all blk = true
    rw [e, List.append_assoc, List.take_left]
    exact hp
  · rw [extract_drop7]
    show (s.data.toList.drop (p.length + b.size)).all blk = true
    rw [e, hsz, show p.length + b.data.toList.length = (p ++ b.data.toList).length by simp, List.drop_left]
    exact hq
/-- What is trimmed ends and begins with no blank. -/
theorem ends7 (s b : ByteArray) (m1 : Nat) (h : trimS s = b) (h0 : 0 < b.size) (hm : b.size - 1 = m1) : ∃ c d : UInt8, (∀ h, b[0]'h = c) ∧ (∀ h, b[m1]'h = d) ∧ blk c = false ∧ blk d = false := by
  subst hm
  have hbl : b.data.toList = trim s.data.toList := by rw [← h]; rfl
  obtain ⟨c, hc, hc2⟩ := Hx.byte_at b 0 h0
  obtain ⟨d, hd, hd2⟩ := Hx.byte_at b (b.size - 1) (by omega)
  refine ⟨c, d, hc2, hd2, ?_, ?_⟩
  · cases hl : b.data.toList with
    | nil => rw [hl] at hc; cases hc
    | cons x r =>
      rw [hl] at hc
      cases hc
      exact trim_head s.data.toList _ r (hbl.symm.trans hl)
  · have hk : b.data.toList = b.data.toList.take (b.size - 1) ++ [d] := by
      have := take_next hd
      rw [List.take_of_length_le (by rw [ba_len7]; omega)] at this
      exact this
    exact trim_last s.data.toList d _ (hbl.symm.trans hk)
theorem not_blk {c : UInt8} (h : blk c = false) : ((c.toNat : Int) != 32) = true ∧ ((c.toNat : Int) != 9) = true ∧ ((c.toNat : Int) == 32) = false ∧ ((c.toNat : Int) == 9) = false := by
  unfold blk at h
  rw [Bool.or_eq_false_iff, decide_eq_false_iff_not, decide_eq_false_iff_not] at h
  refine ⟨?_, ?_, ?_, ?_⟩ <;> simp <;> omega
set_option maxHeartbeats 8000000 in
set_option maxRecDepth 100000 in
theorem walkIn (s a b : ByteArray) (t p : Bool) (m : Nat) (w : World) (hs : s.size ≤ 1000) (ha : lowS s = a) (hb : trimS s = b) (ht : isTok s.data.toList = t) (hp : plain s.data.toList = p) (hm : b.size = m) :
    Calls Try.prog 5 #[.string s] w fun e w' => e = .returned (.bool true) ∧ Below w.heap.size w w' := by
  obtain ⟨i0, hi1, hi2, hi3, hi4⟩ := place7 s b hb
  have hasz : a.size = s.size := by rw [← ha]; exact lowS_size s
  have hbsz : b.size ≤ s.size := by rw [← hb]; exact trimS_size s
  have HSA : Hid (decide (lowS a = lowS s) = true) := Lib.hid (by rw [← ha]; exact decide_eq_true (lowS_lowS s))
  have HAA : Hid (lowS a = a) := Lib.hid (by rw [← ha]; exact lowS_lowS s)
  have HBB : Hid (trimS b = b) := Lib.hid (by rw [← hb]; exact trimS_trimS s)
  have HTA : Hid (isTok a.data.toList = t) := Lib.hid (by rw [← ht, ← ha]; exact tok_lows _)
  have HPB : Hid (plain b.data.toList = p) := Lib.hid (by rw [← hp, ← hb]; exact plain_trim _)
  have HA := Lib.hid ha
  have HB := Lib.hid hb
  have HT := Lib.hid ht
  have HP := Lib.hid hp
  have HS : Hid (s.size ≤ 1000000) := Lib.hid (by omega)
  have HAS : Hid (a.size ≤ 1000000) := Lib.hid (by omega)
  have HBS : Hid (b.size ≤ 1000000) := Lib.hid (by omega)
  have d0 : decide ((1000 : Int) < (s.size : Int)) = false := by simp; omega
  have f0 : ¬ 1000 < s.size := by omega
  have q0 : ((a.size : Int) != (s.size : Int)) = false := by simp; omega
  have q1 : decide ((s.size : Int) < (m : Int)) = false := by simp; omega
  have q2 : ¬ s.size < m := by omega
  rw [hm] at hi1 hi2 hi4 hbsz
  have HM := Lib.hid hm
  have HI : Hid (i0 + m ≤ s.size ∧ s.extract i0 (i0 + m) = b ∧ (s.extract 0 i0).data.toList.all blk = true ∧ (s.extract (i0 + m) s.size).data.toList.all blk = true) := ⟨hi1, hi2, hi3, hi4⟩
  have HZ : Hid (s.size ≤ 1000 ∧ m ≤ s.size) := ⟨hs, hbsz⟩
  clear ha hb ht hp hs hi1 hi2 hi3 hi4 hbsz
  go_enter Try.func5, Try.ntmps5
  go_wp2_with (first
    | (go_at_call 10; (with_reducible refine (alive7 w).mono ?_); rintro e w1 ⟨rfl, hb1⟩; have hB1 := hb1)
    | (go_at_call 15; (with_reducible refine (lower7 s a w1 HS.out HA.out).mono ?_); rintro e w2 ⟨rfl, hb2⟩; have hB2 := stp hB1 hb2)
    | (go_at_call 18; (with_reducible refine (trim7 s b w2 HS.out HB.out).mono ?_); rintro e w3 ⟨rfl, hb3⟩; have hB3 := stp hB2 hb3)
    | (go_at_call 15; (with_reducible refine (lower7 a a w3 HAS.out HAA.out).mono ?_); rintro e w4 ⟨rfl, hb4⟩; have hB4 := stp hB3 hb4)
    | (go_at_call 18; (with_reducible refine (trim7 b b w4 HBS.out HBB.out).mono ?_); rintro e w5 ⟨rfl, hb5⟩; have hB5 := stp hB4 hb5)
    | (go_at_call 13; (with_reducible refine (same7 a s true w5 HAS.out HS.out HSA.out).mono ?_); rintro e w6 ⟨rfl, hb6⟩; have hB6 := stp hB5 hb6)
    | fail)
  have HW6 := Lib.hid hB6
  clear hasz q0 q1 q2 hb1 hb2 hb3 hb4 hb5 hb6 hB1 hB2 hB3 hB4 hB5 hB6
  go_loopg [6, 7] (s.size + 1) (fun gg x i wr => ∃ (k : Nat) (y : Bool), k + gg = s.size + 1 ∧ i = .int .i64 k ∧ x = .bool y ∧ w6 = wr ∧ (i0 < k → y = true))
  case atStart => exact ⟨0, false, by omega, rfl, rfl, rfl, fun h => absurd h (Nat.not_lt_zero _)⟩
  case round =>
    obtain ⟨k, y, hk, rfl, rfl, rfl, hy⟩ := hrel
    have HY := Lib.hid hy
    clear hy
    have hz := HZ.out
    have hmn := HM.out
    obtain ⟨e, he⟩ : ∃ e, k + m = e := ⟨_, rfl⟩
    have g1 : IntKind.i64.wrap ((k : Int) + (m : Int)) = (e : Int) := by rw [IntWalk.i64_in _ (by omega)]; omega
    by_cases hlt : e ≤ s.size
    · have d1 : decide ((e : Int) ≤ (s.size : Int)) = true := by simp; omega
      have b0 : (0 : Int) ≤ (k : Int) ∧ (k : Int) ≤ (e : Int) := by omega
      have b1 : (e : Int) ≤ (s.size : Int) := by omega
      have b2 : (k : Int) ≤ (s.size : Int) := by omega
      have b3 : k ≤ e := by omega
      have b4 : k ≤ s.size := by omega
      obtain ⟨x1, hx1⟩ : ∃ x1, s.extract k e = x1 := ⟨_, rfl⟩
      obtain ⟨x2, hx2⟩ : ∃ x2, s.extract 0 k = x2 := ⟨_, rfl⟩
      obtain ⟨x3, hx3⟩ : ∃ x3, s.extract e s.size = x3 := ⟨_, rfl⟩
      have HX1 := Lib.hid hx1
      have HX2 := Lib.hid hx2
      have HX3 := Lib.hid hx3
      have HE := Lib.hid he
      have hs2 : x2.size ≤ 1000000 := by rw [← hx2, ← ba_len7, extract_take7]; show (s.data.toList.take k).length ≤ _; rw [List.length_take, ba_len7]; omega
      have hs3 : x3.size ≤ 1000000 := by rw [← hx3, ← ba_len7, extract_drop7]; show (s.data.toList.drop e).length ≤ _; rw [List.length_drop, ba_len7]; omega
      have HS2 := Lib.hid hs2
      have HS3 := Lib.hid hs3
      clear he hs2 hs3
      cases y
      · have hno : ¬ i0 < k := fun h => by cases HY.out h
        have HNO := Lib.hid hno
        clear hno
        by_cases hE : x1 = b
        · have e1 : (x1.toList == b.toList) = true := by rw [seq_b7]; exact decide_eq_true hE
          have HEQ := Lib.hid hE
          cases hP : x2.data.toList.all blk
          · have HPP := Lib.hid hP
            have HN : Hid (i0 < k + 1 → false = true) := fun h => by
              exfalso
              have hk0 : i0 = k := by have := HNO.out; omega
              have h3 := HI.out.2.2.1
              rw [hk0, HX2.out, hP] at h3
              cases h3
            clear hE hP
            go_wp2_with (first
              | (go_at_call 23; (with_reducible refine (blank_any x2 false w6 HS2.out HPP.out).mono ?_); rintro e w7 ⟨rfl, rfl⟩)
              | fail)
            go_roundg (gk - 1)
            case rel => exact ⟨k + 1, false, by omega, by go_num, rfl, rfl, HN.out⟩
            case measure => omega
          · have HPP := Lib.hid hP
            cases hQ : x3.data.toList.all blk
            · have HQQ := Lib.hid hQ
              have HN : Hid (i0 < k + 1 → false = true) := fun h => by
                exfalso
                have hk0 : i0 = k := by have := HNO.out; omega
                have h4 := HI.out.2.2.2
                rw [hk0, HE.out, HX3.out, hQ] at h4
                cases h4
              clear hE hP hQ
              go_wp2_with (first
                | (go_at_call 23; (with_reducible refine (blank_any x2 true w6 HS2.out HPP.out).mono ?_); rintro e w7 ⟨rfl, rfl⟩)
                | (go_at_call 23; (with_reducible refine (blank_any x3 false w6 HS3.out HQQ.out).mono ?_); rintro e w7 ⟨rfl, rfl⟩)
                | fail)
              go_roundg (gk - 1)
              case rel => exact ⟨k + 1, false, by omega, by go_num, rfl, rfl, HN.out⟩
              case measure => omega
            · have HQQ := Lib.hid hQ
              have HN : Hid (i0 < k + 1 → true = true) := Lib.hid (fun _ => rfl)
              clear hE hP hQ
              go_wp2_with (first
                | (go_at_call 23; (with_reducible refine (blank_any x2 true w6 HS2.out HPP.out).mono ?_); rintro e w7 ⟨rfl, rfl⟩)
                | (go_at_call 23; (with_reducible refine (blank_any x3 true w6 HS3.out HQQ.out).mono ?_); rintro e w7 ⟨rfl, rfl⟩)
                | fail)
              go_roundg (gk - 1)
              case rel => exact ⟨k + 1, true, by omega, by go_num, rfl, rfl, fun _ => rfl⟩
              case measure => omega
        · have e1 : (x1.toList == b.toList) = false := by rw [seq_b7]; exact decide_eq_false hE
          have HN : Hid (i0 < k + 1 → false = true) := fun h => by
            exfalso
            have hk0 : i0 = k := by have := HNO.out; omega
            have h2 := HI.out.2.1
            rw [hk0, HE.out, HX1.out] at h2
            exact hE h2
          clear hE
          go_wp2_with fail
          go_roundg (gk - 1)
          case rel => exact ⟨k + 1, false, by omega, by go_num, rfl, rfl, HN.out⟩
          case measure => omega
      · go_wp2_with fail
        go_roundg (gk - 1)
        case rel => exact ⟨k + 1, true, by omega, by go_num, rfl, rfl, fun _ => rfl⟩
        case measure => omega
    · have d1 : decide ((e : Int) ≤ (s.size : Int)) = false := by simp; omega
      obtain rfl : true = y := by
        refine (HY.out ?_).symm
        have := HI.out.1
        omega
      clear he
      by_cases h0 : m = 0
      · have e1 : (b.toList == (⟨#[]⟩ : ByteArray).toList) = true := by rw [empty_b, hmn]; simpa using h0
        have e2 : (b.toList == []) = true := by rw [empty_b2, hmn]; simpa using h0
        clear h0
        go_wp2_with (first
          | (go_at_call 9; (with_reducible refine (token7 a t w6 HAS.out HTA.out).mono ?_); rintro e v1 ⟨rfl, hb1⟩; have hB1 := stp HW6.out hb1)
          | (go_at_call 9; (with_reducible refine (token7 s t v1 HS.out HT.out).mono ?_); rintro e v2 ⟨rfl, hb2⟩; have hB2 := stp hB1 hb2)
          | (go_at_call 12; (with_reducible refine (plain7 b p v2 HBS.out HPB.out).mono ?_); rintro e v3 ⟨rfl, hb3⟩; have hB3 := stp hB2 hb3)
          | (go_at_call 12; (with_reducible refine (plain7 s p v3 HS.out HP.out).mono ?_); rintro e v4 ⟨rfl, hb4⟩; have hB4 := stp hB3 hb4)
          | fail)
        go_ret
        exact ⟨rfl, hB4⟩
      · have e1 : (b.toList == (⟨#[]⟩ : ByteArray).toList) = false := by rw [empty_b, hmn]; simpa using h0
        have e2 : (b.toList == []) = false := by rw [empty_b2, hmn]; simpa using h0
        obtain ⟨m1, hm1⟩ : ∃ m1, m - 1 = m1 := ⟨_, rfl⟩
        obtain ⟨c, d, hc, hd, hbc, hbd⟩ := ends7 s b m1 HB.out (by omega) (by omega)
        obtain ⟨c1, c2, c3, c4⟩ := not_blk hbc
        obtain ⟨d2, d3, d4, d5⟩ := not_blk hbd
        have hm1lt : m1 < b.size := by omega
        have h0lt : 0 < b.size := by omega
        have g2 : IntKind.i64.wrap ((m : Int) - 1) = (m1 : Int) := by rw [IntWalk.i64_in _ (by omega)]; omega
        have b5 : (0 : Int) ≤ (m1 : Int) ∧ (m1 : Int) < (b.size : Int) := by omega
        have b6 : (0 : Int) < (b.size : Int) := by omega
        clear hbc hbd hm1
        go_wp2_with (first
          | (go_at_call 9; (with_reducible refine (token7 a t w6 HAS.out HTA.out).mono ?_); rintro e v1 ⟨rfl, hb1⟩; have hB1 := stp HW6.out hb1)
          | (go_at_call 9; (with_reducible refine (token7 s t v1 HS.out HT.out).mono ?_); rintro e v2 ⟨rfl, hb2⟩; have hB2 := stp hB1 hb2)
          | (go_at_call 12; (with_reducible refine (plain7 b p v2 HBS.out HPB.out).mono ?_); rintro e v3 ⟨rfl, hb3⟩; have hB3 := stp hB2 hb3)
          | (go_at_call 12; (with_reducible refine (plain7 s p v3 HS.out HP.out).mono ?_); rintro e v4 ⟨rfl, hb4⟩; have hB4 := stp hB3 hb4)
          | fail)
        go_ret
        exact ⟨rfl, hB4⟩
theorem walk (a0 : ByteArray) (w : World) (w0 : a0.size ≤ maxLen) :
    Calls Try.prog 5 #[.string a0] w fun e w' => e = .returned (.bool true) ∧ Below w.heap.size w w' := by
  by_cases h : 1000 < a0.size
  · exact walkOut a0 w h
  · exact walkIn a0 _ _ _ _ _ w (by omega) rfl rfl rfl rfl rfl

set_option maxRecDepth 100000 in
theorem lifted (os : Os) (started : os.Started) (H : Type) (enc : TypeId × Value → H) :
    ReturnsInHanded {} Try.checked os 5 .any (Rows.asciiAgainSpec.pre6 enc Try.prog Try.f5 Rows.asciiAgainRow.domain false) (Rows.asciiAgainSpec.post enc Try.prog Try.f5 false true false false) := by
  refine returnsInHanded_of_change (C := Try.checked) own started (by kernel_rfl) Try.func5
    (ChangeSpec.witness6 (enc := enc) (C := Try.checked) false ⟨#[], #[.string ByteArray.empty], []⟩ 8 (by kernel_rfl) (by kernel_rfl) (by kernel_rfl) (by kernel_rfl)) ?_
  intro W base args ds gs before hval0 hW hcnd _
  have hval : ∀ (j : Nat) t v, Try.f5.params[j]? = some t → args[j]? = some v → Value.okWide Try.prog W .any base t v := hval0
  have hW' := hW
  obtain ⟨p, q, hA0, hV, rfl, hfz, hnd⟩ := hW
  have hA : DataW.TrodAll enc Try.prog W 0 (fun _ => true) true Try.f5.params.toList args.toList ds p := hA0
  rw [Try.params5] at hA hval
  obtain ⟨v0, vs0, d0, ds0, p0, q0, hargs, rfl, rfl, h0, r0⟩ := trodAll_cons hA
  obtain ⟨rfl, rfl, rfl⟩ := trodAll_nil r0
  obtain rfl : args = #[v0] := by cases args; simp_all
  obtain ⟨rfl, rfl⟩ := trodVars_none hV
  obtain ⟨a0, rfl, rfl, rfl, w0⟩ := open_string Try.underlying9 (hval 0 9 v0 rfl rfl) h0
  clear hA0 hval0
  refine (walk a0 W w0).mono fun e W' ⟨he, bel⟩ => ?_
  subst he
  exact ⟨_, rfl, _, _, _, [], _, [], hW', trodAll_mk1 (shut_bool Try.underlying4 _), (trodAll_cons_mk (shut_string Try.underlying9 w0) trodAll_mk0), rfl, bel.frame _, fun h => by cases h⟩

theorem over : Rows.asciiAgainRow.holds Try.pinned (OpenSpec.ofChange Rows.asciiAgainSpec) :=
  OpenClaim.holds_of_wide 5 Try.f5 rfl rfl rfl rfl rfl rfl rfl ⟨rfl, rfl, rfl, rfl, rfl⟩ rfl rfl rfl rfl rfl (by kernel_rfl) Try.func5 (by kernel_rfl)
    (of_decide_eq_true (by kernel_rfl)) (by unfold Func.isWrapper; first | (rw [if_pos (by decide +kernel)]; kernel_rfl) | (rw [if_neg (by decide +kernel)]; exact ⟨rfl, rfl⟩))
    (fun os started H enc _ => lifted os started H enc)

theorem proved : Rows.AsciiAgainSaid := over
end Go.Proofs.Ytncklfmpnbdmcaa.asciiAgain
