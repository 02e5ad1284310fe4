/-
  Contracts of the document's own answers for layer 7 (tidewaiterref07): Trim, in, Token, Plain.
-/
import Derived.Test.YtncklfmpnbdmcaaAscR
namespace Go.Proofs.Ytncklfmpnbdmcaa
open Go.RowKit
namespace Hx
open As
set_option linter.unusedVariables false
theorem trimL_cons {c : UInt8} {r : List UInt8} (h : blk c = true) : trimL (c :: r) = trimL r := trimL_pre [c] r (by simp [h])
theorem trimL_stop {c : UInt8} {r : List UInt8} (h : blk c = false) : trimL (c :: r) = c :: r := trimL_id _ (fun _ _ e => by cases e; exact h)
theorem trimR_stop {l : List UInt8} (h : l.getLast?.map blk ≠ some true) : trimR l = l := by
  refine trimR_id l (fun c r e => ?_)
  subst e
  rw [List.getLast?_concat] at h
  simpa using h
theorem trimR_last1 {l : List UInt8} {c : UInt8} (hc : l[l.length - 1]? = some c) (h : blk c = true) : trimR l = trimR (l.take (l.length - 1)) := by
  obtain ⟨hk, e⟩ := List.getElem?_eq_some_iff.1 hc
  have hl : l = l.take (l.length - 1) ++ [c] := by
    have := take_next hc
    rw [List.take_of_length_le (by omega)] at this
    exact this
  conv => lhs; rw [hl]
  exact trimR_suf _ [c] (by simp [h])
theorem extract_drop7 (s : ByteArray) (a : Nat) : s.extract a s.size = ⟨(s.data.toList.drop a).toArray⟩ := by
  have := ByteArray.extract_mk s.data.toList a s.size
  rw [← ba_eq7] at this
  rw [this, List.take_of_length_le (by rw [List.length_drop, ba_len7]; omega)]
theorem extract_take7 (s : ByteArray) (n : Nat) : s.extract 0 n = ⟨(s.data.toList.take n).toArray⟩ := by
  have := ByteArray.extract_mk s.data.toList 0 n
  rw [← ba_eq7] at this
  rw [this]
  simp
theorem empty_b (s : ByteArray) : (s.toList == (⟨#[]⟩ : ByteArray).toList) = decide (s.size = 0) := by
  rw [seq_b7]
  refine decide_eq_decide.2 ⟨fun h => by rw [h]; rfl, fun h => ba_ext7 ?_⟩
  have := ba_len7 s
  rw [h] at this
  exact List.eq_nil_of_length_eq_zero this
theorem empty_b2 (s : ByteArray) : (s.toList == []) = decide (s.size = 0) := by
  rw [← empty_b, show (⟨#[]⟩ : ByteArray).toList = [] from by rw [ByteArray.toList_eq]]
set_option maxHeartbeats 4000000 in
set_option maxRecDepth 100000 in
/-- ref.Trim. -/
theorem rtrim7 (s t : ByteArray) (w : World) (hm : s.size ≤ 1000000) (ht : trimS s = t) :
    Calls Try.prog 19 #[.string s] w fun e w' => e = .returned (.string t) ∧ Below w.heap.size w w' := by
  have HM := Lib.hid hm
  have HT : Hid (trimR (trimL s.data.toList) = t.data.toList) := by show _ = _; rw [← ht]; rfl
  clear hm ht
  go_enter Try.func19, Try.ntmps19
  go_wp2_with fail
  go_loopg [0] s.size (fun gg x wr => ∃ u : ByteArray, u.size ≤ gg ∧ x = .string u ∧ w = wr ∧ trimL s.data.toList = trimL u.data.toList ∧ u.size ≤ 1000000)
  case atStart => exact ⟨s, Nat.le_refl _, rfl, rfl, rfl, HM.out⟩
  case round =>
    obtain ⟨u, hgk, rfl, rfl, hl, hu⟩ := hrel
    have HL := Lib.hid hl
    clear hl
    by_cases hu0 : u.size = 0
    · have e1 : (u.toList == (⟨#[]⟩ : ByteArray).toList) = true := by rw [empty_b]; simpa using hu0
      have e2 : (u.toList == []) = true := by rw [empty_b2]; simpa using hu0
      have HE : Hid (t.data.toList = trimR u.data.toList) := by
        show _ = _
        rw [← HT.out, HL.out]
        have : u.data.toList = [] := List.eq_nil_of_length_eq_zero (by rw [ba_len7]; exact hu0)
        rw [this]
        rfl
      go_wp2_with fail
      go_loopg [0] u.size (fun gg x wr => ∃ v : ByteArray, v.size ≤ gg ∧ x = .string v ∧ w = wr ∧ t.data.toList = trimR v.data.toList ∧ v.size ≤ 1000000)
      case atStart => exact ⟨u, Nat.le_refl _, rfl, rfl, HE.out, hu⟩
      case round =>
        obtain ⟨v, hgk2, rfl, rfl, hl2, hv⟩ := hrel
        have HL2 := Lib.hid hl2
        clear hl2
        by_cases hv0 : v.size = 0
        · have e1 : (v.toList == (⟨#[]⟩ : ByteArray).toList) = true := by rw [empty_b]; simpa using hv0
          have e2 : (v.toList == []) = true := by rw [empty_b2]; simpa using hv0
          have hvt : v = t := by
            refine ba_ext7 ?_
            rw [HL2.out, trimR_stop]
            have : v.data.toList = [] := List.eq_nil_of_length_eq_zero (by rw [ba_len7]; exact hv0)
            rw [this]
            simp
          subst hvt
          go_wp2_with fail
          go_ret
          exact ⟨rfl, Below.refl _ _⟩
        · have e1 : (v.toList == (⟨#[]⟩ : ByteArray).toList) = false := by rw [empty_b]; simpa using hv0
          have e2 : (v.toList == []) = false := by rw [empty_b2]; simpa using hv0
          obtain ⟨m, hm1⟩ : ∃ m, v.size - 1 = m := ⟨_, rfl⟩
          have hmlt : m < v.size := by omega
          obtain ⟨d, hd, hdat⟩ := byte_at v m hmlt
          have g1 : IntKind.i64.wrap ((v.size : Int) - 1) = (m : Int) := by rw [IntWalk.i64_in _ (by omega)]; omega
          have b1 : (0 : Int) ≤ (m : Int) ∧ (m : Int) < (v.size : Int) := by omega
          have b2 : (m : Int) ≤ (v.size : Int) := by omega
          have hlen : v.data.toList.length - 1 = m := by rw [ba_len7]; exact hm1
          cases hbd : blk d
          · have HBD := Lib.hid hbd
            have hvt : v = t := by
              refine ba_ext7 ?_
              rw [HL2.out, trimR_stop]
              rw [List.getLast?_eq_getElem?, hlen, hd]
              simp [hbd]
            subst hvt
            clear hm1 hlen hbd hd
            go_wp2_with (first
              | (go_at_call 29; (with_reducible refine (rblank7 d false w HBD.out).mono ?_); rintro e w1 ⟨rfl, rfl⟩)
              | fail)
            go_ret
            exact ⟨rfl, Below.refl _ _⟩
          · have HBD := Lib.hid hbd
            obtain ⟨v2, hv2⟩ : ∃ v2, v.extract 0 m = v2 := ⟨_, rfl⟩
            have hv2l : v2.data.toList = v.data.toList.take m := by rw [← hv2, extract_take7]
            have HV2 : Hid (t.data.toList = trimR v2.data.toList) := by
              show _ = _
              rw [HL2.out, trimR_last1 (by rw [hlen]; exact hd) hbd, hlen, hv2l]
            have hv2s : v2.size = m := by rw [← ba_len7, hv2l, List.length_take, ba_len7]; omega
            have HS2 := Lib.hid hv2s
            clear hlen hbd hd hv2l hv2s hm1
            go_wp2_with (first
              | (go_at_call 29; (with_reducible refine (rblank7 d true w HBD.out).mono ?_); rintro e w1 ⟨rfl, rfl⟩)
              | fail)
            go_roundg (gk - 1)
            case rel => exact ⟨v2, by rw [HS2.out]; omega, rfl, rfl, HV2.out, by rw [HS2.out]; omega⟩
            case measure => omega
    · have e1 : (u.toList == (⟨#[]⟩ : ByteArray).toList) = false := by rw [empty_b]; simpa using hu0
      have e2 : (u.toList == []) = false := by rw [empty_b2]; simpa using hu0
      obtain ⟨c, hc, hat⟩ := byte_at u 0 (by omega)
      have h0lt : 0 < u.size := by omega
      obtain ⟨r, hr⟩ : ∃ r, u.data.toList = c :: r := by
        cases h : u.data.toList with
        | nil => rw [h] at hc; cases hc
        | cons a r => rw [h] at hc; cases hc; exact ⟨r, rfl⟩
      have b0 : (0 : Int) < (u.size : Int) := by omega
      have b9 : (1 : Int) ≤ (u.size : Int) := by omega
      have b8 : 1 ≤ u.size := by omega
      cases hbc : blk c
      · have HBC := Lib.hid hbc
        have HE : Hid (t.data.toList = trimR u.data.toList) := by
          show _ = _
          rw [← HT.out, HL.out, hr, trimL_stop hbc]
        clear hc hr hbc
        go_wp2_with (first
          | (go_at_call 29; (with_reducible refine (rblank7 c false w HBC.out).mono ?_); rintro e w1 ⟨rfl, rfl⟩)
          | fail)
        go_loopg [0] u.size (fun gg x wr => ∃ v : ByteArray, v.size ≤ gg ∧ x = .string v ∧ w = wr ∧ t.data.toList = trimR v.data.toList ∧ v.size ≤ 1000000)
        case atStart => exact ⟨u, Nat.le_refl _, rfl, rfl, HE.out, hu⟩
        case round =>
          obtain ⟨v, hgk2, rfl, rfl, hl2, hv⟩ := hrel
          have HL2 := Lib.hid hl2
          clear hl2
          by_cases hv0 : v.size = 0
          · have e1 : (v.toList == (⟨#[]⟩ : ByteArray).toList) = true := by rw [empty_b]; simpa using hv0
            have e2 : (v.toList == []) = true := by rw [empty_b2]; simpa using hv0
            have hvt : v = t := by
              refine ba_ext7 ?_
              rw [HL2.out, trimR_stop]
              have : v.data.toList = [] := List.eq_nil_of_length_eq_zero (by rw [ba_len7]; exact hv0)
              rw [this]
              simp
            subst hvt
            go_wp2_with fail
            go_ret
            exact ⟨rfl, Below.refl _ _⟩
          · have e1 : (v.toList == (⟨#[]⟩ : ByteArray).toList) = false := by rw [empty_b]; simpa using hv0
            have e2 : (v.toList == []) = false := by rw [empty_b2]; simpa using hv0
            obtain ⟨m, hm1⟩ : ∃ m, v.size - 1 = m := ⟨_, rfl⟩
            have hmlt : m < v.size := by omega
            obtain ⟨d, hd, hdat⟩ := byte_at v m hmlt
            have g1 : IntKind.i64.wrap ((v.size : Int) - 1) = (m : Int) := by rw [IntWalk.i64_in _ (by omega)]; omega
            have b1 : (0 : Int) ≤ (m : Int) ∧ (m : Int) < (v.size : Int) := by omega
            have b2 : (m : Int) ≤ (v.size : Int) := by omega
            have hlen : v.data.toList.length - 1 = m := by rw [ba_len7]; exact hm1
            cases hbd : blk d
            · have HBD := Lib.hid hbd
              have hvt : v = t := by
                refine ba_ext7 ?_
                rw [HL2.out, trimR_stop]
                rw [List.getLast?_eq_getElem?, hlen, hd]
                simp [hbd]
              subst hvt
              clear hm1 hlen hbd hd
              go_wp2_with (first
                | (go_at_call 29; (with_reducible refine (rblank7 d false w HBD.out).mono ?_); rintro e w1 ⟨rfl, rfl⟩)
                | fail)
              go_ret
              exact ⟨rfl, Below.refl _ _⟩
            · have HBD := Lib.hid hbd
              obtain ⟨v2, hv2⟩ : ∃ v2, v.extract 0 m = v2 := ⟨_, rfl⟩
              have hv2l : v2.data.toList = v.data.toList.take m := by rw [← hv2, extract_take7]
              have HV2 : Hid (t.data.toList = trimR v2.data.toList) := by
                show _ = _
                rw [HL2.out, trimR_last1 (by rw [hlen]; exact hd) hbd, hlen, hv2l]
              have hv2s : v2.size = m := by rw [← ba_len7, hv2l, List.length_take, ba_len7]; omega
              have HS2 := Lib.hid hv2s
              clear hlen hbd hd hv2l hv2s hm1
              go_wp2_with (first
                | (go_at_call 29; (with_reducible refine (rblank7 d true w HBD.out).mono ?_); rintro e w1 ⟨rfl, rfl⟩)
                | fail)
              go_roundg (gk - 1)
              case rel => exact ⟨v2, by rw [HS2.out]; omega, rfl, rfl, HV2.out, by rw [HS2.out]; omega⟩
              case measure => omega
      · have HBC := Lib.hid hbc
        obtain ⟨u2, hu2⟩ : ∃ u2, u.extract 1 u.size = u2 := ⟨_, rfl⟩
        have hu2l : u2.data.toList = r := by rw [← hu2, extract_drop7, hr]; rfl
        have HU2 : Hid (trimL s.data.toList = trimL u2.data.toList) := by
          show _ = _
          rw [HL.out, hr, trimL_cons hbc, hu2l]
        have hu2s : u2.size + 1 = u.size := by
          rw [← ba_len7, ← ba_len7, hu2l, hr]
          rfl
        have HS2 := Lib.hid hu2s
        clear hc hr hbc hu2l hu2s
        go_wp2_with (first
          | (go_at_call 29; (with_reducible refine (rblank7 c true w HBC.out).mono ?_); rintro e w1 ⟨rfl, rfl⟩)
          | fail)
        go_roundg (gk - 1)
        case rel => exact ⟨u2, by have := HS2.out; omega, rfl, rfl, HU2.out, by have := HS2.out; omega⟩
        case measure => omega
end Hx
end Go.Proofs.Ytncklfmpnbdmcaa
