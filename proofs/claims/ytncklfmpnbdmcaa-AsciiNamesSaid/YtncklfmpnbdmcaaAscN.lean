/-
  Contracts of package ascii: trim, Trim, Lower, Same.
-/
import Derived.Test.YtncklfmpnbdmcaaAscL
namespace Go.Proofs.Ytncklfmpnbdmcaa
open Go.RowKit
namespace Hx
open As
set_option linter.unusedVariables false
theorem kind_blk (c : UInt8) (b : Bool) (h : blk c = b) : (((kindOf c).toNat : Int) == 1) = b := by
  rw [← h, ← kind_blank c, show (((kindOf c).toNat : Int) == 1) = decide (((kindOf c).toNat : Int) = 1) from rfl, decide_eq_decide]
  constructor
  · intro e
    exact UInt8.toNat_inj.1 (by show _ = 1; omega)
  · intro e
    rw [e]
    rfl
theorem drop_next {l : List UInt8} {j : Nat} {c : UInt8} (h : l[j]? = some c) : l.drop j = c :: l.drop (j + 1) := by
  obtain ⟨hk, e⟩ := List.getElem?_eq_some_iff.1 h
  rw [List.drop_eq_getElem_cons hk, e]
/-- What stands between the blanks at both ends. -/
theorem trim_cut (s : ByteArray) (k m : Nat) (hkm : k < m) (hm : m ≤ s.size) (h1 : (s.data.toList.take k).all blk = true) (h2 : ∀ c, s.data.toList[k]? = some c → blk c = false) (h3 : (s.data.toList.drop m).all blk = true) (h4 : ∀ c, s.data.toList[m - 1]? = some c → blk c = false) : trimS s = s.extract k m := by
  have hl := ba_len7 s
  have e : s.data.toList = s.data.toList.take k ++ (s.data.toList.drop k).take (m - k) ++ s.data.toList.drop m := by
    rw [List.append_assoc]
    have : s.data.toList.drop m = (s.data.toList.drop k).drop (m - k) := by rw [List.drop_drop]; congr 1; omega
    rw [this, List.take_append_drop, List.take_append_drop]
  rw [extract_mid]
  unfold trimS mkB
  congr 2
  conv => lhs; rw [e]
  refine trim_of _ _ _ h1 h3 ?_ ?_
  · intro c r hcr
    refine h2 c ?_
    have h5 : ((s.data.toList.drop k).take (m - k))[0]? = some c := by rw [hcr]; rfl
    rw [List.getElem?_take, if_pos (by omega), List.getElem?_drop, Nat.add_zero] at h5
    exact h5
  · intro c r hcr
    refine h4 c ?_
    have hlen : ((s.data.toList.drop k).take (m - k)).length = m - k := by rw [List.length_take, List.length_drop]; omega
    have hr : r.length = m - k - 1 := by rw [hcr] at hlen; simp at hlen; omega
    have h5 : ((s.data.toList.drop k).take (m - k))[m - k - 1]? = some c := by rw [hcr, ← hr]; simp
    rw [List.getElem?_take, if_pos (by omega), List.getElem?_drop] at h5
    rw [show k + (m - k - 1) = m - 1 by omega] at h5
    exact h5
theorem trim_none (s : ByteArray) (k : Nat) (hk : k ≤ s.size) (h1 : (s.data.toList.take k).all blk = true) (h3 : (s.data.toList.drop k).all blk = true) : trimS s = s.extract k k := by
  rw [extract_mid, Nat.sub_self, List.take_zero]
  unfold trimS mkB
  congr 2
  apply trim_blank
  rw [← List.take_append_drop k s.data.toList, List.all_append, h1, h3]
  rfl
set_option maxHeartbeats 4000000 in
set_option maxRecDepth 100000 in
/-- trim: a text without the blanks at both ends. -/
theorem trimK (s t : ByteArray) (O : Array Value) (w : World) (hO : (kd.map encK).toArray = O) (hm : s.size ≤ 1000000) (ht : trimS s = t) :
    Calls Try.prog 28 #[.string s, .agg O] w fun e w' => e = .returned (.string t) ∧ Below w.heap.size w w' := by
  have hC : ∀ c : UInt8, (w.alloc (.cells O 41)).cell? ⟨w.heap.size, c.toNat, none⟩ = some (.int .u8 ((kindOf c).toNat : Int)) := fun c => kcell (heap_alloc_new w _) hO c
  have HC := Lib.hid hC
  have HM := Lib.hid hm
  have HT := Lib.hid ht
  clear hC hm ht
  go_enter Try.func28, Try.ntmps28
  go_wp2_with fail
  obtain ⟨W, hW⟩ : ∃ W, w.alloc (.cells O 41) = W := ⟨_, rfl⟩
  rw [hW]
  have HBW : Hid (Below w.heap.size w W) := Lib.hid (by rw [← hW]; exact stpA (Below.refl _ _) _)
  have HC2 : Hid (∀ c : UInt8, W.cell? ⟨w.heap.size, c.toNat, none⟩ = some (.int .u8 ((kindOf c).toNat : Int))) := by rw [← hW]; exact HC
  clear hW HC
  go_loopg [5] s.size (fun gg i wr => ∃ k : Nat, k + gg = s.size ∧ i = .int .i64 k ∧ W = wr ∧ (s.data.toList.take k).all blk = true)
  case atStart => exact ⟨0, by omega, rfl, rfl, rfl⟩
  case round =>
    obtain ⟨k, hk, rfl, rfl, hall⟩ := hrel
    have HALL := Lib.hid hall
    have hMM := HM.out
    clear hall
    have bk0 : (0 : Int) ≤ (k : Int) := by omega
    by_cases hlt : k < s.size
    · obtain ⟨c, hc, hat⟩ := byte_at s k hlt
      have bk : (0 : Int) ≤ (k : Int) ∧ (k : Int) < (s.size : Int) := by omega
      have hcl := c.toNat_lt
      have b1 : (0 : Int) ≤ (c.toNat : Int) ∧ (c.toNat : Int) < 256 := by omega
      have c1 := HC2.out c
      cases hb : blk c with
      | true =>
        have q1 := kind_blk c true hb
        have HN : Hid ((s.data.toList.take (k + 1)).all blk = true) := all_takeT blk hc HALL.out hb
        clear hb hc
        go_wp2_with fail
        go_roundg (gk - 1)
        case rel => exact ⟨k + 1, by omega, by go_num, rfl, HN.out⟩
        case measure => omega
      | false =>
        have q1 := kind_blk c false hb
        have HF : Hid (∀ c', s.data.toList[k]? = some c' → blk c' = false) := Lib.hid (fun c' h' => by rw [hc] at h'; cases h'; exact hb)
        clear hb hc
        go_wp2_with fail
        go_loopg [6] s.size (fun gg i wr => ∃ m : Nat, m = gg ∧ k ≤ m ∧ m ≤ s.size ∧ i = .int .i64 m ∧ W = wr ∧ (s.data.toList.drop m).all blk = true)
        case atStart => exact ⟨s.size, rfl, by omega, Nat.le_refl _, rfl, rfl, by rw [List.drop_of_length_le (by rw [ba_len7]; exact Nat.le_refl _)]; rfl⟩
        case round =>
          obtain ⟨m, hm, hkm, hms, rfl, rfl, hdr⟩ := hrel
          have HDR := Lib.hid hdr
          have HMG := Lib.hid hm
          clear hdr hm
          by_cases hlt2 : k < m
          · obtain ⟨j, rfl⟩ : ∃ j, m = j + 1 := ⟨m - 1, by omega⟩
            obtain ⟨c, hc, hat⟩ := byte_at s j (by omega)
            have bj : (0 : Int) ≤ (j : Int) ∧ (j : Int) < (s.size : Int) := by omega
            have bkm : (k : Int) < ((j + 1 : Nat) : Int) := by omega
            have hcl := c.toNat_lt
            have b1 : (0 : Int) ≤ (c.toNat : Int) ∧ (c.toNat : Int) < 256 := by omega
            have c1 := HC2.out c
            have s1 : IntKind.i64.wrap (((j + 1 : Nat) : Int) - 1) = (j : Int) := by rw [IntWalk.i64_in _ (by omega)]; omega
            obtain ⟨M, hM⟩ : ∃ M, j + 1 = M := ⟨_, rfl⟩
            rw [hM] at s1 bkm hms HDR HMG
            rw [hM]
            have HMJ := Lib.hid hM
            clear hM hkm
            cases hb : blk c with
            | true =>
              have q1 := kind_blk c true hb
              have HN : Hid ((s.data.toList.drop j).all blk = true) := by
                show _ = _
                rw [drop_next hc, List.all_cons, hb, HMJ.out, HDR.out]
                rfl
              clear hb hc
              go_wp2_with fail
              go_roundg (gk - 1)
              case rel => exact ⟨j, by have := HMJ.out; have := HMG.out; omega, by have := HMJ.out; omega, by have := HMJ.out; omega, by go_num, rfl, HN.out⟩
              case measure => have := HMJ.out; have := HMG.out; omega
            | false =>
              have q1 := kind_blk c false hb
              have HX : Hid (s.extract k M = t) := by
                show _ = _
                rw [← HT.out]
                have hmj := HMJ.out
                refine Eq.symm ?_
                exact trim_cut s k M (by omega) (by omega) HALL.out HF.out HDR.out (fun c' h' => by
                  rw [show M - 1 = j by omega, hc] at h'
                  cases h'
                  exact hb)
              have z1 : (0 : Int) ≤ (k : Int) := by omega
              have z2 : (k : Int) ≤ (M : Int) := by omega
              have z3 : (M : Int) ≤ (s.size : Int) := by omega
              have hX := HX.out
              have hts : t.size ≤ 1000000 := by rw [← hX, ByteArray.size_extract]; omega
              have HTS := Lib.hid hts
              clear hb hc hts
              go_wp2_with (first
                | (go_at_call 33; (with_reducible refine (clone7 t W HTS.out).mono ?_); rintro e w2 ⟨rfl, hb2⟩)
                | fail)
              go_ret
              exact ⟨rfl, stp HBW.out hb2⟩
          · obtain rfl : k = m := by omega
            have HX : Hid (s.extract k k = t) := by
              show _ = _
              rw [← HT.out]
              exact (trim_none s k (by omega) HALL.out HDR.out).symm
            have z1 : (0 : Int) ≤ (k : Int) := by omega
            have z3 : (k : Int) ≤ (s.size : Int) := by omega
            obtain rfl : ByteArray.empty = t := by rw [← HX.out, extract_mid, Nat.sub_self, List.take_zero]; rfl
            clear HX
            go_wp2_with (first
              | (go_at_call 33; (with_reducible refine (clone7 ByteArray.empty W (by decide)).mono ?_); rintro e w2 ⟨rfl, hb2⟩)
              | fail)
            go_ret
            exact ⟨rfl, stp HBW.out hb2⟩
    · have HF : Hid (∀ c', s.data.toList[k]? = some c' → blk c' = false) := Lib.hid (fun c' h' => by
        have := (List.getElem?_eq_some_iff.1 h').1
        rw [ba_len7] at this
        omega)
      go_wp2_with fail
      go_loopg [6] s.size (fun gg i wr => ∃ m : Nat, m = gg ∧ k ≤ m ∧ m ≤ s.size ∧ i = .int .i64 m ∧ W = wr ∧ (s.data.toList.drop m).all blk = true)
      case atStart => exact ⟨s.size, rfl, by omega, Nat.le_refl _, rfl, rfl, by rw [List.drop_of_length_le (by rw [ba_len7]; exact Nat.le_refl _)]; rfl⟩
      case round =>
        obtain ⟨m, hm, hkm, hms, rfl, rfl, hdr⟩ := hrel
        have HDR := Lib.hid hdr
        have HMG := Lib.hid hm
        clear hdr hm
        by_cases hlt2 : k < m
        · obtain ⟨j, rfl⟩ : ∃ j, m = j + 1 := ⟨m - 1, by omega⟩
          obtain ⟨c, hc, hat⟩ := byte_at s j (by omega)
          have bj : (0 : Int) ≤ (j : Int) ∧ (j : Int) < (s.size : Int) := by omega
          have bkm : (k : Int) < ((j + 1 : Nat) : Int) := by omega
          have hcl := c.toNat_lt
          have b1 : (0 : Int) ≤ (c.toNat : Int) ∧ (c.toNat : Int) < 256 := by omega
          have c1 := HC2.out c
          have s1 : IntKind.i64.wrap (((j + 1 : Nat) : Int) - 1) = (j : Int) := by rw [IntWalk.i64_in _ (by omega)]; omega
          obtain ⟨M, hM⟩ : ∃ M, j + 1 = M := ⟨_, rfl⟩
          rw [hM] at s1 bkm hms HDR HMG
          rw [hM]
          have HMJ := Lib.hid hM
          clear hM hkm
          cases hb : blk c with
          | true =>
            have q1 := kind_blk c true hb
            have HN : Hid ((s.data.toList.drop j).all blk = true) := by
              show _ = _
              rw [drop_next hc, List.all_cons, hb, HMJ.out, HDR.out]
              rfl
            clear hb hc
            go_wp2_with fail
            go_roundg (gk - 1)
            case rel => exact ⟨j, by have := HMJ.out; have := HMG.out; omega, by have := HMJ.out; omega, by have := HMJ.out; omega, by go_num, rfl, HN.out⟩
            case measure => have := HMJ.out; have := HMG.out; omega
          | false =>
            have q1 := kind_blk c false hb
            have HX : Hid (s.extract k M = t) := by
              show _ = _
              rw [← HT.out]
              have hmj := HMJ.out
              refine Eq.symm ?_
              exact trim_cut s k M (by omega) (by omega) HALL.out HF.out HDR.out (fun c' h' => by
                rw [show M - 1 = j by omega, hc] at h'
                cases h'
                exact hb)
            have z1 : (0 : Int) ≤ (k : Int) := by omega
            have z2 : (k : Int) ≤ (M : Int) := by omega
            have z3 : (M : Int) ≤ (s.size : Int) := by omega
            have hX := HX.out
            have hts : t.size ≤ 1000000 := by rw [← hX, ByteArray.size_extract]; omega
            have HTS := Lib.hid hts
            clear hb hc hts
            go_wp2_with (first
              | (go_at_call 33; (with_reducible refine (clone7 t W HTS.out).mono ?_); rintro e w2 ⟨rfl, hb2⟩)
              | fail)
            go_ret
            exact ⟨rfl, stp HBW.out hb2⟩
        · obtain rfl : k = m := by omega
          have HX : Hid (s.extract k k = t) := by
            show _ = _
            rw [← HT.out]
            exact (trim_none s k (by omega) HALL.out HDR.out).symm
          have z1 : (0 : Int) ≤ (k : Int) := by omega
          have z3 : (k : Int) ≤ (s.size : Int) := by omega
          obtain rfl : ByteArray.empty = t := by rw [← HX.out, extract_mid, Nat.sub_self, List.take_zero]; rfl
          clear HX
          go_wp2_with (first
            | (go_at_call 33; (with_reducible refine (clone7 ByteArray.empty W (by decide)).mono ?_); rintro e w2 ⟨rfl, hb2⟩)
            | fail)
          go_ret
          exact ⟨rfl, stp HBW.out hb2⟩
set_option maxRecDepth 100000 in
theorem trim7 (s t : ByteArray) (w : World) (h0 : s.size ≤ 1000000) (h1 : trimS s = t) :
    Calls Try.prog 18 #[.string s] w fun e w' => e = .returned (.string t) ∧ Below w.heap.size w w' := by
  obtain ⟨O, hO⟩ : ∃ O, (kd.map encK).toArray = O := ⟨_, rfl⟩
  have HO := Lib.hid hO
  have H0 := Lib.hid h0
  have H1 := Lib.hid h1
  clear hO h0 h1
  go_enter Try.func18, Try.ntmps18
  go_wp2_with (first
    | (go_at_call 27; (with_reducible refine (kinds7 O w HO.out).mono ?_); rintro e w1 ⟨rfl, hb1⟩)
    | (go_at_call 28; (with_reducible refine (trimK s t O w1 HO.out H0.out H1.out).mono ?_); rintro e w2 ⟨rfl, hb2⟩)
    | fail)
  go_ret
  exact ⟨rfl, stp hb1 hb2⟩
end Hx
end Go.Proofs.Ytncklfmpnbdmcaa
