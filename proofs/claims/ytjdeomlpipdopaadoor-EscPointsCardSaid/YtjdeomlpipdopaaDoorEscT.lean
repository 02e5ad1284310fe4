/-
  Contracts of the document's own answers for layer 8 (tidewaiterref08): Read, Get.
-/
import Derived.Test.YtjdeomlpipdopaaDoorEscS
namespace Go.Proofs.YtjdeomlpipdopaaDoor
open Go.RowKit
namespace Hx
open Tx Nmb Es
set_option linter.unusedVariables false
theorem drop_step {l : List UInt8} {k : Nat} {c : UInt8} (h : l[k]? = some c) : l.drop k = c :: l.drop (k + 1) := by
  obtain ⟨hk, e⟩ := List.getElem?_eq_some_iff.1 h
  rw [List.drop_eq_getElem_cons hk, e]
theorem mid_next {l : List UInt8} {k a : Nat} {c : UInt8} (h : l[k]? = some c) (ha : a ≤ k) : (l.drop a).take (k + 1 - a) = (l.drop a).take (k - a) ++ [c] := by
  have e : (l.drop a)[k - a]? = some c := by rw [List.getElem?_drop, show a + (k - a) = k by omega]; exact h
  rw [show k + 1 - a = (k - a) + 1 by omega]
  exact take_next8 e
theorem mid_split {l : List UInt8} {k a : Nat} {c : UInt8} (h : l[k]? = some c) (ha : a ≤ k) : l.drop a = (l.drop a).take (k - a) ++ c :: l.drop (k + 1) := by
  rw [← drop_step h]
  have e : l.drop k = (l.drop a).drop (k - a) := by rw [List.drop_drop, show a + (k - a) = k by omega]
  rw [e, List.take_append_drop]
theorem meantL_len {x y : List UInt8} (h : meantL x = some y) : y.length ≤ 4 := by
  unfold meantL at h
  repeat (split at h; · (cases h; simp))
  split at h
  · rw [Option.map_eq_some_iff] at h
    obtain ⟨n, _, rfl⟩ := h
    exact (enc_length n).2
  · cases h
theorem extract_mid8 (s : ByteArray) (a b : Nat) : s.extract a b = ⟨((s.data.toList.drop a).take (b - a)).toArray⟩ := by
  have := ByteArray.extract_mk s.data.toList a b
  rw [← ba_eq5] at this
  exact this
theorem mnt_some {o : Option (List UInt8)} {t : ByteArray} (h : mntR o = (t, true)) : ∃ y, o = some y ∧ t = ⟨y.toArray⟩ := by
  unfold mntR at h
  cases o with
  | none => cases h
  | some y => cases h; exact ⟨y, rfl, rfl⟩
theorem mnt_none {o : Option (List UInt8)} {t : ByteArray} (h : mntR o = (t, false)) : o = none := by
  unfold mntR at h
  cases o with
  | none => rfl
  | some y => cases h
set_option maxHeartbeats 8000000 in
set_option maxRecDepth 100000 in
/-- ref.Read. -/
theorem rread8 (s t : ByteArray) (b : Bool) (w : World) (hm : s.size ≤ 1000000) (h : mntR (rd s.data.toList) = (t, b)) :
    Calls Tryd.prog 32 #[.string s] w fun e w' => e = .returned (.tuple #[.string t, .bool b]) ∧ Below w.heap.size w w' := by
  obtain ⟨i0, hi, hz0, hz1, hz2⟩ := info_parts infoU8
  have HI := Lib.hid hi
  have HZ0 := Lib.hid hz0
  have HZ1 := Lib.hid hz1
  have HZ2 := Lib.hid hz2
  have HM := Lib.hid hm
  have HT := Lib.hid h
  clear hi hz0 hz1 hz2 hm h
  go_enter Tryd.func32, Tryd.ntmps32
  go_wp2_with fail
  go_loopg [4, 5] s.size (fun gg v i wr => ∃ (k : Nat) (done : List UInt8), s.size ≤ k + gg ∧ k ≤ s.size ∧ i = .int .i64 k ∧ wr.ownsRow w.heap.size 5 1 v done.length (Lib.byteCells done) ∧ Below w.heap.size w wr ∧ rd s.data.toList = (rd (s.data.toList.drop k)).map (done ++ ·) ∧ done.length ≤ 4 * k)
  case atStart => exact ⟨0, [], by omega, by omega, rfl, World.ownsRow_nil _ _ _ _, Below.refl _ _, by rw [List.drop_zero]; cases rd s.data.toList <;> rfl, by simp⟩
  case round =>
    obtain ⟨k, done, hk, hks, rfl, hown, hbw, hrd, hdl⟩ := hrel
    obtain ⟨m, hmm⟩ : ∃ m, done.length = m := ⟨_, rfl⟩
    rw [hmm] at hown hdl
    have HMM := Lib.hid hmm
    have HO := Lib.hid hown
    have HBW := Lib.hid hbw
    have HRD := Lib.hid hrd
    have hsz := hbw.size
    have hMM := HM.out
    clear hmm hbw hrd
    by_cases hlt : k < s.size
    · obtain ⟨c, hc, hat⟩ := byte_at8 s k hlt
      have hcl := c.toNat_lt
      have bk : (0 : Int) ≤ (k : Int) ∧ (k : Int) < (s.size : Int) := by omega
      have HC := Lib.hid hc
      have HDR := Lib.hid (drop_step hc)
      clear hc
      by_cases h60 : c.toNat = 60
      · have d1 : ((c.toNat : Int) == 60) = true := by simp; omega
        have hno : rd s.data.toList = none := by
          rw [HRD.out, HDR.out, u8_eq h60]
          show (rd (60 :: _)).map _ = none
          rw [rd_bad]
          rfl
        have ht := HT.out
        rw [hno] at ht
        obtain ⟨rfl, rfl⟩ : (⟨#[]⟩ : ByteArray) = t ∧ false = b := by cases ht; exact ⟨rfl, rfl⟩
        clear h60 hno ht hown HT
        go_wp2_with fail
        go_ret2
        exact ⟨rfl, HBW.out⟩
      have d1 : ((c.toNat : Int) == 60) = false := by simp; omega
      have n60 : c ≠ 60 := u8_ne (by decide) h60
      by_cases h38 : c.toNat = 38
      · have d2 : ((c.toNat : Int) != 38) = false := by simp; omega
        have d3 : ((c.toNat : Int) == 38) = true := by simp; omega
        have hc38 : c = 38 := u8_eq h38
        have HC38 := Lib.hid hc38
        clear h60 n60 h38 hc38 hown
        go_wp2_with fail
        obtain ⟨wo, rfl⟩ : ∃ wo : World, wo = wr := ⟨_, rfl⟩
        obtain ⟨go1, rfl⟩ : ∃ go1 : Nat, go1 = gk := ⟨_, rfl⟩
        go_loopg [6] (s.size - k) (fun gg x wr => ∃ j : Nat, j + gg = s.size ∧ k ≤ j ∧ x = .int .i64 j ∧ wo = wr ∧ (59 : UInt8) ∉ (s.data.toList.drop k).take (j - k))
        case atStart => exact ⟨k, by omega, Nat.le_refl _, rfl, rfl, by simp⟩
        case round =>
          obtain ⟨j, hj, hkj, rfl, rfl, hno⟩ := hrel
          have HNO := Lib.hid hno
          clear hno
          by_cases hjl : j < s.size
          · obtain ⟨d, hd, hdat⟩ := byte_at8 s j hjl
            have hdl2 := d.toNat_lt
            have bj : (0 : Int) ≤ (j : Int) ∧ (j : Int) < (s.size : Int) := by omega
            have HD := Lib.hid hd
            clear hd
            by_cases h59 : d.toNat = 59
            · have d4 : ((d.toNat : Int) != 59) = false := by simp; omega
              have d5 : ((d.toNat : Int) == 59) = true := by simp; omega
              have hkj2 : k < j := by
                rcases Nat.lt_or_ge k j with h | h
                · exact h
                · exfalso
                  obtain rfl : k = j := by omega
                  have e1 := HD.out
                  rw [HC.out] at e1
                  have : c = d := by simpa using e1
                  rw [← this, HC38.out] at h59
                  exact absurd h59 (by decide)
              obtain ⟨k1, hk1⟩ : ∃ k1, k + 1 = k1 := ⟨_, rfl⟩
              obtain ⟨x, hx⟩ : ∃ x, (s.data.toList.drop k1).take (j - k1) = x := ⟨_, rfl⟩
              obtain ⟨xb, hxb⟩ : ∃ xb, s.extract k1 j = xb := ⟨_, rfl⟩
              have hxl : xb.data.toList = x := by rw [← hxb, extract_mid8, ← hx]
              have hsp : s.data.toList.drop k1 = x ++ 59 :: s.data.toList.drop (j + 1) := by
                rw [mid_split HD.out (show k1 ≤ j by omega), hx, u8_eq h59]
                rfl
              have hnx : (59 : UInt8) ∉ x := by
                intro hm
                refine HNO.out ?_
                have e1 : (s.data.toList.drop k).take (j - k) = c :: x := by
                  rw [HDR.out, show j - k = (j - k1) + 1 by omega, List.take_succ_cons, hk1, hx]
                rw [e1]
                exact List.mem_cons_of_mem _ hm
              have hse : semi (s.data.toList.drop k1) = some (x, s.data.toList.drop (j + 1)) := by rw [hsp]; exact semi_of _ _ hnx
              have hstep : rd (s.data.toList.drop k) = match meantL x with | none => none | some y => (rd (s.data.toList.drop (j + 1))).map (y ++ ·) := by
                rw [HDR.out, HC38.out, rd_amp, hk1, hse]
                rfl
              have HXZ : Hid (xb.size ≤ 1000000) := by
                show _ ≤ _
                rw [← ba_len5, hxl, ← hx, List.length_take, List.length_drop, ba_len5]
                omega
              have g1 : IntKind.i64.wrap ((k : Int) + 1) = (k1 : Int) := by rw [IntWalk.i64_in _ (by omega)]; omega
              have bx : (0 : Int) ≤ (k1 : Int) ∧ (k1 : Int) ≤ (j : Int) := by omega
              have by' : (j : Int) ≤ (s.size : Int) := by omega
              have bx2 : k1 ≤ j := by omega
              have by2 : j ≤ s.size := by omega
              have dj : ((j : Int) == (s.size : Int)) = false := by simp; omega
              have dj2 : (j == s.size) = false := by simp; omega
              have ck1 : (k : Int) + 1 = (k1 : Int) := by omega
              cases hml : meantL x with
              | none =>
                have HML : Hid (mntR (meantL xb.data.toList) = (⟨#[]⟩, false)) := by show _ = _; rw [hxl, hml]; rfl
                have hno2 : rd s.data.toList = none := by
                  rw [HRD.out, hstep, hml]
                  rfl
                have ht := HT.out
                rw [hno2] at ht
                obtain ⟨rfl, rfl⟩ : (⟨#[]⟩ : ByteArray) = t ∧ false = b := by cases ht; exact ⟨rfl, rfl⟩
                clear hk1 hx hxl hsp hnx hse hstep hml hno2 ht HT h59 hkj2
                go_wp2_with (first
                  | (go_at_call 47; (with_reducible refine (rmeant8 xb ⟨#[]⟩ false wo HXZ.out HML.out).mono ?_); rintro e w1 ⟨rfl, hb1⟩)
                  | fail)
                go_ret2
                exact ⟨rfl, stp HBW.out hb1⟩
              | some y =>
                obtain ⟨yb, hyb⟩ : ∃ yb : ByteArray, ⟨y.toArray⟩ = yb := ⟨_, rfl⟩
                have HML : Hid (mntR (meantL xb.data.toList) = (yb, true)) := by show _ = _; rw [hxl, hml, ← hyb]; rfl
                have hy4 : yb.size ≤ 4 := by rw [← hyb]; exact meantL_len hml
                have HYC : Hid (Lib.strCells yb = Lib.byteCells y ∧ yb.size = y.length) := by
                  rw [← hyb]
                  exact ⟨str_cells _, rfl⟩
                have HRN : Hid (rd s.data.toList = (rd (s.data.toList.drop (j + 1))).map ((done ++ y) ++ ·)) := by
                  show _ = _
                  rw [HRD.out, hstep, hml]
                  cases rd (s.data.toList.drop (j + 1)) <;> simp
                clear hk1 hx hxl hsp hnx hse hstep hml hyb h59 hkj2
                go_wp2_with (first
                  | (go_at_call 47; (with_reducible refine (rmeant8 xb yb true wo HXZ.out HML.out).mono ?_); rintro e w1 ⟨rfl, hb1⟩; have HB1 := Lib.hid hb1; have HO1 := Lib.hid (own_below HO.out hb1 (Nat.le_refl _)); have hs1 := (stp HBW.out hb1).size)
                  | (at_builtin; refine wpList_append_str rfl (.tmp 57) (.tmp 58) 22 9 rfl w.heap.size 5 i0 Tryd.underlying22 Tryd.underlying9 HI.out HZ0.out HZ1.out HZ2.out _ m _ rfl HO1.out yb rfl (by omega) hs1 ?_; intro v4 w4 hown4 hgr4; have HO4 := Lib.hid hown4; have HG4 := Lib.hid hgr4; clear hown4 hgr4)
                  | fail)
                have hb4 : Below w.heap.size w w4 := (stp HBW.out HB1.out).grown HG4.out hs1 (fun g hg => (HO1.out.lt g hg).1)
                go_roundg (go1 - 1)
                case rel =>
                  refine ⟨j + 1, done ++ y, by omega, by omega, by go_num, ?_, hb4, HRN.out, ?_⟩
                  · rw [List.length_append, HMM.out, Lib.byteCells_append, ← HYC.out.1, ← HYC.out.2]
                    exact HO4.out
                  · rw [List.length_append, HMM.out, ← HYC.out.2]
                    omega
                case measure => omega
            · have d4 : ((d.toNat : Int) != 59) = true := by simp; omega
              have d5 : ((d.toNat : Int) == 59) = false := by simp; omega
              have HN2 : Hid ((59 : UInt8) ∉ (s.data.toList.drop k).take (j + 1 - k)) := by
                intro hm
                rw [mid_next HD.out hkj, List.mem_append, List.mem_singleton] at hm
                rcases hm with hm | hm
                · exact HNO.out hm
                · rw [← hm] at h59
                  exact h59 rfl
              clear h59
              go_wp2_with fail
              go_roundg (gk - 1)
              case rel => exact ⟨j + 1, by omega, by omega, by go_num, rfl, HN2.out⟩
              case measure => omega
          · obtain rfl : s.size = j := by omega
            have dj : ((s.size : Int) == (s.size : Int)) = true := by simp
            have hno2 : rd s.data.toList = none := by
              have hn := HNO.out
              rw [List.take_of_length_le (by rw [List.length_drop, ba_len5]; exact Nat.le_refl _), HDR.out] at hn
              have hs : semi (s.data.toList.drop (k + 1)) = none := semi_none _ (fun hm => hn (List.mem_cons_of_mem _ hm))
              rw [HRD.out, HDR.out, HC38.out, rd_amp, hs]
              rfl
            have ht := HT.out
            rw [hno2] at ht
            obtain ⟨rfl, rfl⟩ : (⟨#[]⟩ : ByteArray) = t ∧ false = b := by cases ht; exact ⟨rfl, rfl⟩
            clear hno2 ht HT
            go_wp2_with fail
            go_ret2
            exact ⟨rfl, HBW.out⟩
      · have d2 : ((c.toNat : Int) != 38) = true := by simp; omega
        have d3 : ((c.toNat : Int) == 38) = false := by simp; omega
        have n38 : c ≠ 38 := u8_ne (by decide) h38
        have HRN : Hid (rd s.data.toList = (rd (s.data.toList.drop (k + 1))).map ((done ++ [c]) ++ ·)) := by
          show _ = _
          rw [HRD.out, HDR.out, rd_byte c _ n60 n38]
          cases rd (s.data.toList.drop (k + 1)) <;> simp
        clear h60 n60 h38 n38 hown
        go_wp2_with (first
          | (at_builtin; refine wpList_append_rd rfl (.tmp 23) (.tmp 27) 22 rfl w.heap.size 5 i0 (.int .u8 0) Tryd.underlying22 HI.out HZ0.out HZ1.out HZ2.out rfl _ m _ rfl (HO.out.alloc (.cells #[.int .u8 c.toNat] 5)) (wr.heap.size + 1) (some ⟨wr.heap.size, 0, none⟩) 1 1 [c] rfl (RdA.new wr 5 [c]) rfl (fun h => by cases h) (by omega) (by rw [World.size_alloc]; omega) ?_; intro v4 w4 hown4 hgr4; have HO4 := Lib.hid hown4; have HG4 := Lib.hid hgr4; clear hown4 hgr4)
          | fail)
        have hb4 : Below w.heap.size w w4 := (HBW.out.alloc hsz _).grown HG4.out (by rw [World.size_alloc]; omega) (fun g hg => (HO.out.lt g hg).1)
        go_roundg (gk - 1)
        case rel =>
          refine ⟨k + 1, done ++ [c], by omega, by omega, by go_num, ?_, hb4, HRN.out, ?_⟩
          · rw [List.length_append, HMM.out, Lib.byteCells_append]
            exact HO4.out
          · rw [List.length_append, HMM.out]
            simp only [List.length_cons, List.length_nil]
            omega
        case measure => omega
    · obtain rfl : s.size = k := by omega
      obtain ⟨A', c', rfl⟩ := own_form hown
      have hrd := (RdA.of_own hown).1
      have cv := conv_str (P := Tryd.prog) (n := m) (c := c') hrd HMM.out Tryd.underlying22 Tryd.underlying5 Tryd.underlying9
      have hd0 : s.data.toList.drop s.size = [] := List.drop_of_length_le (by rw [ba_len5]; exact Nat.le_refl _)
      have hyes : rd s.data.toList = some done := by
        rw [HRD.out, hd0, rd_nil]
        simp
      have ht := HT.out
      rw [hyes] at ht
      obtain ⟨ht1, rfl⟩ : (⟨done.toArray⟩ : ByteArray) = t ∧ true = b := by cases ht; exact ⟨rfl, rfl⟩
      rw [ht1] at cv
      clear hown hrd HO hd0 hyes ht ht1 HT
      go_wp2_with fail
      go_ret2
      exact ⟨rfl, HBW.out⟩
/-- What Get answers. -/
def getR (s : ByteArray) : ByteArray × Int := if chkE s ≠ 0 then (⟨#[]⟩, chkE s) else match rd s.data.toList with | some x => (⟨x.toArray⟩, 0) | none => (⟨#[]⟩, 80)
set_option maxHeartbeats 1000000 in
set_option maxRecDepth 100000 in
/-- ref.Get. -/
theorem rget8 (s t : ByteArray) (e : Int) (w : World) (hm : s.size ≤ 1000000) (h : getR s = (t, e)) :
    Calls Tryd.prog 15 #[.string s] w fun e' w' => e' = .returned (.tuple #[.string t, .int .i64 e]) ∧ Below w.heap.size w w' := by
  have HM := Lib.hid hm
  unfold getR at h
  by_cases h0 : chkE s = 0
  · rw [if_neg (by simpa using h0)] at h
    have HC := Lib.hid h0
    cases hr : rd s.data.toList with
    | none =>
      have HR : Hid (mntR (rd s.data.toList) = (⟨#[]⟩, false)) := by show _ = _; rw [hr]; rfl
      rw [hr] at h
      obtain ⟨rfl, rfl⟩ : (⟨#[]⟩ : ByteArray) = t ∧ (80 : Int) = e := by cases h; exact ⟨rfl, rfl⟩
      clear h h0 hm hr
      go_enter Tryd.func15, Tryd.ntmps15
      go_wp2_with (first
        | (go_at_call 30; (with_reducible refine (rcheck_any s w HM.out 0 HC.out).mono ?_); rintro e1 w1 ⟨rfl, hb1⟩)
        | (go_at_call 32; (with_reducible refine (rread8 s ⟨#[]⟩ false w1 HM.out HR.out).mono ?_); rintro e2 w2 ⟨rfl, hb2⟩)
        | fail)
      go_ret2
      exact ⟨rfl, stp hb1 hb2⟩
    | some x =>
      rw [hr] at h
      obtain ⟨ht, rfl⟩ : (⟨x.toArray⟩ : ByteArray) = t ∧ (0 : Int) = e := by cases h; exact ⟨rfl, rfl⟩
      have HR : Hid (mntR (rd s.data.toList) = (t, true)) := by show _ = _; rw [hr, ← ht]; rfl
      clear h h0 hm hr ht
      go_enter Tryd.func15, Tryd.ntmps15
      go_wp2_with (first
        | (go_at_call 30; (with_reducible refine (rcheck_any s w HM.out 0 HC.out).mono ?_); rintro e1 w1 ⟨rfl, hb1⟩)
        | (go_at_call 32; (with_reducible refine (rread8 s t true w1 HM.out HR.out).mono ?_); rintro e2 w2 ⟨rfl, hb2⟩)
        | fail)
      go_ret2
      exact ⟨rfl, stp hb1 hb2⟩
  · rw [if_pos h0] at h
    obtain ⟨rfl, he⟩ : (⟨#[]⟩ : ByteArray) = t ∧ chkE s = e := by cases h; exact ⟨rfl, rfl⟩
    have q0 : (e == 0) = false := by rw [← he]; simpa using h0
    have q1 : (e != 0) = true := by rw [← he]; simpa using h0
    have HC := Lib.hid he
    clear h h0 hm he
    go_enter Tryd.func15, Tryd.ntmps15
    go_wp2_with (first
      | (go_at_call 30; (with_reducible refine (rcheck_any s w HM.out e HC.out).mono ?_); rintro e1 w1 ⟨rfl, hb1⟩)
      | fail)
    go_ret2
    exact ⟨rfl, hb1⟩
end Hx
end Go.Proofs.YtjdeomlpipdopaaDoor
