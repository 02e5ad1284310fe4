/-
  Texts of one seat, put together: EscT, LexT, MemV, LexU.
-/
import Derived.Test.YtichboamakgabaaGreatDoorG05
import Derived.Test.YtichboamakgabaaGreatDoorG02
import Derived.Lib.ConvBytes
import Derived.Lib.BufferMore
import Derived.Test.YtichboamakgabaaGreatDoorG00
import Derived.Laws.Rows
import Derived.Laws.Tables
namespace Go.Proofs.YtichboamakgabaaGreatDoor
open Go.RowKit
namespace Hx
open Tx Nmb Es
set_option linter.unusedVariables false
theorem drop_step {l : List UInt8} {k : Nat} {c : UInt8} (h : l[k]? = some c) : l.drop k = c :: l.drop (k + 1) := by
  obtain ⟨hk, e⟩ := List.getElem?_eq_some_iff.1 h
  rw [List.drop_eq_getElem_cons hk, e]
theorem mid_next {l : List UInt8} {k a : Nat} {c : UInt8} (h : l[k]? = some c) (ha : a ≤ k) : (l.drop a).take (k + 1 - a) = (l.drop a).take (k - a) ++ [c] := by
  have e : (l.drop a)[k - a]? = some c := by rw [List.getElem?_drop, show a + (k - a) = k by omega]; exact h
  rw [show k + 1 - a = (k - a) + 1 by omega]
  exact take_next8 e
theorem mid_split {l : List UInt8} {k a : Nat} {c : UInt8} (h : l[k]? = some c) (ha : a ≤ k) : l.drop a = (l.drop a).take (k - a) ++ c :: l.drop (k + 1) := by
  rw [← drop_step h]
  have e : l.drop k = (l.drop a).drop (k - a) := by rw [List.drop_drop, show a + (k - a) = k by omega]
  rw [e, List.take_append_drop]
theorem meantL_len {x y : List UInt8} (h : meantL x = some y) : y.length ≤ 4 := by
  unfold meantL at h
  repeat (split at h; · (cases h; simp))
  split at h
  · rw [Option.map_eq_some_iff] at h
    obtain ⟨n, _, rfl⟩ := h
    exact (enc_length n).2
  · cases h
theorem extract_mid8 (s : ByteArray) (a b : Nat) : s.extract a b = ⟨((s.data.toList.drop a).take (b - a)).toArray⟩ := by
  have := ByteArray.extract_mk s.data.toList a b
  rw [← ba_eq5] at this
  exact this
theorem mnt_some {o : Option (List UInt8)} {t : ByteArray} (h : mntR o = (t, true)) : ∃ y, o = some y ∧ t = ⟨y.toArray⟩ := by
  unfold mntR at h
  cases o with
  | none => cases h
  | some y => cases h; exact ⟨y, rfl, rfl⟩
theorem mnt_none {o : Option (List UInt8)} {t : ByteArray} (h : mntR o = (t, false)) : o = none := by
  unfold mntR at h
  cases o with
  | none => rfl
  | some y => cases h
set_option maxHeartbeats 8000000 in
set_option maxRecDepth 100000 in
/-- ref.Read. -/
theorem rread8 (s t : ByteArray) (b : Bool) (w : World) (hm : s.size ≤ 1000000) (h : mntR (rd s.data.toList) = (t, b)) :
    Calls Tryz.prog 48 #[.string s] w fun e w' => e = .returned (.tuple #[.string t, .bool b]) ∧ Below w.heap.size w w' := by
  obtain ⟨i0, hi, hz0, hz1, hz2⟩ := info_parts infoU8
  have HI := Lib.hid hi
  have HZ0 := Lib.hid hz0
  have HZ1 := Lib.hid hz1
  have HZ2 := Lib.hid hz2
  have HM := Lib.hid hm
  have HT := Lib.hid h
  clear hi hz0 hz1 hz2 hm h
  go_enter Tryz.func48, Tryz.ntmps48
  go_wp2_with fail
  go_loopg [4, 5] s.size (fun gg v i wr => ∃ (k : Nat) (done : List UInt8), s.size ≤ k + gg ∧ k ≤ s.size ∧ i = .int .i64 k ∧ wr.ownsRow w.heap.size 5 1 v done.length (Lib.byteCells done) ∧ Below w.heap.size w wr ∧ rd s.data.toList = (rd (s.data.toList.drop k)).map (done ++ ·) ∧ done.length ≤ 4 * k)
  case atStart => exact ⟨0, [], by omega, by omega, rfl, World.ownsRow_nil _ _ _ _, Below.refl _ _, by rw [List.drop_zero]; cases rd s.data.toList <;> rfl, by simp⟩
  case round =>
    obtain ⟨k, done, hk, hks, rfl, hown, hbw, hrd, hdl⟩ := hrel
    obtain ⟨m, hmm⟩ : ∃ m, done.length = m := ⟨_, rfl⟩
    rw [hmm] at hown hdl
    have HMM := Lib.hid hmm
    have HO := Lib.hid hown
    have HBW := Lib.hid hbw
    have HRD := Lib.hid hrd
    have hsz := hbw.size
    have hMM := HM.out
    clear hmm hbw hrd
    by_cases hlt : k < s.size
    · obtain ⟨c, hc, hat⟩ := byte_at8 s k hlt
      have hcl := c.toNat_lt
      have bk : (0 : Int) ≤ (k : Int) ∧ (k : Int) < (s.size : Int) := by omega
      have HC := Lib.hid hc
      have HDR := Lib.hid (drop_step hc)
      clear hc
      by_cases h60 : c.toNat = 60
      · have d1 : ((c.toNat : Int) == 60) = true := by simp; omega
        have hno : rd s.data.toList = none := by
          rw [HRD.out, HDR.out, u8_eq h60]
          show (rd (60 :: _)).map _ = none
          rw [rd_bad]
          rfl
        have ht := HT.out
        rw [hno] at ht
        obtain ⟨rfl, rfl⟩ : (⟨#[]⟩ : ByteArray) = t ∧ false = b := by cases ht; exact ⟨rfl, rfl⟩
        clear h60 hno ht hown HT
        go_wp2_with fail
        go_ret2
        exact ⟨rfl, HBW.out⟩
      have d1 : ((c.toNat : Int) == 60) = false := by simp; omega
      have n60 : c ≠ 60 := u8_ne (by decide) h60
      by_cases h38 : c.toNat = 38
      · have d2 : ((c.toNat : Int) != 38) = false := by simp; omega
        have d3 : ((c.toNat : Int) == 38) = true := by simp; omega
        have hc38 : c = 38 := u8_eq h38
        have HC38 := Lib.hid hc38
        clear h60 n60 h38 hc38 hown
        go_wp2_with fail
        obtain ⟨wo, rfl⟩ : ∃ wo : World, wo = wr := ⟨_, rfl⟩
        obtain ⟨go1, rfl⟩ : ∃ go1 : Nat, go1 = gk := ⟨_, rfl⟩
        go_loopg [6] (s.size - k) (fun gg x wr => ∃ j : Nat, j + gg = s.size ∧ k ≤ j ∧ x = .int .i64 j ∧ wo = wr ∧ (59 : UInt8) ∉ (s.data.toList.drop k).take (j - k))
        case atStart => exact ⟨k, by omega, Nat.le_refl _, rfl, rfl, by simp⟩
        case round =>
          obtain ⟨j, hj, hkj, rfl, rfl, hno⟩ := hrel
          have HNO := Lib.hid hno
          clear hno
          by_cases hjl : j < s.size
          · obtain ⟨d, hd, hdat⟩ := byte_at8 s j hjl
            have hdl2 := d.toNat_lt
            have bj : (0 : Int) ≤ (j : Int) ∧ (j : Int) < (s.size : Int) := by omega
            have HD := Lib.hid hd
            clear hd
            by_cases h59 : d.toNat = 59
            · have d4 : ((d.toNat : Int) != 59) = false := by simp; omega
              have d5 : ((d.toNat : Int) == 59) = true := by simp; omega
              have hkj2 : k < j := by
                rcases Nat.lt_or_ge k j with h | h
                · exact h
                · exfalso
                  obtain rfl : k = j := by omega
                  have e1 := HD.out
                  rw [HC.out] at e1
                  have : c = d := by simpa using e1
                  rw [← this, HC38.out] at h59
                  exact absurd h59 (by decide)
              obtain ⟨k1, hk1⟩ : ∃ k1, k + 1 = k1 := ⟨_, rfl⟩
              obtain ⟨x, hx⟩ : ∃ x, (s.data.toList.drop k1).take (j - k1) = x := ⟨_, rfl⟩
              obtain ⟨xb, hxb⟩ : ∃ xb, s.extract k1 j = xb := ⟨_, rfl⟩
              have hxl : xb.data.toList = x := by rw [← hxb, extract_mid8, ← hx]
              have hsp : s.data.toList.drop k1 = x ++ 59 :: s.data.toList.drop (j + 1) := by
                rw [mid_split HD.out (show k1 ≤ j by omega), hx, u8_eq h59]
                rfl
              have hnx : (59 : UInt8) ∉ x := by
                intro hm
                refine HNO.out ?_
                have e1 : (s.data.toList.drop k).take (j - k) = c :: x := by
                  rw [HDR.out, show j - k = (j - k1) + 1 by omega, List.take_succ_cons, hk1, hx]
                rw [e1]
                exact List.mem_cons_of_mem _ hm
              have hse : semi (s.data.toList.drop k1) = some (x, s.data.toList.drop (j + 1)) := by rw [hsp]; exact semi_of _ _ hnx
              have hstep : rd (s.data.toList.drop k) = match meantL x with | none => none | some y => (rd (s.data.toList.drop (j + 1))).map (y ++ ·) := by
                rw [HDR.out, HC38.out, rd_amp, hk1, hse]
                rfl
              have HXZ : Hid (xb.size ≤ 1000000) := by
                show _ ≤ _
                rw [← ba_len5, hxl, ← hx, List.length_take, List.length_drop, ba_len5]
                omega
              have g1 : IntKind.i64.wrap ((k : Int) + 1) = (k1 : Int) := by rw [IntWalk.i64_in _ (by omega)]; omega
              have bx : (0 : Int) ≤ (k1 : Int) ∧ (k1 : Int) ≤ (j : Int) := by omega
              have by' : (j : Int) ≤ (s.size : Int) := by omega
              have bx2 : k1 ≤ j := by omega
              have by2 : j ≤ s.size := by omega
              have dj : ((j : Int) == (s.size : Int)) = false := by simp; omega
              have dj2 : (j == s.size) = false := by simp; omega
              have ck1 : (k : Int) + 1 = (k1 : Int) := by omega
              cases hml : meantL x with
              | none =>
                have HML : Hid (mntR (meantL xb.data.toList) = (⟨#[]⟩, false)) := by show _ = _; rw [hxl, hml]; rfl
                have hno2 : rd s.data.toList = none := by
                  rw [HRD.out, hstep, hml]
                  rfl
                have ht := HT.out
                rw [hno2] at ht
                obtain ⟨rfl, rfl⟩ : (⟨#[]⟩ : ByteArray) = t ∧ false = b := by cases ht; exact ⟨rfl, rfl⟩
                clear hk1 hx hxl hsp hnx hse hstep hml hno2 ht HT h59 hkj2
                go_wp2_with (first
                  | (go_at_call 67; (with_reducible refine (rmeant8 xb ⟨#[]⟩ false wo HXZ.out HML.out).mono ?_); rintro e w1 ⟨rfl, hb1⟩)
                  | fail)
                go_ret2
                exact ⟨rfl, stp HBW.out hb1⟩
              | some y =>
                obtain ⟨yb, hyb⟩ : ∃ yb : ByteArray, ⟨y.toArray⟩ = yb := ⟨_, rfl⟩
                have HML : Hid (mntR (meantL xb.data.toList) = (yb, true)) := by show _ = _; rw [hxl, hml, ← hyb]; rfl
                have hy4 : yb.size ≤ 4 := by rw [← hyb]; exact meantL_len hml
                have HYC : Hid (Lib.strCells yb = Lib.byteCells y ∧ yb.size = y.length) := by
                  rw [← hyb]
                  exact ⟨str_cells _, rfl⟩
                have HRN : Hid (rd s.data.toList = (rd (s.data.toList.drop (j + 1))).map ((done ++ y) ++ ·)) := by
                  show _ = _
                  rw [HRD.out, hstep, hml]
                  cases rd (s.data.toList.drop (j + 1)) <;> simp
                clear hk1 hx hxl hsp hnx hse hstep hml hyb h59 hkj2
                go_wp2_with (first
                  | (go_at_call 67; (with_reducible refine (rmeant8 xb yb true wo HXZ.out HML.out).mono ?_); rintro e w1 ⟨rfl, hb1⟩; have HB1 := Lib.hid hb1; have HO1 := Lib.hid (own_below HO.out hb1 (Nat.le_refl _)); have hs1 := (stp HBW.out hb1).size)
                  | (at_builtin; refine wpList_append_str rfl (.tmp 57) (.tmp 58) 27 9 rfl w.heap.size 5 i0 Tryz.underlying27 Tryz.underlying9 HI.out HZ0.out HZ1.out HZ2.out _ m _ rfl HO1.out yb rfl (by omega) hs1 ?_; intro v4 w4 hown4 hgr4; have HO4 := Lib.hid hown4; have HG4 := Lib.hid hgr4; clear hown4 hgr4)
                  | fail)
                have hb4 : Below w.heap.size w w4 := (stp HBW.out HB1.out).grown HG4.out hs1 (fun g hg => (HO1.out.lt g hg).1)
                go_roundg (go1 - 1)
                case rel =>
                  refine ⟨j + 1, done ++ y, by omega, by omega, by go_num, ?_, hb4, HRN.out, ?_⟩
                  · rw [List.length_append, HMM.out, Lib.byteCells_append, ← HYC.out.1, ← HYC.out.2]
                    exact HO4.out
                  · rw [List.length_append, HMM.out, ← HYC.out.2]
                    omega
                case measure => omega
            · have d4 : ((d.toNat : Int) != 59) = true := by simp; omega
              have d5 : ((d.toNat : Int) == 59) = false := by simp; omega
              have HN2 : Hid ((59 : UInt8) ∉ (s.data.toList.drop k).take (j + 1 - k)) := by
                intro hm
                rw [mid_next HD.out hkj, List.mem_append, List.mem_singleton] at hm
                rcases hm with hm | hm
                · exact HNO.out hm
                · rw [← hm] at h59
                  exact h59 rfl
              clear h59
              go_wp2_with fail
              go_roundg (gk - 1)
              case rel => exact ⟨j + 1, by omega, by omega, by go_num, rfl, HN2.out⟩
              case measure => omega
          · obtain rfl : s.size = j := by omega
            have dj : ((s.size : Int) == (s.size : Int)) = true := by simp
            have hno2 : rd s.data.toList = none := by
              have hn := HNO.out
              rw [List.take_of_length_le (by rw [List.length_drop, ba_len5]; exact Nat.le_refl _), HDR.out] at hn
              have hs : semi (s.data.toList.drop (k + 1)) = none := semi_none _ (fun hm => hn (List.mem_cons_of_mem _ hm))
              rw [HRD.out, HDR.out, HC38.out, rd_amp, hs]
              rfl
            have ht := HT.out
            rw [hno2] at ht
            obtain ⟨rfl, rfl⟩ : (⟨#[]⟩ : ByteArray) = t ∧ false = b := by cases ht; exact ⟨rfl, rfl⟩
            clear hno2 ht HT
            go_wp2_with fail
            go_ret2
            exact ⟨rfl, HBW.out⟩
      · have d2 : ((c.toNat : Int) != 38) = true := by simp; omega
        have d3 : ((c.toNat : Int) == 38) = false := by simp; omega
        have n38 : c ≠ 38 := u8_ne (by decide) h38
        have HRN : Hid (rd s.data.toList = (rd (s.data.toList.drop (k + 1))).map ((done ++ [c]) ++ ·)) := by
          show _ = _
          rw [HRD.out, HDR.out, rd_byte c _ n60 n38]
          cases rd (s.data.toList.drop (k + 1)) <;> simp
        clear h60 n60 h38 n38 hown
        go_wp2_with (first
          | (at_builtin; refine wpList_append_rd rfl (.tmp 23) (.tmp 27) 27 rfl w.heap.size 5 i0 (.int .u8 0) Tryz.underlying27 HI.out HZ0.out HZ1.out HZ2.out rfl _ m _ rfl (HO.out.alloc (.cells #[.int .u8 c.toNat] 5)) (wr.heap.size + 1) (some ⟨wr.heap.size, 0, none⟩) 1 1 [c] rfl (RdA.new wr 5 [c]) rfl (fun h => by cases h) (by omega) (by rw [World.size_alloc]; omega) ?_; intro v4 w4 hown4 hgr4; have HO4 := Lib.hid hown4; have HG4 := Lib.hid hgr4; clear hown4 hgr4)
          | fail)
        have hb4 : Below w.heap.size w w4 := (HBW.out.alloc hsz _).grown HG4.out (by rw [World.size_alloc]; omega) (fun g hg => (HO.out.lt g hg).1)
        go_roundg (gk - 1)
        case rel =>
          refine ⟨k + 1, done ++ [c], by omega, by omega, by go_num, ?_, hb4, HRN.out, ?_⟩
          · rw [List.length_append, HMM.out, Lib.byteCells_append]
            exact HO4.out
          · rw [List.length_append, HMM.out]
            simp only [List.length_cons, List.length_nil]
            omega
        case measure => omega
    · obtain rfl : s.size = k := by omega
      obtain ⟨A', c', rfl⟩ := own_form hown
      have hrd := (RdA.of_own hown).1
      have cv := conv_str (P := Tryz.prog) (n := m) (c := c') hrd HMM.out Tryz.underlying27 Tryz.underlying5 Tryz.underlying9
      have hd0 : s.data.toList.drop s.size = [] := List.drop_of_length_le (by rw [ba_len5]; exact Nat.le_refl _)
      have hyes : rd s.data.toList = some done := by
        rw [HRD.out, hd0, rd_nil]
        simp
      have ht := HT.out
      rw [hyes] at ht
      obtain ⟨ht1, rfl⟩ : (⟨done.toArray⟩ : ByteArray) = t ∧ true = b := by cases ht; exact ⟨rfl, rfl⟩
      rw [ht1] at cv
      clear hown hrd HO hd0 hyes ht ht1 HT
      go_wp2_with fail
      go_ret2
      exact ⟨rfl, HBW.out⟩
/-- What Get answers. -/
def getR (s : ByteArray) : ByteArray × Int := if chkE s ≠ 0 then (⟨#[]⟩, chkE s) else match rd s.data.toList with | some x => (⟨x.toArray⟩, 0) | none => (⟨#[]⟩, 80)
end Hx
end Go.Proofs.YtichboamakgabaaGreatDoor
namespace Go.Proofs.YtichboamakgabaaGreatDoor
open Go.RowKit
namespace Hx
open Lx Tx Nmb Es
set_option linter.unusedVariables false
theorem seq_l (a b : ByteArray) : (a.toList == b.toList) = decide (a.data.toList = b.data.toList) := by
  rw [Bool.eq_iff_iff]
  simp only [beq_iff_eq, decide_eq_true_eq, ByteArray.toList_eq]
theorem hasL_step {l : List Pr} {name : List UInt8} {k : Nat} (h : k < l.length) (h1 : hasL (l.take k) name = false) : (decide ((l[k]'h).name = name) = false → hasL (l.take (k + 1)) name = false) ∧ (decide ((l[k]'h).name = name) = true → hasL l name = true) := by
  unfold hasL at h1 ⊢
  refine ⟨fun h2 => ?_, fun h2 => ?_⟩
  · rw [List.take_succ_eq_append_getElem h, List.any_append, h1]
    simp only [List.any_cons, List.any_nil, h2]
    rfl
  · rw [List.any_eq_true]
    exact ⟨_, List.getElem_mem h, h2⟩
set_option maxHeartbeats 2000000 in
set_option maxRecDepth 100000 in
theorem rhas9 (A : Option Addr) (n cp : Nat) (l : List Pr) (t : ByteArray) (w : World) (hr : RdC PrC w w.heap.size A l) (hn : l.length = n) (hm : n ≤ 1000000) (b : Bool) (h : hasL l t.data.toList = b) :
    Calls Tryz.prog 66 #[.slice A n cp, .string t] w fun e w' => e = .returned (.bool b) ∧ w = w' := by
  have HR := Lib.hid hr
  have HN := Lib.hid hn
  have HM := Lib.hid hm
  have HH := Lib.hid h
  clear hr hn h hm
  go_enter Tryz.func66, Tryz.ntmps66
  go_wp2_with fail
  go_loopw [5] (fun i wr => ∃ k : Nat, k ≤ n ∧ i = .int .i64 k ∧ hasL (l.take k) t.data.toList = false ∧ w = wr) (fun i _ => n - (intOf i).toNat)
  case atStart => exact ⟨0, Nat.zero_le _, rfl, rfl, by first | rfl | trivial⟩
  case round =>
    obtain ⟨k, hk, rfl, hno, rfl⟩ := hrel
    have hm := HM.out
    by_cases hlt : k < n
    · have hk2 : k < l.length := by rw [HN.out]; exact hlt
      obtain ⟨b0, off, rfl, hbB, hc⟩ := HR.out (by omega)
      obtain ⟨cs, ⟨x, y, rfl, hx, hy⟩, hcell⟩ := hc k hk2
      have c0 : w.cell? ⟨b0, off + k * 2, none⟩ = some (.string x) := hcell 0 (by simp)
      have hst := hasL_step (name := t.data.toList) hk2 hno
      rw [← hx] at hst
      obtain ⟨q, hq⟩ : ∃ q, (x.toList == t.toList) = q := ⟨_, rfl⟩
      have hqq : decide (x.data.toList = t.data.toList) = q := by rw [← hq, seq_l]
      rw [hqq] at hst
      have HST := Lib.hid hst
      clear hst hqq hx hy hcell hno hc
      cases q
      · have HV := Lib.hid (HST.out.1 rfl)
        go_wp2_with fail
        go_roundw
        case rel => exact ⟨k + 1, by omega, by go_num, HV.out, by first | rfl | trivial⟩
        case measure => simp [intOf]; omega
      · obtain rfl : true = b := by rw [← HH.out, HST.out.2 rfl]
        go_wp2_with fail
        go_ret
        exact ⟨rfl, rfl⟩
    · obtain rfl : k = n := by omega
      obtain rfl : false = b := by
        rw [← HN.out, List.take_length] at hno
        rw [← HH.out, hno]
      clear hno
      go_wp2_with fail
      go_ret
      exact ⟨rfl, rfl⟩
/-- A row of bytes that came of a text. -/
def Rwb (g : Nat) (l : List UInt8) (w : World) : Prop := ∃ (cs : Array Value) (fr : Nat × Nat), w.heap[g]? = some (.cells cs 5 fr) ∧ l.length ≤ fr.1 ∧ (∀ (j : Nat) (c : UInt8), l[j]? = some c → cs[j]? = some (Value.int .u8 c.toNat))
theorem lt_of_row {w : World} {g : Nat} {o : Obj} (h : w.heap[g]? = some o) : g < w.heap.size := (Array.getElem?_eq_some_iff.1 h).1
theorem row_cell (w : World) (g k : Nat) (cs : Array Value) (t : TypeId) (fr : Nat × Nat) (h : w.heap[g]? = some (.cells cs t fr)) : w.cell? ⟨g, k, none⟩ = cs[k]? := by simp [World.cell?, h]
theorem Rwb.lt {g : Nat} {l : List UInt8} {w : World} (h : Rwb g l w) : g < w.heap.size := by
  obtain ⟨cs, fr, h1, _⟩ := h
  exact lt_of_row h1
theorem Rwb.cell {g k : Nat} {l : List UInt8} {c : UInt8} {w : World} (h : Rwb g l w) (hc : l[k]? = some c) : w.cell? ⟨g, k, none⟩ = some (.int .u8 c.toNat) := by
  obtain ⟨cs, fr, h1, _, h3⟩ := h
  rw [row_cell w g k cs _ fr h1]
  exact h3 k c hc
theorem Rwb.free {g k : Nat} {l : List UInt8} {w : World} (h : Rwb g l w) (hk : k < l.length) : w.frozen? ⟨g, k, none⟩ = false := by
  obtain ⟨cs, fr, h1, h2, _⟩ := h
  obtain ⟨lo, hi⟩ := fr
  simp only at h2
  simp [World.frozen?, h1]
  omega
theorem Rwb.rd {g : Nat} {l : List UInt8} {w : World} (h : Rwb g l w) : RdA w w.heap.size (some ⟨g, 0, none⟩) l := by
  intro hp
  refine ⟨g, 0, rfl, h.lt, fun j hj => ?_⟩
  rw [Nat.zero_add]
  exact h.cell (List.getElem?_eq_getElem hj)
theorem Rwb.put {g k : Nat} {l : List UInt8} {x : UInt8} {w : World} (h : Rwb g l w) : Rwb g (l.set k x) (w.setCell ⟨g, k, none⟩ (.int .u8 x.toNat)) := by
  obtain ⟨cs, fr, h1, h2, h3⟩ := h
  refine ⟨_, fr, Lib.heap_setCell_same h1 _, by rw [List.length_set]; exact h2, fun j c hj => ?_⟩
  rw [List.getElem?_set] at hj
  rw [Array.getElem?_setIfInBounds]
  by_cases hkj : k = j
  · subst hkj
    rw [if_pos rfl] at hj ⊢
    by_cases hk : k < l.length
    · rw [if_pos hk] at hj
      have hs := h3 k _ (List.getElem?_eq_getElem hk)
      have : k < cs.size := (Array.getElem?_eq_some_iff.1 hs).1
      rw [if_pos this]
      cases hj
      rfl
    · rw [if_neg hk] at hj
      cases hj
  · rw [if_neg hkj] at hj ⊢
    exact h3 j c hj
theorem str_rowb (s : ByteArray) (w : World) : ∃ C WB, (convert 9 27 (.string s)).run Tryz.prog w = .ok (.slice (some ⟨w.heap.size, 0, none⟩) s.size C) WB ∧ Rwb w.heap.size s.data.toList WB ∧ Below w.heap.size w WB := by
  have h := Lib.run_convert_string_bytes (P := Tryz.prog) w 9 27 5 s Tryz.underlying9 Tryz.underlying27 Tryz.underlying5
  refine ⟨_, _, h, ⟨_, _, Lib.bytesWorld_at_new w _ s, ?_, fun j c hj => ?_⟩, ⟨rfl, rfl, rfl, by rw [Lib.bytesWorld_size]; omega, fun k hk => Lib.bytesWorld_at_old w _ _ k hk⟩⟩
  · show _ ≤ (Lib.bytesCells w _ s).size
    simp [Lib.bytesCells]
  · obtain ⟨hk, e⟩ := List.getElem?_eq_some_iff.1 hj
    have hk2 : j < s.data.size := by simpa using hk
    unfold Lib.bytesCells
    rw [Array.getElem?_append_left (by simpa using hk2), Array.getElem?_map]
    have : s.data[j]? = some c := by rw [← Array.getElem?_toList]; exact hj
    rw [this]
    rfl
def sp (c : UInt8) : UInt8 := if blk c then 32 else c
/-- So many blanks turned. -/
def spk (l : List UInt8) (k : Nat) : List UInt8 := (l.take k).map sp ++ l.drop k
theorem spk_len (l : List UInt8) (k : Nat) : (spk l k).length = l.length := by unfold spk; rw [List.length_append, List.length_map, List.length_take, List.length_drop]; omega
theorem spk_at {l : List UInt8} {k : Nat} (h : k < l.length) : (spk l k)[k]? = some (l[k]'h) ∧ spk l (k + 1) = (spk l k).set k (sp (l[k]'h)) := by
  have hl : ((l.take k).map sp).length = k := by rw [List.length_map, List.length_take]; omega
  have e1 : spk l k = (l.take k).map sp ++ (l[k]'h) :: l.drop (k + 1) := by unfold spk; rw [List.drop_eq_getElem_cons h]
  refine ⟨?_, ?_⟩
  · rw [e1, List.getElem?_append_right (by omega), hl]
    simp
  · rw [e1, List.set_append_right _ _ (by omega), hl, Nat.sub_self, List.set_cons_zero]
    unfold spk
    rw [List.take_succ_eq_append_getElem h, List.map_append]
    simp
theorem set_same {α : Type} {l : List α} {k : Nat} {c : α} (h : l[k]? = some c) : l.set k c = l := by
  apply List.ext_getElem?
  intro j
  rw [List.getElem?_set]
  by_cases hj : k = j
  · subst hj
    obtain ⟨hk, _⟩ := List.getElem?_eq_some_iff.1 h
    rw [if_pos rfl, if_pos hk, h]
  · rw [if_neg hj]
set_option maxHeartbeats 2000000 in
set_option maxRecDepth 100000 in
theorem rtold9 (s t : ByteArray) (w : World) (hm : s.size ≤ 1000000) (b : Bool) (h : mntR (toldL s.data.toList) = (t, b)) :
    Calls Tryz.prog 86 #[.string s] w fun e w' => e = .returned (.tuple #[.string t, .bool b]) ∧ Below w.heap.size w w' := by
  obtain ⟨C, WB, hcv, hrw, hb0⟩ := str_rowb s w
  have HM := Lib.hid hm
  have HH := Lib.hid h
  have HRW := Lib.hid hrw
  have HB0 := Lib.hid hb0
  have hsl := ba_l s
  have HSL := Lib.hid hsl
  clear hm h hrw hb0 hsl
  go_enter Tryz.func86, Tryz.ntmps86
  go_wp2_with fail
  obtain ⟨g, hg⟩ : ∃ g, w.heap.size = g := ⟨_, rfl⟩
  rw [hg]
  have HB0g : Hid (Below g w WB) := Lib.hid (by rw [← hg]; exact HB0.out)
  have HRWg : Hid (Rwb g (spk s.data.toList 0) WB) := Lib.hid (by rw [← hg]; exact HRW.out)
  have HG := Lib.hid hg
  clear hg hcv
  go_loopg [5] s.size (fun gg i wr => ∃ k : Nat, k + gg = s.size ∧ i = .int .i64 k ∧ Rwb g (spk s.data.toList k) wr ∧ Below g w wr)
  case atStart => exact ⟨0, by omega, rfl, HRWg.out, HB0g.out⟩
  case round =>
    obtain ⟨k, hk, rfl, hrw, hbw⟩ := hrel
    have HRW2 := Lib.hid hrw
    have HBW := Lib.hid hbw
    have hm := HM.out
    by_cases hlt : k < s.size
    · have hkl : k < s.data.toList.length := by rw [HSL.out]; exact hlt
      obtain ⟨c, hc⟩ : ∃ c, s.data.toList[k]'hkl = c := ⟨_, rfl⟩
      have hat := spk_at hkl
      rw [hc] at hat
      have hcell := hrw.cell hat.1
      have hfree := hrw.free (k := k) (by rw [spk_len]; exact hkl)
      have bk : (0 : Int) ≤ (k : Int) ∧ (k : Int) < (s.size : Int) := by omega
      have HAT := Lib.hid hat
      clear hc hat hrw hbw
      cases hb : blk c
      · have HB := Lib.hid hb
        have HN : Hid (spk s.data.toList (k + 1) = spk s.data.toList k) := Lib.hid (by
          rw [HAT.out.2]
          unfold sp
          rw [hb, if_neg (by simp)]
          exact set_same HAT.out.1)
        clear hb hkl
        go_wp2_with (first
          | (go_at_call 85; (with_reducible refine (rblank9 c _ false HB.out).mono ?_); rintro e w1 ⟨rfl, rfl⟩)
          | fail)
        go_roundg (gk - 1)
        case rel => exact ⟨k + 1, by omega, by go_num, by rw [HN.out]; exact HRW2.out, HBW.out⟩
        case measure => omega
      · have HB := Lib.hid hb
        have HN : Hid (spk s.data.toList (k + 1) = (spk s.data.toList k).set k 32) := Lib.hid (by
          rw [HAT.out.2]
          unfold sp
          rw [hb, if_pos rfl])
        clear hb hkl
        go_wp2_with (first
          | (go_at_call 85; (with_reducible refine (rblank9 c _ true HB.out).mono ?_); rintro e w1 ⟨rfl, rfl⟩)
          | fail)
        go_roundg (gk - 1)
        case rel => exact ⟨k + 1, by omega, by go_num, by rw [HN.out]; exact HRW2.out.put, HBW.out.setCell (Nat.le_refl _) _⟩
        case measure => omega
    · obtain rfl : s.size = k := by omega
      obtain ⟨u, hu⟩ : ∃ u : ByteArray, u = ⟨(s.data.toList.map sp).toArray⟩ := ⟨_, rfl⟩
      have hud : u.data.toList = s.data.toList.map sp := by rw [hu]
      have hus : u.size = s.size := by
        have := congrArg List.length hud
        rw [ba_l, List.length_map, HSL.out] at this
        exact this
      have hkk : spk s.data.toList s.size = s.data.toList.map sp := by
        unfold spk
        rw [← HSL.out, List.take_length, List.drop_length, List.append_nil]
      rw [hkk] at hrw
      have hcv := conv_str (P := Tryz.prog) (w := wr) (n := s.size) (c := C) (A := some ⟨g, 0, none⟩) (l := s.data.toList.map sp) (B := wr.heap.size) (fun hp => hrw.rd hp) (by rw [List.length_map, HSL.out]) Tryz.underlying27 Tryz.underlying5 Tryz.underlying9
      rw [← hu] at hcv
      have HUM : Hid (u.size ≤ 1000000) := Lib.hid (by omega)
      have HUH : Hid (mntR (rd u.data.toList) = (t, b)) := Lib.hid (by
        have := HH.out
        unfold toldL at this
        rw [hud]
        exact this)
      have HBG : Hid (g ≤ wr.heap.size) := Lib.hid (by have := HBW.out.size; rw [HG.out] at this; exact this)
      clear hrw hbw hu hud hus hkk
      go_wp2_with (first
        | (go_at_call 48; (with_reducible refine (rread8 u t b _ HUM.out HUH.out).mono ?_); rintro e w2 ⟨rfl, hb2⟩)
        | fail)
      go_ret2
      exact ⟨rfl, by rw [HG.out]; exact HBW.out.trans (hb2.mono HBG.out)⟩
end Hx
end Go.Proofs.YtichboamakgabaaGreatDoor
namespace Go.Proofs.YtichboamakgabaaGreatDoor
open Go.RowKit
namespace Hx
set_option linter.unusedVariables false
theorem kept_heap {a b : World} {k : Nat} {o : Obj} (h : a.heap[k]? = some o) (hb : Below a.heap.size a b) : b.heap[k]? = some o := (hb.block k (Array.getElem?_eq_some_iff.1 h).1).trans h
theorem lt_heap {a : World} {k : Nat} {o : Obj} (h : a.heap[k]? = some o) : k < a.heap.size := (Array.getElem?_eq_some_iff.1 h).1
theorem below_setRowV {B g : Nat} {w0 w : World} (hb : Below B w0 w) (hBg : B ≤ g) (cs : Array Value) : Below B w0 (w.setRow g cs) :=
  hb.trans ⟨rfl, rfl, rfl, by simp [World.setRow], fun k hk => setRow_other w g k cs (by omega)⟩
theorem rcell2 {P : Program} {fn : Func} {p q : Tmp} {ty : TypeId} (h : fn.results = #[.cell p ty, .tmp q]) (tmps : Array Value) (w : World) (g : Nat) (t : TypeId) (cs : Array Value) (fr : Nat × Nat) (d : TypeDesc)
    (hp : tmps.getD p undef = .pointer (some ⟨g, 0, none⟩)) (hg : w.heap[g]? = some (.cells cs t fr))
    (hu : P.underlying ty = some d) (hd : (match d with | .struct _ | .array _ _ => true | _ => false) = true) (hi : (P.info? ty).map (·.size) = some cs.size) :
    (results fn tmps).run P w = .ok (.tuple #[.agg cs, tmps.getD q undef]) w := by
  have hp' : tmps[p]?.getD undef = .pointer (some ⟨g, 0, none⟩) := by simpa using hp
  simp [results, h, hp', asAddr, run_loadVar_row w g t ty cs fr d hg hu hd hi]
theorem below_drewN {B : Nat} {a w : World} (h : Below B a w) (n : Nat) : Below B a (w.drewN n) := ⟨h.os, h.tape, h.output, h.size, h.block⟩
/-- A new variable. -/
theorem opnV (w : World) (A : Obj) : ∃ W, w.alloc A = W ∧ W.heap[w.heap.size]? = some A ∧ Below w.heap.size w W := ⟨_, rfl, heap_alloc_new w A, stpA (Below.refl _ _) _⟩
end Hx
end Go.Proofs.YtichboamakgabaaGreatDoor
namespace Go.Proofs.YtichboamakgabaaGreatDoor
open Go.RowKit
namespace Hx
open Lx Tx Nmb Es
set_option linter.unusedVariables false
def zPr : Array Value := #[.string ⟨#[]⟩, .string ⟨#[]⟩]
theorem onePr (x y : ByteArray) : (#[Value.string x, Value.string y] : Array Value).all (·.oneCell') = true := by simp [Value.oneCell']
theorem sizePr : (Tryz.prog.info? 35).map (·.size) = some 2 := by kernel_rfl
theorem dw_drop (p : UInt8 → Bool) (l : List UInt8) (i : Nat) : (l.drop i).dropWhile p = l.drop (i + ((l.drop i).takeWhile p).length) := by
  have h := (tw_split p (l.drop i)).1
  have : (l.drop i).drop ((l.drop i).takeWhile p).length = (l.drop i).dropWhile p := by
    conv => lhs; arg 2; rw [h]
    rw [List.drop_left]
  rw [← this, List.drop_drop]
/-- Where an attribute's sign = is looked for; where its value is. -/
def eqAt (l : List UInt8) (a : Nat) : Nat := a + (wordL (l.drop a)).length + ((l.drop (a + (wordL (l.drop a)).length)).takeWhile blk).length
theorem attrL_none0 {l : List UInt8} (h : wordL l = []) : attrL l = none := by unfold attrL; rw [if_pos h]
theorem attrL_at {l : List UInt8} {a : Nat} (h : wordL (l.drop a) ≠ []) : attrL (l.drop a) = match l.drop (eqAt l a) with
    | [] => none
    | c :: r => if c = 61 then (valL (r.dropWhile blk)).map fun p => (⟨wordL (l.drop a), p.1⟩, p.2) else none := by
  unfold attrL
  rw [if_neg h, List.drop_drop, dw_drop]
  rfl
theorem attrL_end {l : List UInt8} {a : Nat} (h : wordL (l.drop a) ≠ []) (h1 : l.length ≤ eqAt l a) : attrL (l.drop a) = none := by
  rw [attrL_at h, List.drop_of_length_le h1]
theorem attrL_other {l : List UInt8} {a : Nat} (h : wordL (l.drop a) ≠ []) (h1 : eqAt l a < l.length) (h2 : l[eqAt l a]'h1 ≠ 61) : attrL (l.drop a) = none := by
  rw [attrL_at h, List.drop_eq_getElem_cons h1]
  dsimp only
  rw [if_neg h2]
def valAt (l : List UInt8) (a : Nat) : Nat := eqAt l a + 1 + ((l.drop (eqAt l a + 1)).takeWhile blk).length
theorem attrL_val {l : List UInt8} {a : Nat} (h : wordL (l.drop a) ≠ []) (h1 : eqAt l a < l.length) (h2 : l[eqAt l a]'h1 = 61) : attrL (l.drop a) = (valL (l.drop (valAt l a))).map fun p => (⟨wordL (l.drop a), p.1⟩, p.2) := by
  rw [attrL_at h, List.drop_eq_getElem_cons h1]
  dsimp only
  rw [if_pos h2, dw_drop]
  rfl
theorem valL_end {l : List UInt8} {b : Nat} (h : l.length ≤ b) : valL (l.drop b) = none := by rw [List.drop_of_length_le h]; rfl
theorem valL_other {l : List UInt8} {b : Nat} (h : b < l.length) (h1 : l[b]'h ≠ 34) (h2 : l[b]'h ≠ 39) : valL (l.drop b) = none := by
  rw [List.drop_eq_getElem_cons h]
  unfold valL
  dsimp only
  rw [if_neg (by rw [not_or]; exact ⟨h1, h2⟩)]
theorem valL_open {l : List UInt8} {b : Nat} (h : b < l.length) (h1 : l[b]'h = 34 ∨ l[b]'h = 39) (h2 : l[b]'h ∉ l.drop (b + 1)) : valL (l.drop b) = none := by
  rw [List.drop_eq_getElem_cons h]
  unfold valL
  dsimp only
  rw [if_pos h1, cutQ_none h2]
theorem valL_shut {l : List UInt8} {b k : Nat} (h : b < l.length) (h1 : l[b]'h = 34 ∨ l[b]'h = 39) (hk : b + 1 + k < l.length) (h2 : l[b]'h ∉ (l.drop (b + 1)).take k) (h3 : l[b + 1 + k]'hk = l[b]'h) : valL (l.drop b) = (toldL ((l.drop (b + 1)).take k)).map fun v => (v, l.drop (b + 1 + k + 1)) := by
  have hkl : k < (l.drop (b + 1)).length := by rw [List.length_drop]; omega
  have e : l.drop (b + 1) = (l.drop (b + 1)).take k ++ (l[b]'h) :: l.drop (b + 1 + k + 1) := by
    conv => lhs; rw [← List.take_append_drop k (l.drop (b + 1))]
    rw [List.drop_eq_getElem_cons hkl, List.getElem_drop, h3, List.drop_drop]
    rfl
  rw [List.drop_eq_getElem_cons h]
  unfold valL
  dsimp only
  rw [if_pos h1]
  conv => lhs; rw [e]
  rw [cutQ_of _ h2]
theorem rblanks9S (s : ByteArray) (a : Nat) (w : World) (hm : s.size ≤ 1000000) (ha : a + 1 ≤ s.size) (n : Nat) (h : ((s.data.toList.drop (a + 1)).takeWhile blk).length = n) :
    Calls Tryz.prog 64 #[.string s, .int .i64 ((a : Int) + 1)] w fun e w' => e = .returned (.int .i64 n) ∧ w = w' := rblanks9 s (a + 1) w hm ha n h
/-- What attr answers. -/
def AttrTo (s : ByteArray) (a : Nat) (w : World) (e : Ending) (w' : World) : Prop := Below w.heap.size w w' ∧
  ((attrL (s.data.toList.drop a) = none ∧ e = .returned (.tuple #[.agg #[.string ⟨#[]⟩, .string ⟨#[]⟩], .int .i64 (-1)])) ∨
   (∃ (x y : ByteArray) (n : Nat), attrL (s.data.toList.drop a) = some (⟨x.data.toList, y.data.toList⟩, s.data.toList.drop n) ∧ n ≤ s.size ∧ e = .returned (.tuple #[.agg #[.string x, .string y], .int .i64 n])))
set_option maxHeartbeats 8000000 in
set_option maxRecDepth 100000 in
theorem rattr9 (s : ByteArray) (a : Nat) (w : World) (hm : s.size ≤ 1000000) (ha : a ≤ s.size) : Calls Tryz.prog 65 #[.string s, .int .i64 a] w (AttrTo s a w) := by
  have HM := Lib.hid hm
  have HA := Lib.hid ha
  obtain ⟨t, ht⟩ : ∃ t : ByteArray, t.data.toList = wordL (s.data.toList.drop a) := ⟨⟨(wordL (s.data.toList.drop a)).toArray⟩, rfl⟩
  have HT := Lib.hid ht
  have hte := empty_l t
  have hsl := ba_l s
  have htl := ba_l t
  by_cases h0 : t.size = 0
  · have HN : Hid (attrL (s.data.toList.drop a) = none) := Lib.hid (attrL_none0 (by rw [← ht]; exact List.eq_nil_of_length_eq_zero (htl.trans h0)))
    rw [decide_eq_true h0] at hte
    clear ht hsl htl h0
    go_enter Tryz.func65, Tryz.ntmps65
    go_wp2_with (first
      | (go_at_call 63; (with_reducible refine (rword9 s a _ HM.out HA.out t HT.out).mono ?_); rintro e w1 ⟨rfl, hb1⟩; have HG1 := Lib.hid (kept_heap (heap_alloc_new w (.cells zPr 35)) hb1); have HB1 := Lib.hid (stp (stpA (Below.refl w.heap.size w) (.cells zPr 35)) hb1); clear hb1)
      | (refine wpList_store_row rfl _ _ _ rfl w.heap.size #[.string ⟨#[]⟩, .string ⟨#[]⟩] rfl rfl 35 zPr HG1.out sizePr rfl (onePr _ _) ?_)
      | fail)
    exact bodyPost_ret (v := .tuple #[.agg #[.string ⟨#[]⟩, .string ⟨#[]⟩], .int .i64 (-1)]) (rcell2 (p := 4) (q := 5) rfl _ _ _ _ #[.string ⟨#[]⟩, .string ⟨#[]⟩] _ _ rfl (setRow_heap _ _ _ #[.string ⟨#[]⟩, .string ⟨#[]⟩] _ _ HG1.out) Tryz.underlying35 rfl sizePr) rfl ⟨below_setRowV HB1.out (Nat.le_refl _) _, .inl ⟨HN.out, rfl⟩⟩
  · have HW : Hid (wordL (s.data.toList.drop a) ≠ []) := Lib.hid fun e => by rw [← ht] at e; rw [e] at htl; exact h0 (by simpa using htl.symm)
    rw [decide_eq_false h0] at hte
    have hte2 : t.toList.isEmpty = false := hte
    have hwl : t.size = (wordL (s.data.toList.drop a)).length := by rw [← ht, htl]
    have hwd := (wordL_ne HW.out).2.1
    have hwd2 := congrArg List.length hwd
    rw [List.length_append, List.length_drop, ← hwl, hsl] at hwd2
    obtain ⟨a1, ha1⟩ : ∃ a1, a + t.size = a1 := ⟨_, rfl⟩
    have e1 : (a : Int) + (t.size : Int) = (a1 : Int) := by omega
    have HA1 : Hid (a1 ≤ s.size) := Lib.hid (by omega)
    obtain ⟨n1, hn1⟩ : ∃ n1, ((s.data.toList.drop a1).takeWhile blk).length = n1 := ⟨_, rfl⟩
    have HN1 := Lib.hid hn1
    have hl1 : n1 + a1 ≤ s.size := by
      have := congrArg List.length (tw_split blk (s.data.toList.drop a1)).1
      rw [List.length_append, hn1, List.length_drop, hsl] at this
      have := HA1.out
      omega
    obtain ⟨E, hE⟩ : ∃ E, a1 + n1 = E := ⟨_, rfl⟩
    have e2 : (a1 : Int) + (n1 : Int) = (E : Int) := by omega
    have hEq : eqAt s.data.toList a = E := by unfold eqAt; rw [← hwl, ha1, hn1, hE]
    have HT2 := HT
    clear ht hsl htl h0 hwl hwd hwd2
    by_cases hEs : s.size ≤ E
    · have dE : decide ((s.size : Int) ≤ (E : Int)) = true := decide_eq_true (by omega)
      have HN : Hid (attrL (s.data.toList.drop a) = none) := Lib.hid (attrL_end HW.out (by rw [hEq, ba_l]; exact hEs))
      clear hEq hE hn1 ha1
      go_enter Tryz.func65, Tryz.ntmps65
      go_wp2_with (first
        | (go_at_call 63; (with_reducible refine (rword9 s a _ HM.out HA.out t HT.out).mono ?_); rintro e w1 ⟨rfl, hb1⟩; have HG1 := Lib.hid (kept_heap (heap_alloc_new w (.cells zPr 35)) hb1); have HB1 := Lib.hid (stp (stpA (Below.refl w.heap.size w) (.cells zPr 35)) hb1); clear hb1)
        | (go_at_call 64; (with_reducible refine (rblanks9 s a1 _ HM.out HA1.out n1 HN1.out).mono ?_); rintro e w2 ⟨rfl, rfl⟩)
        | (refine wpList_store_row rfl _ _ _ rfl w.heap.size #[.string ⟨#[]⟩, .string ⟨#[]⟩] rfl rfl 35 zPr HG1.out sizePr rfl (onePr _ _) ?_)
        | fail)
      exact bodyPost_ret (v := .tuple #[.agg #[.string ⟨#[]⟩, .string ⟨#[]⟩], .int .i64 (-1)]) (rcell2 (p := 4) (q := 5) rfl _ _ _ _ #[.string ⟨#[]⟩, .string ⟨#[]⟩] _ _ rfl (setRow_heap _ _ _ #[.string ⟨#[]⟩, .string ⟨#[]⟩] _ _ HG1.out) Tryz.underlying35 rfl sizePr) rfl ⟨below_setRowV HB1.out (Nat.le_refl _) _, .inl ⟨HN.out, rfl⟩⟩
    · have dE : decide ((s.size : Int) ≤ (E : Int)) = false := decide_eq_false (by omega)
      have hElt : E < s.size := by omega
      have bE : (0 : Int) ≤ (E : Int) ∧ (E : Int) < (s.size : Int) := by omega
      obtain ⟨c, hc⟩ : ∃ c, s[E]'hElt = c := ⟨_, rfl⟩
      have hca : ∀ h, s[E]'h = c := fun _ => hc
      have hEl : E < s.data.toList.length := by rw [ba_l]; exact hElt
      have hck : s.data.toList[E]'hEl = c := (at_l s E hElt).trans hc
      have hcl := c.toNat_lt
      by_cases h61 : c.toNat = 61
      · have f61 : ((c.toNat : Int) != 61) = false := by simp; omega
        have e61 : c = 61 := UInt8.toNat_inj.1 h61
        have HE1 : Hid (E + 1 ≤ s.size) := Lib.hid (by omega)
        obtain ⟨n2, hn2⟩ : ∃ n2, ((s.data.toList.drop (E + 1)).takeWhile blk).length = n2 := ⟨_, rfl⟩
        have HN2 := Lib.hid hn2
        have hl2 : n2 + (E + 1) ≤ s.size := by
          have := congrArg List.length (tw_split blk (s.data.toList.drop (E + 1))).1
          rw [List.length_append, hn2, List.length_drop, ba_l] at this
          omega
        obtain ⟨V, hV⟩ : ∃ V, E + 1 + n2 = V := ⟨_, rfl⟩
        have e4 : (E : Int) + 1 + (n2 : Int) = (V : Int) := by omega
        have hEl2 : eqAt s.data.toList a < s.data.toList.length := by rw [hEq]; exact hEl
        have hVa : valAt s.data.toList a = V := by unfold valAt; rw [hEq, hn2, hV]
        have hval := attrL_val HW.out hEl2 (by simp only [hEq]; rw [hck]; exact e61)
        rw [hVa] at hval
        have HVAL := Lib.hid hval
        clear hval hVa hEl2 hck hc hEq hE hn1 ha1 h61 e61 hn2 
        by_cases hVs : s.size ≤ V
        · have dV : decide ((s.size : Int) ≤ (V : Int)) = true := decide_eq_true (by omega)
          have HN : Hid (attrL (s.data.toList.drop a) = none) := Lib.hid (by rw [HVAL.out, valL_end (by rw [ba_l]; exact hVs)]; rfl)
          clear hV
          go_enter Tryz.func65, Tryz.ntmps65
          go_wp2_with (first
            | (go_at_call 63; (with_reducible refine (rword9 s a _ HM.out HA.out t HT.out).mono ?_); rintro e w1 ⟨rfl, hb1⟩; have HG1 := Lib.hid (kept_heap (heap_alloc_new w (.cells zPr 35)) hb1); have HB1 := Lib.hid (stp (stpA (Below.refl w.heap.size w) (.cells zPr 35)) hb1); clear hb1)
            | (go_at_call 64; (with_reducible refine (rblanks9 s a1 _ HM.out HA1.out n1 HN1.out).mono ?_); rintro e w2 ⟨rfl, rfl⟩)
            | (go_at_call 64; (with_reducible refine (rblanks9S s E _ HM.out HE1.out n2 HN2.out).mono ?_); rintro e w3 ⟨rfl, rfl⟩)
            | (refine wpList_store_row rfl _ _ _ rfl w.heap.size #[.string ⟨#[]⟩, .string ⟨#[]⟩] rfl rfl 35 zPr HG1.out sizePr rfl (onePr _ _) ?_)
            | fail)
          exact bodyPost_ret (v := .tuple #[.agg #[.string ⟨#[]⟩, .string ⟨#[]⟩], .int .i64 (-1)]) (rcell2 (p := 4) (q := 5) rfl _ _ _ _ #[.string ⟨#[]⟩, .string ⟨#[]⟩] _ _ rfl (setRow_heap _ _ _ #[.string ⟨#[]⟩, .string ⟨#[]⟩] _ _ HG1.out) Tryz.underlying35 rfl sizePr) rfl ⟨below_setRowV HB1.out (Nat.le_refl _) _, .inl ⟨HN.out, rfl⟩⟩
        · have dV : decide ((s.size : Int) ≤ (V : Int)) = false := decide_eq_false (by omega)
          have hVlt : V < s.size := by omega
          have bV : (0 : Int) ≤ (V : Int) ∧ (V : Int) < (s.size : Int) := by omega
          obtain ⟨q, hq⟩ : ∃ q, s[V]'hVlt = q := ⟨_, rfl⟩
          have hqa : ∀ h, s[V]'h = q := fun _ => hq
          have hVl : V < s.data.toList.length := by rw [ba_l]; exact hVlt
          have hqk : s.data.toList[V]'hVl = q := (at_l s V hVlt).trans hq
          have hql := q.toNat_lt
          have HQK := Lib.hid hqk
          clear hq hqk hV
          by_cases hqq : q.toNat = 34 ∨ q.toNat = 39
          · have hq2 : q = 34 ∨ q = 39 := by
              rcases hqq with h | h
              · exact .inl (UInt8.toNat_inj.1 h)
              · exact .inr (UInt8.toNat_inj.1 h)
            have HQ2 := Lib.hid hq2
            clear hq2
            rcases hqq with h34 | h39
            · have f34 : ((q.toNat : Int) != 34) = false := by simp; omega
              clear h34
              go_enter Tryz.func65, Tryz.ntmps65
              go_wp2_with (first
                | (go_at_call 63; (with_reducible refine (rword9 s a _ HM.out HA.out t HT.out).mono ?_); rintro e w1 ⟨rfl, hb1⟩; have HG1 := Lib.hid (kept_heap (heap_alloc_new w (.cells zPr 35)) hb1); have HB1 := Lib.hid (stp (stpA (Below.refl w.heap.size w) (.cells zPr 35)) hb1); clear hb1)
                | (go_at_call 64; (with_reducible refine (rblanks9 s a1 _ HM.out HA1.out n1 HN1.out).mono ?_); rintro e w2 ⟨rfl, rfl⟩)
                | (go_at_call 64; (with_reducible refine (rblanks9S s E _ HM.out HE1.out n2 HN2.out).mono ?_); rintro e w3 ⟨rfl, rfl⟩)
                | (refine wpList_store_row rfl _ _ _ rfl w.heap.size #[.string ⟨#[]⟩, .string ⟨#[]⟩] rfl rfl 35 zPr HG1.out sizePr rfl (onePr _ _) ?_)
                | fail)
              go_loopw [7] (fun i wr => ∃ k : Nat, V + 1 + k ≤ s.size ∧ i = .int .i64 ((V : Int) + 1 + (k : Int)) ∧ q ∉ (s.data.toList.drop (V + 1)).take k ∧ Below w1.heap.size w1 wr) (fun i _ => s.size - (intOf i).toNat)
              case atStart => exact ⟨0, by omega, by simp, by simp, Below.refl _ _⟩
              case round =>
                obtain ⟨k, hk, rfl, hno, hbw⟩ := hrel
                have hm9 := HM.out
                have HBW := Lib.hid hbw
                by_cases hlt : V + 1 + k < s.size
                · have dK : decide ((V : Int) + 1 + (k : Int) < (s.size : Int)) = true := decide_eq_true (by omega)
                  obtain ⟨d, hd⟩ : ∃ d, s[V + 1 + k]'hlt = d := ⟨_, rfl⟩
                  have hda : ∀ h, s[V + 1 + k]'h = d := fun _ => hd
                  have bk : (0 : Int) ≤ (V : Int) + 1 + (k : Int) ∧ (V : Int) + 1 + (k : Int) < (s.size : Int) := by omega
                  have hkl : V + 1 + k < s.data.toList.length := by rw [ba_l]; exact hlt
                  have hdk : s.data.toList[V + 1 + k]'hkl = d := (at_l s (V + 1 + k) hlt).trans hd
                  have HDK := Lib.hid hdk
                  have HNO := Lib.hid hno
                  clear hbw hd hdk hno
                  by_cases hdq : d.toNat = q.toNat
                  · have edq : d = q := UInt8.toNat_inj.1 hdq
                    subst edq
                    have fne : ((d.toNat : Int) != (d.toNat : Int)) = false := by simp
                    have fne2 : ((V : Int) + 1 + (k : Int) == (s.size : Int)) = false := by simp; omega
                    obtain ⟨x, hx⟩ : ∃ x, s.extract (V + 1) (V + 1 + k) = x := ⟨_, rfl⟩
                    have hxd : x.data.toList = (s.data.toList.drop (V + 1)).take k := by rw [← hx, extract_l s _ _ (by omega), show V + 1 + k - (V + 1) = k by omega]
                    have hxs : x.size ≤ 1000000 := by
                      have := congrArg List.length hxd
                      rw [ba_l, List.length_take, List.length_drop, ba_l] at this
                      omega
                    have bj : (0 : Int) ≤ (V : Int) + 1 ∧ (V : Int) + 1 ≤ (V : Int) + 1 + (k : Int) ∧ (V : Int) + 1 + (k : Int) ≤ (s.size : Int) := by omega
                    have hvs := valL_shut hVl (by rw [HQK.out]; exact HQ2.out) hkl (by rw [HQK.out]; exact HNO.out) (by rw [HDK.out, HQK.out])
                    rw [← hxd] at hvs
                    have HVS := Lib.hid hvs
                    have HXS := Lib.hid hxs
                    clear hvs hxs hxd hdq
                    go_wp2_with fail
                    go_region
                    obtain ⟨v, b, hvb⟩ : ∃ v b, mntR (toldL x.data.toList) = (v, b) := ⟨_, _, rfl⟩
                    have HVB := Lib.hid hvb
                    have HG2 := Lib.hid (kept_heap HG1.out HBW.out.drew)
                    have HB2 := Lib.hid (stp HB1.out HBW.out.drew)
                    clear hvb
                    cases b
                    · have HN : Hid (attrL (s.data.toList.drop a) = none) := Lib.hid (by rw [HVAL.out, HVS.out, mnt_none HVB.out]; rfl)
                      go_wp2_with (first
                        | (go_at_call 86; (with_reducible refine (rtold9 x v _ HXS.out false HVB.out).mono ?_); rintro e w5 ⟨rfl, hb5⟩; have HG5 := Lib.hid (kept_heap HG2.out hb5); have HB5 := Lib.hid (stp HB2.out hb5); clear hb5)
                        | (refine wpList_store_row rfl _ _ _ rfl w.heap.size #[.string ⟨#[]⟩, .string ⟨#[]⟩] rfl rfl 35 zPr HG5.out sizePr rfl (onePr _ _) ?_)
                        | fail)
                      exact bodyPost_ret (v := .tuple #[.agg #[.string ⟨#[]⟩, .string ⟨#[]⟩], .int .i64 (-1)]) (rcell2 (p := 4) (q := 5) rfl _ _ _ _ #[.string ⟨#[]⟩, .string ⟨#[]⟩] _ _ rfl (setRow_heap _ _ _ #[.string ⟨#[]⟩, .string ⟨#[]⟩] _ _ HG5.out) Tryz.underlying35 rfl sizePr) rfl ⟨below_setRowV HB5.out (Nat.le_refl _) _, .inl ⟨HN.out, rfl⟩⟩
                    · obtain ⟨y, hy1, hy2⟩ := mnt_some HVB.out
                      have HS : Hid (attrL (s.data.toList.drop a) = some (⟨t.data.toList, v.data.toList⟩, s.data.toList.drop (V + 1 + k + 1))) := Lib.hid (by
                        rw [HVAL.out, HVS.out, hy1, hy2, HT2.out]
                        rfl)
                      clear hy1 hy2
                      go_wp2_with (first
                        | (go_at_call 86; (with_reducible refine (rtold9 x v _ HXS.out true HVB.out).mono ?_); rintro e w5 ⟨rfl, hb5⟩; have HG5 := Lib.hid (kept_heap HG2.out hb5); have HB5 := Lib.hid (stp HB2.out hb5); clear hb5)
                        | (refine wpList_store_row rfl _ _ _ rfl w.heap.size #[.string t, .string v] rfl rfl 35 zPr HG5.out sizePr rfl (onePr _ _) ?_)
                        | fail)
                      exact bodyPost_ret (v := .tuple #[.agg #[.string t, .string v], .int .i64 ((V : Int) + 1 + (k : Int) + 1)]) (rcell2 (p := 4) (q := 5) rfl _ _ _ _ #[.string t, .string v] _ _ rfl (setRow_heap _ _ _ #[.string t, .string v] _ _ HG5.out) Tryz.underlying35 rfl sizePr) rfl ⟨below_setRowV HB5.out (Nat.le_refl _) _, .inr ⟨t, v, V + 1 + k + 1, HS.out, by omega, rfl⟩⟩
                  · have fne : ((d.toNat : Int) != (q.toNat : Int)) = true := by simp; omega
                    have HNO2 : Hid (q ∉ (s.data.toList.drop (V + 1)).take (k + 1)) := Lib.hid (by
                      have hkl2 : k < (s.data.toList.drop (V + 1)).length := by rw [List.length_drop]; omega
                      rw [List.take_succ_eq_append_getElem hkl2, List.mem_append, not_or]
                      refine ⟨HNO.out, ?_⟩
                      rw [List.mem_singleton, List.getElem_drop]
                      intro e
                      exact hdq (by rw [e, HDK.out]))
                    clear hdq
                    go_wp2_with fail
                    go_region
                    go_wp2_with fail
                    go_roundw
                    case rel => exact ⟨k + 1, by omega, by go_num, HNO2.out, HBW.out.drew⟩
                    case measure => simp [intOf]; omega
                · have hke : V + 1 + k = s.size := by omega
                  have fne2 : ((V : Int) + 1 + (k : Int) == (s.size : Int)) = true := by simp; omega
                  have HN : Hid (attrL (s.data.toList.drop a) = none) := Lib.hid (by
                    rw [List.take_of_length_le (by rw [List.length_drop, ba_l]; omega)] at hno
                    rw [HVAL.out, valL_open hVl (by rw [HQK.out]; exact HQ2.out) (by rw [HQK.out]; exact hno)]
                    rfl)
                  have dK : decide ((V : Int) + 1 + (k : Int) < (s.size : Int)) = false := decide_eq_false (by omega)
                  have HGQ := Lib.hid fun n => kept_heap HG1.out (below_drewN HBW.out n)
                  have HBQ := Lib.hid fun n => stp HB1.out (below_drewN HBW.out n)
                  clear hno hbw hke
                  go_wp2_with fail
                  go_quiet (fail)
                  go_wp2_with (first
                    | (refine wpList_store_row rfl _ _ _ rfl w.heap.size #[.string ⟨#[]⟩, .string ⟨#[]⟩] rfl rfl 35 zPr (HGQ.out _) sizePr rfl (onePr _ _) ?_)
                    | fail)
                  exact bodyPost_ret (v := .tuple #[.agg #[.string ⟨#[]⟩, .string ⟨#[]⟩], .int .i64 (-1)]) (rcell2 (p := 4) (q := 5) rfl _ _ _ _ #[.string ⟨#[]⟩, .string ⟨#[]⟩] _ _ rfl (setRow_heap _ _ _ #[.string ⟨#[]⟩, .string ⟨#[]⟩] _ _ (HGQ.out _)) Tryz.underlying35 rfl sizePr) rfl ⟨below_setRowV (HBQ.out _) (Nat.le_refl _) _, .inl ⟨HN.out, rfl⟩⟩
            · have f34 : ((q.toNat : Int) != 34) = true := by simp; omega
              have f39 : ((q.toNat : Int) != 39) = false := by simp; omega
              clear h39
              go_enter Tryz.func65, Tryz.ntmps65
              go_wp2_with (first
                | (go_at_call 63; (with_reducible refine (rword9 s a _ HM.out HA.out t HT.out).mono ?_); rintro e w1 ⟨rfl, hb1⟩; have HG1 := Lib.hid (kept_heap (heap_alloc_new w (.cells zPr 35)) hb1); have HB1 := Lib.hid (stp (stpA (Below.refl w.heap.size w) (.cells zPr 35)) hb1); clear hb1)
                | (go_at_call 64; (with_reducible refine (rblanks9 s a1 _ HM.out HA1.out n1 HN1.out).mono ?_); rintro e w2 ⟨rfl, rfl⟩)
                | (go_at_call 64; (with_reducible refine (rblanks9S s E _ HM.out HE1.out n2 HN2.out).mono ?_); rintro e w3 ⟨rfl, rfl⟩)
                | (refine wpList_store_row rfl _ _ _ rfl w.heap.size #[.string ⟨#[]⟩, .string ⟨#[]⟩] rfl rfl 35 zPr HG1.out sizePr rfl (onePr _ _) ?_)
                | fail)
              go_loopw [7] (fun i wr => ∃ k : Nat, V + 1 + k ≤ s.size ∧ i = .int .i64 ((V : Int) + 1 + (k : Int)) ∧ q ∉ (s.data.toList.drop (V + 1)).take k ∧ Below w1.heap.size w1 wr) (fun i _ => s.size - (intOf i).toNat)
              case atStart => exact ⟨0, by omega, by simp, by simp, Below.refl _ _⟩
              case round =>
                obtain ⟨k, hk, rfl, hno, hbw⟩ := hrel
                have hm9 := HM.out
                have HBW := Lib.hid hbw
                by_cases hlt : V + 1 + k < s.size
                · have dK : decide ((V : Int) + 1 + (k : Int) < (s.size : Int)) = true := decide_eq_true (by omega)
                  obtain ⟨d, hd⟩ : ∃ d, s[V + 1 + k]'hlt = d := ⟨_, rfl⟩
                  have hda : ∀ h, s[V + 1 + k]'h = d := fun _ => hd
                  have bk : (0 : Int) ≤ (V : Int) + 1 + (k : Int) ∧ (V : Int) + 1 + (k : Int) < (s.size : Int) := by omega
                  have hkl : V + 1 + k < s.data.toList.length := by rw [ba_l]; exact hlt
                  have hdk : s.data.toList[V + 1 + k]'hkl = d := (at_l s (V + 1 + k) hlt).trans hd
                  have HDK := Lib.hid hdk
                  have HNO := Lib.hid hno
                  clear hbw hd hdk hno
                  by_cases hdq : d.toNat = q.toNat
                  · have edq : d = q := UInt8.toNat_inj.1 hdq
                    subst edq
                    have fne : ((d.toNat : Int) != (d.toNat : Int)) = false := by simp
                    have fne2 : ((V : Int) + 1 + (k : Int) == (s.size : Int)) = false := by simp; omega
                    obtain ⟨x, hx⟩ : ∃ x, s.extract (V + 1) (V + 1 + k) = x := ⟨_, rfl⟩
                    have hxd : x.data.toList = (s.data.toList.drop (V + 1)).take k := by rw [← hx, extract_l s _ _ (by omega), show V + 1 + k - (V + 1) = k by omega]
                    have hxs : x.size ≤ 1000000 := by
                      have := congrArg List.length hxd
                      rw [ba_l, List.length_take, List.length_drop, ba_l] at this
                      omega
                    have bj : (0 : Int) ≤ (V : Int) + 1 ∧ (V : Int) + 1 ≤ (V : Int) + 1 + (k : Int) ∧ (V : Int) + 1 + (k : Int) ≤ (s.size : Int) := by omega
                    have hvs := valL_shut hVl (by rw [HQK.out]; exact HQ2.out) hkl (by rw [HQK.out]; exact HNO.out) (by rw [HDK.out, HQK.out])
                    rw [← hxd] at hvs
                    have HVS := Lib.hid hvs
                    have HXS := Lib.hid hxs
                    clear hvs hxs hxd hdq
                    go_wp2_with fail
                    go_region
                    obtain ⟨v, b, hvb⟩ : ∃ v b, mntR (toldL x.data.toList) = (v, b) := ⟨_, _, rfl⟩
                    have HVB := Lib.hid hvb
                    have HG2 := Lib.hid (kept_heap HG1.out HBW.out.drew)
                    have HB2 := Lib.hid (stp HB1.out HBW.out.drew)
                    clear hvb
                    cases b
                    · have HN : Hid (attrL (s.data.toList.drop a) = none) := Lib.hid (by rw [HVAL.out, HVS.out, mnt_none HVB.out]; rfl)
                      go_wp2_with (first
                        | (go_at_call 86; (with_reducible refine (rtold9 x v _ HXS.out false HVB.out).mono ?_); rintro e w5 ⟨rfl, hb5⟩; have HG5 := Lib.hid (kept_heap HG2.out hb5); have HB5 := Lib.hid (stp HB2.out hb5); clear hb5)
                        | (refine wpList_store_row rfl _ _ _ rfl w.heap.size #[.string ⟨#[]⟩, .string ⟨#[]⟩] rfl rfl 35 zPr HG5.out sizePr rfl (onePr _ _) ?_)
                        | fail)
                      exact bodyPost_ret (v := .tuple #[.agg #[.string ⟨#[]⟩, .string ⟨#[]⟩], .int .i64 (-1)]) (rcell2 (p := 4) (q := 5) rfl _ _ _ _ #[.string ⟨#[]⟩, .string ⟨#[]⟩] _ _ rfl (setRow_heap _ _ _ #[.string ⟨#[]⟩, .string ⟨#[]⟩] _ _ HG5.out) Tryz.underlying35 rfl sizePr) rfl ⟨below_setRowV HB5.out (Nat.le_refl _) _, .inl ⟨HN.out, rfl⟩⟩
                    · obtain ⟨y, hy1, hy2⟩ := mnt_some HVB.out
                      have HS : Hid (attrL (s.data.toList.drop a) = some (⟨t.data.toList, v.data.toList⟩, s.data.toList.drop (V + 1 + k + 1))) := Lib.hid (by
                        rw [HVAL.out, HVS.out, hy1, hy2, HT2.out]
                        rfl)
                      clear hy1 hy2
                      go_wp2_with (first
                        | (go_at_call 86; (with_reducible refine (rtold9 x v _ HXS.out true HVB.out).mono ?_); rintro e w5 ⟨rfl, hb5⟩; have HG5 := Lib.hid (kept_heap HG2.out hb5); have HB5 := Lib.hid (stp HB2.out hb5); clear hb5)
                        | (refine wpList_store_row rfl _ _ _ rfl w.heap.size #[.string t, .string v] rfl rfl 35 zPr HG5.out sizePr rfl (onePr _ _) ?_)
                        | fail)
                      exact bodyPost_ret (v := .tuple #[.agg #[.string t, .string v], .int .i64 ((V : Int) + 1 + (k : Int) + 1)]) (rcell2 (p := 4) (q := 5) rfl _ _ _ _ #[.string t, .string v] _ _ rfl (setRow_heap _ _ _ #[.string t, .string v] _ _ HG5.out) Tryz.underlying35 rfl sizePr) rfl ⟨below_setRowV HB5.out (Nat.le_refl _) _, .inr ⟨t, v, V + 1 + k + 1, HS.out, by omega, rfl⟩⟩
                  · have fne : ((d.toNat : Int) != (q.toNat : Int)) = true := by simp; omega
                    have HNO2 : Hid (q ∉ (s.data.toList.drop (V + 1)).take (k + 1)) := Lib.hid (by
                      have hkl2 : k < (s.data.toList.drop (V + 1)).length := by rw [List.length_drop]; omega
                      rw [List.take_succ_eq_append_getElem hkl2, List.mem_append, not_or]
                      refine ⟨HNO.out, ?_⟩
                      rw [List.mem_singleton, List.getElem_drop]
                      intro e
                      exact hdq (by rw [e, HDK.out]))
                    clear hdq
                    go_wp2_with fail
                    go_region
                    go_wp2_with fail
                    go_roundw
                    case rel => exact ⟨k + 1, by omega, by go_num, HNO2.out, HBW.out.drew⟩
                    case measure => simp [intOf]; omega
                · have hke : V + 1 + k = s.size := by omega
                  have fne2 : ((V : Int) + 1 + (k : Int) == (s.size : Int)) = true := by simp; omega
                  have HN : Hid (attrL (s.data.toList.drop a) = none) := Lib.hid (by
                    rw [List.take_of_length_le (by rw [List.length_drop, ba_l]; omega)] at hno
                    rw [HVAL.out, valL_open hVl (by rw [HQK.out]; exact HQ2.out) (by rw [HQK.out]; exact hno)]
                    rfl)
                  have dK : decide ((V : Int) + 1 + (k : Int) < (s.size : Int)) = false := decide_eq_false (by omega)
                  have HGQ := Lib.hid fun n => kept_heap HG1.out (below_drewN HBW.out n)
                  have HBQ := Lib.hid fun n => stp HB1.out (below_drewN HBW.out n)
                  clear hno hbw hke
                  go_wp2_with fail
                  go_quiet (fail)
                  go_wp2_with (first
                    | (refine wpList_store_row rfl _ _ _ rfl w.heap.size #[.string ⟨#[]⟩, .string ⟨#[]⟩] rfl rfl 35 zPr (HGQ.out _) sizePr rfl (onePr _ _) ?_)
                    | fail)
                  exact bodyPost_ret (v := .tuple #[.agg #[.string ⟨#[]⟩, .string ⟨#[]⟩], .int .i64 (-1)]) (rcell2 (p := 4) (q := 5) rfl _ _ _ _ #[.string ⟨#[]⟩, .string ⟨#[]⟩] _ _ rfl (setRow_heap _ _ _ #[.string ⟨#[]⟩, .string ⟨#[]⟩] _ _ (HGQ.out _)) Tryz.underlying35 rfl sizePr) rfl ⟨below_setRowV (HBQ.out _) (Nat.le_refl _) _, .inl ⟨HN.out, rfl⟩⟩
          · have f34 : ((q.toNat : Int) != 34) = true := by simp; omega
            have f39 : ((q.toNat : Int) != 39) = true := by simp; omega
            have HN : Hid (attrL (s.data.toList.drop a) = none) := Lib.hid (by
              rw [HVAL.out, valL_other hVl (by rw [HQK.out]; rintro rfl; exact hqq (.inl rfl)) (by rw [HQK.out]; rintro rfl; exact hqq (.inr rfl))]
              rfl)
            clear hqq
            go_enter Tryz.func65, Tryz.ntmps65
            go_wp2_with (first
              | (go_at_call 63; (with_reducible refine (rword9 s a _ HM.out HA.out t HT.out).mono ?_); rintro e w1 ⟨rfl, hb1⟩; have HG1 := Lib.hid (kept_heap (heap_alloc_new w (.cells zPr 35)) hb1); have HB1 := Lib.hid (stp (stpA (Below.refl w.heap.size w) (.cells zPr 35)) hb1); clear hb1)
              | (go_at_call 64; (with_reducible refine (rblanks9 s a1 _ HM.out HA1.out n1 HN1.out).mono ?_); rintro e w2 ⟨rfl, rfl⟩)
              | (go_at_call 64; (with_reducible refine (rblanks9S s E _ HM.out HE1.out n2 HN2.out).mono ?_); rintro e w3 ⟨rfl, rfl⟩)
              | (refine wpList_store_row rfl _ _ _ rfl w.heap.size #[.string ⟨#[]⟩, .string ⟨#[]⟩] rfl rfl 35 zPr HG1.out sizePr rfl (onePr _ _) ?_)
              | fail)
            exact bodyPost_ret (v := .tuple #[.agg #[.string ⟨#[]⟩, .string ⟨#[]⟩], .int .i64 (-1)]) (rcell2 (p := 4) (q := 5) rfl _ _ _ _ #[.string ⟨#[]⟩, .string ⟨#[]⟩] _ _ rfl (setRow_heap _ _ _ #[.string ⟨#[]⟩, .string ⟨#[]⟩] _ _ HG1.out) Tryz.underlying35 rfl sizePr) rfl ⟨below_setRowV HB1.out (Nat.le_refl _) _, .inl ⟨HN.out, rfl⟩⟩
      · have f61 : ((c.toNat : Int) != 61) = true := by simp; omega
        have HN : Hid (attrL (s.data.toList.drop a) = none) := Lib.hid (attrL_other HW.out (by rw [hEq]; exact hEl) (by simp only [hEq]; rw [hck]; rintro rfl; exact h61 rfl))
        clear hck hc hEq hE hn1 ha1 h61 
        go_enter Tryz.func65, Tryz.ntmps65
        go_wp2_with (first
          | (go_at_call 63; (with_reducible refine (rword9 s a _ HM.out HA.out t HT.out).mono ?_); rintro e w1 ⟨rfl, hb1⟩; have HG1 := Lib.hid (kept_heap (heap_alloc_new w (.cells zPr 35)) hb1); have HB1 := Lib.hid (stp (stpA (Below.refl w.heap.size w) (.cells zPr 35)) hb1); clear hb1)
          | (go_at_call 64; (with_reducible refine (rblanks9 s a1 _ HM.out HA1.out n1 HN1.out).mono ?_); rintro e w2 ⟨rfl, rfl⟩)
          | (refine wpList_store_row rfl _ _ _ rfl w.heap.size #[.string ⟨#[]⟩, .string ⟨#[]⟩] rfl rfl 35 zPr HG1.out sizePr rfl (onePr _ _) ?_)
          | fail)
        exact bodyPost_ret (v := .tuple #[.agg #[.string ⟨#[]⟩, .string ⟨#[]⟩], .int .i64 (-1)]) (rcell2 (p := 4) (q := 5) rfl _ _ _ _ #[.string ⟨#[]⟩, .string ⟨#[]⟩] _ _ rfl (setRow_heap _ _ _ #[.string ⟨#[]⟩, .string ⟨#[]⟩] _ _ HG1.out) Tryz.underlying35 rfl sizePr) rfl ⟨below_setRowV HB1.out (Nat.le_refl _) _, .inl ⟨HN.out, rfl⟩⟩
end Hx
end Go.Proofs.YtichboamakgabaaGreatDoor
