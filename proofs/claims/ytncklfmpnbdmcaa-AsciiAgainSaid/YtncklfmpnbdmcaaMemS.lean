/-
  Slices of texts as lists; the document's own Same of two of them (tidewaiterref04).
-/
import Derived.Test.YtncklfmpnbdmcaaMemG
import Derived.OwnWalk
import Derived.BigQuiet
import Derived.Deep.QuietTactic
import Derived.Deep.LoopGhost
namespace Go.Proofs.Ytncklfmpnbdmcaa
open Go.RowKit
namespace Hx
open Go
set_option linter.unusedVariables false
def encS (s : ByteArray) : Value := .string s
theorem encS_one (s : ByteArray) : (encS s).oneCell' = true := rfl
theorem infoS : (Try.prog.info? 9).map (fun i => (i.zero, i.size, i.bytes)) = some (some (.string ByteArray.empty), 1, 16) := by kernel_rfl
theorem own_any {α : Type} {enc : α → Value} {w : World} {base : Nat} {e : TypeId} {v : Value} {n : Nat} {l : List α} (h : w.ownsRow base e 1 v n (l.map enc)) : ∃ A c, v = .slice A n c ∧ (A = none → c = 0) ∧ RdG enc w w.heap.size A l ∧ l.length = n := by
  obtain ⟨A, c, rfl⟩ := own_form h
  refine ⟨A, c, rfl, ?_, RdG.of_own h⟩
  intro hA
  subst hA
  rcases h.2 with ⟨e, _⟩ | ⟨g, cap, cur, e, _⟩
  · injection e with _ _ h3
  · injection e with h3 _ _
    cases h3
theorem drewN_below {B : Nat} {a w : World} (h : Below B a w) (n : Nat) : Below B a (w.drewN n) := h.trans ⟨rfl, rfl, rfl, Nat.le_refl _, fun _ _ => rfl⟩
theorem seq_bS (a b : ByteArray) : (a.toList == b.toList) = decide (a = b) := by
  rw [Bool.eq_iff_iff, beq_iff_eq, decide_eq_true_eq, ByteArray.toList_eq, ByteArray.toList_eq]
  exact ⟨fun h => by cases a; cases b; simpa using h, fun h => by rw [h]⟩
set_option maxHeartbeats 2000000 in
set_option maxRecDepth 100000 in
/-- ref04.Same of two slices of texts. -/
theorem rsameS (A B : Option Addr) (n m c d : Nat) (la lb : List ByteArray) (b : Bool) (w : World) (ha : RdG encS w w.heap.size A la) (hb : RdG encS w w.heap.size B lb) (hn : la.length = n) (hm : lb.length = m) (hz : n ≤ 1000000 ∧ m ≤ 1000000) (h : decide (la = lb) = b) :
    Calls Try.prog 22 #[.slice A n c, .slice B m d] w fun e w' => e = .returned (.bool b) ∧ Below w.heap.size w w' := by
  by_cases hnm : n = m
  · subst hnm
    have d0 : ((n : Int) != (n : Int)) = false := by simp
    have HA := Lib.hid ha
    have HB := Lib.hid hb
    have HN := Lib.hid hn
    have HM := Lib.hid hm
    have HZ := Lib.hid hz
    have HD := Lib.hid h
    clear ha hb hn hm hz h
    go_enter Try.func22, Try.ntmps22
    go_wp2_with fail
    go_loopg [5] n (fun gg i wr => ∃ k : Nat, k + gg = n ∧ i = .int .i64 k ∧ Below w.heap.size w wr ∧ la.take k = lb.take k)
    case atStart => exact ⟨0, by omega, rfl, Below.refl _ _, rfl⟩
    case round =>
      obtain ⟨k, hk, rfl, hbw, htk⟩ := hrel
      have HTK := Lib.hid htk
      clear htk
      by_cases hlt : k < n
      · obtain ⟨ga, oa, rfl, hga, hca⟩ := HA.out (by rw [HN.out]; omega)
        obtain ⟨gb, ob, rfl, hgb, hcb⟩ := HB.out (by rw [HM.out]; omega)
        have hka : k < la.length := by rw [HN.out]; exact hlt
        have hkb : k < lb.length := by rw [HM.out]; exact hlt
        have k1 := (hbw.cell (p := ⟨ga, oa + k, none⟩) hga).trans (hca k hka)
        have k2 := (hbw.cell (p := ⟨gb, ob + k, none⟩) hgb).trans (hcb k hkb)
        obtain ⟨x, hx⟩ : ∃ x, la[k]'hka = x := ⟨_, rfl⟩
        obtain ⟨y, hy⟩ : ∃ y, lb[k]'hkb = y := ⟨_, rfl⟩
        rw [hx] at k1
        rw [hy] at k2
        have k1' : wr.cell? ⟨ga, oa + k, none⟩ = some (.string x) := k1
        have k2' : wr.cell? ⟨gb, ob + k, none⟩ = some (.string y) := k2
        have bk : (0 : Int) ≤ (k : Int) ∧ (k : Int) < (n : Int) := by omega
        have HBW := Lib.hid hbw
        have hMM := HZ.out
        have HTA : Hid (la.take (k + 1) = la.take k ++ [x]) := by show _ = _; rw [List.take_succ_eq_append_getElem hka, hx]
        have HTB : Hid (lb.take (k + 1) = lb.take k ++ [y]) := by show _ = _; rw [List.take_succ_eq_append_getElem hkb, hy]
        clear hca hcb hx hy k1 k2 hbw hka hkb
        by_cases hxy : x = y
        · subst hxy
          have q1 : (x.toList == x.toList) = true := by simp
          have q2 : (x.toList != x.toList) = false := by simp
          go_wp2_with fail
          go_quiet (fail)
          go_wp2_with fail
          go_roundg (gk - 1)
          case rel => exact ⟨k + 1, by omega, by go_num, drewN_below HBW.out _, by rw [HTA.out, HTB.out, HTK.out]⟩
          case measure => omega
        · have q1 : (x.toList == y.toList) = false := by rw [seq_bS]; simpa using hxy
          have q2 : (x.toList != y.toList) = true := by rw [bne, q1]; rfl
          obtain rfl : false = b := by
            rw [← HD.out, eq_comm, decide_eq_false_iff_not]
            rintro rfl
            have h1 := HTA.out
            rw [HTB.out] at h1
            have := List.append_cancel_left h1
            simp at this
            exact hxy this.symm
          clear hxy
          go_wp2_with fail
          go_quiet (fail)
          go_wp2_with fail
          go_ret
          exact ⟨rfl, drewN_below HBW.out _⟩
      · obtain rfl : n = k := by omega
        obtain rfl : true = b := by
          rw [← HD.out, eq_comm, decide_eq_true_eq]
          have := HTK.out
          rwa [List.take_of_length_le (by rw [HN.out]; exact Nat.le_refl _), List.take_of_length_le (by rw [HM.out]; exact Nat.le_refl _)] at this
        go_wp2_with fail
        go_ret
        exact ⟨rfl, hbw⟩
  · have d0 : ((n : Int) != (m : Int)) = true := by simp; omega
    have d1 : (n != m) = true := by simpa using hnm
    have d2 : (n == m) = false := by simpa using hnm
    obtain rfl : false = b := by
      rw [← h, eq_comm, decide_eq_false_iff_not]
      rintro rfl
      exact hnm (hn.symm.trans hm)
    clear ha hb hn hm h hz
    go_enter Try.func22, Try.ntmps22
    go_wp2_with fail
    go_ret
    exact ⟨rfl, Below.refl _ _⟩
end Hx
end Go.Proofs.Ytncklfmpnbdmcaa
