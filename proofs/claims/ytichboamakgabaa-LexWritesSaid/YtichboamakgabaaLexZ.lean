/-
  The document's own lex: SamePairs, Same.
-/
import Derived.Test.YtichboamakgabaaLexY
namespace Go.Proofs.Ytichboamakgabaa
open Go.RowKit
namespace Hx
open Lx Tx Nmb Es
set_option linter.unusedVariables false
deriving instance DecidableEq for Pr
deriving instance DecidableEq for Tk
theorem take_step {α : Type} {l m : List α} {k : Nat} (h1 : k < l.length) (h2 : k < m.length) (h : l.take k = m.take k) (he : l[k]'h1 = m[k]'h2) : l.take (k + 1) = m.take (k + 1) := by
  rw [List.take_succ_eq_append_getElem h1, List.take_succ_eq_append_getElem h2, h, he]
theorem pr_eq {a b : Pr} (h1 : a.name = b.name) (h2 : a.value = b.value) : a = b := by
  cases a; cases b
  dsimp only at h1 h2
  rw [h1, h2]
theorem ne_at {α : Type} {l m : List α} {k : Nat} (h1 : k < l.length) (h2 : k < m.length) (he : l[k]'h1 ≠ m[k]'h2) : l ≠ m := by
  rintro rfl
  exact he rfl
set_option maxHeartbeats 4000000 in
set_option maxRecDepth 100000 in
theorem rpairs9 (A A2 : Option Addr) (n cp n2 cp2 : Nat) (l l2 : List Pr) (w : World) (hr : RdC PrC w w.heap.size A l) (hn : l.length = n) (hr2 : RdC PrC w w.heap.size A2 l2) (hn2 : l2.length = n2) (hm : n ≤ 1000000) (hm2 : n2 ≤ 1000000) (q : Bool) (h : decide (l = l2) = q) :
    Calls Try.prog 16 #[.slice A n cp, .slice A2 n2 cp2] w fun e w' => e = .returned (.bool q) ∧ Below w.heap.size w w' := by
  have HR := Lib.hid hr
  have HN := Lib.hid hn
  have HR2 := Lib.hid hr2
  have HN2 := Lib.hid hn2
  have HM := Lib.hid hm
  have HH := Lib.hid h
  clear hr hn hr2 hn2 h
  by_cases hne : n = n2
  · subst hne
    have f0 : ((n : Int) != (n : Int)) = false := by simp
    go_enter Try.func16, Try.ntmps16
    go_wp2_with fail
    go_loopw [5] (fun i wr => ∃ k : Nat, k ≤ n ∧ i = .int .i64 k ∧ l.take k = l2.take k ∧ Below w.heap.size w wr) (fun i _ => n - (intOf i).toNat)
    case atStart => exact ⟨0, Nat.zero_le _, rfl, rfl, Below.refl _ _⟩
    case round =>
      obtain ⟨k, hk, rfl, hno, hbw⟩ := hrel
      have hm := HM.out
      have HBW := Lib.hid hbw
      by_cases hlt : k < n
      · have hk1 : k < l.length := by rw [HN.out]; exact hlt
        have hk2 : k < l2.length := by rw [HN2.out]; exact hlt
        obtain ⟨b0, off, rfl, hbB, hc⟩ := (HR.out.on hbw) (by omega)
        obtain ⟨cs, ⟨x, y, rfl, hx, hy⟩, hcell⟩ := hc k hk1
        obtain ⟨b1, of1, rfl, hbB1, hc1⟩ := (HR2.out.on hbw) (by omega)
        obtain ⟨cs1, ⟨x1, y1, rfl, hx1, hy1⟩, hcell1⟩ := hc1 k hk2
        have c0 : wr.cell? ⟨b0, off + k * 2, none⟩ = some (.string x) := hcell 0 (by simp)
        have c1 : wr.cell? ⟨b0, off + k * 2 + 1, none⟩ = some (.string y) := hcell 1 (by simp)
        have c2 : wr.cell? ⟨b1, of1 + k * 2, none⟩ = some (.string x1) := hcell1 0 (by simp)
        have c3 : wr.cell? ⟨b1, of1 + k * 2 + 1, none⟩ = some (.string y1) := hcell1 1 (by simp)
        clear hbw hc hc1 hcell hcell1
        have bk : (0 : Int) ≤ (k : Int) ∧ (k : Int) < (n : Int) := by omega
        by_cases hxy : x = x1 ∧ y = y1
        · obtain ⟨rfl, rfl⟩ := hxy
          go_wp2_with fail
          go_quiet (fail)
          go_wp2_with fail
          have HT : Hid (l.take (k + 1) = l2.take (k + 1)) := Lib.hid (take_step hk1 hk2 hno (pr_eq (hx.symm.trans hx1) (hy.symm.trans hy1)))
          clear hx hx1 hy hy1 hno
          go_roundw
          case rel => exact ⟨k + 1, by omega, by go_num, HT.out, below_drewN HBW.out _⟩
          case measure => simp [intOf]; omega
        · have hq : (x.toList == x1.toList && y.toList == y1.toList) = false := by
            rw [seq_l, seq_l]
            simp only [Bool.and_eq_false_iff, decide_eq_false_iff_not]
            by_cases h5 : x = x1
            · exact .inr fun e => hxy ⟨h5, ba_x e⟩
            · exact .inl fun e => h5 (ba_x e)
          obtain rfl : false = q := by
            rw [← HH.out, eq_comm, decide_eq_false_iff_not]
            refine ne_at hk1 hk2 fun e => hxy ⟨ba_x ?_, ba_x ?_⟩
            · rw [hx, hx1, e]
            · rw [hy, hy1, e]
          clear hx hx1 hy hy1 hno hxy
          rcases Bool.and_eq_false_iff.1 hq with q1 | q1
          · have q2 : ¬ x.toList = x1.toList := by simpa using q1
            go_wp2_with fail
            clear hq
            go_quiet (fail)
            go_wp2_with fail
            go_ret
            exact ⟨rfl, below_drewN HBW.out _⟩
          · have q2 : ¬ y.toList = y1.toList := by simpa using q1
            go_wp2_with fail
            clear hq
            go_quiet (fail)
            go_wp2_with fail
            go_ret
            exact ⟨rfl, below_drewN HBW.out _⟩
      · obtain rfl : k = n := by omega
        obtain rfl : true = q := by
          rw [← HH.out, eq_comm, decide_eq_true_eq]
          rwa [List.take_of_length_le (by rw [HN.out]; exact Nat.le_refl _), List.take_of_length_le (by rw [HN2.out]; exact Nat.le_refl _)] at hno
        clear hno
        go_wp2_with fail
        go_ret
        exact ⟨rfl, HBW.out⟩
  · have d0 : ((n : Int) != (n2 : Int)) = true := by simp; omega
    have d1 : (n != n2) = true := by simpa using hne
    have d2 : (n == n2) = false := by simpa using hne
    obtain rfl : false = q := by
      rw [← HH.out, eq_comm, decide_eq_false_iff_not]
      rintro rfl
      exact hne (HN.out.symm.trans HN2.out)
    clear hne
    go_enter Try.func16, Try.ntmps16
    go_wp2_with fail
    go_ret
    exact ⟨rfl, Below.refl _ _⟩
end Hx
end Go.Proofs.Ytichboamakgabaa
