/-
  Texts of one seat, put together: TrhH.
-/
import Derived.Test.YtbjgfaflikgobaaGreatDoorH35
import Derived.Test.YtbjgfaflikgobaaGreatDoorH24
namespace Go.Proofs.YtbjgfaflikgobaaGreatDoor
open Go.RowKit
namespace Hx
open Lx Tr Tx Nmb Es
set_option linter.unusedVariables false
/-- An attribute, as a value. -/
def AtV (x y z : ByteArray) : Value := .agg #[.string x, .string y, .string z]
set_option maxHeartbeats 16000000 in
set_option maxRecDepth 100000 in
theorem atsame10 (x y z x1 y1 z1 : ByteArray) (w : World) (q : Bool) (h : decide (x = x1 ∧ y = y1 ∧ z = z1) = q) :
    Calls Tryz.prog 59 #[AtV x y z, AtV x1 y1 z1] w fun e w' => e = .returned (.bool q) ∧ Below w.heap.size w w' := by
  unfold AtV
  by_cases hxy : x = x1 ∧ y = y1 ∧ z = z1
  · obtain rfl : true = q := by rw [← h, decide_eq_true hxy]
    obtain ⟨rfl, rfl, rfl⟩ := hxy
    clear h
    go_enter Tryz.func59, Tryz.ntmps59
    go_wp2_with fail
    go_ret
    exact ⟨rfl, stpA (stpA (Below.refl _ _) _) _⟩
  · obtain rfl : false = q := by rw [← h, decide_eq_false hxy]
    have hq : (x.toList == x1.toList) = false ∨ (y.toList == y1.toList) = false ∨ (z.toList == z1.toList) = false := by
      rw [seq_l, seq_l, seq_l]
      simp only [decide_eq_false_iff_not]
      by_cases h5 : x = x1
      · by_cases h6 : y = y1
        · exact .inr (.inr fun e => hxy ⟨h5, h6, ba_x e⟩)
        · exact .inr (.inl fun e => h6 (ba_x e))
      · exact .inl fun e => h5 (ba_x e)
    clear h hxy
    rcases hq with q1 | q1 | q1
    · have q2 : ¬ x.toList = x1.toList := by simpa using q1
      go_enter Tryz.func59, Tryz.ntmps59
      go_wp2_with fail
      go_ret
      exact ⟨rfl, stpA (stpA (Below.refl _ _) _) _⟩
    · have q2 : ¬ y.toList = y1.toList := by simpa using q1
      go_enter Tryz.func59, Tryz.ntmps59
      go_wp2_with fail
      go_ret
      exact ⟨rfl, stpA (stpA (Below.refl _ _) _) _⟩
    · have q2 : ¬ z.toList = z1.toList := by simpa using q1
      go_enter Tryz.func59, Tryz.ntmps59
      go_wp2_with fail
      go_ret
      exact ⟨rfl, stpA (stpA (Below.refl _ _) _) _⟩
set_option maxHeartbeats 16000000 in
set_option maxRecDepth 100000 in
theorem ats10 (A A2 : Option Addr) (n cp n2 cp2 : Nat) (l l2 : List At) (w : World) (hr : RdB AtS w A l) (hn : l.length = n) (hr2 : RdB AtS w A2 l2) (hn2 : l2.length = n2) (hm : n ≤ 1000000) (hm2 : n2 ≤ 1000000) (q : Bool) (h : decide (l = l2) = q) :
    Calls Tryz.prog 58 #[.slice A n cp, .slice A2 n2 cp2, .func (.func 59) #[] #[]] w fun e w' => e = .returned (.bool q) ∧ Below w.heap.size w w' := by
  have HR := Lib.hid hr
  have HN := Lib.hid hn
  have HR2 := Lib.hid hr2
  have HN2 := Lib.hid hn2
  have HM := Lib.hid hm
  have HH := Lib.hid h
  clear hr hn hr2 hn2 h
  by_cases hne : n = n2
  · subst hne
    have f0 : ((n : Int) != (n : Int)) = false := by simp
    go_enter Tryz.func58, Tryz.ntmps58
    go_wp2_with fail
    go_loopg [7, 15] n (fun gg x7 i wr => ∃ k : Nat, k + gg = n ∧ i = .int .i64 k ∧ l.take k = l2.take k ∧ Below w.heap.size w wr)
    case atStart => exact ⟨0, by omega, rfl, rfl, Below.refl _ _⟩
    case round =>
      obtain ⟨k, hkg, rfl, hno, hbw⟩ := hrel
      have hm := HM.out
      have HBW := Lib.hid hbw
      by_cases hlt : k < n
      · have hk1 : k < l.length := by rw [HN.out]; exact hlt
        have hk2 : k < l2.length := by rw [HN2.out]; exact hlt
        obtain ⟨b0, off, x, y, z, rfl, hbB, hx, hy, hz, c0, c1, c2⟩ := at3 (HR.out.on hbw) hk1
        obtain ⟨b1, of1, x1, y1, z1, rfl, hbB1, hx1, hy1, hz1, d0, d1, d2⟩ := at3 (HR2.out.on hbw) hk2
        have bk : (0 : Int) ≤ (k : Int) ∧ (k : Int) < (n : Int) := by omega
        have HK : Hid (∀ W, Below wr.heap.size wr W → W.cell? ⟨b0, off + k * 3, none⟩ = some (.string x) ∧ W.cell? ⟨b0, off + k * 3 + 1, none⟩ = some (.string y) ∧ W.cell? ⟨b0, off + k * 3 + 2, none⟩ = some (.string z) ∧ W.cell? ⟨b1, of1 + k * 3, none⟩ = some (.string x1) ∧ W.cell? ⟨b1, of1 + k * 3 + 1, none⟩ = some (.string y1) ∧ W.cell? ⟨b1, of1 + k * 3 + 2, none⟩ = some (.string z1)) := Lib.hid fun W hW =>
          ⟨(hW.cell (p := ⟨b0, _, none⟩) hbB).trans c0, (hW.cell (p := ⟨b0, _, none⟩) hbB).trans c1, (hW.cell (p := ⟨b0, _, none⟩) hbB).trans c2, (hW.cell (p := ⟨b1, _, none⟩) hbB1).trans d0, (hW.cell (p := ⟨b1, _, none⟩) hbB1).trans d1, (hW.cell (p := ⟨b1, _, none⟩) hbB1).trans d2⟩
        have HC : Hid (∀ qq W, decide (x = x1 ∧ y = y1 ∧ z = z1) = qq → Calls Tryz.prog 59 #[.agg #[.string x, .string y, .string z], .agg #[.string x1, .string y1, .string z1]] W fun e w' => e = .returned (.bool qq) ∧ Below W.heap.size W w') := Lib.hid fun qq W hq => atsame10 x y z x1 y1 z1 W qq hq
        clear hbw hbB hbB1
        by_cases hxy : x = x1 ∧ y = y1 ∧ z = z1
        · have HC2 : Hid _ := Lib.hid fun W => HC.out true W (decide_eq_true hxy)
          have HT : Hid (l.take (k + 1) = l2.take (k + 1)) := Lib.hid (take_step hk1 hk2 hno (at_eq (by rw [← hx, ← hx1, hxy.1]) (by rw [← hy, ← hy1, hxy.2.1]) (by rw [← hz, ← hz1, hxy.2.2])))
          clear HC hx hx1 hy hy1 hz hz1 hno hxy
          go_wp2_with fail
          clear c0 c1 c2 d0 d1 d2
          go_region_held3 (fun W => W.cell? ⟨b0, off + k * 3, none⟩ = some (.string x) ∧ W.cell? ⟨b0, off + k * 3 + 1, none⟩ = some (.string y) ∧ W.cell? ⟨b0, off + k * 3 + 2, none⟩ = some (.string z) ∧ W.cell? ⟨b1, of1 + k * 3, none⟩ = some (.string x1) ∧ W.cell? ⟨b1, of1 + k * 3 + 1, none⟩ = some (.string y1) ∧ W.cell? ⟨b1, of1 + k * 3 + 2, none⟩ = some (.string z1))
            (first | exact HK.out _ (Below.refl _ _).drew | exact HK.out _ (stp (Below.refl _ _).drew hb1))
            ((go_at_call 59; (with_reducible refine (HC2.out _).mono ?_); rintro e1 w1 ⟨rfl, hb1⟩))
          go_wp2_with fail
          go_roundg (gk - 1)
          case measure => omega
          case rel => exact ⟨k + 1, by omega, by go_num, HT.out, stp HBW.out.drew hb1⟩
        · have HC2 : Hid _ := Lib.hid fun W => HC.out false W (decide_eq_false hxy)
          obtain rfl : false = q := by
            rw [← HH.out, eq_comm, decide_eq_false_iff_not]
            refine ne_at hk1 hk2 fun e => hxy ⟨ba_x ?_, ba_x ?_, ba_x ?_⟩
            · rw [hx, hx1, e]
            · rw [hy, hy1, e]
            · rw [hz, hz1, e]
          clear HC hx hx1 hy hy1 hz hz1 hno hxy
          go_wp2_with fail
          clear c0 c1 c2 d0 d1 d2
          go_region_held3 (fun W => W.cell? ⟨b0, off + k * 3, none⟩ = some (.string x) ∧ W.cell? ⟨b0, off + k * 3 + 1, none⟩ = some (.string y) ∧ W.cell? ⟨b0, off + k * 3 + 2, none⟩ = some (.string z) ∧ W.cell? ⟨b1, of1 + k * 3, none⟩ = some (.string x1) ∧ W.cell? ⟨b1, of1 + k * 3 + 1, none⟩ = some (.string y1) ∧ W.cell? ⟨b1, of1 + k * 3 + 2, none⟩ = some (.string z1))
            (first | exact HK.out _ (Below.refl _ _).drew | exact HK.out _ (stp (Below.refl _ _).drew hb1))
            ((go_at_call 59; (with_reducible refine (HC2.out _).mono ?_); rintro e1 w1 ⟨rfl, hb1⟩))
          go_wp2_with fail
          go_ret
          exact ⟨rfl, stp HBW.out.drew hb1⟩
      · obtain rfl : k = n := by omega
        obtain rfl : true = q := by
          rw [← HH.out, eq_comm, decide_eq_true_eq]
          rwa [List.take_of_length_le (by rw [HN.out]; exact Nat.le_refl _), List.take_of_length_le (by rw [HN2.out]; exact Nat.le_refl _)] at hno
        clear hno
        go_wp2_with fail
        go_ret
        exact ⟨rfl, HBW.out⟩
  · have d0 : ((n : Int) != (n2 : Int)) = true := by simp; omega
    have d1 : (n != n2) = true := by simpa using hne
    have d2 : (n == n2) = false := by simpa using hne
    obtain rfl : false = q := by
      rw [← HH.out, eq_comm, decide_eq_false_iff_not]
      rintro rfl
      exact hne (HN.out.symm.trans HN2.out)
    clear hne
    go_enter Tryz.func58, Tryz.ntmps58
    go_wp2_with fail
    go_ret
    exact ⟨rfl, Below.refl _ _⟩
end Hx
end Go.Proofs.YtbjgfaflikgobaaGreatDoor
