/-
  The contracts of slices.Grow of nil, slices.Concat of two.
-/
import Derived.Test.YtmjcmlaeajglmaaShaN
import Derived.Lib.AppendZeros
import Derived.WalkSpells
import Derived.Outline
import Derived.Deep.LoopGhost
import Derived.IntWalk
namespace Go.Proofs.Ytmjcmlaeajglmaa
open Go.RowKit
namespace Hx
open Wd Sh

def GrowTo (n : Nat) (w : World) (e : Ending) (w' : World) : Prop :=
  Below w.heap.size w w' ∧ ∃ C, e = .returned (.slice (some ⟨w.heap.size, 0, none⟩) 0 C) ∧ n ≤ C ∧ w'.ownsRow w.heap.size 5 1 (.slice (some ⟨w.heap.size, 0, none⟩) 0 C) 0 []
set_option maxHeartbeats 1000000 in
set_option maxRecDepth 100000 in
theorem grow_nil (n : Nat) (w : World) (h0 : 0 < n) (hm : n ≤ 100000) :
    Calls Try.prog 45 #[.slice none 0 0, .int .i64 n] w (GrowTo n w) := by
  obtain ⟨i0, hi, hz0, hz1, hz2⟩ := info_parts info5
  obtain ⟨C, hC⟩ : ∃ C, grownCap w n 0 5 = C := ⟨_, rfl⟩
  have hC1 : n ≤ C := by rw [← hC]; exact grownCap_ge w n 0 _
  have hC2 : C ≤ maxLen := by rw [← hC]; exact grownCap_le_maxLen w n 0 _ (by unfold maxLen; omega)
  have hrun := Lib.run_append_nil_zeros (P := Try.prog) w 22 3 22 5 i0 (.int .u8 0) .i64 .i64 Try.underlying22 Try.underlying3 hi hz0 n h0 (by rw [hz1]; decide) (by omega) (by rw [hz2]; omega)
  rw [hC] at hrun
  obtain ⟨cur, hcur⟩ : ∃ cur, Builtin.zeroCells (Value.int .u8 0).cells n ++ Builtin.zeroCells (Value.int .u8 0).cells (C - n) = cur := ⟨_, rfl⟩
  have hsz : cur.size = C * 1 := by rw [← hcur]; simp [Builtin.zeroCells, Value.cells]; omega
  rw [hcur] at hrun
  have HRUN := Lib.hid hrun
  have HOWN : Hid ((w.drew.alloc (.cells cur 5)).ownsRow w.heap.size 5 1 (.slice (some ⟨w.heap.size, 0, none⟩) 0 C) 0 []) := World.ownsRow_made w.drew cur C (Nat.le_refl _) hC2 hsz
  have hcm : (C : Int) ≤ 9223372036854775807 := by unfold maxLen at hC2; omega
  have hn0 : decide ((n : Int) < 0) = false := by simp
  have hn1 : decide ((0 : Int) < (n : Int)) = true := by simp; omega
  have hcp : 0 < C := by omega
  have HC1 := Lib.hid hC1
  clear hC hC1 hC2 hrun hcur hsz hi hz0 hz1 hz2
  go_enter Try.func45, Try.ntmps45
  go_wp2_with (first
    | (at_builtin; refine Lib.wpList_append_run _ rfl _ _ _ _ rfl _ _ rfl rfl _ _ HRUN.out ?_)
    | fail)
  go_ret
  exact ⟨(stpA (Below.refl _ _) _).drew, C, rfl, HC1.out, HOWN.out⟩

theorem own_both {w : World} {base n1 n2 : Nat} {v : Value} {l1 l2 : List UInt8} (h : w.ownsRow base 5 1 v (0 + n1 + n2) ([] ++ Lib.byteCells l1 ++ Lib.byteCells l2)) : w.ownsRow base 5 1 v (n1 + n2) (Lib.byteCells (l1 ++ l2)) := by
  rw [Lib.byteCells_append]
  simpa using h
set_option maxHeartbeats 4000000 in
set_option maxRecDepth 100000 in
theorem concat_two (B : Nat) (A1 : Option Addr) (n1 c1 : Nat) (l1 : List UInt8) (A2 : Option Addr) (n2 c2 : Nat) (l2 : List UInt8) (w : World) (g1 : w.cell? ⟨B, 0, none⟩ = some (.slice A1 n1 c1)) (g2 : w.cell? ⟨B, 1, none⟩ = some (.slice A2 n2 c2))
    (r1 : RdA w w.heap.size A1 l1) (h1 : l1.length = n1) (z1 : A1 = none → c1 = 0) (r2 : RdA w w.heap.size A2 l2) (h2 : l2.length = n2) (z2 : A2 = none → c2 = 0) (hp : 0 < n1 + n2) (hm : n1 + n2 ≤ 100000) :
    Calls Try.prog 31 #[.slice (some ⟨B, 0, none⟩) 2 2] w fun e w' => Below w.heap.size w w' ∧ ∃ g c, e = .returned (.slice (some ⟨g, 0, none⟩) (n1 + n2) c) ∧ w.heap.size ≤ g ∧ n1 + n2 ≤ c ∧ c ≤ maxLen ∧ RdA w' w'.heap.size (some ⟨g, 0, none⟩) (l1 ++ l2) := by
  obtain ⟨i0, hi, hz0, hz1, hz2⟩ := info_parts info5
  have HI := Lib.hid hi
  have HZ0 := Lib.hid hz0
  have HZ1 := Lib.hid hz1
  have HZ2 := Lib.hid hz2
  have R1 := Lib.hid r1
  have R2 := Lib.hid r2
  have N1 := Lib.hid h1
  have N2 := Lib.hid h2
  have Z1 := Lib.hid z1
  have Z2 := Lib.hid z2
  have hBl : B < w.heap.size := World.block_lt_of_cell? (a := ⟨B, 0, none⟩) w g1
  obtain ⟨m, hm0⟩ : ∃ m, n1 + n2 = m := ⟨_, rfl⟩
  have hs1 : IntKind.i64.wrap ((n1 : Int) + (n2 : Int)) = (m : Int) := by rw [IntWalk.i64_in _ (by omega)]; omega
  have hs2 : (n1 : Int) + (n2 : Int) = (m : Int) := by omega
  have d1 : decide ((n1 : Int) < 0) = false := by simp
  have d2 : decide ((m : Int) < 0) = false := by simp
  have HM0 := Lib.hid hm0
  have hmp : 0 < m ∧ m ≤ 100000 := by omega
  have nb : (n1 : Int) ≤ 100000 ∧ (n1 : Int) + (n2 : Int) ≤ 100000 := by omega
  clear hi hz0 hz1 hz2 r1 r2 h1 h2 z1 z2 hm0 hp hm hs1 d1
  go_enter Try.func31, Try.ntmps31
  go_wp2_with fail
  go_loopg [3, 11] 2 (fun g s i wr => ∃ k : Nat, k + g = 2 ∧ i = .int .i64 k ∧ s = .int .i64 (if k = 0 then 0 else if k = 1 then (n1 : Int) else (m : Int)) ∧ w = wr)
  case atStart => exact ⟨0, rfl, rfl, by simp, rfl⟩
  case round =>
    obtain ⟨k, hkg, rfl, rfl, rfl⟩ := hrel
    rcases (show k = 0 ∨ k = 1 ∨ k = 2 by omega) with rfl | rfl | rfl
    · obtain rfl : gk = 2 := by omega
      clear hkg
      go_wp2_with fail
      go_roundg 1
      case measure => decide
      case rel => exact ⟨1, rfl, rfl, by simp, rfl⟩
    · obtain rfl : gk = 1 := by omega
      clear hkg
      go_wp2_with fail
      go_roundg 0
      case measure => decide
      case rel => exact ⟨2, rfl, rfl, by simp, rfl⟩
    · obtain rfl : gk = 0 := by omega
      clear hkg
      go_wp2_with (first
        | (go_at_call 45; (with_reducible refine (grow_nil m w hmp.1 hmp.2).mono ?_); rintro e w2 ⟨hb2, C, rfl, hC, hown⟩)
        | fail)
      have HO0 := Lib.hid hown
      clear hown
      go_loopg [6, 27] 2 (fun g s i wr => ∃ k : Nat, k + g = 2 ∧ i = .int .i64 k ∧ wr.ownsRow w.heap.size 5 1 s (if k = 0 then 0 else if k = 1 then 0 + n1 else 0 + n1 + n2) (if k = 0 then [] else if k = 1 then [] ++ Lib.byteCells l1 else [] ++ Lib.byteCells l1 ++ Lib.byteCells l2) ∧ Below w.heap.size w wr)
      case atStart => exact ⟨0, rfl, rfl, HO0.out, hb2⟩
      case round =>
      obtain ⟨k, hkg, rfl, hown, hbw⟩ := hrel
      have g1' := (hbw.cell (p := ⟨B, 0, none⟩) hBl).trans g1
      have g2' := (hbw.cell (p := ⟨B, 1, none⟩) hBl).trans g2
      clear hb2 HO0
      rcases (show k = 0 ∨ k = 1 ∨ k = 2 by omega) with rfl | rfl | rfl
      · obtain rfl : gk = 2 := by omega
        clear hkg
        have hown0 : wr.ownsRow w.heap.size 5 1 _ 0 [] := hown
        have HO := Lib.hid hown0
        clear hown0
        clear hown
        go_wp2_with (first
          | (at_builtin; refine wpList_append_rd rfl _ _ 22 rfl w.heap.size 5 i0 (.int .u8 0) Try.underlying22 HI.out HZ0.out HZ1.out HZ2.out rfl _ 0 _ rfl HO.out w.heap.size A1 n1 c1 l1 rfl (R1.out.below hbw) N1.out Z1.out (by have := HM0.out; omega) hbw.size ?_; intro v4 w4 hown4 hgr4; have HO4 := Lib.hid hown4; have hb4 := hbw.grown hgr4 hbw.size (fun g hg => (HO.out.lt g hg).1); clear hown4 hgr4)
          | fail)
        go_wp2_with fail
        go_roundg 1
        case measure => decide
        case rel => exact ⟨1, rfl, rfl, HO4.out, hb4⟩
      · obtain rfl : gk = 1 := by omega
        clear hkg
        have hown0 : wr.ownsRow w.heap.size 5 1 _ (0 + n1) ([] ++ Lib.byteCells l1) := hown
        have HO := Lib.hid hown0
        clear hown0
        clear hown
        go_wp2_with (first
          | (at_builtin; refine wpList_append_rd rfl _ _ 22 rfl w.heap.size 5 i0 (.int .u8 0) Try.underlying22 HI.out HZ0.out HZ1.out HZ2.out rfl _ (0 + n1) _ rfl HO.out w.heap.size A2 n2 c2 l2 rfl (R2.out.below hbw) N2.out Z2.out (by have := HM0.out; omega) hbw.size ?_; intro v4 w4 hown4 hgr4; have HO4 := Lib.hid hown4; have hb4 := hbw.grown hgr4 hbw.size (fun g hg => (HO.out.lt g hg).1); clear hown4 hgr4)
          | fail)
        go_wp2_with fail
        go_roundg 0
        case measure => decide
        case rel => exact ⟨2, rfl, rfl, HO4.out, hb4⟩
      · obtain rfl : gk = 0 := by omega
        clear hkg
        have h3 : wr.ownsRow w.heap.size 5 1 _ (0 + n1 + n2) ([] ++ Lib.byteCells l1 ++ Lib.byteCells l2) := hown
        have hown' := own_both h3
        clear h3
        have hrd := hown'
        rcases hown'.2 with ⟨_, h0⟩ | ⟨g, c, cur, rfl, hg, _, hc1, hc2, _, _⟩
        · exfalso; have := HM0.out; omega
        · have HRD := Lib.hid (RdA.of_own hrd).1
          clear hown hown' hrd
          go_wp2_with fail
          go_ret
          exact ⟨hbw, g, c, rfl, hg, hc1, hc2, HRD.out⟩
end Hx
end Go.Proofs.Ytmjcmlaeajglmaa
