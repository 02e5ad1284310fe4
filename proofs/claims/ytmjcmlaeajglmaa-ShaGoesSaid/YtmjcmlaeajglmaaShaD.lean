/-
  The contract of slices.Chunk's function, over whole pieces: what a range over it comes to.
-/
import Derived.Test.YtmjcmlaeajglmaaShaN
import Derived.RangeFuncNested
import Derived.RangeFuncBound
import Derived.RangeFuncCalls
import Derived.RangeFuncLeaves
import Derived.Shelf.Abstract
import Derived.Shelf.RegionOpen
import Derived.WalkKit
import Derived.OwnWalkIn
import Derived.TacticsInMore
import Derived.LoopNIn
import Derived.LoopIn
import Derived.RegionIn
import Derived.Outline
namespace Go.Proofs.Ytmjcmlaeajglmaa
open Go.RowKit Go.Shelf
namespace Hx
open Go Wd Sh
attribute [local go_sem] Oper.semAt_some

/-- What has come when k rounds are over. -/
def cameK (N k : Nat) : List (Fin N) := (List.finRange N).take k
theorem cameK_succ (N k : Nat) (h : k < N) : cameK N (k + 1) = cameK N k ++ [⟨k, h⟩] := by
  unfold cameK
  rw [List.take_succ_eq_append_getElem (by simpa using h)]
  simp
theorem cameK_length (N k : Nat) (h : k ≤ N) : (cameK N k).length = k := by simp [cameK, h]

/-- The pieces of 64 of a slice at block g. -/
abbrev chunkV (g k : Nat) : Value := .slice (some ⟨g, 64 * k, none⟩) 64 64

set_option maxRecDepth 100000 in
set_option maxHeartbeats 4000000 in
theorem chunk1_in (F : Fence) (n : Nat) (h1 : F.fn 44) (hro : F.round = none) (hn : 1 ≤ n) (l Bs Bn g N cap : Nat) (hcap : 64 * N ≤ cap) (hN : N ≤ 1000) (Kp : World → World → Prop) (hKs : ∀ A B : World, Kp A B → B.cell? ⟨Bs, 0, none⟩ = A.cell? ⟨Bs, 0, none⟩) (hKn : ∀ A B : World, Kp A B → B.cell? ⟨Bn, 0, none⟩ = A.cell? ⟨Bn, 0, none⟩)
    (J Jx : List (Fin N) → World → Prop) (hJd : ∀ xs W, J xs W → J xs W.drew)
    (hY : ∀ pre x W, J pre W → pre.length < N → YieldAt F (n - 1) Try.prog l #[chunkV g x.1] W fun e W' =>
      (e = .returned (.bool true) ∧ J (pre ++ [x]) W' ∧ Kp W W') ∨ (e = .returned (.bool false) ∧ Jx (pre ++ [x]) W'))
    (W : World) (hs : W.cell? ⟨Bs, 0, none⟩ = some (.slice (some ⟨g, 0, none⟩) (64 * N) cap)) (hn6 : W.cell? ⟨Bn, 0, none⟩ = some (.int .i64 64)) (h0 : J [] W) :
    CallsIn F n Try.prog 44 #[.func (.yield l) #[] #[], .pointer (some ⟨Bs, 0, none⟩), .pointer (some ⟨Bn, 0, none⟩)] W fun e W' => (∃ v, e = .returned v) ∧
      ((∃ xs, xs = List.finRange N ∧ J xs W') ∨ (∃ pre, True ∧ Jx pre W')) := by
  refine callsIn_of_wp Try.func44 rfl h1 ?_ hro
  simp only [Try.ntmps44, List.size_toArray, List.length_cons, List.length_nil, Nat.reduceAdd, Nat.reduceSub, Array.replicate_succ, Array.replicate_zero, List.push_toArray, List.append_toArray, List.nil_append, List.cons_append]
  gi_wp2
  gi_loopw [4] (fun i wr => ∃ k : Nat, k ≤ N ∧ i = .int .i64 ((64 * k : Nat) : Int) ∧ J (cameK N k) wr ∧ wr.cell? ⟨Bs, 0, none⟩ = some (.slice (some ⟨g, 0, none⟩) (64 * N) cap) ∧ wr.cell? ⟨Bn, 0, none⟩ = some (.int .i64 64))
    (fun i _ => 64 * N - (intOf i).toNat)
  case atStart => exact ⟨0, Nat.zero_le _, rfl, h0, hs, hn6⟩
  case round =>
    obtain ⟨k, hk, rfl, hJs, hcs, hcn⟩ := hrel
    by_cases hlt : k < N
    · obtain ⟨m, hm⟩ : ∃ m, 64 * k = m := ⟨_, rfl⟩
      obtain ⟨L, hL⟩ : ∃ L, 64 * N = L := ⟨_, rfl⟩
      rw [hm]
      rw [hL] at hcs
      obtain ⟨r, hr⟩ : ∃ r, L - m = r := ⟨_, rfl⟩
      have e1 : (0 : Int) ≤ (m : Int) ∧ (m : Int) ≤ (L : Int) ∧ (L : Int) ≤ (cap : Int) ∧ (m : Int) < (L : Int) := by omega
      have e2 : m ≤ L ∧ L ≤ cap := by omega
      have e3 : (64 : Int) ≤ (r : Int) := by omega
      have e4 : ¬ ((r : Int) < 64) := by omega
      have e5 : decide ((r : Int) < 64) = false := by simp; omega
      have e6 : (m : Int) + 64 ≤ (L : Int) ∧ (m : Int) + 64 ≤ (cap : Int) := by omega
      have e7 : ((m : Int) + 64).toNat = m + 64 := by omega
      have e8 : (m : Int) ≤ 64000 ∧ (L : Int) ≤ 64000 := by omega
      have hY' := hY (cameK N k) ⟨k, hlt⟩ wr.drew (hJd _ _ hJs) (by rw [cameK_length N k hk]; exact hlt)
      rw [show chunkV g (⟨k, hlt⟩ : Fin N).1 = .slice (some ⟨g, m, none⟩) 64 64 by rw [← hm], ← cameK_succ N k hlt] at hY'
      obtain ⟨fn, tmps, assign, body, hy, hR⟩ := hY'
      have HM := Lib.hid hm
      have HL := Lib.hid hL
      have HRR := Lib.hid hR
      clear hm hL hs hn6 h0 hR
      gi_wp2
      gi_region
      all_goals gi_wp2
      all_goals
        refine HRR.out.mono ?_
        rintro e W3 (⟨rfl, hJ3, hk3⟩ | ⟨rfl, hJx3⟩)
        · have hcs3 : W3.cell? ⟨Bs, 0, none⟩ = some (.slice (some ⟨g, 0, none⟩) L cap) := (hKs _ _ hk3).trans hcs
          have hcn3 : W3.cell? ⟨Bn, 0, none⟩ = some (.int .i64 64) := (hKn _ _ hk3).trans hcn
          gi_wp2
          go_roundw
          case rel => exact ⟨k + 1, by omega, by rw [← HM.out]; congr 1, hJ3, by rw [HL.out]; exact hcs3, hcn3⟩
          case measure => have := HM.out; have := HL.out; simp [intOf]; omega
        · gi_wp2
          refine bodyPost_ret (results_none rfl _ _ _) rfl ?_
          exact ⟨⟨_, rfl⟩, .inr ⟨_, trivial, hJx3⟩⟩
    · obtain rfl : k = N := by omega
      have e9 : decide (((64 * k : Nat) : Int) < ((64 * k : Nat) : Int)) = false := by simp
      gi_wp2
      go_end0
      exact ⟨⟨_, rfl⟩, .inl ⟨_, by unfold cameK; rw [List.take_of_length_le (by simp)], hJs⟩⟩
end Hx
end Go.Proofs.Ytmjcmlaeajglmaa
