/-
  The contracts of tidewaiterref03.Tail, Pad, Digest, Of.
-/
import Derived.Test.YtmjcmlaeajglmaaShaG
import Derived.Test.YtmjcmlaeajglmaaShaF
import Derived.Test.YtmjcmlaeajglmaaShaU
namespace Go.Proofs.Ytmjcmlaeajglmaa
open Go.RowKit
namespace Sh
open Go Wd Sh
/-- A row of N bytes, the first t of them those of D. -/
def rowN (N : Nat) (D : List UInt8) (t : Nat) : List UInt8 := D.take t ++ List.replicate (N - t) 0
theorem rowN_zero (N : Nat) (D : List UInt8) : rowN N D 0 = List.replicate N 0 := by simp [rowN]
theorem rowN_end (N : Nat) (D : List UInt8) (h : D.length = N) : rowN N D N = D := by simp [rowN, ← h]
theorem rowN_length (N : Nat) (D : List UInt8) (h : D.length = N) (t : Nat) (ht : t ≤ N) : (rowN N D t).length = N := by simp [rowN, h]; omega
theorem rowN_set (N : Nat) (D : List UInt8) (h : D.length = N) (t : Nat) (ht : t < N) (c : UInt8) (hc : D[t]? = some c) : (rowN N D t).set t c = rowN N D (t + 1) := by
  unfold rowN
  apply List.ext_getElem?
  intro j
  have hl : (D.take t).length = t := by simp [h]; omega
  rw [List.getElem?_set]
  by_cases hj : t = j
  · subst hj
    have : t < (D.take t ++ List.replicate (N - t) (0 : UInt8)).length := by simp [h]; omega
    rw [if_pos rfl, if_pos this, List.getElem?_append_left (by simp [h]; omega), List.getElem?_take, if_pos (by omega), hc]
  · rw [if_neg hj]
    by_cases hlt : j < t
    · rw [List.getElem?_append_left (by omega), List.getElem?_append_left (by simp [h]; omega), List.getElem?_take, List.getElem?_take, if_pos hlt, if_pos (by omega)]
    · rw [List.getElem?_append_right (by omega), List.getElem?_append_right (by simp [h]; omega), hl, List.getElem?_replicate, List.getElem?_replicate]
      have : (D.take (t + 1)).length = t + 1 := by simp [h]; omega
      rw [this]
      by_cases h6 : j < N
      · rw [if_pos (by omega), if_pos (by omega)]
      · rw [if_neg (by omega), if_neg (by omega)]
end Sh
namespace Hx
open Wd Sh
set_option linter.unusedVariables false
attribute [local go_sem ↓] Go.wp_at_zero Go.wp_at_succ

/-- What Tail answers. -/
def TailOk (P : List UInt8) (m : Nat) (w : World) (e : Ending) (w' : World) : Prop := Below w.heap.size w w' ∧ ∃ A c, e = .returned (.slice A m c) ∧ (A = none → c = 0) ∧ m ≤ c ∧ RdA w' w'.heap.size A P
theorem made_own (w : World) (l : List UInt8) (t : TypeId) (n : Nat) (h : l.length = n) (hm : n ≤ maxLen) : (w.alloc (.cells (Lib.byteCells l).toArray t)).ownsRow w.heap.size t 1 (.slice (some ⟨w.heap.size, 0, none⟩) n n) n (Lib.byteCells l) := by
  have hl : (Lib.byteCells l).length = n := by simp [Lib.byteCells, h]
  refine ⟨by omega, .inr ⟨w.heap.size, n, _, rfl, Nat.le_refl _, heap_alloc_new w _, Nat.le_refl _, hm, by simp [hl], ?_⟩⟩
  show List.take (n * 1) (Lib.byteCells l) = Lib.byteCells l
  exact List.take_of_length_le (by omega)

set_option maxHeartbeats 4000000 in
set_option maxRecDepth 100000 in
theorem tail_any (n : Nat) (w : World) (h : n ≤ 16384) (P : List UInt8) (m : Nat) (hP : padL n = P) (hm : P.length = m) :
    Calls Try.prog 34 #[.int .i64 n] w (TailOk P m w) := by
  obtain ⟨i0, hi, hz0, hz1, hz2⟩ := info_parts info5
  have HI := Lib.hid hi
  have HZ0 := Lib.hid hz0
  have HZ1 := Lib.hid hz1
  have HZ2 := Lib.hid hz2
  clear hi hz0 hz1 hz2
  obtain ⟨b5, hb5⟩ : ∃ b5, (8 * n / 65536).toUInt8 = b5 := ⟨_, rfl⟩
  obtain ⟨b6, hb6⟩ : ∃ b6, (8 * n / 256 % 256).toUInt8 = b6 := ⟨_, rfl⟩
  obtain ⟨b7, hb7⟩ : ∃ b7, (8 * n % 256).toUInt8 = b7 := ⟨_, rfl⟩
  obtain ⟨q, hq⟩ : ∃ q, padZ n + 1 = q := ⟨_, rfl⟩
  have hPP : (128 :: List.replicate (q - 1) (0 : UInt8)) ++ [0, 0, 0, 0, 0, b5, b6, b7] = P := by rw [← hP, ← hq, ← hb5, ← hb6, ← hb7]; rfl
  have hqm : q + 8 = m := by rw [← hm, ← hP, padL_length, ← hq]
  have c5 : ((b5.toNat : Nat) : Int) = ((8 * n / 65536 : Nat) : Int) := by rw [← hb5, Nat.toUInt8, UInt8.toNat_ofNat']; omega
  have c6 : ((b6.toNat : Nat) : Int) = ((8 * n / 256 % 256 : Nat) : Int) := by rw [← hb6, Nat.toUInt8, UInt8.toNat_ofNat']; omega
  have c7 : ((b7.toNat : Nat) : Int) = ((8 * n % 256 : Nat) : Int) := by rw [← hb7, Nat.toUInt8, UInt8.toNat_ofNat']; omega
  obtain ⟨M, hM⟩ : ∃ M, 8 * n = M := ⟨_, rfl⟩
  rw [hM] at c5 c6 c7
  have g0 : IntKind.i64.wrap (8 * (n : Int)) = (M : Int) := by rw [IntWalk.i64_in _ (by omega)]; omega
  have g1 : (M : Int).tdiv 65536 = (b5.toNat : Int) := by rw [Int.tdiv_eq_ediv_of_nonneg (by omega), c5]; omega
  obtain ⟨M2, hM2⟩ : ∃ M2, M / 256 = M2 := ⟨_, rfl⟩
  have g2 : (M : Int).tdiv 256 = (M2 : Int) := by rw [Int.tdiv_eq_ediv_of_nonneg (by omega)]; omega
  have g3 : (M2 : Int).tmod 256 = (b6.toNat : Int) := by rw [Int.tmod_eq_emod_of_nonneg (by omega), c6]; omega
  have g4 : (M : Int).tmod 256 = (b7.toNat : Int) := by rw [Int.tmod_eq_emod_of_nonneg (by omega), c7]; omega
  have a5 := b5.toNat_lt
  have a6 := b6.toNat_lt
  have a7 := b7.toNat_lt
  have k0 : IntKind.i64.wrap (M2 : Int) = (M2 : Int) := IntWalk.i64_in _ (by omega)
  have k1 : IntKind.u8.wrap (b5.toNat : Int) = (b5.toNat : Int) := IntWalk.u8_in _ (by omega)
  have k2 : IntKind.u8.wrap (b6.toNat : Int) = (b6.toNat : Int) := IntWalk.u8_in _ (by omega)
  have k3 : IntKind.u8.wrap (b7.toNat : Int) = (b7.toNat : Int) := IntWalk.u8_in _ (by omega)
  have k4 : IntKind.i64.wrap (b5.toNat : Int) = (b5.toNat : Int) := IntWalk.i64_in _ (by omega)
  have k5 : IntKind.i64.wrap (b6.toNat : Int) = (b6.toNat : Int) := IntWalk.i64_in _ (by omega)
  have k6 : IntKind.i64.wrap (b7.toNat : Int) = (b7.toNat : Int) := IntWalk.i64_in _ (by omega)
  have HPP := Lib.hid hPP
  have HQ : Hid (padZ n + 1 = q ∧ q ≤ 64) := ⟨hq, by rw [← hq]; unfold padZ; omega⟩
  have HQM := Lib.hid hqm
  clear hP hm hb5 hb6 hb7 hq hPP hqm c5 c6 c7 a5 a6 a7 hM hM2
  go_enter Try.func34, Try.ntmps34
  go_wp2_with fail
  have hown0 := made_own w [128] 5 1 rfl (by decide)
  have HO0 := Lib.hid hown0
  clear hown0
  go_loopw [3] (fun v wr => ∃ t : Nat, 1 ≤ t ∧ t ≤ q ∧ wr.ownsRow w.heap.size 5 1 v t (Lib.byteCells (128 :: List.replicate (t - 1) 0)) ∧ Below w.heap.size w wr) (fun v wr => q - (match v with | .slice _ n _ => n | _ => 0))
  case atStart => exact ⟨1, Nat.le_refl _, by have := HQ.out; omega, HO0.out, stpA (Below.refl _ _) _⟩
  case round =>
    clear HO0
    obtain ⟨t, ht1, htq, hown, hbw⟩ := hrel
    obtain ⟨A, c, rfl⟩ := own_form hown
    have HO := Lib.hid hown
    have hsz := hbw.size
    have s1 : IntKind.i64.wrap ((n : Int) + (t : Int)) = (n : Int) + (t : Int) := by have := HQ.out; rw [IntWalk.i64_in _ (by omega)]
    have s2 : IntKind.i64.wrap ((n : Int) + (t : Int) + 8) = (n : Int) + (t : Int) + 8 := by have := HQ.out; rw [IntWalk.i64_in _ (by omega)]
    have s3 : ((n : Int) + (t : Int) + 8).tmod 64 = ((n : Int) + (t : Int) + 8) % 64 := Int.tmod_eq_emod_of_nonneg (by omega)
    have s4 : IntKind.i64.wrap (((n : Int) + (t : Int) + 8) % 64) = ((n : Int) + (t : Int) + 8) % 64 := by rw [IntWalk.i64_in _ (by omega)]
    by_cases hlt : t < q
    · have d0 : (((n : Int) + (t : Int) + 8) % 64 != 0) = true := by have := HQ.out; unfold padZ at this; simp; omega
      have d1 : (((n : Int) + (t : Int) + 8) % 64 == 0) = false := by have := HQ.out; unfold padZ at this; simp; omega
      have HLT := Lib.hid hlt
      have HT1 := Lib.hid ht1
      clear hown ht1 htq hlt g0 g1 g2 g3 g4 k0 k1 k2 k3 k4 k5 k6
      go_wp2_with (first
        | (at_builtin; refine wpList_append_rd rfl (.tmp 13) (.tmp 14) 22 rfl w.heap.size 5 i0 (.int .u8 0) Try.underlying22 HI.out HZ0.out HZ1.out HZ2.out rfl _ t _ rfl (own_below HO.out (stpA (Below.refl wr.heap.size wr) (.cells #[.int .u8 0] 5)) (Nat.le_refl _)) (wr.heap.size + 1) (some ⟨wr.heap.size, 0, none⟩) 1 1 [0] rfl (RdA.new wr 5 [0]) rfl (fun h => by cases h) (by have := HLT.out; have := HQ.out; omega) (by rw [World.size_alloc]; omega) ?_; intro v4 w4 hown4 hgr4; have HO4 := Lib.hid hown4; have HG4 := Lib.hid hgr4; clear hown4 hgr4)
        | fail)
      obtain ⟨A4, c4, rfl⟩ := own_form HO4.out
      have hb4 : Below w.heap.size w w4 := (hbw.alloc hsz _).grown HG4.out (by rw [World.size_alloc]; omega) (fun g hg => (HO.out.lt g hg).1)
      go_roundw
      case rel =>
        refine ⟨t + 1, by omega, HLT.out, ?_, hb4⟩
        have e : (128 :: List.replicate (t + 1 - 1) (0 : UInt8)) = (128 :: List.replicate (t - 1) (0 : UInt8)) ++ [0] := by
          obtain ⟨k, rfl⟩ : ∃ k, t = k + 1 := ⟨t - 1, by have := HT1.out; omega⟩
          simp [List.replicate_succ']
        rw [e, Lib.byteCells_append]
        exact HO4.out
      case measure => have := HLT.out; simp; omega
    · obtain rfl : t = q := by omega
      have d0 : (((n : Int) + (t : Int) + 8) % 64 != 0) = false := by have := HQ.out; unfold padZ at this; simp; omega
      have d1 : (((n : Int) + (t : Int) + 8) % 64 == 0) = true := by have := HQ.out; unfold padZ at this; simp; omega
      clear hown ht1 htq hlt
      go_wp2_with (first
        | (at_builtin; refine wpList_append_rd rfl (.tmp 18) (.tmp 29) 22 rfl w.heap.size 5 i0 (.int .u8 0) Try.underlying22 HI.out HZ0.out HZ1.out HZ2.out rfl _ t _ rfl (own_below HO.out (stpA (Below.refl wr.heap.size wr) (.cells #[.int .u8 0, .int .u8 0, .int .u8 0, .int .u8 0, .int .u8 0, .int .u8 b5.toNat, .int .u8 b6.toNat, .int .u8 b7.toNat] 5)) (Nat.le_refl _)) (wr.heap.size + 1) (some ⟨wr.heap.size, 0, none⟩) 8 8 [0, 0, 0, 0, 0, b5, b6, b7] rfl (RdA.new wr 5 [0, 0, 0, 0, 0, b5, b6, b7]) rfl (fun h => by cases h) (by have := HQ.out; omega) (by rw [World.size_alloc]; omega) ?_; intro v4 w4 hown4 hgr4; have HO4 := Lib.hid hown4; have HG4 := Lib.hid hgr4; clear hown4 hgr4)
        | fail)
      have hb4 : Below w.heap.size w w4 := (hbw.alloc hsz _).grown HG4.out (by rw [World.size_alloc]; omega) (fun g hg => (HO.out.lt g hg).1)
      have ho4 := HO4.out
      rw [← Lib.byteCells_append, HPP.out, HQM.out] at ho4
      obtain ⟨A4, c4, rfl, hz4, hc4, hr4⟩ := own_some (l := P) (L := m) ho4 rfl rfl (by have := HQM.out; omega)
      have HR4 := Lib.hid hr4
      have HZ4 := Lib.hid hz4
      clear ho4 hr4 hz4
      go_wp2_with fail
      go_ret
      exact ⟨hb4, A4, c4, rfl, HZ4.out, hc4, HR4.out⟩
end Hx
end Go.Proofs.Ytmjcmlaeajglmaa
