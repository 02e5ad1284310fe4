/-
  Contracts of the document's own answers (package tidewaiterref02): turned, summed.
-/
import Derived.Test.YtmjcmlaeajglmaaWordC
import Derived.Deep.QuietTactic
import Derived.BigQuiet
namespace Go.Proofs.Ytmjcmlaeajglmaa
open Go.RowKit
namespace Hx
open Wd

theorem tmod32 (n : Int) : -31 ≤ n.tmod 32 ∧ n.tmod 32 ≤ 31 ∧ n.tmod 32 % 32 = n % 32 := by
  rcases Int.le_total 0 n with h | h
  · rw [Int.tmod_eq_emod_of_nonneg h]
    omega
  · obtain ⟨k, rfl⟩ : ∃ k : Int, n = -k := ⟨-n, by omega⟩
    rw [Int.neg_tmod, Int.tmod_eq_emod_of_nonneg (by omega)]
    omega
theorem below_dn {B : Nat} {a w : World} (h : Below B a w) (q : Nat) : Below B a (w.drewN q) := ⟨h.os, h.tape, h.output, h.size, h.block⟩
theorem up_int (x : W32) : (x.toNat : Int) * 2 % 4294967296 + (x.toNat : Int) / 2147483648 = ((rot x 1).toNat : Int) := by
  have := rot_one x
  omega
set_option maxRecDepth 100000 in
theorem up_any (x : W32) (w : World) : Calls Try.prog 77 #[.int .u32 x.toNat] w fun e w' => e = .returned (.int .u32 (rot x 1).toNat) ∧ w = w' := by
  have hx : ((x.toNat : Nat) : Int) ≤ 4294967295 := by have := x.isLt; omega
  have hx0 : (0 : Int) ≤ ((x.toNat : Nat) : Int) := by omega
  go_enter Try.func77, Try.ntmps77
  go_wp2
  go_ret
  exact ⟨ret_w (up_int x), rfl⟩

theorem up_trn_any (x : W32) (k : Nat) (w : World) : Calls Try.prog 77 #[.int .u32 (trn x k).toNat] w fun e w' => e = .returned (.int .u32 (trn x ((k + 1 : Nat) : Int)).toNat) ∧ w = w' := by
  have := up_any (trn x k) w
  rw [show rot (trn x k) 1 = trn x ((k + 1 : Nat) : Int) from trn_trn x k 1 _ (by omega)] at this
  exact this

set_option maxRecDepth 100000 in
set_option maxHeartbeats 1000000 in
/-- ref.Turn. -/
theorem rturn_any (x : W32) (n : Int) (w : World) :
    Calls Try.prog 71 #[.int .u32 x.toNat, .int .i64 n] w fun e w' => e = .returned (.int .u32 (trn x n).toNat) ∧ w = w' := by
  obtain ⟨h1, h2, h3⟩ := tmod32 n
  obtain ⟨a, ha⟩ : ∃ a, n.tmod 32 = a := ⟨_, rfl⟩
  rw [ha] at h1 h2 h3
  obtain ⟨q, hq, hq32⟩ : ∃ q : Nat, (q : Int) % 32 = n % 32 ∧ (q : Int) = if a < 0 then a + 32 else a := by
    by_cases h : a < 0
    · exact ⟨(a + 32).toNat, by omega, by rw [if_pos h]; omega⟩
    · exact ⟨a.toNat, by omega, by rw [if_neg h]; omega⟩
  have HQ := Lib.hid (trn_mod x (q : Int) n hq)
  clear h3 hq
  by_cases hneg : a < 0
  · rw [if_pos hneg] at hq32
    have hq2 : a + 32 = (q : Int) := hq32.symm
    have hq3 : (q : Int) ≤ 31 := by omega
    clear hq32
    go_enter Try.func71, Try.ntmps71
    go_wp2
    go_loop [0, 5] (fun v i => ∃ k : Nat, k ≤ q ∧ i = .int .i64 k ∧ v = .int .u32 (trn x k).toNat) (fun _ i => q - (intOf i).toNat)
    case atStart => exact ⟨0, Nat.zero_le _, rfl, by rw [trn_zero x _ rfl]⟩
    case round =>
      obtain ⟨k, hk, rfl, rfl⟩ := hrel
      by_cases hlt : k < q
      · go_wp2_with (go_at_call 77; (with_reducible refine (up_trn_any x k _).mono ?_); rintro e w' ⟨rfl, rfl⟩)
        go_round
        case rel => exact ⟨k + 1, by omega, by go_num, rfl⟩
        case measure => simp [intOf]; omega
      · obtain rfl : k = q := by omega
        go_wp2
        go_ret
        exact ⟨ret_w (by rw [HQ.out]), rfl⟩
  · rw [if_neg hneg] at hq32
    obtain rfl : a = (q : Int) := hq32.symm
    clear hq32
    go_enter Try.func71, Try.ntmps71
    go_wp2
    go_loop [0, 5] (fun v i => ∃ k : Nat, k ≤ q ∧ i = .int .i64 k ∧ v = .int .u32 (trn x k).toNat) (fun _ i => q - (intOf i).toNat)
    case atStart => exact ⟨0, Nat.zero_le _, rfl, by rw [trn_zero x _ rfl]⟩
    case round =>
      obtain ⟨k, hk, rfl, rfl⟩ := hrel
      by_cases hlt : k < q
      · go_wp2_with (go_at_call 77; (with_reducible refine (up_trn_any x k _).mono ?_); rintro e w' ⟨rfl, rfl⟩)
        go_round
        case rel => exact ⟨k + 1, by omega, by go_num, rfl⟩
        case measure => simp [intOf]; omega
      · obtain rfl : k = q := by omega
        go_wp2
        go_ret
        exact ⟨ret_w (by rw [HQ.out]), rfl⟩

set_option maxRecDepth 100000 in
set_option maxHeartbeats 2000000 in
/-- ref.Sum. -/
theorem rsum_any (A : Option Addr) (n cp : Nat) (l : List W32) (w : World) (hr : RdW w w.heap.size A l) (hn : l.length = n) (hm : n ≤ 1000000) :
    Calls Try.prog 62 #[.slice A n cp] w fun e w' => e = .returned (.int .u32 (sm l : Nat)) ∧ w = w' := by
  have HN := Lib.hid hn
  have HR := Lib.hid hr
  clear hn hr
  go_enter Try.func62, Try.ntmps62
  go_wp2
  go_loop [3, 4] (fun s i => ∃ k : Nat, k ≤ n ∧ i = .int .i64 k ∧ s = .int .i64 (sm (l.take k) : Nat)) (fun _ i => n - (intOf i).toNat)
  case atStart => exact ⟨0, Nat.zero_le _, rfl, rfl⟩
  case round =>
    obtain ⟨k, hk, rfl, rfl⟩ := hrel
    by_cases hlt : k < n
    · obtain ⟨b, off, rfl, hbB, hc⟩ := HR.out (by rw [HN.out]; omega)
      have hk2 : k < l.length := by rw [HN.out]; exact hlt
      have hcell : w.cell? ⟨b, off + k, none⟩ = some (.int .u32 ((l[k]'hk2).toNat : Int)) := hc k hk2
      have HS := Lib.hid (sm_take l k hk2)
      obtain ⟨x, hx⟩ : ∃ x, l[k]'hk2 = x := ⟨_, rfl⟩
      rw [hx] at hcell HS
      have hxl : ((x.toNat : Nat) : Int) ≤ 4294967295 := by have := x.isLt; omega
      have hs : ((sm (l.take k) : Nat) : Int) ≤ 4294967295 := by have := sm_lt (l.take k); omega
      clear hc hx
      go_wp2
      go_round
      case rel => exact ⟨k + 1, by omega, by go_num, by rw [HS.out]; simp⟩
      case measure => simp [intOf]; omega
    · obtain rfl : k = n := by omega
      have hs : ((sm (l.take k) : Nat) : Int) ≤ 4294967295 := by have := sm_lt (l.take k); omega
      go_wp2
      go_ret
      exact ⟨ret_w (by rw [← HN.out, List.take_length]), rfl⟩
theorem rturn_v (x : W32) (n : Int) (v : W32) (w : World) (h : trn x n = v) :
    Calls Try.prog 71 #[.int .u32 x.toNat, .int .i64 n] w fun e w' => e = .returned (.int .u32 v.toNat) ∧ w = w' := by
  subst h
  exact rturn_any x n w
theorem rsum_v (A : Option Addr) (n cp : Nat) (l : List W32) (s : Nat) (w : World) (hr : RdW w w.heap.size A l) (hn : l.length = n) (hm : n ≤ 1000000) (h : sm l = s) :
    Calls Try.prog 62 #[.slice A n cp] w fun e w' => e = .returned (.int .u32 (s : Nat)) ∧ w = w' := by
  subst h
  exact rsum_any A n cp l w hr hn hm
theorem sum_v (A : Option Addr) (n cp : Nat) (l : List W32) (s : Nat) (w : World) (hr : RdW w w.heap.size A l) (hn : l.length = n) (hm : n ≤ 1000000) (h : sm l = s) :
    Calls Try.prog 48 #[.slice A n cp] w fun e w' => e = .returned (.int .u32 (s : Nat)) ∧ w = w' := by
  subst h
  exact sum_any A n cp l w hr hn hm
end Hx
end Go.Proofs.Ytmjcmlaeajglmaa
