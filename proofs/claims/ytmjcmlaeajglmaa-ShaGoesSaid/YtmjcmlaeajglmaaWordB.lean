/-
  Contracts of word.Sum, and of three words put together: Choose, Odd, Most.
-/
import Derived.Test.YtmjcmlaeajglmaaWordA
namespace Go.Proofs.Ytmjcmlaeajglmaa
open Go.RowKit
namespace Hx
open Wd

set_option maxRecDepth 100000 in
set_option maxHeartbeats 2000000 in
/-- word.Sum. -/
theorem sum_any (A : Option Addr) (n cp : Nat) (l : List W32) (w : World) (hr : RdW w w.heap.size A l) (hn : l.length = n) (hm : n ≤ 1000000) :
    Calls Try.prog 48 #[.slice A n cp] w fun e w' => e = .returned (.int .u32 (sm l : Nat)) ∧ w = w' := by
  have HN := Lib.hid hn
  have HR := Lib.hid hr
  clear hn hr
  go_enter Try.func48, Try.ntmps48
  go_wp2
  go_loop [3, 8] (fun s i => ∃ k : Nat, k ≤ n ∧ i = .int .i64 k ∧ s = .int .u32 (sm (l.take k) : Nat)) (fun _ i => n - (intOf i).toNat)
  case atStart => exact ⟨0, Nat.zero_le _, rfl, rfl⟩
  case round =>
    obtain ⟨k, hk, rfl, rfl⟩ := hrel
    by_cases hlt : k < n
    · obtain ⟨b, off, rfl, hbB, hc⟩ := HR.out (by rw [HN.out]; omega)
      have hk2 : k < l.length := by rw [HN.out]; exact hlt
      have hcell : w.cell? ⟨b, off + k, none⟩ = some (.int .u32 ((l[k]'hk2).toNat : Int)) := hc k hk2
      have hx := word_lt (l[k]'hk2)
      have hs : ((sm (l.take k) : Nat) : Int) < 4294967296 := by have := sm_lt (l.take k); omega
      have HS := Lib.hid (sm_take l k hk2)
      clear hc
      go_wp2
      go_round
      case rel => exact ⟨k + 1, by omega, by go_num, by rw [HS.out]; simp⟩
      case measure => simp [intOf]; omega
    · obtain rfl : k = n := by omega
      go_wp2
      go_ret
      exact ⟨ret_w (by rw [← HN.out, List.take_length]), rfl⟩

/-- The three words in a variable of the call's own. -/
def Box3 (w : World) (B : Nat) (x y z : W32) : Prop := B < w.heap.size ∧ w.cell? ⟨B, 0, none⟩ = some (.int .u32 x.toNat) ∧ w.cell? ⟨B, 1, none⟩ = some (.int .u32 y.toNat) ∧ w.cell? ⟨B, 2, none⟩ = some (.int .u32 z.toNat)

set_option maxRecDepth 100000 in
set_option maxHeartbeats 2000000 in
theorem chs1_any (x y z : W32) (k B : Nat) (hk : k < 32) (w : World) (hB : Box3 w B x y z) :
    Calls Try.prog 74 #[.int .i64 k, .pointer (some ⟨B, 0, none⟩)] w fun e w' => e = .returned (.bool ((chs x y z).getLsbD k)) ∧ Below w.heap.size w w' := by
  obtain ⟨hlt, c0, c1, c2⟩ := hB
  rw [chs_bit _ _ _ _ hk]
  cases h : x.getLsbD k
  · have H := Lib.hid h
    clear h
    go_enter Try.func74, Try.ntmps74
    go_wp2_with (first
      | (go_at_call 75; (with_reducible refine (has_b x k false hk H.out _).mono ?_); rintro e w' ⟨rfl, rfl⟩)
      | (go_at_call 75; (with_reducible refine (has_any z k hk _).mono ?_); rintro e w' ⟨rfl, rfl⟩))
    go_ret
    exact ⟨rfl, Below.refl _ _⟩
  · have H := Lib.hid h
    clear h
    go_enter Try.func74, Try.ntmps74
    go_wp2_with (first
      | (go_at_call 75; (with_reducible refine (has_b x k true hk H.out _).mono ?_); rintro e w' ⟨rfl, rfl⟩)
      | (go_at_call 75; (with_reducible refine (has_any y k hk _).mono ?_); rintro e w' ⟨rfl, rfl⟩))
    go_ret
    exact ⟨rfl, Below.refl _ _⟩

theorem odd_test (a b c : Bool) : (((a.toNat : Int) + (b.toNat : Int) + (c.toNat : Int)) % 2 == 1) = (a ^^ b ^^ c) := by cases a <;> cases b <;> cases c <;> rfl
theorem mst_test (a b c : Bool) : decide (2 ≤ (a.toNat : Int) + (b.toNat : Int) + (c.toNat : Int)) = (a && b || a && c || b && c) := by cases a <;> cases b <;> cases c <;> rfl
set_option maxRecDepth 100000 in
set_option maxHeartbeats 2000000 in
theorem odd1_any (x y z : W32) (k B : Nat) (hk : k < 32) (w : World) (hB : Box3 w B x y z) :
    Calls Try.prog 68 #[.int .i64 k, .pointer (some ⟨B, 0, none⟩)] w fun e w' => e = .returned (.bool ((odd x y z).getLsbD k)) ∧ Below w.heap.size w w' := by
  obtain ⟨hlt, c0, c1, c2⟩ := hB
  go_enter Try.func68, Try.ntmps68
  go_wp2_with (go_at_call 69; (with_reducible refine (ones_any x y z k hk _).mono ?_); rintro e w1 ⟨rfl, hb1⟩)
  go_ret
  exact ⟨ret_b ((odd_test _ _ _).trans (odd_bit x y z k).symm), hb1⟩
set_option maxRecDepth 100000 in
set_option maxHeartbeats 2000000 in
theorem mst1_any (x y z : W32) (k B : Nat) (hk : k < 32) (w : World) (hB : Box3 w B x y z) :
    Calls Try.prog 76 #[.int .i64 k, .pointer (some ⟨B, 0, none⟩)] w fun e w' => e = .returned (.bool ((mst x y z).getLsbD k)) ∧ Below w.heap.size w w' := by
  obtain ⟨hlt, c0, c1, c2⟩ := hB
  go_enter Try.func76, Try.ntmps76
  go_wp2_with (go_at_call 69; (with_reducible refine (ones_any x y z k hk _).mono ?_); rintro e w1 ⟨rfl, hb1⟩)
  go_ret
  exact ⟨ret_b ((mst_test _ _ _).trans (mst_bit x y z k).symm), hb1⟩

theorem or_value (f : Nat → Bool) (k : Nat) (hk : k < 32) (h : f k = true) : bits BinOp.or IntKind.u32 ((bvn f k : Nat) : Int) (2 ^ k % 4294967296) = ((bvn f (k + 1) : Nat) : Int) := by
  have h1 : (2 : Nat) ^ k < 2 ^ 32 := Nat.pow_lt_pow_of_lt (by decide) hk
  have h2 : (2 : Int) ^ k % 4294967296 = ((2 ^ k : Nat) : Int) := by
    have e : ((2 : Int) ^ k) = ((2 ^ k : Nat) : Int) := by simp
    rw [e]
    exact (Int.natCast_emod (2 ^ k) 4294967296).symm.trans (by rw [Nat.mod_eq_of_lt h1])
  rw [h2, u32_or_nat _ _ (bvn_lt32 f k (by omega)) (by omega), bvn_or f k h]
theorem Box3.keep {w w' : World} {B : Nat} {x y z : W32} (h : Box3 w B x y z) (hb : Below w.heap.size w w') : Box3 w' B x y z := by
  obtain ⟨h0, h1, h2, h3⟩ := h
  exact ⟨Nat.lt_of_lt_of_le h0 hb.size, (hb.cell (p := ⟨B, 0, none⟩) h0).trans h1, (hb.cell (p := ⟨B, 1, none⟩) h0).trans h2, (hb.cell (p := ⟨B, 2, none⟩) h0).trans h3⟩

set_option maxRecDepth 100000 in
set_option maxHeartbeats 2000000 in
/-- word.together, of word.Choose's bits. -/
theorem together_chs (x y z : W32) (B : Nat) (w : World) (hB : Box3 w B x y z) :
    Calls Try.prog 67 #[.func (.func 74) #[] #[.pointer (some ⟨B, 0, none⟩)]] w fun e w' => e = .returned (.int .u32 ((chs x y z).toNat : Nat)) ∧ Below w.heap.size w w' := by
  have hv := Lib.hid (bvn_of (fun k => (chs x y z).getLsbD k) (chs x y z) (fun _ _ => rfl))
  have HB := Lib.hid hB
  clear hB
  go_enter Try.func67, Try.ntmps67
  go_wp2
  go_loopw [3, 5] (fun v i wr => ∃ k : Nat, k ≤ 32 ∧ i = .int .i64 k ∧ v = .int .u32 (bvn (fun k => (chs x y z).getLsbD k) k : Nat) ∧ Below w.heap.size w wr) (fun _ i _ => 32 - (intOf i).toNat)
  case atStart => exact ⟨0, by omega, rfl, rfl, Below.refl _ _⟩
  case round =>
    obtain ⟨k, hk, rfl, rfl, hbw⟩ := hrel
    by_cases hlt : k < 32
    · obtain ⟨f, hf⟩ : ∃ f : Nat → Bool, (fun k => (chs x y z).getLsbD k) = f := ⟨_, rfl⟩
      have hb0 := chs1_any x y z k B hlt wr (HB.out.keep hbw)
      rw [show (chs x y z).getLsbD k = f k from congrFun hf k] at hb0
      rw [hf]
      have HB0 := Lib.hid hb0
      clear hf hb0
      cases hfk : f k
      · rw [hfk] at HB0
        have HV := Lib.hid (bvn_no f k hfk)
        clear hfk
        go_wp2_with (go_at_call 74; (with_reducible refine HB0.out.mono ?_); rintro e w1 ⟨rfl, hb1⟩)
        go_roundw
        case rel => exact ⟨k + 1, by omega, by go_num, by rw [HV.out], hbw.trans (hb1.mono hbw.size)⟩
        case measure => simp [intOf]; omega
      · rw [hfk] at HB0
        have HV := Lib.hid (or_value f k hlt hfk)
        clear hfk
        go_wp2_with (go_at_call 74; (with_reducible refine HB0.out.mono ?_); rintro e w1 ⟨rfl, hb1⟩)
        go_roundw
        case rel => exact ⟨k + 1, by omega, by go_num, by rw [HV.out], hbw.trans (hb1.mono hbw.size)⟩
        case measure => simp [intOf]; omega
    · obtain rfl : k = 32 := by omega
      go_wp2
      go_ret
      exact ⟨ret_w (by rw [hv.out]), hbw⟩
set_option maxRecDepth 100000 in
set_option maxHeartbeats 2000000 in
/-- word.together, of word.Odd's bits. -/
theorem together_odd (x y z : W32) (B : Nat) (w : World) (hB : Box3 w B x y z) :
    Calls Try.prog 67 #[.func (.func 68) #[] #[.pointer (some ⟨B, 0, none⟩)]] w fun e w' => e = .returned (.int .u32 ((odd x y z).toNat : Nat)) ∧ Below w.heap.size w w' := by
  have hv := Lib.hid (bvn_of (fun k => (odd x y z).getLsbD k) (odd x y z) (fun _ _ => rfl))
  have HB := Lib.hid hB
  clear hB
  go_enter Try.func67, Try.ntmps67
  go_wp2
  go_loopw [3, 5] (fun v i wr => ∃ k : Nat, k ≤ 32 ∧ i = .int .i64 k ∧ v = .int .u32 (bvn (fun k => (odd x y z).getLsbD k) k : Nat) ∧ Below w.heap.size w wr) (fun _ i _ => 32 - (intOf i).toNat)
  case atStart => exact ⟨0, by omega, rfl, rfl, Below.refl _ _⟩
  case round =>
    obtain ⟨k, hk, rfl, rfl, hbw⟩ := hrel
    by_cases hlt : k < 32
    · obtain ⟨f, hf⟩ : ∃ f : Nat → Bool, (fun k => (odd x y z).getLsbD k) = f := ⟨_, rfl⟩
      have hb0 := odd1_any x y z k B hlt wr (HB.out.keep hbw)
      rw [show (odd x y z).getLsbD k = f k from congrFun hf k] at hb0
      rw [hf]
      have HB0 := Lib.hid hb0
      clear hf hb0
      cases hfk : f k
      · rw [hfk] at HB0
        have HV := Lib.hid (bvn_no f k hfk)
        clear hfk
        go_wp2_with (go_at_call 68; (with_reducible refine HB0.out.mono ?_); rintro e w1 ⟨rfl, hb1⟩)
        go_roundw
        case rel => exact ⟨k + 1, by omega, by go_num, by rw [HV.out], hbw.trans (hb1.mono hbw.size)⟩
        case measure => simp [intOf]; omega
      · rw [hfk] at HB0
        have HV := Lib.hid (or_value f k hlt hfk)
        clear hfk
        go_wp2_with (go_at_call 68; (with_reducible refine HB0.out.mono ?_); rintro e w1 ⟨rfl, hb1⟩)
        go_roundw
        case rel => exact ⟨k + 1, by omega, by go_num, by rw [HV.out], hbw.trans (hb1.mono hbw.size)⟩
        case measure => simp [intOf]; omega
    · obtain rfl : k = 32 := by omega
      go_wp2
      go_ret
      exact ⟨ret_w (by rw [hv.out]), hbw⟩
set_option maxRecDepth 100000 in
set_option maxHeartbeats 2000000 in
/-- word.together, of word.Most's bits. -/
theorem together_mst (x y z : W32) (B : Nat) (w : World) (hB : Box3 w B x y z) :
    Calls Try.prog 67 #[.func (.func 76) #[] #[.pointer (some ⟨B, 0, none⟩)]] w fun e w' => e = .returned (.int .u32 ((mst x y z).toNat : Nat)) ∧ Below w.heap.size w w' := by
  have hv := Lib.hid (bvn_of (fun k => (mst x y z).getLsbD k) (mst x y z) (fun _ _ => rfl))
  have HB := Lib.hid hB
  clear hB
  go_enter Try.func67, Try.ntmps67
  go_wp2
  go_loopw [3, 5] (fun v i wr => ∃ k : Nat, k ≤ 32 ∧ i = .int .i64 k ∧ v = .int .u32 (bvn (fun k => (mst x y z).getLsbD k) k : Nat) ∧ Below w.heap.size w wr) (fun _ i _ => 32 - (intOf i).toNat)
  case atStart => exact ⟨0, by omega, rfl, rfl, Below.refl _ _⟩
  case round =>
    obtain ⟨k, hk, rfl, rfl, hbw⟩ := hrel
    by_cases hlt : k < 32
    · obtain ⟨f, hf⟩ : ∃ f : Nat → Bool, (fun k => (mst x y z).getLsbD k) = f := ⟨_, rfl⟩
      have hb0 := mst1_any x y z k B hlt wr (HB.out.keep hbw)
      rw [show (mst x y z).getLsbD k = f k from congrFun hf k] at hb0
      rw [hf]
      have HB0 := Lib.hid hb0
      clear hf hb0
      cases hfk : f k
      · rw [hfk] at HB0
        have HV := Lib.hid (bvn_no f k hfk)
        clear hfk
        go_wp2_with (go_at_call 76; (with_reducible refine HB0.out.mono ?_); rintro e w1 ⟨rfl, hb1⟩)
        go_roundw
        case rel => exact ⟨k + 1, by omega, by go_num, by rw [HV.out], hbw.trans (hb1.mono hbw.size)⟩
        case measure => simp [intOf]; omega
      · rw [hfk] at HB0
        have HV := Lib.hid (or_value f k hlt hfk)
        clear hfk
        go_wp2_with (go_at_call 76; (with_reducible refine HB0.out.mono ?_); rintro e w1 ⟨rfl, hb1⟩)
        go_roundw
        case rel => exact ⟨k + 1, by omega, by go_num, by rw [HV.out], hbw.trans (hb1.mono hbw.size)⟩
        case measure => simp [intOf]; omega
    · obtain rfl : k = 32 := by omega
      go_wp2
      go_ret
      exact ⟨ret_w (by rw [hv.out]), hbw⟩
theorem box3_new (w : World) (t : TypeId) (x y z : W32) : Box3 (w.alloc (.cells #[.int .u32 x.toNat, .int .u32 y.toNat, .int .u32 z.toNat] t)) w.heap.size x y z :=
  ⟨by simp, by simp [World.cell?_alloc_new], by simp [World.cell?_alloc_new], by simp [World.cell?_alloc_new]⟩
set_option maxRecDepth 100000 in
set_option maxHeartbeats 1000000 in
/-- word.Choose. -/
theorem chs_any (x y z : W32) (w : World) :
    Calls Try.prog 65 #[.int .u32 x.toNat, .int .u32 y.toNat, .int .u32 z.toNat] w fun e w' => e = .returned (.int .u32 ((chs x y z).toNat : Nat)) ∧ Below w.heap.size w w' := by
  have hb0 := stpA (Below.refl w.heap.size w) (.cells #[.int .u32 x.toNat, .int .u32 y.toNat, .int .u32 z.toNat] 98)
  go_enter Try.func65, Try.ntmps65
  go_wp2_with (go_at_call 67; (with_reducible refine (together_chs x y z w.heap.size _ (box3_new w _ x y z)).mono ?_); rintro e w1 ⟨rfl, hb1⟩)
  go_ret
  exact ⟨rfl, stp hb0 hb1⟩
theorem chs_v (x y z v : W32) (w : World) (h : chs x y z = v) :
    Calls Try.prog 65 #[.int .u32 x.toNat, .int .u32 y.toNat, .int .u32 z.toNat] w fun e w' => e = .returned (.int .u32 (v.toNat : Nat)) ∧ Below w.heap.size w w' := by
  subst h
  exact chs_any x y z w
set_option maxRecDepth 100000 in
set_option maxHeartbeats 1000000 in
/-- word.Odd. -/
theorem odd_any (x y z : W32) (w : World) :
    Calls Try.prog 59 #[.int .u32 x.toNat, .int .u32 y.toNat, .int .u32 z.toNat] w fun e w' => e = .returned (.int .u32 ((odd x y z).toNat : Nat)) ∧ Below w.heap.size w w' := by
  have hb0 := stpA (Below.refl w.heap.size w) (.cells #[.int .u32 x.toNat, .int .u32 y.toNat, .int .u32 z.toNat] 98)
  go_enter Try.func59, Try.ntmps59
  go_wp2_with (go_at_call 67; (with_reducible refine (together_odd x y z w.heap.size _ (box3_new w _ x y z)).mono ?_); rintro e w1 ⟨rfl, hb1⟩)
  go_ret
  exact ⟨rfl, stp hb0 hb1⟩
theorem odd_v (x y z v : W32) (w : World) (h : odd x y z = v) :
    Calls Try.prog 59 #[.int .u32 x.toNat, .int .u32 y.toNat, .int .u32 z.toNat] w fun e w' => e = .returned (.int .u32 (v.toNat : Nat)) ∧ Below w.heap.size w w' := by
  subst h
  exact odd_any x y z w
set_option maxRecDepth 100000 in
set_option maxHeartbeats 1000000 in
/-- word.Most. -/
theorem mst_any (x y z : W32) (w : World) :
    Calls Try.prog 66 #[.int .u32 x.toNat, .int .u32 y.toNat, .int .u32 z.toNat] w fun e w' => e = .returned (.int .u32 ((mst x y z).toNat : Nat)) ∧ Below w.heap.size w w' := by
  have hb0 := stpA (Below.refl w.heap.size w) (.cells #[.int .u32 x.toNat, .int .u32 y.toNat, .int .u32 z.toNat] 98)
  go_enter Try.func66, Try.ntmps66
  go_wp2_with (go_at_call 67; (with_reducible refine (together_mst x y z w.heap.size _ (box3_new w _ x y z)).mono ?_); rintro e w1 ⟨rfl, hb1⟩)
  go_ret
  exact ⟨rfl, stp hb0 hb1⟩
theorem mst_v (x y z v : W32) (w : World) (h : mst x y z = v) :
    Calls Try.prog 66 #[.int .u32 x.toNat, .int .u32 y.toNat, .int .u32 z.toNat] w fun e w' => e = .returned (.int .u32 (v.toNat : Nat)) ∧ Below w.heap.size w w' := by
  subst h
  exact mst_any x y z w
end Hx
end Go.Proofs.Ytmjcmlaeajglmaa
