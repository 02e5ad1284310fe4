/-
  Contracts of the laws' helpers for layer 7: lists, alive, blank.
-/
import Derived.Test.YtncklfmpnbdmcaaAscV
namespace Go.Proofs.Ytncklfmpnbdmcaa
open Go.RowKit
namespace Hx
open As
set_option linter.unusedVariables false
set_option maxHeartbeats 1000000 in
set_option maxRecDepth 100000 in
/-- lists: these are that text's parts. -/
theorem lists_yes (s : ByteArray) (B : Option Addr) (n d : Nat) (l : List ByteArray) (w : World) (hm : s.size ≤ 1000000) (hE : listE s.data.toList = 0) (hl : listS s = l) (hn : l.length = n) (hz : n ≤ 1000000) (hb : RdG encS w w.heap.size B l) :
    Calls Try.prog 11 #[.string s, .slice B n d] w fun e w' => e = .returned (.bool true) ∧ Below w.heap.size w w' := by
  have HM := Lib.hid hm
  have HE : Hid ((listE s.data.toList : Int) = 0) := by show _ = _; rw [hE]; rfl
  have HL := Lib.hid hl
  have HN := Lib.hid hn
  have HZ := Lib.hid hz
  have HB := Lib.hid hb
  clear hm hE hl hn hz hb
  go_enter Try.func11, Try.ntmps11
  go_wp2_with (first
    | (go_at_call 8; (with_reducible refine (list7 s l n 0 w HM.out HL.out HN.out HE.out).mono ?_); rintro e w1 ⟨hb1, A1, c1, rfl, hz1, hr1⟩; have HR1 := Lib.hid hr1; have HB1 := Lib.hid (HB.out.on hb1); clear hr1 hz1)
    | (go_at_call 22; (with_reducible refine (rsameS A1 B n n c1 d l l true w1 HR1.out HB1.out HN.out HN.out ⟨HZ.out, HZ.out⟩ (by simp)).mono ?_); rintro e w2 ⟨rfl, hb2⟩)
    | fail)
  go_ret
  exact ⟨rfl, stp hb1 hb2⟩
set_option maxHeartbeats 1000000 in
set_option maxRecDepth 100000 in
/-- blank: all of it is blanks, or not. -/
theorem blank_any (s : ByteArray) (b : Bool) (w : World) (hm : s.size ≤ 1000000) (h : s.data.toList.all blk = b) :
    Calls Try.prog 23 #[.string s] w fun e w' => e = .returned (.bool b) ∧ w = w' := by
  have HM := Lib.hid hm
  have HB := Lib.hid h
  clear hm h
  go_enter Try.func23, Try.ntmps23
  go_wp2_with fail
  go_loopg [3] s.size (fun gg i wr => ∃ k : Nat, k + gg = s.size ∧ i = .int .i64 k ∧ w = wr ∧ (s.data.toList.take k).all blk = true)
  case atStart => exact ⟨0, by omega, rfl, rfl, rfl⟩
  case round =>
    obtain ⟨k, hk, rfl, rfl, hall⟩ := hrel
    have HALL := Lib.hid hall
    have hMM := HM.out
    clear hall
    by_cases hlt : k < s.size
    · obtain ⟨c, hc, hat⟩ := byte_at s k hlt
      have bk : (0 : Int) ≤ (k : Int) ∧ (k : Int) < (s.size : Int) := by omega
      have hcl := c.toNat_lt
      rcases (show c.toNat = 32 ∨ c.toNat = 9 ∨ (c.toNat ≠ 32 ∧ c.toNat ≠ 9) by omega) with hr | hr | hr
      · have q1 : ((c.toNat : Int) == 32) = true := by simp; omega
        have q2 : ((c.toNat : Int) != 32) = false := by simp; omega
        have HN : Hid ((s.data.toList.take (k + 1)).all blk = true) := all_takeT blk hc HALL.out (by unfold blk; rw [hr]; rfl)
        clear hc hr
        go_wp2_with fail
        go_roundg (gk - 1)
        case rel => exact ⟨k + 1, by omega, by go_num, rfl, HN.out⟩
        case measure => omega
      · have q1 : ((c.toNat : Int) == 32) = false := by simp; omega
        have q2 : ((c.toNat : Int) != 32) = true := by simp; omega
        have q3 : ((c.toNat : Int) == 9) = true := by simp; omega
        have q4 : ((c.toNat : Int) != 9) = false := by simp; omega
        have HN : Hid ((s.data.toList.take (k + 1)).all blk = true) := all_takeT blk hc HALL.out (by unfold blk; rw [hr]; rfl)
        clear hc hr
        go_wp2_with fail
        go_roundg (gk - 1)
        case rel => exact ⟨k + 1, by omega, by go_num, rfl, HN.out⟩
        case measure => omega
      · have q1 : ((c.toNat : Int) == 32) = false := by simp; omega
        have q2 : ((c.toNat : Int) != 32) = true := by simp; omega
        have q3 : ((c.toNat : Int) == 9) = false := by simp; omega
        have q4 : ((c.toNat : Int) != 9) = true := by simp; omega
        obtain rfl : false = b := by
          rw [← HB.out, all_noT blk hc]
          unfold blk
          rw [decide_eq_false hr.1, decide_eq_false hr.2]
          rfl
        clear hc hr
        go_wp2_with fail
        go_ret
        exact ⟨rfl, rfl⟩
    · obtain rfl : s.size = k := by omega
      obtain rfl : true = b := by
        rw [← HB.out, ← HALL.out, List.take_of_length_le (by rw [ba_len7]; exact Nat.le_refl _)]
      go_wp2_with fail
      go_ret
      exact ⟨rfl, rfl⟩
theorem al_lower (w : World) : Calls Try.prog 15 #[.string ⟨#[75, 101, 101, 112, 45, 65, 76, 73, 86, 69]⟩] w fun e w' => e = .returned (.string ⟨#[107, 101, 101, 112, 45, 97, 108, 105, 118, 101]⟩) ∧ Below w.heap.size w w' := lower7 _ _ w (by decide) (by decide +kernel)
theorem al_trim (w : World) : Calls Try.prog 18 #[.string ⟨#[32, 9, 120, 32]⟩] w fun e w' => e = .returned (.string ⟨#[120]⟩) ∧ Below w.heap.size w w' := trim7 _ _ w (by decide) (by decide +kernel)
theorem al_token (w : World) : Calls Try.prog 9 #[.string ⟨#[97]⟩] w fun e w' => e = .returned (.bool true) ∧ Below w.heap.size w w' := token7 _ true w (by decide) (by decide +kernel)
theorem al_plain (w : World) : Calls Try.prog 12 #[.string ⟨#[97, 32, 98]⟩] w fun e w' => e = .returned (.bool true) ∧ Below w.heap.size w w' := plain7 _ true w (by decide) (by decide +kernel)
theorem al_lists (w : World) :
    Calls Try.prog 11 #[.string ⟨#[99, 108, 111, 115, 101, 44, 32, 44, 32, 85, 112, 103, 114, 97, 100, 101]⟩, .slice (some ⟨w.heap.size, 0, none⟩) 2 2] (w.alloc (.cells #[.string ⟨#[99, 108, 111, 115, 101]⟩, .string ⟨#[117, 112, 103, 114, 97, 100, 101]⟩] 9)) fun e w' => e = .returned (.bool true) ∧ Below w.heap.size w w' :=
  (lists_yes ⟨#[99, 108, 111, 115, 101, 44, 32, 44, 32, 85, 112, 103, 114, 97, 100, 101]⟩ (some ⟨w.heap.size, 0, none⟩) 2 2 [⟨#[99, 108, 111, 115, 101]⟩, ⟨#[117, 112, 103, 114, 97, 100, 101]⟩] (w.alloc (.cells #[.string ⟨#[99, 108, 111, 115, 101]⟩, .string ⟨#[117, 112, 103, 114, 97, 100, 101]⟩] 9)) (by decide) (by decide +kernel) (by decide +kernel) rfl (by decide)
    (RdG.newS (enc := encS) w 9 [⟨#[99, 108, 111, 115, 101]⟩, ⟨#[117, 112, 103, 114, 97, 100, 101]⟩])).mono fun e w' ⟨h1, h2⟩ => ⟨h1, stp (stpA (Below.refl _ _) _) h2⟩
set_option maxHeartbeats 1000000 in
set_option maxRecDepth 100000 in
theorem alive7 (w : World) : Calls Try.prog 10 #[] w fun e w' => e = .returned (.bool true) ∧ Below w.heap.size w w' := by
  go_enter Try.func10, Try.ntmps10
  go_wp2_with (first
    | (go_at_call 15; (with_reducible refine (al_lower w).mono ?_); rintro e w1 ⟨rfl, hb1⟩)
    | (go_at_call 18; (with_reducible refine (al_trim w1).mono ?_); rintro e w2 ⟨rfl, hb2⟩)
    | (go_at_call 11; (with_reducible refine (al_lists w2).mono ?_); rintro e w3 ⟨rfl, hb3⟩)
    | (go_at_call 9; (with_reducible refine (al_token w3).mono ?_); rintro e w4 ⟨rfl, hb4⟩)
    | (go_at_call 12; (with_reducible refine (al_plain w4).mono ?_); rintro e w5 ⟨rfl, hb5⟩)
    | fail)
  go_ret
  exact ⟨rfl, stp (stp (stp (stp hb1 hb2) hb3) hb4) hb5⟩
end Hx
end Go.Proofs.Ytncklfmpnbdmcaa
