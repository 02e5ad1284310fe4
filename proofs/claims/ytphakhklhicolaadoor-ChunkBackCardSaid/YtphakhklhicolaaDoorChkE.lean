/-
  Package chunk as it landed: the machine turned by a byte.
-/
import Derived.Test.YtphakhklhicolaaDoorChkD
import Derived.BigQuiet
namespace Go.Proofs.YtphakhklhicolaaDoor
open Go.RowKit
namespace Hx
open Ck
set_option linter.unusedVariables false
set_option linter.unusedSimpArgs false
theorem mb_now {b : Nat} {m : Mc} {w : World} {A : Value} (hg : w.heap[b]? = some (.cells #[.int .u8 (m.now : Int), .int .i64 (m.dig : Int), .int .i64 (m.size : Int), A] 44 (0, 0))) (hown : w.ownsRow (b + 1) 5 1 A m.body.length (Lib.byteCells m.body)) (n : Nat) : MB b { m with now := n } (w.setCell ⟨b, 0, none⟩ (.int .u8 (n : Int))) := ⟨A, m4_s hg 0 _, own_set hown 0 _⟩
theorem below_drewN {B : Nat} {a w : World} (h : Below B a w) (n : Nat) : Below B a (w.drewN n) := ⟨h.os, h.tape, h.output, h.size, h.block⟩
theorem c13_yes {c : UInt8} (h : c = 13) : ((c.toNat : Int) != 13) = false := by subst h; rfl
theorem c13_no {c : UInt8} (h : c ≠ 13) : ((c.toNat : Int) != 13) = true := by
  have : c.toNat ≠ 13 := fun e => h (UInt8.toNat_inj.1 e)
  simp; omega
theorem c10_yes {c : UInt8} (h : c = 10) : ((c.toNat : Int) != 10) = false ∧ ((c.toNat : Int) == 10) = true := by subst h; exact ⟨rfl, rfl⟩
theorem c10_no {c : UInt8} (h : c ≠ 10) : ((c.toNat : Int) != 10) = true ∧ ((c.toNat : Int) == 10) = false := by
  have : c.toNat ≠ 10 := fun e => h (UInt8.toNat_inj.1 e)
  constructor <;> (simp; omega)
theorem c48_yes {c : UInt8} (h : c = 48) : ((c.toNat : Int) == 48) = true := by subst h; rfl
theorem c48_no {c : UInt8} (h : c ≠ 48) : ((c.toNat : Int) == 48) = false := by
  have : c.toNat ≠ 48 := fun e => h (UInt8.toNat_inj.1 e)
  simp; omega

set_option maxHeartbeats 8000000 in
set_option maxRecDepth 100000 in
theorem take_2a (b : Nat) (m : Mc) (c : UInt8) (w : World) (h : MB b m w) (hn : m.now = 2) (hc : c = 48) :
    Calls Tryd.prog 17 #[.pointer (some ⟨b, 0, none⟩), .int .u8 (c.toNat : Int)] w fun e w' => e = .returned (.int .i64 0) ∧ MB b { m with now := 6 } w' ∧ Below b w w' := by
  have HM := Lib.hid h
  obtain ⟨v, hg, hown⟩ := h
  have HG := Lib.hid hg
  have HO := Lib.hid hown
  have hnI : (m.now : Int) = 2 := by omega
  rw [hnI] at hg
  have c0 := m4_0 hg
  have c1 := m4_1 hg
  have c2 := m4_2 hg
  have c3 := m4_3 hg
  have f0 := m4_f hg 0
  have k48 := c48_yes hc
  clear hg hown hnI hn
  go_enter Tryd.func17, Tryd.ntmps17
  go_wp2_with fail
  go_ret
  exact ⟨rfl, mb_now HG.out HO.out 6, (Below.refl b w).setCell (Nat.le_refl _) _⟩

set_option maxHeartbeats 8000000 in
set_option maxRecDepth 100000 in
theorem take_2b (b : Nat) (m : Mc) (c : UInt8) (w : World) (h : MB b m w) (hn : m.now = 2) (hc : c ≠ 48) (d : Nat) (h1 : hv c = some d) (hd : m.dig < 4) (hs : m.size ≤ 65535) :
    Calls Tryd.prog 17 #[.pointer (some ⟨b, 0, none⟩), .int .u8 (c.toNat : Int)] w fun e w' => e = .returned (.int .i64 0) ∧ MB b { m with now := 3, dig := m.dig + 1, size := m.size * 16 + d } w' ∧ Below b w w' := by
  have HM := Lib.hid h
  obtain ⟨v, hg, hown⟩ := h
  have HG := Lib.hid hg
  have HO := Lib.hid hown
  have hnI : (m.now : Int) = 2 := by omega
  rw [hnI] at hg
  have c0 := m4_0 hg
  have c1 := m4_1 hg
  have c2 := m4_2 hg
  have c3 := m4_3 hg
  have f0 := m4_f hg 0
  have k48 := c48_no hc
  have HD := Lib.hid (digit16_yes b m c d w HM.out hd hs h1)
  clear hg hown hnI hn
  go_enter Tryd.func17, Tryd.ntmps17
  go_wp2_with (first
    | (go_at_call 22; (with_reducible refine (HD.out).mono ?_); rintro e1 w1 ⟨rfl, hm1, hb1⟩; have HM1 := Lib.hid hm1; have HB1 := Lib.hid hb1; clear hm1 hb1)
    | fail)
  go_ret
  exact ⟨rfl, HM1.out, HB1.out⟩

set_option maxHeartbeats 8000000 in
set_option maxRecDepth 100000 in
theorem take_2c (b : Nat) (m : Mc) (c : UInt8) (w : World) (h : MB b m w) (hn : m.now = 2) (hc : c ≠ 48) (h1 : hv c = none ∨ m.dig = 4) (hd : m.dig ≤ 4) (hz : m.dig = 0) :
    Calls Tryd.prog 17 #[.pointer (some ⟨b, 0, none⟩), .int .u8 (c.toNat : Int)] w fun e w' => e = .returned (.int .i64 160) ∧ MB b m w' ∧ Below b w w' := by
  have HM := Lib.hid h
  obtain ⟨v, hg, hown⟩ := h
  have HG := Lib.hid hg
  have HO := Lib.hid hown
  have hnI : (m.now : Int) = 2 := by omega
  rw [hnI] at hg
  have c0 := m4_0 hg
  have c1 := m4_1 hg
  have c2 := m4_2 hg
  have c3 := m4_3 hg
  have f0 := m4_f hg 0
  have k48 := c48_no hc
  have HD := Lib.hid (digit16_no b m c w HM.out hd h1)
  have k0 : ((m.dig : Int) == 0) = true := by simp; omega
  clear hg hown hnI hn
  go_enter Tryd.func17, Tryd.ntmps17
  go_wp2_with (first
    | (go_at_call 22; (with_reducible refine (HD.out).mono ?_); rintro e1 w1 ⟨rfl, rfl⟩)
    | fail)
  go_ret
  exact ⟨rfl, HM.out, Below.refl b w⟩

set_option maxHeartbeats 8000000 in
set_option maxRecDepth 100000 in
theorem take_3a (b : Nat) (m : Mc) (c : UInt8) (w : World) (h : MB b m w) (hn : m.now = 3) (d : Nat) (h1 : hv c = some d) (hd : m.dig < 4) (hs : m.size ≤ 65535) :
    Calls Tryd.prog 17 #[.pointer (some ⟨b, 0, none⟩), .int .u8 (c.toNat : Int)] w fun e w' => e = .returned (.int .i64 0) ∧ MB b { m with now := 3, dig := m.dig + 1, size := m.size * 16 + d } w' ∧ Below b w w' := by
  have HM := Lib.hid h
  obtain ⟨v, hg, hown⟩ := h
  have HG := Lib.hid hg
  have HO := Lib.hid hown
  have hnI : (m.now : Int) = 3 := by omega
  rw [hnI] at hg
  have c0 := m4_0 hg
  have c1 := m4_1 hg
  have c2 := m4_2 hg
  have c3 := m4_3 hg
  have f0 := m4_f hg 0
  have HD := Lib.hid (digit16_yes b m c d w HM.out hd hs h1)
  clear hg hown hnI hn
  go_enter Tryd.func17, Tryd.ntmps17
  go_wp2_with (first
    | (go_at_call 22; (with_reducible refine (HD.out).mono ?_); rintro e1 w1 ⟨rfl, hm1, hb1⟩; have HM1 := Lib.hid hm1; have HB1 := Lib.hid hb1; clear hm1 hb1)
    | fail)
  go_ret
  exact ⟨rfl, HM1.out, HB1.out⟩

set_option maxHeartbeats 8000000 in
set_option maxRecDepth 100000 in
theorem take_3b (b : Nat) (m : Mc) (c : UInt8) (w : World) (h : MB b m w) (hn : m.now = 3) (hc : c = 13) (h1 : hv c = none ∨ m.dig = 4) (hd : m.dig ≤ 4) (hz : 0 < m.dig) :
    Calls Tryd.prog 17 #[.pointer (some ⟨b, 0, none⟩), .int .u8 (c.toNat : Int)] w fun e w' => e = .returned (.int .i64 0) ∧ MB b { m with now := 4 } w' ∧ Below b w w' := by
  have HM := Lib.hid h
  obtain ⟨v, hg, hown⟩ := h
  have HG := Lib.hid hg
  have HO := Lib.hid hown
  have hnI : (m.now : Int) = 3 := by omega
  rw [hnI] at hg
  have c0 := m4_0 hg
  have c1 := m4_1 hg
  have c2 := m4_2 hg
  have c3 := m4_3 hg
  have f0 := m4_f hg 0
  have HD : Hid (Calls Tryd.prog 22 #[.pointer (some ⟨b, 0, none⟩), .int .u8 13] w fun e w' => e = .returned (.bool false) ∧ w = w') := Lib.hid (by have := digit16_no b m c w HM.out hd h1; rw [hc] at this; exact this)
  have k0 : ((m.dig : Int) == 0) = false := by simp; omega
  have k13 := c13_yes hc
  clear hg hown hnI hn
  go_enter Tryd.func17, Tryd.ntmps17
  go_wp2_with (first
    | (go_at_call 22; (with_reducible refine (HD.out).mono ?_); rintro e1 w1 ⟨rfl, rfl⟩)
    | fail)
  go_ret
  exact ⟨rfl, mb_now HG.out HO.out 4, (Below.refl b w).setCell (Nat.le_refl _) _⟩

set_option maxHeartbeats 8000000 in
set_option maxRecDepth 100000 in
theorem take_3c (b : Nat) (m : Mc) (c : UInt8) (w : World) (h : MB b m w) (hn : m.now = 3) (hc : c ≠ 13) (h1 : hv c = none ∨ m.dig = 4) (hd : m.dig ≤ 4) (hz : 0 < m.dig) :
    Calls Tryd.prog 17 #[.pointer (some ⟨b, 0, none⟩), .int .u8 (c.toNat : Int)] w fun e w' => e = .returned (.int .i64 160) ∧ MB b m w' ∧ Below b w w' := by
  have HM := Lib.hid h
  obtain ⟨v, hg, hown⟩ := h
  have HG := Lib.hid hg
  have HO := Lib.hid hown
  have hnI : (m.now : Int) = 3 := by omega
  rw [hnI] at hg
  have c0 := m4_0 hg
  have c1 := m4_1 hg
  have c2 := m4_2 hg
  have c3 := m4_3 hg
  have f0 := m4_f hg 0
  have HD := Lib.hid (digit16_no b m c w HM.out hd h1)
  have k0 : ((m.dig : Int) == 0) = false := by simp; omega
  have k13 := c13_no hc
  clear hg hown hnI hn
  go_enter Tryd.func17, Tryd.ntmps17
  go_wp2_with (first
    | (go_at_call 22; (with_reducible refine (HD.out).mono ?_); rintro e1 w1 ⟨rfl, rfl⟩)
    | fail)
  go_ret
  exact ⟨rfl, HM.out, Below.refl b w⟩

set_option maxHeartbeats 8000000 in
set_option maxRecDepth 100000 in
theorem take_0a (b : Nat) (m : Mc) (c : UInt8) (w : World) (h : MB b m w) (hn : m.now = 0) (hc : c = 13) :
    Calls Tryd.prog 17 #[.pointer (some ⟨b, 0, none⟩), .int .u8 (c.toNat : Int)] w fun e w' => e = .returned (.int .i64 0) ∧ MB b { m with now := 1 } w' ∧ Below b w w' := by
  have HM := Lib.hid h
  obtain ⟨v, hg, hown⟩ := h
  have HG := Lib.hid hg
  have HO := Lib.hid hown
  have hnI : (m.now : Int) = 0 := by omega
  rw [hnI] at hg
  have c0 := m4_0 hg
  have c1 := m4_1 hg
  have c2 := m4_2 hg
  have c3 := m4_3 hg
  have f0 := m4_f hg 0
  have k13 := c13_yes hc
  clear hg hown hnI hn
  go_enter Tryd.func17, Tryd.ntmps17
  go_wp2_with fail
  go_ret
  exact ⟨rfl, mb_now HG.out HO.out 1, (Below.refl b w).setCell (Nat.le_refl _) _⟩

set_option maxHeartbeats 8000000 in
set_option maxRecDepth 100000 in
theorem take_0b (b : Nat) (m : Mc) (c : UInt8) (w : World) (h : MB b m w) (hn : m.now = 0) (hc : c ≠ 13) :
    Calls Tryd.prog 17 #[.pointer (some ⟨b, 0, none⟩), .int .u8 (c.toNat : Int)] w fun e w' => e = .returned (.int .i64 160) ∧ MB b m w' ∧ Below b w w' := by
  have HM := Lib.hid h
  obtain ⟨v, hg, hown⟩ := h
  have HG := Lib.hid hg
  have HO := Lib.hid hown
  have hnI : (m.now : Int) = 0 := by omega
  rw [hnI] at hg
  have c0 := m4_0 hg
  have c1 := m4_1 hg
  have c2 := m4_2 hg
  have c3 := m4_3 hg
  have f0 := m4_f hg 0
  have k13 := c13_no hc
  clear hg hown hnI hn
  go_enter Tryd.func17, Tryd.ntmps17
  go_wp2_with fail
  go_ret
  exact ⟨rfl, HM.out, Below.refl b w⟩

set_option maxHeartbeats 8000000 in
set_option maxRecDepth 100000 in
theorem take_6a (b : Nat) (m : Mc) (c : UInt8) (w : World) (h : MB b m w) (hn : m.now = 6) (hc : c = 13) :
    Calls Tryd.prog 17 #[.pointer (some ⟨b, 0, none⟩), .int .u8 (c.toNat : Int)] w fun e w' => e = .returned (.int .i64 0) ∧ MB b { m with now := 7 } w' ∧ Below b w w' := by
  have HM := Lib.hid h
  obtain ⟨v, hg, hown⟩ := h
  have HG := Lib.hid hg
  have HO := Lib.hid hown
  have hnI : (m.now : Int) = 6 := by omega
  rw [hnI] at hg
  have c0 := m4_0 hg
  have c1 := m4_1 hg
  have c2 := m4_2 hg
  have c3 := m4_3 hg
  have f0 := m4_f hg 0
  have k13 := c13_yes hc
  clear hg hown hnI hn
  go_enter Tryd.func17, Tryd.ntmps17
  go_wp2_with fail
  go_ret
  exact ⟨rfl, mb_now HG.out HO.out 7, (Below.refl b w).setCell (Nat.le_refl _) _⟩

set_option maxHeartbeats 8000000 in
set_option maxRecDepth 100000 in
theorem take_6b (b : Nat) (m : Mc) (c : UInt8) (w : World) (h : MB b m w) (hn : m.now = 6) (hc : c ≠ 13) :
    Calls Tryd.prog 17 #[.pointer (some ⟨b, 0, none⟩), .int .u8 (c.toNat : Int)] w fun e w' => e = .returned (.int .i64 160) ∧ MB b m w' ∧ Below b w w' := by
  have HM := Lib.hid h
  obtain ⟨v, hg, hown⟩ := h
  have HG := Lib.hid hg
  have HO := Lib.hid hown
  have hnI : (m.now : Int) = 6 := by omega
  rw [hnI] at hg
  have c0 := m4_0 hg
  have c1 := m4_1 hg
  have c2 := m4_2 hg
  have c3 := m4_3 hg
  have f0 := m4_f hg 0
  have k13 := c13_no hc
  clear hg hown hnI hn
  go_enter Tryd.func17, Tryd.ntmps17
  go_wp2_with fail
  go_ret
  exact ⟨rfl, HM.out, Below.refl b w⟩

set_option maxHeartbeats 8000000 in
set_option maxRecDepth 100000 in
theorem take_8a (b : Nat) (m : Mc) (c : UInt8) (w : World) (h : MB b m w) (hn : m.now = 8) (hc : c = 13) :
    Calls Tryd.prog 17 #[.pointer (some ⟨b, 0, none⟩), .int .u8 (c.toNat : Int)] w fun e w' => e = .returned (.int .i64 0) ∧ MB b { m with now := 9 } w' ∧ Below b w w' := by
  have HM := Lib.hid h
  obtain ⟨v, hg, hown⟩ := h
  have HG := Lib.hid hg
  have HO := Lib.hid hown
  have hnI : (m.now : Int) = 8 := by omega
  rw [hnI] at hg
  have c0 := m4_0 hg
  have c1 := m4_1 hg
  have c2 := m4_2 hg
  have c3 := m4_3 hg
  have f0 := m4_f hg 0
  have k13 := c13_yes hc
  clear hg hown hnI hn
  go_enter Tryd.func17, Tryd.ntmps17
  go_wp2_with fail
  go_ret
  exact ⟨rfl, mb_now HG.out HO.out 9, (Below.refl b w).setCell (Nat.le_refl _) _⟩

set_option maxHeartbeats 8000000 in
set_option maxRecDepth 100000 in
theorem take_8b (b : Nat) (m : Mc) (c : UInt8) (w : World) (h : MB b m w) (hn : m.now = 8) (hc : c ≠ 13) :
    Calls Tryd.prog 17 #[.pointer (some ⟨b, 0, none⟩), .int .u8 (c.toNat : Int)] w fun e w' => e = .returned (.int .i64 160) ∧ MB b m w' ∧ Below b w w' := by
  have HM := Lib.hid h
  obtain ⟨v, hg, hown⟩ := h
  have HG := Lib.hid hg
  have HO := Lib.hid hown
  have hnI : (m.now : Int) = 8 := by omega
  rw [hnI] at hg
  have c0 := m4_0 hg
  have c1 := m4_1 hg
  have c2 := m4_2 hg
  have c3 := m4_3 hg
  have f0 := m4_f hg 0
  have k13 := c13_no hc
  clear hg hown hnI hn
  go_enter Tryd.func17, Tryd.ntmps17
  go_wp2_with fail
  go_ret
  exact ⟨rfl, HM.out, Below.refl b w⟩

set_option maxHeartbeats 8000000 in
set_option maxRecDepth 100000 in
theorem take_1a (b : Nat) (m : Mc) (c : UInt8) (w : World) (h : MB b m w) (hn : m.now = 1) (hc : c = 10) :
    Calls Tryd.prog 17 #[.pointer (some ⟨b, 0, none⟩), .int .u8 (c.toNat : Int)] w fun e w' => e = .returned (.int .i64 0) ∧ MB b { m with now := 2 } w' ∧ Below b w w' := by
  have HM := Lib.hid h
  obtain ⟨v, hg, hown⟩ := h
  have HG := Lib.hid hg
  have HO := Lib.hid hown
  have hnI : (m.now : Int) = 1 := by omega
  rw [hnI] at hg
  have c0 := m4_0 hg
  have c1 := m4_1 hg
  have c2 := m4_2 hg
  have c3 := m4_3 hg
  have f0 := m4_f hg 0
  obtain ⟨k10, k10b⟩ := c10_yes hc
  clear hg hown hnI hn
  go_enter Tryd.func17, Tryd.ntmps17
  go_wp2_with fail
  go_ret
  exact ⟨rfl, mb_now HG.out HO.out 2, (Below.refl b w).setCell (Nat.le_refl _) _⟩

set_option maxHeartbeats 8000000 in
set_option maxRecDepth 100000 in
theorem take_1b (b : Nat) (m : Mc) (c : UInt8) (w : World) (h : MB b m w) (hn : m.now = 1) (hc : c ≠ 10) :
    Calls Tryd.prog 17 #[.pointer (some ⟨b, 0, none⟩), .int .u8 (c.toNat : Int)] w fun e w' => e = .returned (.int .i64 160) ∧ MB b m w' ∧ Below b w w' := by
  have HM := Lib.hid h
  obtain ⟨v, hg, hown⟩ := h
  have HG := Lib.hid hg
  have HO := Lib.hid hown
  have hnI : (m.now : Int) = 1 := by omega
  rw [hnI] at hg
  have c0 := m4_0 hg
  have c1 := m4_1 hg
  have c2 := m4_2 hg
  have c3 := m4_3 hg
  have f0 := m4_f hg 0
  obtain ⟨k10, k10b⟩ := c10_no hc
  clear hg hown hnI hn
  go_enter Tryd.func17, Tryd.ntmps17
  go_wp2_with fail
  go_ret
  exact ⟨rfl, HM.out, Below.refl b w⟩

set_option maxHeartbeats 8000000 in
set_option maxRecDepth 100000 in
theorem take_7a (b : Nat) (m : Mc) (c : UInt8) (w : World) (h : MB b m w) (hn : m.now = 7) (hc : c = 10) :
    Calls Tryd.prog 17 #[.pointer (some ⟨b, 0, none⟩), .int .u8 (c.toNat : Int)] w fun e w' => e = .returned (.int .i64 0) ∧ MB b { m with now := 8 } w' ∧ Below b w w' := by
  have HM := Lib.hid h
  obtain ⟨v, hg, hown⟩ := h
  have HG := Lib.hid hg
  have HO := Lib.hid hown
  have hnI : (m.now : Int) = 7 := by omega
  rw [hnI] at hg
  have c0 := m4_0 hg
  have c1 := m4_1 hg
  have c2 := m4_2 hg
  have c3 := m4_3 hg
  have f0 := m4_f hg 0
  obtain ⟨k10, k10b⟩ := c10_yes hc
  clear hg hown hnI hn
  go_enter Tryd.func17, Tryd.ntmps17
  go_wp2_with fail
  go_ret
  exact ⟨rfl, mb_now HG.out HO.out 8, (Below.refl b w).setCell (Nat.le_refl _) _⟩

set_option maxHeartbeats 8000000 in
set_option maxRecDepth 100000 in
theorem take_7b (b : Nat) (m : Mc) (c : UInt8) (w : World) (h : MB b m w) (hn : m.now = 7) (hc : c ≠ 10) :
    Calls Tryd.prog 17 #[.pointer (some ⟨b, 0, none⟩), .int .u8 (c.toNat : Int)] w fun e w' => e = .returned (.int .i64 160) ∧ MB b m w' ∧ Below b w w' := by
  have HM := Lib.hid h
  obtain ⟨v, hg, hown⟩ := h
  have HG := Lib.hid hg
  have HO := Lib.hid hown
  have hnI : (m.now : Int) = 7 := by omega
  rw [hnI] at hg
  have c0 := m4_0 hg
  have c1 := m4_1 hg
  have c2 := m4_2 hg
  have c3 := m4_3 hg
  have f0 := m4_f hg 0
  obtain ⟨k10, k10b⟩ := c10_no hc
  clear hg hown hnI hn
  go_enter Tryd.func17, Tryd.ntmps17
  go_wp2_with fail
  go_ret
  exact ⟨rfl, HM.out, Below.refl b w⟩

set_option maxHeartbeats 8000000 in
set_option maxRecDepth 100000 in
theorem take_9a (b : Nat) (m : Mc) (c : UInt8) (w : World) (h : MB b m w) (hn : m.now = 9) (hc : c = 10) :
    Calls Tryd.prog 17 #[.pointer (some ⟨b, 0, none⟩), .int .u8 (c.toNat : Int)] w fun e w' => e = .returned (.int .i64 0) ∧ MB b { m with now := 10 } w' ∧ Below b w w' := by
  have HM := Lib.hid h
  obtain ⟨v, hg, hown⟩ := h
  have HG := Lib.hid hg
  have HO := Lib.hid hown
  have hnI : (m.now : Int) = 9 := by omega
  rw [hnI] at hg
  have c0 := m4_0 hg
  have c1 := m4_1 hg
  have c2 := m4_2 hg
  have c3 := m4_3 hg
  have f0 := m4_f hg 0
  obtain ⟨k10, k10b⟩ := c10_yes hc
  clear hg hown hnI hn
  go_enter Tryd.func17, Tryd.ntmps17
  go_wp2_with fail
  go_ret
  exact ⟨rfl, mb_now HG.out HO.out 10, (Below.refl b w).setCell (Nat.le_refl _) _⟩

set_option maxHeartbeats 8000000 in
set_option maxRecDepth 100000 in
theorem take_9b (b : Nat) (m : Mc) (c : UInt8) (w : World) (h : MB b m w) (hn : m.now = 9) (hc : c ≠ 10) :
    Calls Tryd.prog 17 #[.pointer (some ⟨b, 0, none⟩), .int .u8 (c.toNat : Int)] w fun e w' => e = .returned (.int .i64 160) ∧ MB b m w' ∧ Below b w w' := by
  have HM := Lib.hid h
  obtain ⟨v, hg, hown⟩ := h
  have HG := Lib.hid hg
  have HO := Lib.hid hown
  have hnI : (m.now : Int) = 9 := by omega
  rw [hnI] at hg
  have c0 := m4_0 hg
  have c1 := m4_1 hg
  have c2 := m4_2 hg
  have c3 := m4_3 hg
  have f0 := m4_f hg 0
  obtain ⟨k10, k10b⟩ := c10_no hc
  clear hg hown hnI hn
  go_enter Tryd.func17, Tryd.ntmps17
  go_wp2_with fail
  go_ret
  exact ⟨rfl, HM.out, Below.refl b w⟩

set_option maxHeartbeats 8000000 in
set_option maxRecDepth 100000 in
theorem take_4a (b : Nat) (m : Mc) (c : UInt8) (w : World) (h : MB b m w) (hn : m.now = 4) (hc : c = 10) (hs : m.size ≤ 65535) (hl : m.body.length ≤ 8192) (hm : 8192 < m.body.length + m.size) :
    Calls Tryd.prog 17 #[.pointer (some ⟨b, 0, none⟩), .int .u8 (c.toNat : Int)] w fun e w' => e = .returned (.int .i64 4) ∧ MB b m w' ∧ Below b w w' := by
  have HM := Lib.hid h
  obtain ⟨v, hg, hown⟩ := h
  have HG := Lib.hid hg
  have HO := Lib.hid hown
  have hnI : (m.now : Int) = 4 := by omega
  rw [hnI] at hg
  have c0 := m4_0 hg
  have c1 := m4_1 hg
  have c2 := m4_2 hg
  have c3 := m4_3 hg
  have f0 := m4_f hg 0
  obtain ⟨A, k, rfl⟩ := own_form hown
  obtain ⟨k10, k10b⟩ := c10_yes hc
  have bs : (m.size : Int) ≤ 65535 := by omega
  have bs0 : (0 : Int) ≤ (m.size : Int) := by omega
  have bl : (m.body.length : Int) ≤ 8192 := by omega
  have bl0 : (0 : Int) ≤ (m.body.length : Int) := by omega
  have km : decide ((8192 : Int) - (m.body.length : Int) < (m.size : Int)) = true := decide_eq_true (by omega)
  clear hg hown hnI hn
  go_enter Tryd.func17, Tryd.ntmps17
  go_wp2_with fail
  go_quiet (fail)
  go_wp2_with fail
  go_ret
  exact ⟨rfl, HM.out, below_drewN (Below.refl b w) _⟩

set_option maxHeartbeats 8000000 in
set_option maxRecDepth 100000 in
theorem take_4b (b : Nat) (m : Mc) (c : UInt8) (w : World) (h : MB b m w) (hn : m.now = 4) (hc : c = 10) (hs : m.size ≤ 65535) (hl : m.body.length ≤ 8192) (hm : ¬ 8192 < m.body.length + m.size) :
    Calls Tryd.prog 17 #[.pointer (some ⟨b, 0, none⟩), .int .u8 (c.toNat : Int)] w fun e w' => e = .returned (.int .i64 0) ∧ MB b { m with now := 5 } w' ∧ Below b w w' := by
  have HM := Lib.hid h
  obtain ⟨v, hg, hown⟩ := h
  have HG := Lib.hid hg
  have HO := Lib.hid hown
  have hnI : (m.now : Int) = 4 := by omega
  rw [hnI] at hg
  have c0 := m4_0 hg
  have c1 := m4_1 hg
  have c2 := m4_2 hg
  have c3 := m4_3 hg
  have f0 := m4_f hg 0
  obtain ⟨A, k, rfl⟩ := own_form hown
  obtain ⟨k10, k10b⟩ := c10_yes hc
  have bs : (m.size : Int) ≤ 65535 := by omega
  have bs0 : (0 : Int) ≤ (m.size : Int) := by omega
  have bl : (m.body.length : Int) ≤ 8192 := by omega
  have bl0 : (0 : Int) ≤ (m.body.length : Int) := by omega
  have km : decide ((8192 : Int) - (m.body.length : Int) < (m.size : Int)) = false := decide_eq_false (by omega)
  clear hg hown hnI hn
  go_enter Tryd.func17, Tryd.ntmps17
  go_wp2_with fail
  go_quiet (fail)
  go_wp2_with fail
  go_ret
  exact ⟨rfl, mb_now (w := w.drewN nq) HG.out HO.out 5, (below_drewN (Below.refl b w) _).setCell (Nat.le_refl _) _⟩

set_option maxHeartbeats 8000000 in
set_option maxRecDepth 100000 in
theorem take_4c (b : Nat) (m : Mc) (c : UInt8) (w : World) (h : MB b m w) (hn : m.now = 4) (hc : c ≠ 10) :
    Calls Tryd.prog 17 #[.pointer (some ⟨b, 0, none⟩), .int .u8 (c.toNat : Int)] w fun e w' => e = .returned (.int .i64 160) ∧ MB b m w' ∧ Below b w w' := by
  have HM := Lib.hid h
  obtain ⟨v, hg, hown⟩ := h
  have HG := Lib.hid hg
  have HO := Lib.hid hown
  have hnI : (m.now : Int) = 4 := by omega
  rw [hnI] at hg
  have c0 := m4_0 hg
  have c1 := m4_1 hg
  have c2 := m4_2 hg
  have c3 := m4_3 hg
  have f0 := m4_f hg 0
  obtain ⟨A, k, rfl⟩ := own_form hown
  obtain ⟨k10, k10b⟩ := c10_no hc
  clear hg hown hnI hn
  go_enter Tryd.func17, Tryd.ntmps17
  go_wp2_with fail
  go_quiet (fail)
  go_wp2_with fail
  go_ret
  exact ⟨rfl, HM.out, below_drewN (Below.refl b w) _⟩

set_option maxHeartbeats 8000000 in
set_option maxRecDepth 100000 in
theorem take_5a (b : Nat) (m : Mc) (c : UInt8) (w : World) (h : MB b m w) (hn : m.now = 5) (h1 : m.size = 1) (hl : m.body.length ≤ 8192) :
    Calls Tryd.prog 17 #[.pointer (some ⟨b, 0, none⟩), .int .u8 (c.toNat : Int)] w fun e w' => e = .returned (.int .i64 0) ∧ MB b ⟨0, 0, 0, m.body ++ [c]⟩ w' ∧ Below b w w' := by
  have HM := Lib.hid h
  obtain ⟨v, hg, hown⟩ := h
  have HG := Lib.hid hg
  have HO := Lib.hid hown
  have hnI : (m.now : Int) = 5 := by omega
  rw [hnI] at hg
  have c0 := m4_0 hg
  have c1 := m4_1 hg
  have c2 := m4_2 hg
  have c3 := m4_3 hg
  have f0 := m4_f hg 0
  have HP := Lib.hid (put16_one b m c w HM.out h1 hl)
  clear hg hown hnI hn
  go_enter Tryd.func17, Tryd.ntmps17
  go_wp2_with (first
    | (go_at_call 23; (with_reducible refine (HP.out).mono ?_); rintro e1 w1 ⟨rfl, hm1, hb1⟩; have HM1 := Lib.hid hm1; have HB1 := Lib.hid hb1; clear hm1 hb1)
    | fail)
  go_ret
  exact ⟨rfl, HM1.out, HB1.out⟩

set_option maxHeartbeats 8000000 in
set_option maxRecDepth 100000 in
theorem take_5b (b : Nat) (m : Mc) (c : UInt8) (w : World) (h : MB b m w) (hn : m.now = 5) (h1 : 1 < m.size) (h2 : m.size ≤ 65535) (hl : m.body.length ≤ 8192) :
    Calls Tryd.prog 17 #[.pointer (some ⟨b, 0, none⟩), .int .u8 (c.toNat : Int)] w fun e w' => e = .returned (.int .i64 0) ∧ MB b { m with size := m.size - 1, body := m.body ++ [c] } w' ∧ Below b w w' := by
  have HM := Lib.hid h
  obtain ⟨v, hg, hown⟩ := h
  have HG := Lib.hid hg
  have HO := Lib.hid hown
  have hnI : (m.now : Int) = 5 := by omega
  rw [hnI] at hg
  have c0 := m4_0 hg
  have c1 := m4_1 hg
  have c2 := m4_2 hg
  have c3 := m4_3 hg
  have f0 := m4_f hg 0
  have HP := Lib.hid (put16_more b m c w HM.out h1 h2 hl)
  clear hg hown hnI hn
  go_enter Tryd.func17, Tryd.ntmps17
  go_wp2_with (first
    | (go_at_call 23; (with_reducible refine (HP.out).mono ?_); rintro e1 w1 ⟨rfl, hm1, hb1⟩; have HM1 := Lib.hid hm1; have HB1 := Lib.hid hb1; clear hm1 hb1)
    | fail)
  go_ret
  exact ⟨rfl, HM1.out, HB1.out⟩

end Hx
end Go.Proofs.YtphakhklhicolaaDoor
