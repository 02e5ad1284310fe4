/-
  Texts of one seat, put together: LeaM, LeaN, LeaO, LexB, LexWr.
-/
import Derived.Test.YtbjgfaflikgobaaGreatDoorH09
import Derived.Test.YtbjgfaflikgobaaGreatDoorH07
import Derived.Test.YtbjgfaflikgobaaGreatDoorH08
import Derived.Test.YtbjgfaflikgobaaGreatDoorH06
import Derived.Deep.LoopGhost
import Derived.Laws.AppendOwnNone
namespace Go.Proofs.YtbjgfaflikgobaaGreatDoor
open Go.RowKit
namespace Hx
open Lx Tx Nmb Es
set_option linter.unusedVariables false
set_option maxHeartbeats 4000000 in
set_option maxRecDepth 100000 in
theorem mayq_1 (t : Tk) (x u : ByteArray) (A : Option Addr) (cp : Nat) (w : World) (ht : TkAt t x u A cp w) (hk : t.kind = 1) (q : Bool) (h : mayT t = q) :
    Calls Tryz.prog 88 #[TkV t x u A cp] w fun e w' => e = .returned (.bool q) ∧ Below w.heap.size w w' := by
  have HB : Hid (∀ o, Below w.heap.size w (w.alloc o)) := Lib.hid fun o => (Below.refl _ _).alloc (Nat.le_refl _) o
  have HTK : Hid (∀ W, Below w.heap.size w W → TkAt t x u A cp W) := Lib.hid fun W hW => ht.on hW
  have HN : Hid (x.size ≤ 1000000) := ht.ns
  have HU : Hid (u.size ≤ 1000000) := ht.us
  unfold mayT at h
  rw [if_pos (by rw [hk]; decide)] at h
  obtain ⟨n, hn⟩ : ∃ n, t.attrs.length = n := ⟨_, rfl⟩
  have HNL := Lib.hid hn
  obtain ⟨ff, hf⟩ : ∃ ff, fullL x.data.toList = ff := ⟨_, rfl⟩
  obtain ⟨aa, ha⟩ : ∃ aa, attrsOk t.attrs = aa := ⟨_, rfl⟩
  obtain ⟨ee, hue⟩ : ∃ ee, u.toList.isEmpty = ee := ⟨_, rfl⟩
  rw [← ht.name, hf, ha, ← ht.text, ← emp_l, hue] at h
  have HF := Lib.hid hf
  have HA := Lib.hid ha
  unfold TkV
  rw [hk, hn]
  clear ht hf ha hn hk
  cases ff with
  | false =>
    obtain rfl : false = q := h
    go_enter Tryz.func88, Tryz.ntmps88
    go_wp2_with (first
      | (go_at_call 119; (with_reducible refine (full9q x _ HN.out false HF.out).mono ?_); rintro e1 w1 ⟨rfl, hb1⟩; have HB1 : Hid (Below w.heap.size w w1) := Lib.hid (stp (HB.out _) hb1); have c2 := (box_cell hb1 2 (.slice A n cp) rfl).1; have c3 := (box_cell hb1 3 (.string u) rfl).1; have hlt1 := (box_cell hb1 3 (.string u) rfl).2; clear hb1)
      | fail)
    go_ret
    exact ⟨rfl, HB1.out⟩
  | true =>
    cases aa with
    | false =>
      obtain rfl : false = q := h
      go_enter Tryz.func88, Tryz.ntmps88
      go_wp2_with (first
        | (go_at_call 119; (with_reducible refine (full9q x _ HN.out true HF.out).mono ?_); rintro e1 w1 ⟨rfl, hb1⟩; have HB1 : Hid (Below w.heap.size w w1) := Lib.hid (stp (HB.out _) hb1); have c2 := (box_cell hb1 2 (.slice A n cp) rfl).1; have c3 := (box_cell hb1 3 (.string u) rfl).1; have hlt1 := (box_cell hb1 3 (.string u) rfl).2; clear hb1)
        | (go_at_call 121; (with_reducible refine (mayA9q A n cp t.attrs _ (HTK.out _ HB1.out).attrs HNL.out (HNL.out ▸ (HTK.out _ HB1.out).le) (HNL.out ▸ (HTK.out _ HB1.out).al) (HTK.out _ HB1.out).sz false HA.out).mono ?_); rintro e2 w2 ⟨rfl, hb2⟩; have HB2 : Hid (Below w.heap.size w w2) := Lib.hid (stp HB1.out hb2); have d3 := (hb2.cell (p := ⟨w.heap.size, 3, none⟩) hlt1).trans c3; clear hb2)
        | fail)
      go_ret
      exact ⟨rfl, HB2.out⟩
    | true =>
      obtain rfl : ee = q := h
      go_enter Tryz.func88, Tryz.ntmps88
      go_wp2_with (first
        | (go_at_call 119; (with_reducible refine (full9q x _ HN.out true HF.out).mono ?_); rintro e1 w1 ⟨rfl, hb1⟩; have HB1 : Hid (Below w.heap.size w w1) := Lib.hid (stp (HB.out _) hb1); have c2 := (box_cell hb1 2 (.slice A n cp) rfl).1; have c3 := (box_cell hb1 3 (.string u) rfl).1; have hlt1 := (box_cell hb1 3 (.string u) rfl).2; clear hb1)
        | (go_at_call 121; (with_reducible refine (mayA9q A n cp t.attrs _ (HTK.out _ HB1.out).attrs HNL.out (HNL.out ▸ (HTK.out _ HB1.out).le) (HNL.out ▸ (HTK.out _ HB1.out).al) (HTK.out _ HB1.out).sz true HA.out).mono ?_); rintro e2 w2 ⟨rfl, hb2⟩; have HB2 : Hid (Below w.heap.size w w2) := Lib.hid (stp HB1.out hb2); have d3 := (hb2.cell (p := ⟨w.heap.size, 3, none⟩) hlt1).trans c3; clear hb2)
        | fail)
      go_ret
      exact ⟨rfl, HB2.out⟩
set_option maxHeartbeats 4000000 in
set_option maxRecDepth 100000 in
theorem mayq_3 (t : Tk) (x u : ByteArray) (A : Option Addr) (cp : Nat) (w : World) (ht : TkAt t x u A cp w) (hk : t.kind = 3) (q : Bool) (h : mayT t = q) :
    Calls Tryz.prog 88 #[TkV t x u A cp] w fun e w' => e = .returned (.bool q) ∧ Below w.heap.size w w' := by
  have HB : Hid (∀ o, Below w.heap.size w (w.alloc o)) := Lib.hid fun o => (Below.refl _ _).alloc (Nat.le_refl _) o
  have HTK : Hid (∀ W, Below w.heap.size w W → TkAt t x u A cp W) := Lib.hid fun W hW => ht.on hW
  have HN : Hid (x.size ≤ 1000000) := ht.ns
  have HU : Hid (u.size ≤ 1000000) := ht.us
  unfold mayT at h
  rw [if_pos (by rw [hk]; decide)] at h
  obtain ⟨n, hn⟩ : ∃ n, t.attrs.length = n := ⟨_, rfl⟩
  have HNL := Lib.hid hn
  obtain ⟨ff, hf⟩ : ∃ ff, fullL x.data.toList = ff := ⟨_, rfl⟩
  obtain ⟨aa, ha⟩ : ∃ aa, attrsOk t.attrs = aa := ⟨_, rfl⟩
  obtain ⟨ee, hue⟩ : ∃ ee, u.toList.isEmpty = ee := ⟨_, rfl⟩
  rw [← ht.name, hf, ha, ← ht.text, ← emp_l, hue] at h
  have HF := Lib.hid hf
  have HA := Lib.hid ha
  unfold TkV
  rw [hk, hn]
  clear ht hf ha hn hk
  cases ff with
  | false =>
    obtain rfl : false = q := h
    go_enter Tryz.func88, Tryz.ntmps88
    go_wp2_with (first
      | (go_at_call 119; (with_reducible refine (full9q x _ HN.out false HF.out).mono ?_); rintro e1 w1 ⟨rfl, hb1⟩; have HB1 : Hid (Below w.heap.size w w1) := Lib.hid (stp (HB.out _) hb1); have c2 := (box_cell hb1 2 (.slice A n cp) rfl).1; have c3 := (box_cell hb1 3 (.string u) rfl).1; have hlt1 := (box_cell hb1 3 (.string u) rfl).2; clear hb1)
      | fail)
    go_ret
    exact ⟨rfl, HB1.out⟩
  | true =>
    cases aa with
    | false =>
      obtain rfl : false = q := h
      go_enter Tryz.func88, Tryz.ntmps88
      go_wp2_with (first
        | (go_at_call 119; (with_reducible refine (full9q x _ HN.out true HF.out).mono ?_); rintro e1 w1 ⟨rfl, hb1⟩; have HB1 : Hid (Below w.heap.size w w1) := Lib.hid (stp (HB.out _) hb1); have c2 := (box_cell hb1 2 (.slice A n cp) rfl).1; have c3 := (box_cell hb1 3 (.string u) rfl).1; have hlt1 := (box_cell hb1 3 (.string u) rfl).2; clear hb1)
        | (go_at_call 121; (with_reducible refine (mayA9q A n cp t.attrs _ (HTK.out _ HB1.out).attrs HNL.out (HNL.out ▸ (HTK.out _ HB1.out).le) (HNL.out ▸ (HTK.out _ HB1.out).al) (HTK.out _ HB1.out).sz false HA.out).mono ?_); rintro e2 w2 ⟨rfl, hb2⟩; have HB2 : Hid (Below w.heap.size w w2) := Lib.hid (stp HB1.out hb2); have d3 := (hb2.cell (p := ⟨w.heap.size, 3, none⟩) hlt1).trans c3; clear hb2)
        | fail)
      go_ret
      exact ⟨rfl, HB2.out⟩
    | true =>
      obtain rfl : ee = q := h
      go_enter Tryz.func88, Tryz.ntmps88
      go_wp2_with (first
        | (go_at_call 119; (with_reducible refine (full9q x _ HN.out true HF.out).mono ?_); rintro e1 w1 ⟨rfl, hb1⟩; have HB1 : Hid (Below w.heap.size w w1) := Lib.hid (stp (HB.out _) hb1); have c2 := (box_cell hb1 2 (.slice A n cp) rfl).1; have c3 := (box_cell hb1 3 (.string u) rfl).1; have hlt1 := (box_cell hb1 3 (.string u) rfl).2; clear hb1)
        | (go_at_call 121; (with_reducible refine (mayA9q A n cp t.attrs _ (HTK.out _ HB1.out).attrs HNL.out (HNL.out ▸ (HTK.out _ HB1.out).le) (HNL.out ▸ (HTK.out _ HB1.out).al) (HTK.out _ HB1.out).sz true HA.out).mono ?_); rintro e2 w2 ⟨rfl, hb2⟩; have HB2 : Hid (Below w.heap.size w w2) := Lib.hid (stp HB1.out hb2); have d3 := (hb2.cell (p := ⟨w.heap.size, 3, none⟩) hlt1).trans c3; clear hb2)
        | fail)
      go_ret
      exact ⟨rfl, HB2.out⟩
set_option maxHeartbeats 4000000 in
set_option maxRecDepth 100000 in
theorem mayq_2 (t : Tk) (x u : ByteArray) (A : Option Addr) (cp : Nat) (w : World) (ht : TkAt t x u A cp w) (hk : t.kind = 2) (q : Bool) (h : mayT t = q) :
    Calls Tryz.prog 88 #[TkV t x u A cp] w fun e w' => e = .returned (.bool q) ∧ Below w.heap.size w w' := by
  have HB : Hid (∀ o, Below w.heap.size w (w.alloc o)) := Lib.hid fun o => (Below.refl _ _).alloc (Nat.le_refl _) o
  have HTK : Hid (∀ W, Below w.heap.size w W → TkAt t x u A cp W) := Lib.hid fun W hW => ht.on hW
  have HN : Hid (x.size ≤ 1000000) := ht.ns
  have HU : Hid (u.size ≤ 1000000) := ht.us
  unfold mayT at h
  rw [if_neg (by rw [hk]; decide), if_pos hk] at h
  obtain ⟨n, hn⟩ : ∃ n, t.attrs.length = n := ⟨_, rfl⟩
  obtain ⟨ff, hf⟩ : ∃ ff, fullL x.data.toList = ff := ⟨_, rfl⟩
  obtain ⟨ee, hue⟩ : ∃ ee, u.toList.isEmpty = ee := ⟨_, rfl⟩
  have h0 : t.attrs.isEmpty = decide (n = 0) := by rw [← hn, Bool.eq_iff_iff, List.isEmpty_iff, decide_eq_true_eq, List.length_eq_zero_iff]
  rw [← ht.name, hf, h0, ← ht.text, ← emp_l, hue] at h
  have HF := Lib.hid hf
  unfold TkV
  rw [hk, hn]
  clear ht hf hn hk h0
  cases ff with
  | false =>
    obtain rfl : false = q := h
    go_enter Tryz.func88, Tryz.ntmps88
    go_wp2_with (first
      | (go_at_call 119; (with_reducible refine (full9q x _ HN.out false HF.out).mono ?_); rintro e1 w1 ⟨rfl, hb1⟩; have HB1 : Hid (Below w.heap.size w w1) := Lib.hid (stp (HB.out _) hb1); have c2 := (box_cell hb1 2 (.slice A n cp) rfl).1; have c3 := (box_cell hb1 3 (.string u) rfl).1; have hlt1 := (box_cell hb1 3 (.string u) rfl).2; clear hb1)
      | fail)
    go_ret
    exact ⟨rfl, HB1.out⟩
  | true =>
    by_cases e0 : n = 0
    · subst e0
      obtain rfl : ee = q := h
      go_enter Tryz.func88, Tryz.ntmps88
      go_wp2_with (first
        | (go_at_call 119; (with_reducible refine (full9q x _ HN.out true HF.out).mono ?_); rintro e1 w1 ⟨rfl, hb1⟩; have HB1 : Hid (Below w.heap.size w w1) := Lib.hid (stp (HB.out _) hb1); have c2 := (box_cell hb1 2 (.slice A 0 cp) rfl).1; have c3 := (box_cell hb1 3 (.string u) rfl).1; have hlt1 := (box_cell hb1 3 (.string u) rfl).2; clear hb1)
        | fail)
      go_ret
      exact ⟨rfl, HB1.out⟩
    · rw [decide_eq_false e0] at h
      obtain rfl : false = q := h
      have g0 : ((n : Int) == 0) = false := by simp; omega
      go_enter Tryz.func88, Tryz.ntmps88
      go_wp2_with (first
        | (go_at_call 119; (with_reducible refine (full9q x _ HN.out true HF.out).mono ?_); rintro e1 w1 ⟨rfl, hb1⟩; have HB1 : Hid (Below w.heap.size w w1) := Lib.hid (stp (HB.out _) hb1); have c2 := (box_cell hb1 2 (.slice A n cp) rfl).1; have c3 := (box_cell hb1 3 (.string u) rfl).1; have hlt1 := (box_cell hb1 3 (.string u) rfl).2; clear hb1)
        | fail)
      go_ret
      exact ⟨rfl, HB1.out⟩
set_option maxHeartbeats 4000000 in
set_option maxRecDepth 100000 in
theorem mayq_4 (t : Tk) (x u : ByteArray) (A : Option Addr) (cp : Nat) (w : World) (ht : TkAt t x u A cp w) (hk : t.kind = 4) (q : Bool) (h : mayT t = q) :
    Calls Tryz.prog 88 #[TkV t x u A cp] w fun e w' => e = .returned (.bool q) ∧ Below w.heap.size w w' := by
  have HB : Hid (∀ o, Below w.heap.size w (w.alloc o)) := Lib.hid fun o => (Below.refl _ _).alloc (Nat.le_refl _) o
  have HTK : Hid (∀ W, Below w.heap.size w W → TkAt t x u A cp W) := Lib.hid fun W hW => ht.on hW
  have HN : Hid (x.size ≤ 1000000) := ht.ns
  have HU : Hid (u.size ≤ 1000000) := ht.us
  unfold mayT at h
  rw [if_neg (by rw [hk]; decide), if_neg (by rw [hk]; decide), if_pos hk] at h
  obtain ⟨n, hn⟩ : ∃ n, t.attrs.length = n := ⟨_, rfl⟩
  obtain ⟨xe, hxe⟩ : ∃ xe, x.toList.isEmpty = xe := ⟨_, rfl⟩
  obtain ⟨ue, hue⟩ : ∃ ue, u.toList.isEmpty = ue := ⟨_, rfl⟩
  have h0 : t.attrs.isEmpty = decide (n = 0) := by rw [← hn, Bool.eq_iff_iff, List.isEmpty_iff, decide_eq_true_eq, List.length_eq_zero_iff]
  obtain ⟨ok, hok⟩ : ∃ ok, okT u.data.toList = ok := ⟨_, rfl⟩
  have hok2 := hok
  rw [ht.text] at hok2
  rw [hok2] at h
  rw [← ht.name, ← emp_l, hxe, h0, ← ht.text, ← emp_l, hue] at h
  unfold TkV
  rw [hk, hn]
  clear ht hn hk h0 hok2
  cases xe with
  | false =>
    obtain rfl : false = q := h
    go_enter Tryz.func88, Tryz.ntmps88
    go_wp2_with fail
    go_ret
    exact ⟨rfl, HB.out _⟩
  | true =>
    by_cases e0 : n = 0
    · subst e0
      cases ue with
      | true =>
        obtain rfl : false = q := h
        go_enter Tryz.func88, Tryz.ntmps88
        go_wp2_with fail
        go_ret
        exact ⟨rfl, HB.out _⟩
      | false =>
        obtain rfl : ok = q := h
        cases ok with
        | true =>
          have HC : Hid (chkE u = 0) := Lib.hid (chk9_ok hok)
          clear hok
          go_enter Tryz.func88, Tryz.ntmps88
          go_wp2_with (first
            | (go_at_call 63; (with_reducible refine (check5 u _ HU.out 0 HC.out).mono ?_); rintro e1 w1 ⟨rfl, hb1⟩; have HB1 : Hid (Below w.heap.size w w1) := Lib.hid (stp (HB.out _) hb1); clear hb1)
            | fail)
          go_ret
          exact ⟨rfl, HB1.out⟩
        | false =>
          obtain ⟨er, her⟩ : ∃ er, chkE u = er := ⟨_, rfl⟩
          have HC := Lib.hid her
          have g0 : (er == 0) = false := by rw [← her]; simpa using chk9_bad hok
          clear hok her
          go_enter Tryz.func88, Tryz.ntmps88
          go_wp2_with (first
            | (go_at_call 63; (with_reducible refine (check5 u _ HU.out er HC.out).mono ?_); rintro e1 w1 ⟨rfl, hb1⟩; have HB1 : Hid (Below w.heap.size w w1) := Lib.hid (stp (HB.out _) hb1); clear hb1)
            | fail)
          go_ret
          exact ⟨rfl, HB1.out⟩
    · rw [decide_eq_false e0] at h
      obtain rfl : false = q := h
      have g0 : ((n : Int) == 0) = false := by simp; omega
      go_enter Tryz.func88, Tryz.ntmps88
      go_wp2_with fail
      go_ret
      exact ⟨rfl, HB.out _⟩
set_option maxHeartbeats 4000000 in
set_option maxRecDepth 100000 in
theorem mayq_no (t : Tk) (x u : ByteArray) (A : Option Addr) (cp : Nat) (w : World) (ht : TkAt t x u A cp w) (h1 : t.kind ≠ 1) (h2 : t.kind ≠ 2) (h3 : t.kind ≠ 3) (h4 : t.kind ≠ 4) (q : Bool) (h : mayT t = q) :
    Calls Tryz.prog 88 #[TkV t x u A cp] w fun e w' => e = .returned (.bool q) ∧ Below w.heap.size w w' := by
  have HB : Hid (∀ o, Below w.heap.size w (w.alloc o)) := Lib.hid fun o => (Below.refl _ _).alloc (Nat.le_refl _) o
  have HTK : Hid (∀ W, Below w.heap.size w W → TkAt t x u A cp W) := Lib.hid fun W hW => ht.on hW
  have HN : Hid (x.size ≤ 1000000) := ht.ns
  have HU : Hid (u.size ≤ 1000000) := ht.us
  unfold mayT at h
  rw [if_neg (fun e => e.elim h1 h3), if_neg h2, if_neg h4] at h
  obtain rfl : false = q := h
  obtain ⟨z, hz⟩ : ∃ z : Int, (t.kind : Int) = z := ⟨_, rfl⟩
  have g1 : ¬ z = 1 := by omega
  have g2 : ¬ z = 2 := by omega
  have g3 : ¬ z = 3 := by omega
  have g4 : ¬ z = 4 := by omega
  unfold TkV
  rw [hz]
  clear ht hz h1 h2 h3 h4
  go_enter Tryz.func88, Tryz.ntmps88
  go_wp2_with fail
  go_ret
  exact ⟨rfl, HB.out _⟩
theorem may9q (t : Tk) (x u : ByteArray) (A : Option Addr) (cp : Nat) (w : World) (ht : TkAt t x u A cp w) (q : Bool) (h : mayT t = q) :
    Calls Tryz.prog 88 #[TkV t x u A cp] w fun e w' => e = .returned (.bool q) ∧ Below w.heap.size w w' := by
  by_cases h1 : t.kind = 1
  · exact mayq_1 t x u A cp w ht h1 q h
  by_cases h2 : t.kind = 2
  · exact mayq_2 t x u A cp w ht h2 q h
  by_cases h3 : t.kind = 3
  · exact mayq_3 t x u A cp w ht h3 q h
  by_cases h4 : t.kind = 4
  · exact mayq_4 t x u A cp w ht h4 q h
  exact mayq_no t x u A cp w ht h1 h2 h3 h4 q h
set_option maxRecDepth 100000 in
theorem check9q (t : Tk) (x u : ByteArray) (A : Option Addr) (cp : Nat) (w : World) (ht : TkAt t x u A cp w) (q : Int) (h : checkR t = q) :
    Calls Tryz.prog 54 #[TkV t x u A cp] w fun e w' => e = .returned (.int .i64 q) ∧ Below w.heap.size w w' := by
  unfold checkR at h
  obtain ⟨b, hb⟩ : ∃ b, mayT t = b := ⟨_, rfl⟩
  have HC : Hid (∀ W, Below w.heap.size w W → Calls Tryz.prog 88 #[TkV t x u A cp] W fun e w' => e = .returned (.bool b) ∧ Below W.heap.size W w') := Lib.hid fun W hW => may9q t x u A cp W (ht.on hW) b hb
  have HB : Hid (∀ o, Below w.heap.size w (w.alloc o)) := Lib.hid fun o => (Below.refl _ _).alloc (Nat.le_refl _) o
  rw [hb] at h
  unfold TkV at HC ⊢
  clear hb ht
  cases b <;> (
    subst h
    go_enter Tryz.func54, Tryz.ntmps54
    go_wp2_with (first
      | (go_at_call 88; (with_reducible refine (HC.out _ (HB.out _)).mono ?_); rintro e1 w1 ⟨rfl, hb1⟩)
      | fail)
    go_ret
    exact ⟨rfl, stp (HB.out _) hb1⟩)
end Hx
end Go.Proofs.YtbjgfaflikgobaaGreatDoor
namespace Go.Proofs.YtbjgfaflikgobaaGreatDoor
open Go.RowKit
namespace Hx
open Lx Tx Nmb Es
set_option linter.unusedVariables false
/-- Is what an attribute's value is written as short enough? A token's texts? -/
def fitP (p : Pr) : Bool := decide ((escL true p.value).length ≤ 16384)
def fitT (t : Tk) : Bool := if t.kind = 4 then decide ((escL false t.text).length ≤ 16384) else t.attrs.all fitP
/-- What may be known of a token that is to be written. -/
structure PutAt (t : Tk) (x u : ByteArray) (A : Option Addr) (cp : Nat) (B : Nat) (w : World) : Prop where
  name : x.data.toList = t.name
  text : u.data.toList = t.text
  attrs : RdC PrC w B A t.attrs
  le : t.attrs.length ≤ cp
  ns : x.size ≤ 1000000
  us : u.size ≤ 1000000
  sz : ∀ p ∈ t.attrs, p.name.length ≤ 1000000 ∧ p.value.length ≤ 1000000
  may : mayT t = true
end Hx
end Go.Proofs.YtbjgfaflikgobaaGreatDoor
namespace Go.Proofs.YtbjgfaflikgobaaGreatDoor
open Go.RowKit
namespace Hx
open Lx Tx Nmb Es
set_option linter.unusedVariables false
/-- Was the token ahead of place k a text? -/
def wasT (l : List Tk) : Nat → Bool
  | 0 => false
  | k + 1 => match l[k]? with | some t => decide (t.kind = 4) | none => false
end Hx
end Go.Proofs.YtbjgfaflikgobaaGreatDoor
namespace Go.Proofs.YtbjgfaflikgobaaGreatDoor
open Go.RowKit
namespace Hx
open Lx Tx Nmb Es
set_option linter.unusedVariables false
/-- Tokens that a call answers: where they lie. -/
def TkIn (ts : List Tk) (A : Option Addr) (c : Nat) (w : World) : Prop := RdC TkC w w.heap.size A ts ∧ ts.length ≤ c ∧ c ≤ maxLen ∧ (A = none → c = 0)
theorem TkIn.on {ts : List Tk} {A : Option Addr} {c : Nat} {w w' : World} (h : TkIn ts A c w) (hb : Below w.heap.size w w') : TkIn ts A c w' := ⟨h.1.on hb, h.2⟩
end Hx
end Go.Proofs.YtbjgfaflikgobaaGreatDoor
namespace Go.Proofs.YtbjgfaflikgobaaGreatDoor
open Go.RowKit
namespace Hx
open Lx Tx Nmb Es
set_option linter.unusedVariables false
def pbOf (p : Pr) : PB := (⟨p.name.toArray⟩, ⟨p.value.toArray⟩)
end Hx
end Go.Proofs.YtbjgfaflikgobaaGreatDoor
