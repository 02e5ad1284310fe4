/-
  Texts of one seat, put together: LeaM, LeaN, LeaO, LexB, LexWr, MemE.
-/
import Derived.Test.YtlhjcdkkmloamaaGreatDoorSp08
import Derived.Test.YtlhjcdkkmloamaaGreatDoorSp06
import Derived.Test.YtlhjcdkkmloamaaGreatDoorSp07
import Derived.Test.YtlhjcdkkmloamaaGreatDoorSp05
import Derived.Deep.LoopGhost
import Derived.Laws.AppendOwnNone
import Derived.Test.YtlhjcdkkmloamaaGreatDoorSp02
import Derived.Maps.AppendAt
import Derived.Deep.AppendLies
set_option linter.unusedSimpArgs false
namespace Go.Proofs.YtlhjcdkkmloamaaGreatDoor
open Go.RowKit
namespace Hx
open Lx Tx Nmb Es
set_option maxRecDepth 100000
set_option maxHeartbeats 16000000
set_option linter.unusedVariables false
theorem mayq_1 (t : Tk) (x u : ByteArray) (A : Option Addr) (cp : Nat) (w : World) (ht : TkAt t x u A cp w) (hk : t.kind = 1) (q : Bool) (h : mayT t = q) :
    Calls Tryz.prog 74 #[TkV t x u A cp] w fun e w' => e = .returned (.bool q) ∧ Below w.heap.size w w' := by
  have HB : Hid (∀ o, Below w.heap.size w (w.alloc o)) := Lib.hid fun o => (Below.refl _ _).alloc (Nat.le_refl _) o
  have HTK : Hid (∀ W, Below w.heap.size w W → TkAt t x u A cp W) := Lib.hid fun W hW => ht.on hW
  have HN : Hid (x.size ≤ 1000000) := ht.ns
  have HU : Hid (u.size ≤ 1000000) := ht.us
  unfold mayT at h
  rw [if_pos (by rw [hk]; decide)] at h
  obtain ⟨n, hn⟩ : ∃ n, t.attrs.length = n := ⟨_, rfl⟩
  have HNL := Lib.hid hn
  obtain ⟨ff, hf⟩ : ∃ ff, fullL x.data.toList = ff := ⟨_, rfl⟩
  obtain ⟨aa, ha⟩ : ∃ aa, attrsOk t.attrs = aa := ⟨_, rfl⟩
  obtain ⟨ee, hue⟩ : ∃ ee, u.toList.isEmpty = ee := ⟨_, rfl⟩
  rw [← ht.name, hf, ha, ← ht.text, ← emp_l, hue] at h
  have HF := Lib.hid hf
  have HA := Lib.hid ha
  unfold TkV
  rw [hk, hn]
  clear ht hf ha hn hk
  cases ff with
  | false =>
    obtain rfl : false = q := h
    go_enter Tryz.func74, Tryz.ntmps74
    go_wp2_with (first
      | (go_at_call 65; (with_reducible refine (full9q x _ HN.out false HF.out).mono ?_); rintro e1 w1 ⟨rfl, hb1⟩; have HB1 : Hid (Below w.heap.size w w1) := Lib.hid (stp (HB.out _) hb1); have c2 := (box_cell hb1 2 (.slice A n cp) rfl).1; have c3 := (box_cell hb1 3 (.string u) rfl).1; have hlt1 := (box_cell hb1 3 (.string u) rfl).2; clear hb1)
      | fail)
    go_ret
    exact ⟨rfl, HB1.out⟩
  | true =>
    cases aa with
    | false =>
      obtain rfl : false = q := h
      go_enter Tryz.func74, Tryz.ntmps74
      go_wp2_with (first
        | (go_at_call 65; (with_reducible refine (full9q x _ HN.out true HF.out).mono ?_); rintro e1 w1 ⟨rfl, hb1⟩; have HB1 : Hid (Below w.heap.size w w1) := Lib.hid (stp (HB.out _) hb1); have c2 := (box_cell hb1 2 (.slice A n cp) rfl).1; have c3 := (box_cell hb1 3 (.string u) rfl).1; have hlt1 := (box_cell hb1 3 (.string u) rfl).2; clear hb1)
        | (go_at_call 91; (with_reducible refine (mayA9q A n cp t.attrs _ (HTK.out _ HB1.out).attrs HNL.out (HNL.out ▸ (HTK.out _ HB1.out).le) (HNL.out ▸ (HTK.out _ HB1.out).al) (HTK.out _ HB1.out).sz false HA.out).mono ?_); rintro e2 w2 ⟨rfl, hb2⟩; have HB2 : Hid (Below w.heap.size w w2) := Lib.hid (stp HB1.out hb2); have d3 := (hb2.cell (p := ⟨w.heap.size, 3, none⟩) hlt1).trans c3; clear hb2)
        | fail)
      go_ret
      exact ⟨rfl, HB2.out⟩
    | true =>
      obtain rfl : ee = q := h
      go_enter Tryz.func74, Tryz.ntmps74
      go_wp2_with (first
        | (go_at_call 65; (with_reducible refine (full9q x _ HN.out true HF.out).mono ?_); rintro e1 w1 ⟨rfl, hb1⟩; have HB1 : Hid (Below w.heap.size w w1) := Lib.hid (stp (HB.out _) hb1); have c2 := (box_cell hb1 2 (.slice A n cp) rfl).1; have c3 := (box_cell hb1 3 (.string u) rfl).1; have hlt1 := (box_cell hb1 3 (.string u) rfl).2; clear hb1)
        | (go_at_call 91; (with_reducible refine (mayA9q A n cp t.attrs _ (HTK.out _ HB1.out).attrs HNL.out (HNL.out ▸ (HTK.out _ HB1.out).le) (HNL.out ▸ (HTK.out _ HB1.out).al) (HTK.out _ HB1.out).sz true HA.out).mono ?_); rintro e2 w2 ⟨rfl, hb2⟩; have HB2 : Hid (Below w.heap.size w w2) := Lib.hid (stp HB1.out hb2); have d3 := (hb2.cell (p := ⟨w.heap.size, 3, none⟩) hlt1).trans c3; clear hb2)
        | fail)
      go_ret
      exact ⟨rfl, HB2.out⟩
theorem mayq_3 (t : Tk) (x u : ByteArray) (A : Option Addr) (cp : Nat) (w : World) (ht : TkAt t x u A cp w) (hk : t.kind = 3) (q : Bool) (h : mayT t = q) :
    Calls Tryz.prog 74 #[TkV t x u A cp] w fun e w' => e = .returned (.bool q) ∧ Below w.heap.size w w' := by
  have HB : Hid (∀ o, Below w.heap.size w (w.alloc o)) := Lib.hid fun o => (Below.refl _ _).alloc (Nat.le_refl _) o
  have HTK : Hid (∀ W, Below w.heap.size w W → TkAt t x u A cp W) := Lib.hid fun W hW => ht.on hW
  have HN : Hid (x.size ≤ 1000000) := ht.ns
  have HU : Hid (u.size ≤ 1000000) := ht.us
  unfold mayT at h
  rw [if_pos (by rw [hk]; decide)] at h
  obtain ⟨n, hn⟩ : ∃ n, t.attrs.length = n := ⟨_, rfl⟩
  have HNL := Lib.hid hn
  obtain ⟨ff, hf⟩ : ∃ ff, fullL x.data.toList = ff := ⟨_, rfl⟩
  obtain ⟨aa, ha⟩ : ∃ aa, attrsOk t.attrs = aa := ⟨_, rfl⟩
  obtain ⟨ee, hue⟩ : ∃ ee, u.toList.isEmpty = ee := ⟨_, rfl⟩
  rw [← ht.name, hf, ha, ← ht.text, ← emp_l, hue] at h
  have HF := Lib.hid hf
  have HA := Lib.hid ha
  unfold TkV
  rw [hk, hn]
  clear ht hf ha hn hk
  cases ff with
  | false =>
    obtain rfl : false = q := h
    go_enter Tryz.func74, Tryz.ntmps74
    go_wp2_with (first
      | (go_at_call 65; (with_reducible refine (full9q x _ HN.out false HF.out).mono ?_); rintro e1 w1 ⟨rfl, hb1⟩; have HB1 : Hid (Below w.heap.size w w1) := Lib.hid (stp (HB.out _) hb1); have c2 := (box_cell hb1 2 (.slice A n cp) rfl).1; have c3 := (box_cell hb1 3 (.string u) rfl).1; have hlt1 := (box_cell hb1 3 (.string u) rfl).2; clear hb1)
      | fail)
    go_ret
    exact ⟨rfl, HB1.out⟩
  | true =>
    cases aa with
    | false =>
      obtain rfl : false = q := h
      go_enter Tryz.func74, Tryz.ntmps74
      go_wp2_with (first
        | (go_at_call 65; (with_reducible refine (full9q x _ HN.out true HF.out).mono ?_); rintro e1 w1 ⟨rfl, hb1⟩; have HB1 : Hid (Below w.heap.size w w1) := Lib.hid (stp (HB.out _) hb1); have c2 := (box_cell hb1 2 (.slice A n cp) rfl).1; have c3 := (box_cell hb1 3 (.string u) rfl).1; have hlt1 := (box_cell hb1 3 (.string u) rfl).2; clear hb1)
        | (go_at_call 91; (with_reducible refine (mayA9q A n cp t.attrs _ (HTK.out _ HB1.out).attrs HNL.out (HNL.out ▸ (HTK.out _ HB1.out).le) (HNL.out ▸ (HTK.out _ HB1.out).al) (HTK.out _ HB1.out).sz false HA.out).mono ?_); rintro e2 w2 ⟨rfl, hb2⟩; have HB2 : Hid (Below w.heap.size w w2) := Lib.hid (stp HB1.out hb2); have d3 := (hb2.cell (p := ⟨w.heap.size, 3, none⟩) hlt1).trans c3; clear hb2)
        | fail)
      go_ret
      exact ⟨rfl, HB2.out⟩
    | true =>
      obtain rfl : ee = q := h
      go_enter Tryz.func74, Tryz.ntmps74
      go_wp2_with (first
        | (go_at_call 65; (with_reducible refine (full9q x _ HN.out true HF.out).mono ?_); rintro e1 w1 ⟨rfl, hb1⟩; have HB1 : Hid (Below w.heap.size w w1) := Lib.hid (stp (HB.out _) hb1); have c2 := (box_cell hb1 2 (.slice A n cp) rfl).1; have c3 := (box_cell hb1 3 (.string u) rfl).1; have hlt1 := (box_cell hb1 3 (.string u) rfl).2; clear hb1)
        | (go_at_call 91; (with_reducible refine (mayA9q A n cp t.attrs _ (HTK.out _ HB1.out).attrs HNL.out (HNL.out ▸ (HTK.out _ HB1.out).le) (HNL.out ▸ (HTK.out _ HB1.out).al) (HTK.out _ HB1.out).sz true HA.out).mono ?_); rintro e2 w2 ⟨rfl, hb2⟩; have HB2 : Hid (Below w.heap.size w w2) := Lib.hid (stp HB1.out hb2); have d3 := (hb2.cell (p := ⟨w.heap.size, 3, none⟩) hlt1).trans c3; clear hb2)
        | fail)
      go_ret
      exact ⟨rfl, HB2.out⟩
theorem mayq_2 (t : Tk) (x u : ByteArray) (A : Option Addr) (cp : Nat) (w : World) (ht : TkAt t x u A cp w) (hk : t.kind = 2) (q : Bool) (h : mayT t = q) :
    Calls Tryz.prog 74 #[TkV t x u A cp] w fun e w' => e = .returned (.bool q) ∧ Below w.heap.size w w' := by
  have HB : Hid (∀ o, Below w.heap.size w (w.alloc o)) := Lib.hid fun o => (Below.refl _ _).alloc (Nat.le_refl _) o
  have HTK : Hid (∀ W, Below w.heap.size w W → TkAt t x u A cp W) := Lib.hid fun W hW => ht.on hW
  have HN : Hid (x.size ≤ 1000000) := ht.ns
  have HU : Hid (u.size ≤ 1000000) := ht.us
  unfold mayT at h
  rw [if_neg (by rw [hk]; decide), if_pos hk] at h
  obtain ⟨n, hn⟩ : ∃ n, t.attrs.length = n := ⟨_, rfl⟩
  obtain ⟨ff, hf⟩ : ∃ ff, fullL x.data.toList = ff := ⟨_, rfl⟩
  obtain ⟨ee, hue⟩ : ∃ ee, u.toList.isEmpty = ee := ⟨_, rfl⟩
  have h0 : t.attrs.isEmpty = decide (n = 0) := by rw [← hn, Bool.eq_iff_iff, List.isEmpty_iff, decide_eq_true_eq, List.length_eq_zero_iff]
  rw [← ht.name, hf, h0, ← ht.text, ← emp_l, hue] at h
  have HF := Lib.hid hf
  unfold TkV
  rw [hk, hn]
  clear ht hf hn hk h0
  cases ff with
  | false =>
    obtain rfl : false = q := h
    go_enter Tryz.func74, Tryz.ntmps74
    go_wp2_with (first
      | (go_at_call 65; (with_reducible refine (full9q x _ HN.out false HF.out).mono ?_); rintro e1 w1 ⟨rfl, hb1⟩; have HB1 : Hid (Below w.heap.size w w1) := Lib.hid (stp (HB.out _) hb1); have c2 := (box_cell hb1 2 (.slice A n cp) rfl).1; have c3 := (box_cell hb1 3 (.string u) rfl).1; have hlt1 := (box_cell hb1 3 (.string u) rfl).2; clear hb1)
      | fail)
    go_ret
    exact ⟨rfl, HB1.out⟩
  | true =>
    by_cases e0 : n = 0
    · subst e0
      obtain rfl : ee = q := h
      go_enter Tryz.func74, Tryz.ntmps74
      go_wp2_with (first
        | (go_at_call 65; (with_reducible refine (full9q x _ HN.out true HF.out).mono ?_); rintro e1 w1 ⟨rfl, hb1⟩; have HB1 : Hid (Below w.heap.size w w1) := Lib.hid (stp (HB.out _) hb1); have c2 := (box_cell hb1 2 (.slice A 0 cp) rfl).1; have c3 := (box_cell hb1 3 (.string u) rfl).1; have hlt1 := (box_cell hb1 3 (.string u) rfl).2; clear hb1)
        | fail)
      go_ret
      exact ⟨rfl, HB1.out⟩
    · rw [decide_eq_false e0] at h
      obtain rfl : false = q := h
      have g0 : ((n : Int) == 0) = false := by simp; omega
      go_enter Tryz.func74, Tryz.ntmps74
      go_wp2_with (first
        | (go_at_call 65; (with_reducible refine (full9q x _ HN.out true HF.out).mono ?_); rintro e1 w1 ⟨rfl, hb1⟩; have HB1 : Hid (Below w.heap.size w w1) := Lib.hid (stp (HB.out _) hb1); have c2 := (box_cell hb1 2 (.slice A n cp) rfl).1; have c3 := (box_cell hb1 3 (.string u) rfl).1; have hlt1 := (box_cell hb1 3 (.string u) rfl).2; clear hb1)
        | fail)
      go_ret
      exact ⟨rfl, HB1.out⟩
theorem mayq_4 (t : Tk) (x u : ByteArray) (A : Option Addr) (cp : Nat) (w : World) (ht : TkAt t x u A cp w) (hk : t.kind = 4) (q : Bool) (h : mayT t = q) :
    Calls Tryz.prog 74 #[TkV t x u A cp] w fun e w' => e = .returned (.bool q) ∧ Below w.heap.size w w' := by
  have HB : Hid (∀ o, Below w.heap.size w (w.alloc o)) := Lib.hid fun o => (Below.refl _ _).alloc (Nat.le_refl _) o
  have HTK : Hid (∀ W, Below w.heap.size w W → TkAt t x u A cp W) := Lib.hid fun W hW => ht.on hW
  have HN : Hid (x.size ≤ 1000000) := ht.ns
  have HU : Hid (u.size ≤ 1000000) := ht.us
  unfold mayT at h
  rw [if_neg (by rw [hk]; decide), if_neg (by rw [hk]; decide), if_pos hk] at h
  obtain ⟨n, hn⟩ : ∃ n, t.attrs.length = n := ⟨_, rfl⟩
  obtain ⟨xe, hxe⟩ : ∃ xe, x.toList.isEmpty = xe := ⟨_, rfl⟩
  obtain ⟨ue, hue⟩ : ∃ ue, u.toList.isEmpty = ue := ⟨_, rfl⟩
  have h0 : t.attrs.isEmpty = decide (n = 0) := by rw [← hn, Bool.eq_iff_iff, List.isEmpty_iff, decide_eq_true_eq, List.length_eq_zero_iff]
  obtain ⟨ok, hok⟩ : ∃ ok, okT u.data.toList = ok := ⟨_, rfl⟩
  have hok2 := hok
  rw [ht.text] at hok2
  rw [hok2] at h
  rw [← ht.name, ← emp_l, hxe, h0, ← ht.text, ← emp_l, hue] at h
  unfold TkV
  rw [hk, hn]
  clear ht hn hk h0 hok2
  cases xe with
  | false =>
    obtain rfl : false = q := h
    go_enter Tryz.func74, Tryz.ntmps74
    go_wp2_with fail
    go_ret
    exact ⟨rfl, HB.out _⟩
  | true =>
    by_cases e0 : n = 0
    · subst e0
      cases ue with
      | true =>
        obtain rfl : false = q := h
        go_enter Tryz.func74, Tryz.ntmps74
        go_wp2_with fail
        go_ret
        exact ⟨rfl, HB.out _⟩
      | false =>
        obtain rfl : ok = q := h
        cases ok with
        | true =>
          have HC : Hid (chkE u = 0) := Lib.hid (chk9_ok hok)
          clear hok
          go_enter Tryz.func74, Tryz.ntmps74
          go_wp2_with (first
            | (go_at_call 42; (with_reducible refine (check5 u _ HU.out 0 HC.out).mono ?_); rintro e1 w1 ⟨rfl, hb1⟩; have HB1 : Hid (Below w.heap.size w w1) := Lib.hid (stp (HB.out _) hb1); clear hb1)
            | fail)
          go_ret
          exact ⟨rfl, HB1.out⟩
        | false =>
          obtain ⟨er, her⟩ : ∃ er, chkE u = er := ⟨_, rfl⟩
          have HC := Lib.hid her
          have g0 : (er == 0) = false := by rw [← her]; simpa using chk9_bad hok
          clear hok her
          go_enter Tryz.func74, Tryz.ntmps74
          go_wp2_with (first
            | (go_at_call 42; (with_reducible refine (check5 u _ HU.out er HC.out).mono ?_); rintro e1 w1 ⟨rfl, hb1⟩; have HB1 : Hid (Below w.heap.size w w1) := Lib.hid (stp (HB.out _) hb1); clear hb1)
            | fail)
          go_ret
          exact ⟨rfl, HB1.out⟩
    · rw [decide_eq_false e0] at h
      obtain rfl : false = q := h
      have g0 : ((n : Int) == 0) = false := by simp; omega
      go_enter Tryz.func74, Tryz.ntmps74
      go_wp2_with fail
      go_ret
      exact ⟨rfl, HB.out _⟩
theorem mayq_no (t : Tk) (x u : ByteArray) (A : Option Addr) (cp : Nat) (w : World) (ht : TkAt t x u A cp w) (h1 : t.kind ≠ 1) (h2 : t.kind ≠ 2) (h3 : t.kind ≠ 3) (h4 : t.kind ≠ 4) (q : Bool) (h : mayT t = q) :
    Calls Tryz.prog 74 #[TkV t x u A cp] w fun e w' => e = .returned (.bool q) ∧ Below w.heap.size w w' := by
  have HB : Hid (∀ o, Below w.heap.size w (w.alloc o)) := Lib.hid fun o => (Below.refl _ _).alloc (Nat.le_refl _) o
  have HTK : Hid (∀ W, Below w.heap.size w W → TkAt t x u A cp W) := Lib.hid fun W hW => ht.on hW
  have HN : Hid (x.size ≤ 1000000) := ht.ns
  have HU : Hid (u.size ≤ 1000000) := ht.us
  unfold mayT at h
  rw [if_neg (fun e => e.elim h1 h3), if_neg h2, if_neg h4] at h
  obtain rfl : false = q := h
  obtain ⟨z, hz⟩ : ∃ z : Int, (t.kind : Int) = z := ⟨_, rfl⟩
  have g1 : ¬ z = 1 := by omega
  have g2 : ¬ z = 2 := by omega
  have g3 : ¬ z = 3 := by omega
  have g4 : ¬ z = 4 := by omega
  unfold TkV
  rw [hz]
  clear ht hz h1 h2 h3 h4
  go_enter Tryz.func74, Tryz.ntmps74
  go_wp2_with fail
  go_ret
  exact ⟨rfl, HB.out _⟩
theorem may9q (t : Tk) (x u : ByteArray) (A : Option Addr) (cp : Nat) (w : World) (ht : TkAt t x u A cp w) (q : Bool) (h : mayT t = q) :
    Calls Tryz.prog 74 #[TkV t x u A cp] w fun e w' => e = .returned (.bool q) ∧ Below w.heap.size w w' := by
  by_cases h1 : t.kind = 1
  · exact mayq_1 t x u A cp w ht h1 q h
  by_cases h2 : t.kind = 2
  · exact mayq_2 t x u A cp w ht h2 q h
  by_cases h3 : t.kind = 3
  · exact mayq_3 t x u A cp w ht h3 q h
  by_cases h4 : t.kind = 4
  · exact mayq_4 t x u A cp w ht h4 q h
  exact mayq_no t x u A cp w ht h1 h2 h3 h4 q h
theorem check9q (t : Tk) (x u : ByteArray) (A : Option Addr) (cp : Nat) (w : World) (ht : TkAt t x u A cp w) (q : Int) (h : checkR t = q) :
    Calls Tryz.prog 57 #[TkV t x u A cp] w fun e w' => e = .returned (.int .i64 q) ∧ Below w.heap.size w w' := by
  unfold checkR at h
  obtain ⟨b, hb⟩ : ∃ b, mayT t = b := ⟨_, rfl⟩
  have HC : Hid (∀ W, Below w.heap.size w W → Calls Tryz.prog 74 #[TkV t x u A cp] W fun e w' => e = .returned (.bool b) ∧ Below W.heap.size W w') := Lib.hid fun W hW => may9q t x u A cp W (ht.on hW) b hb
  have HB : Hid (∀ o, Below w.heap.size w (w.alloc o)) := Lib.hid fun o => (Below.refl _ _).alloc (Nat.le_refl _) o
  rw [hb] at h
  unfold TkV at HC ⊢
  clear hb ht
  cases b <;> (
    subst h
    go_enter Tryz.func57, Tryz.ntmps57
    go_wp2_with (first
      | (go_at_call 74; (with_reducible refine (HC.out _ (HB.out _)).mono ?_); rintro e1 w1 ⟨rfl, hb1⟩)
      | fail)
    go_ret
    exact ⟨rfl, stp (HB.out _) hb1⟩)
end Hx
end Go.Proofs.YtlhjcdkkmloamaaGreatDoor
namespace Go.Proofs.YtlhjcdkkmloamaaGreatDoor
open Go.RowKit
namespace Hx
open Lx Tx Nmb Es
set_option linter.unusedVariables false
def TkIn (ts : List Tk) (A : Option Addr) (c : Nat) (w : World) : Prop := RdC TkC w w.heap.size A ts ∧ ts.length ≤ c ∧ c ≤ maxLen ∧ (A = none → c = 0)
theorem TkIn.on {ts : List Tk} {A : Option Addr} {c : Nat} {w w' : World} (h : TkIn ts A c w) (hb : Below w.heap.size w w') : TkIn ts A c w' := ⟨h.1.on hb, h.2⟩
theorem name9 (s : ByteArray) (w : World) (hm : s.size ≤ 1000000) (b : Bool) (h : nameL s.data.toList = b) :
    Calls Tryz.prog 5 #[.string s] w fun e w' => e = .returned (.bool b) ∧ Below w.heap.size w w' :=
  (name9q s w hm b h).mono fun e w' ⟨h1, h2⟩ => ⟨h1, h2 ▸ Below.refl _ _⟩
end Hx
end Go.Proofs.YtlhjcdkkmloamaaGreatDoor
namespace Go.Proofs.YtlhjcdkkmloamaaGreatDoor
open Go.RowKit
namespace Hx
open Lx Tr
set_option linter.unusedVariables false
theorem RdS.of_own {α β : Type} {C : CodS α} {w : World} {S : Nat → Prop} {base : Nat} {e : TypeId} {A : Option Addr} {n c : Nat} (f : β → List Value) (val : β → α) (hk : ∀ b, (f b).length = C.k) (hk0 : 0 < C.k) (l : List β) (hR : ∀ b ∈ l, C.R w S (f b) (val b)) (hS : ∀ g, (Value.slice A n c).ownBlock = some g → S g)
    (h : w.ownsRow base e C.k (.slice A n c) n (l.flatMap f)) : RdS C w S A (l.map val) ∧ l.length = n ∧ n ≤ c ∧ c ≤ maxLen ∧ (A = none → c = 0) := by
  have hl : l.length = n := by
    have := h.1
    rw [flat_len f C.k hk] at this
    exact Nat.eq_of_mul_eq_mul_right hk0 this
  rcases h.2 with ⟨e1, h0⟩ | ⟨g, cap, cur, hv, hb, hg, hnc, hcm, _, _⟩
  · injection e1 with e1 e2 e3
    subst e1 e3
    have : l = [] := List.eq_nil_of_length_eq_zero (by omega)
    subst this
    exact ⟨RdS.nil _ _ _, hl, by omega, Nat.zero_le _, fun _ => rfl⟩
  · injection hv with e1 e2 e3
    subst e1 e3
    refine ⟨fun hp => ⟨g, 0, rfl, hS g rfl, fun j hj => ?_⟩, hl, hnc, hcm, fun h => by cases h⟩
    have hj' : j < l.length := by simpa using hj
    refine ⟨f (l[j]'hj'), by simpa using hR _ (List.getElem_mem hj'), fun i hi => ?_⟩
    have hi' : i < C.k := by rw [hk] at hi; exact hi
    have := h.cells (g := g) rfl (j * C.k + i) _ (flat_at f C.k hk l j i hj' hi')
    rw [addr_plain] at this
    rw [Nat.zero_add, ← this, Nat.zero_add]
structure AB where
  x : ByteArray
  y : ByteArray
  z : ByteArray
def abCells (b : AB) : List Value := [.string b.x, .string b.y, .string b.z]
def abVal (b : AB) : At := ⟨b.x.data.toList, b.y.data.toList, b.z.data.toList⟩
def abOf (a : At) : AB := ⟨⟨a.space.toArray⟩, ⟨a.name.toArray⟩, ⟨a.value.toArray⟩⟩
theorem abVal_of (a : At) : abVal (abOf a) = a := by cases a; simp [abVal, abOf]
theorem map_abOf (l : List At) : (l.map abOf).map abVal = l := by
  rw [List.map_map]
  exact (List.map_congr_left (g := id) fun a _ => abVal_of a).trans (List.map_id _)
theorem ab_R (w : World) (S : Nat → Prop) (b : AB) : AtS.R w S (abCells b) (abVal b) := ⟨b.x, b.y, b.z, rfl, rfl, rfl, rfl⟩
structure NB where
  n : Nd
  x : ByteArray
  y : ByteArray
  z : ByteArray
  A : Option Addr
  c : Nat
def nbCells (b : NB) : List Value := ndCells b.n b.x b.y b.z b.A b.c
def Far (lo : Nat) (w0 wr : World) (row : Option Nat) (k : Nat) : Prop := lo ≤ k ∧ k < wr.heap.size ∧ some k ≠ row ∧ (w0.heap.size ≤ k → ∀ o, wr.frozen? ⟨k, o, none⟩ = false)
theorem Far.below {lo k : Nat} {w0 wr w' : World} {row : Option Nat} (h : Far lo w0 wr row k) (hb : Below wr.heap.size wr w') : Far lo w0 w' row k :=
  ⟨h.1, Nat.lt_of_lt_of_le h.2.1 hb.size, h.2.2.1, fun hk o => (hb.frozen (p := ⟨k, o, none⟩) h.2.1).trans (h.2.2.2 hk o)⟩
def NdSt (lo : Nat) (w0 : World) (L : List NB) (v : Value) (wr : World) : Prop :=
  wr.ownsRow w0.heap.size 32 6 v L.length (L.flatMap nbCells) ∧ (∀ b ∈ L, NdIn b.n b.x b.y b.z b.A b.c wr (Far lo w0 wr v.ownBlock)) ∧ Below w0.heap.size w0 wr
theorem NdSt.nil (lo : Nat) {w wr : World} (hb : Below w.heap.size w wr) : NdSt lo w [] (.slice none 0 0) wr := ⟨World.ownsRow_nil _ _ _ _, (fun b hb => by cases hb), hb⟩
theorem NdSt.below {lo : Nat} {w wr w' : World} {L : List NB} {v : Value} (h : NdSt lo w L v wr) (hb : Below wr.heap.size wr w') : NdSt lo w L v w' :=
  ⟨own_belowK h.1 hb (Nat.le_refl _), fun b hm => (h.2.1 b hm).keep (fun k hk => hk.below hb) fun b o hk => hb.cell (p := ⟨b, o, none⟩) hk.2.1, stp h.2.2 hb⟩
theorem NdSt.more {lo : Nat} {w wr w2 w5 : World} {L M : List NB} {v v5 : Value} (h : NdSt lo w L v wr) (hb : Below wr.heap.size wr w2) (hM : ∀ b ∈ M, NdIn b.n b.x b.y b.z b.A b.c w2 (Far lo w w2 v.ownBlock))
    (hown : w5.ownsRow w.heap.size 32 6 v5 (L.length + M.length) (L.flatMap nbCells ++ M.flatMap nbCells)) (hgr : w2.grownBy w5 v.ownBlock) (hlie : v5.ownBlock = v.ownBlock ∨ v5.ownBlock = some w2.heap.size) : NdSt lo w (L ++ M) v5 w5 := by
  have h2 := h.below hb
  refine ⟨by rw [List.length_append, List.flatMap_append]; exact hown, fun b hm => ?_, h2.2.2.grown hgr ?_ fun k hk => (h.1.lt k hk).1⟩
  · have hb0 : NdIn b.n b.x b.y b.z b.A b.c w2 (Far lo w w2 v.ownBlock) := by
      rcases List.mem_append.1 hm with hm | hm
      · exact h2.2.1 b hm
      · exact hM b hm
    refine hb0.keep (fun k hk => ⟨hk.1, Nat.lt_of_lt_of_le hk.2.1 hgr.size, ?_, fun hk2 o => (hgr.frozen_far ⟨k, o, none⟩ hk.2.1 hk.2.2.1).trans (hk.2.2.2 hk2 o)⟩) fun k o hk => hgr.cell_far ⟨k, o, none⟩ hk.2.1 hk.2.2.1
    rcases hlie with e | e
    · rw [e]; exact hk.2.2.1
    · rw [e]
      intro e2
      injection e2 with e2
      have := hk.2.1
      omega
  · have := h2.2.2.size
    omega
structure NdOut (lo : Nat) (w0 : World) (v : List Nd) (A : Option Addr) (c : Nat) (w : World) : Prop where
  rd : RdS NdS w (Far lo w0 w none) A v
  le : v.length ≤ c
  cm : c ≤ maxLen
  nil : A = none → c = 0
theorem NdOut.below {lo : Nat} {w0 : World} {v : List Nd} {A : Option Addr} {c : Nat} {w w' : World} (h : NdOut lo w0 v A c w) (hb : Below w.heap.size w w') : NdOut lo w0 v A c w' :=
  ⟨h.rd.keep (fun k hk => hk.below hb) fun b o hk => hb.cell (p := ⟨b, o, none⟩) hk.2.1, h.le, h.cm, h.nil⟩
theorem NdOut.all {lo : Nat} {w0 : World} {v : List Nd} {A : Option Addr} {c : Nat} {w : World} (h : NdOut lo w0 v A c w) : RdB NdS w A v := h.rd.mono fun b hb => hb.2.1
theorem NdOut.none (lo : Nat) (w0 w : World) : NdOut lo w0 [] none 0 w := ⟨RdS.nil _ _ _, Nat.le_refl _, Nat.zero_le _, fun _ => rfl⟩
theorem NdSt.read {lo : Nat} {w wr : World} {L : List NB} {A : Option Addr} {n c : Nat} (h : NdSt lo w L (.slice A n c) wr) (hlo : lo ≤ w.heap.size) : NdOut lo w (L.map NB.n) A c wr ∧ L.length = n := by
  have hn : n = L.length := by
    have h1 := h.1
    rcases h1.2 with ⟨e, h0⟩ | ⟨g, cap, cur, hv, _⟩
    · injection e with _ e _; omega
    · injection hv with _ e _
  subst hn
  obtain ⟨r1, r2, r3, r4, r5⟩ := RdS.of_own (C := NdS) (S := Far lo w wr none) nbCells NB.n (fun _ => rfl) (by decide) L (fun b hm => ⟨b.x, b.y, b.z, b.A, b.c, rfl, (h.2.1 b hm).keep (fun k hk => ⟨hk.1, hk.2.1, by simp, hk.2.2.2⟩) fun _ _ _ => rfl⟩) (fun g hg => by
    have h3 := h.1.lt g hg
    refine ⟨by omega, h3.2, by simp, fun _ o => ?_⟩
    rcases h.1.2 with ⟨e, h0⟩ | ⟨g', cap, cur, hv, hb', hg', _⟩
    · rw [e] at hg; cases hg
    · rw [hv] at hg
      have : g' = g := by simpa [Value.ownBlock] using hg
      subst this
      exact freeV wr _ o _ _ hg') h.1
  exact ⟨⟨r1, by rw [List.length_map]; exact r3, r4, r5⟩, rfl⟩
theorem ats_own {lo base : Nat} {w0 w : World} {A : Option Addr} {n c : Nat} {row : Option Nat} {l : List At} (h : w.ownsRow base 34 3 (.slice A n c) n ((l.map abOf).flatMap abCells)) (hlo : lo ≤ base) (hrow : ∀ k, row = some k → k < base) :
    RdS AtS w (Far lo w0 w row) A l ∧ l.length = n ∧ n ≤ c ∧ c ≤ maxLen ∧ (A = none → c = 0) := by
  obtain ⟨r1, r2, r3, r4, r5⟩ := RdS.of_own (C := AtS) (S := Far lo w0 w row) abCells abVal (fun _ => rfl) (by decide) (l.map abOf) (fun b _ => ab_R _ _ b) (fun g hg => by
    have h3 := h.lt g hg
    refine ⟨by omega, h3.2, fun e => ?_, fun _ o => ?_⟩
    · have := hrow g e.symm
      omega
    · rcases h.2 with ⟨e, h0⟩ | ⟨g', cap, cur, hv, hb', hg', _⟩
      · rw [e] at hg; cases hg
      · rw [hv] at hg
        have : g' = g := by simpa [Value.ownBlock] using hg
        subst this
        exact freeV w _ o _ _ hg') h
  rw [map_abOf] at r1
  rw [List.length_map] at r2
  exact ⟨r1, r2, r3, r4, r5⟩
theorem infoNd : (Tryz.prog.info? 32).map (fun i => (i.zero, i.size, i.bytes)) = some (some (.agg #[.int .u8 0, .string ⟨#[]⟩, .string ⟨#[]⟩, .slice none 0 0, .string ⟨#[]⟩, .int .i64 0]), 6, 88) := by kernel_rfl
theorem infoAt : (Tryz.prog.info? 34).map (fun i => (i.zero, i.size, i.bytes)) = some (some (.agg #[.string ⟨#[]⟩, .string ⟨#[]⟩, .string ⟨#[]⟩]), 3, 48) := by kernel_rfl
theorem sizeNd : (Tryz.prog.info? 32).map (·.size) = some 6 := by kernel_rfl
theorem sizeAt : (Tryz.prog.info? 34).map (·.size) = some 3 := by kernel_rfl
end Hx
end Go.Proofs.YtlhjcdkkmloamaaGreatDoor
