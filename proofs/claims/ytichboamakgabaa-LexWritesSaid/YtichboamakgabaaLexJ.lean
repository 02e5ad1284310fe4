/-
  The document's own lex: May, Check.
-/
import Derived.Test.YtichboamakgabaaLexK
namespace Go.Proofs.Ytichboamakgabaa
open Go.RowKit
namespace Hx
open Lx Tx Nmb Es
set_option linter.unusedVariables false
/-- A token's cells, as a value. -/
def TkV (t : Tk) (x u : ByteArray) (A : Option Addr) (cp : Nat) : Value := .agg #[.int .u8 (t.kind : Int), .string x, .slice A t.attrs.length cp, .string u]
/-- What a token's cells are to be. -/
structure TkAt (t : Tk) (x u : ByteArray) (A : Option Addr) (cp : Nat) (w : World) : Prop where
  name : x.data.toList = t.name
  text : u.data.toList = t.text
  attrs : RdC PrC w w.heap.size A t.attrs
  le : t.attrs.length ≤ cp
  ns : x.size ≤ 1000000
  us : u.size ≤ 1000000
  al : t.attrs.length ≤ 1000000
  sz : ∀ p ∈ t.attrs, p.name.length ≤ 1000000 ∧ p.value.length ≤ 1000000
theorem TkAt.on {t : Tk} {x u : ByteArray} {A : Option Addr} {cp : Nat} {w w' : World} (h : TkAt t x u A cp w) (hb : Below w.heap.size w w') : TkAt t x u A cp w' := ⟨h.name, h.text, h.attrs.on hb, h.le, h.ns, h.us, h.al, h.sz⟩
theorem box_cell {w w1 : World} {cs : Array Value} {T : TypeId} (hb : Below (w.alloc (.cells cs T)).heap.size (w.alloc (.cells cs T)) w1) (i : Nat) (v : Value) (h : cs[i]? = some v) : w1.cell? ⟨w.heap.size, i, none⟩ = some v ∧ w.heap.size < w1.heap.size := by
  have hs := hb.size
  simp at hs
  refine ⟨?_, by omega⟩
  rw [hb.cell (p := ⟨w.heap.size, i, none⟩) (by simp)]
  simp [h]
theorem emp_l (s : ByteArray) : s.toList.isEmpty = s.data.toList.isEmpty := by rw [ByteArray.toList_eq]
set_option maxHeartbeats 4000000 in
set_option maxRecDepth 100000 in
theorem may_1 (t : Tk) (x u : ByteArray) (A : Option Addr) (cp : Nat) (w : World) (ht : TkAt t x u A cp w) (hk : t.kind = 1) (q : Bool) (h : mayT t = q) :
    Calls Try.prog 11 #[TkV t x u A cp] w fun e w' => e = .returned (.bool q) ∧ Below w.heap.size w w' := by
  have HB : Hid (∀ o, Below w.heap.size w (w.alloc o)) := Lib.hid fun o => (Below.refl _ _).alloc (Nat.le_refl _) o
  have HTK : Hid (∀ W, Below w.heap.size w W → TkAt t x u A cp W) := Lib.hid fun W hW => ht.on hW
  have HN : Hid (x.size ≤ 1000000) := ht.ns
  have HU : Hid (u.size ≤ 1000000) := ht.us
  unfold mayT at h
  rw [if_pos (by rw [hk]; decide)] at h
  obtain ⟨n, hn⟩ : ∃ n, t.attrs.length = n := ⟨_, rfl⟩
  have HNL := Lib.hid hn
  obtain ⟨ff, hf⟩ : ∃ ff, fullL x.data.toList = ff := ⟨_, rfl⟩
  obtain ⟨aa, ha⟩ : ∃ aa, attrsOk t.attrs = aa := ⟨_, rfl⟩
  obtain ⟨ee, hue⟩ : ∃ ee, u.toList.isEmpty = ee := ⟨_, rfl⟩
  rw [← ht.name, hf, ha, ← ht.text, ← emp_l, hue] at h
  have HF := Lib.hid hf
  have HA := Lib.hid ha
  unfold TkV
  rw [hk, hn]
  clear ht hf ha hn hk
  cases ff with
  | false =>
    obtain rfl : false = q := h
    go_enter Try.func11, Try.ntmps11
    go_wp2_with (first
      | (go_at_call 20; (with_reducible refine (rfull9 x _ HN.out false HF.out).mono ?_); rintro e1 w1 ⟨rfl, hb1⟩; have HB1 : Hid (Below w.heap.size w w1) := Lib.hid (stp (HB.out _) hb1); have c2 := (box_cell hb1 2 (.slice A n cp) rfl).1; have c3 := (box_cell hb1 3 (.string u) rfl).1; have hlt1 := (box_cell hb1 3 (.string u) rfl).2; clear hb1)
      | fail)
    go_ret
    exact ⟨rfl, HB1.out⟩
  | true =>
    cases aa with
    | false =>
      obtain rfl : false = q := h
      go_enter Try.func11, Try.ntmps11
      go_wp2_with (first
        | (go_at_call 20; (with_reducible refine (rfull9 x _ HN.out true HF.out).mono ?_); rintro e1 w1 ⟨rfl, hb1⟩; have HB1 : Hid (Below w.heap.size w w1) := Lib.hid (stp (HB.out _) hb1); have c2 := (box_cell hb1 2 (.slice A n cp) rfl).1; have c3 := (box_cell hb1 3 (.string u) rfl).1; have hlt1 := (box_cell hb1 3 (.string u) rfl).2; clear hb1)
        | (go_at_call 21; (with_reducible refine (rmayA9 A n cp t.attrs _ (HTK.out _ HB1.out).attrs HNL.out (HNL.out ▸ (HTK.out _ HB1.out).le) (HNL.out ▸ (HTK.out _ HB1.out).al) (HTK.out _ HB1.out).sz false HA.out).mono ?_); rintro e2 w2 ⟨rfl, hb2⟩; have HB2 : Hid (Below w.heap.size w w2) := Lib.hid (stp HB1.out hb2); have d3 := (hb2.cell (p := ⟨w.heap.size, 3, none⟩) hlt1).trans c3; clear hb2)
        | fail)
      go_ret
      exact ⟨rfl, HB2.out⟩
    | true =>
      obtain rfl : ee = q := h
      go_enter Try.func11, Try.ntmps11
      go_wp2_with (first
        | (go_at_call 20; (with_reducible refine (rfull9 x _ HN.out true HF.out).mono ?_); rintro e1 w1 ⟨rfl, hb1⟩; have HB1 : Hid (Below w.heap.size w w1) := Lib.hid (stp (HB.out _) hb1); have c2 := (box_cell hb1 2 (.slice A n cp) rfl).1; have c3 := (box_cell hb1 3 (.string u) rfl).1; have hlt1 := (box_cell hb1 3 (.string u) rfl).2; clear hb1)
        | (go_at_call 21; (with_reducible refine (rmayA9 A n cp t.attrs _ (HTK.out _ HB1.out).attrs HNL.out (HNL.out ▸ (HTK.out _ HB1.out).le) (HNL.out ▸ (HTK.out _ HB1.out).al) (HTK.out _ HB1.out).sz true HA.out).mono ?_); rintro e2 w2 ⟨rfl, hb2⟩; have HB2 : Hid (Below w.heap.size w w2) := Lib.hid (stp HB1.out hb2); have d3 := (hb2.cell (p := ⟨w.heap.size, 3, none⟩) hlt1).trans c3; clear hb2)
        | fail)
      go_ret
      exact ⟨rfl, HB2.out⟩
set_option maxHeartbeats 4000000 in
set_option maxRecDepth 100000 in
theorem may_3 (t : Tk) (x u : ByteArray) (A : Option Addr) (cp : Nat) (w : World) (ht : TkAt t x u A cp w) (hk : t.kind = 3) (q : Bool) (h : mayT t = q) :
    Calls Try.prog 11 #[TkV t x u A cp] w fun e w' => e = .returned (.bool q) ∧ Below w.heap.size w w' := by
  have HB : Hid (∀ o, Below w.heap.size w (w.alloc o)) := Lib.hid fun o => (Below.refl _ _).alloc (Nat.le_refl _) o
  have HTK : Hid (∀ W, Below w.heap.size w W → TkAt t x u A cp W) := Lib.hid fun W hW => ht.on hW
  have HN : Hid (x.size ≤ 1000000) := ht.ns
  have HU : Hid (u.size ≤ 1000000) := ht.us
  unfold mayT at h
  rw [if_pos (by rw [hk]; decide)] at h
  obtain ⟨n, hn⟩ : ∃ n, t.attrs.length = n := ⟨_, rfl⟩
  have HNL := Lib.hid hn
  obtain ⟨ff, hf⟩ : ∃ ff, fullL x.data.toList = ff := ⟨_, rfl⟩
  obtain ⟨aa, ha⟩ : ∃ aa, attrsOk t.attrs = aa := ⟨_, rfl⟩
  obtain ⟨ee, hue⟩ : ∃ ee, u.toList.isEmpty = ee := ⟨_, rfl⟩
  rw [← ht.name, hf, ha, ← ht.text, ← emp_l, hue] at h
  have HF := Lib.hid hf
  have HA := Lib.hid ha
  unfold TkV
  rw [hk, hn]
  clear ht hf ha hn hk
  cases ff with
  | false =>
    obtain rfl : false = q := h
    go_enter Try.func11, Try.ntmps11
    go_wp2_with (first
      | (go_at_call 20; (with_reducible refine (rfull9 x _ HN.out false HF.out).mono ?_); rintro e1 w1 ⟨rfl, hb1⟩; have HB1 : Hid (Below w.heap.size w w1) := Lib.hid (stp (HB.out _) hb1); have c2 := (box_cell hb1 2 (.slice A n cp) rfl).1; have c3 := (box_cell hb1 3 (.string u) rfl).1; have hlt1 := (box_cell hb1 3 (.string u) rfl).2; clear hb1)
      | fail)
    go_ret
    exact ⟨rfl, HB1.out⟩
  | true =>
    cases aa with
    | false =>
      obtain rfl : false = q := h
      go_enter Try.func11, Try.ntmps11
      go_wp2_with (first
        | (go_at_call 20; (with_reducible refine (rfull9 x _ HN.out true HF.out).mono ?_); rintro e1 w1 ⟨rfl, hb1⟩; have HB1 : Hid (Below w.heap.size w w1) := Lib.hid (stp (HB.out _) hb1); have c2 := (box_cell hb1 2 (.slice A n cp) rfl).1; have c3 := (box_cell hb1 3 (.string u) rfl).1; have hlt1 := (box_cell hb1 3 (.string u) rfl).2; clear hb1)
        | (go_at_call 21; (with_reducible refine (rmayA9 A n cp t.attrs _ (HTK.out _ HB1.out).attrs HNL.out (HNL.out ▸ (HTK.out _ HB1.out).le) (HNL.out ▸ (HTK.out _ HB1.out).al) (HTK.out _ HB1.out).sz false HA.out).mono ?_); rintro e2 w2 ⟨rfl, hb2⟩; have HB2 : Hid (Below w.heap.size w w2) := Lib.hid (stp HB1.out hb2); have d3 := (hb2.cell (p := ⟨w.heap.size, 3, none⟩) hlt1).trans c3; clear hb2)
        | fail)
      go_ret
      exact ⟨rfl, HB2.out⟩
    | true =>
      obtain rfl : ee = q := h
      go_enter Try.func11, Try.ntmps11
      go_wp2_with (first
        | (go_at_call 20; (with_reducible refine (rfull9 x _ HN.out true HF.out).mono ?_); rintro e1 w1 ⟨rfl, hb1⟩; have HB1 : Hid (Below w.heap.size w w1) := Lib.hid (stp (HB.out _) hb1); have c2 := (box_cell hb1 2 (.slice A n cp) rfl).1; have c3 := (box_cell hb1 3 (.string u) rfl).1; have hlt1 := (box_cell hb1 3 (.string u) rfl).2; clear hb1)
        | (go_at_call 21; (with_reducible refine (rmayA9 A n cp t.attrs _ (HTK.out _ HB1.out).attrs HNL.out (HNL.out ▸ (HTK.out _ HB1.out).le) (HNL.out ▸ (HTK.out _ HB1.out).al) (HTK.out _ HB1.out).sz true HA.out).mono ?_); rintro e2 w2 ⟨rfl, hb2⟩; have HB2 : Hid (Below w.heap.size w w2) := Lib.hid (stp HB1.out hb2); have d3 := (hb2.cell (p := ⟨w.heap.size, 3, none⟩) hlt1).trans c3; clear hb2)
        | fail)
      go_ret
      exact ⟨rfl, HB2.out⟩
set_option maxHeartbeats 4000000 in
set_option maxRecDepth 100000 in
theorem may_2 (t : Tk) (x u : ByteArray) (A : Option Addr) (cp : Nat) (w : World) (ht : TkAt t x u A cp w) (hk : t.kind = 2) (q : Bool) (h : mayT t = q) :
    Calls Try.prog 11 #[TkV t x u A cp] w fun e w' => e = .returned (.bool q) ∧ Below w.heap.size w w' := by
  have HB : Hid (∀ o, Below w.heap.size w (w.alloc o)) := Lib.hid fun o => (Below.refl _ _).alloc (Nat.le_refl _) o
  have HTK : Hid (∀ W, Below w.heap.size w W → TkAt t x u A cp W) := Lib.hid fun W hW => ht.on hW
  have HN : Hid (x.size ≤ 1000000) := ht.ns
  have HU : Hid (u.size ≤ 1000000) := ht.us
  unfold mayT at h
  rw [if_neg (by rw [hk]; decide), if_pos hk] at h
  obtain ⟨n, hn⟩ : ∃ n, t.attrs.length = n := ⟨_, rfl⟩
  obtain ⟨ff, hf⟩ : ∃ ff, fullL x.data.toList = ff := ⟨_, rfl⟩
  obtain ⟨ee, hue⟩ : ∃ ee, u.toList.isEmpty = ee := ⟨_, rfl⟩
  have h0 : t.attrs.isEmpty = decide (n = 0) := by rw [← hn, Bool.eq_iff_iff, List.isEmpty_iff, decide_eq_true_eq, List.length_eq_zero_iff]
  rw [← ht.name, hf, h0, ← ht.text, ← emp_l, hue] at h
  have HF := Lib.hid hf
  unfold TkV
  rw [hk, hn]
  clear ht hf hn hk h0
  cases ff with
  | false =>
    obtain rfl : false = q := h
    go_enter Try.func11, Try.ntmps11
    go_wp2_with (first
      | (go_at_call 20; (with_reducible refine (rfull9 x _ HN.out false HF.out).mono ?_); rintro e1 w1 ⟨rfl, hb1⟩; have HB1 : Hid (Below w.heap.size w w1) := Lib.hid (stp (HB.out _) hb1); have c2 := (box_cell hb1 2 (.slice A n cp) rfl).1; have c3 := (box_cell hb1 3 (.string u) rfl).1; have hlt1 := (box_cell hb1 3 (.string u) rfl).2; clear hb1)
      | fail)
    go_ret
    exact ⟨rfl, HB1.out⟩
  | true =>
    by_cases e0 : n = 0
    · subst e0
      obtain rfl : ee = q := h
      go_enter Try.func11, Try.ntmps11
      go_wp2_with (first
        | (go_at_call 20; (with_reducible refine (rfull9 x _ HN.out true HF.out).mono ?_); rintro e1 w1 ⟨rfl, hb1⟩; have HB1 : Hid (Below w.heap.size w w1) := Lib.hid (stp (HB.out _) hb1); have c2 := (box_cell hb1 2 (.slice A 0 cp) rfl).1; have c3 := (box_cell hb1 3 (.string u) rfl).1; have hlt1 := (box_cell hb1 3 (.string u) rfl).2; clear hb1)
        | fail)
      go_ret
      exact ⟨rfl, HB1.out⟩
    · rw [decide_eq_false e0] at h
      obtain rfl : false = q := h
      have g0 : ((n : Int) == 0) = false := by simp; omega
      go_enter Try.func11, Try.ntmps11
      go_wp2_with (first
        | (go_at_call 20; (with_reducible refine (rfull9 x _ HN.out true HF.out).mono ?_); rintro e1 w1 ⟨rfl, hb1⟩; have HB1 : Hid (Below w.heap.size w w1) := Lib.hid (stp (HB.out _) hb1); have c2 := (box_cell hb1 2 (.slice A n cp) rfl).1; have c3 := (box_cell hb1 3 (.string u) rfl).1; have hlt1 := (box_cell hb1 3 (.string u) rfl).2; clear hb1)
        | fail)
      go_ret
      exact ⟨rfl, HB1.out⟩
set_option maxHeartbeats 4000000 in
set_option maxRecDepth 100000 in
theorem may_4 (t : Tk) (x u : ByteArray) (A : Option Addr) (cp : Nat) (w : World) (ht : TkAt t x u A cp w) (hk : t.kind = 4) (q : Bool) (h : mayT t = q) :
    Calls Try.prog 11 #[TkV t x u A cp] w fun e w' => e = .returned (.bool q) ∧ Below w.heap.size w w' := by
  have HB : Hid (∀ o, Below w.heap.size w (w.alloc o)) := Lib.hid fun o => (Below.refl _ _).alloc (Nat.le_refl _) o
  have HTK : Hid (∀ W, Below w.heap.size w W → TkAt t x u A cp W) := Lib.hid fun W hW => ht.on hW
  have HN : Hid (x.size ≤ 1000000) := ht.ns
  have HU : Hid (u.size ≤ 1000000) := ht.us
  unfold mayT at h
  rw [if_neg (by rw [hk]; decide), if_neg (by rw [hk]; decide), if_pos hk] at h
  obtain ⟨n, hn⟩ : ∃ n, t.attrs.length = n := ⟨_, rfl⟩
  obtain ⟨xe, hxe⟩ : ∃ xe, x.toList.isEmpty = xe := ⟨_, rfl⟩
  obtain ⟨ue, hue⟩ : ∃ ue, u.toList.isEmpty = ue := ⟨_, rfl⟩
  have h0 : t.attrs.isEmpty = decide (n = 0) := by rw [← hn, Bool.eq_iff_iff, List.isEmpty_iff, decide_eq_true_eq, List.length_eq_zero_iff]
  obtain ⟨ok, hok⟩ : ∃ ok, okT u.data.toList = ok := ⟨_, rfl⟩
  have hok2 := hok
  rw [ht.text] at hok2
  rw [hok2] at h
  rw [← ht.name, ← emp_l, hxe, h0, ← ht.text, ← emp_l, hue] at h
  unfold TkV
  rw [hk, hn]
  clear ht hn hk h0 hok2
  cases xe with
  | false =>
    obtain rfl : false = q := h
    go_enter Try.func11, Try.ntmps11
    go_wp2_with fail
    go_ret
    exact ⟨rfl, HB.out _⟩
  | true =>
    by_cases e0 : n = 0
    · subst e0
      cases ue with
      | true =>
        obtain rfl : false = q := h
        go_enter Try.func11, Try.ntmps11
        go_wp2_with fail
        go_ret
        exact ⟨rfl, HB.out _⟩
      | false =>
        obtain rfl : ok = q := h
        cases ok with
        | true =>
          have HC : Hid (chkE u = 0) := Lib.hid (chk9_ok hok)
          clear hok
          go_enter Try.func11, Try.ntmps11
          go_wp2_with (first
            | (go_at_call 22; (with_reducible refine (rcheck_any u _ HU.out 0 HC.out).mono ?_); rintro e1 w1 ⟨rfl, hb1⟩; have HB1 : Hid (Below w.heap.size w w1) := Lib.hid (stp (HB.out _) hb1); clear hb1)
            | fail)
          go_ret
          exact ⟨rfl, HB1.out⟩
        | false =>
          obtain ⟨er, her⟩ : ∃ er, chkE u = er := ⟨_, rfl⟩
          have HC := Lib.hid her
          have g0 : (er == 0) = false := by rw [← her]; simpa using chk9_bad hok
          clear hok her
          go_enter Try.func11, Try.ntmps11
          go_wp2_with (first
            | (go_at_call 22; (with_reducible refine (rcheck_any u _ HU.out er HC.out).mono ?_); rintro e1 w1 ⟨rfl, hb1⟩; have HB1 : Hid (Below w.heap.size w w1) := Lib.hid (stp (HB.out _) hb1); clear hb1)
            | fail)
          go_ret
          exact ⟨rfl, HB1.out⟩
    · rw [decide_eq_false e0] at h
      obtain rfl : false = q := h
      have g0 : ((n : Int) == 0) = false := by simp; omega
      go_enter Try.func11, Try.ntmps11
      go_wp2_with fail
      go_ret
      exact ⟨rfl, HB.out _⟩
set_option maxHeartbeats 4000000 in
set_option maxRecDepth 100000 in
theorem may_no (t : Tk) (x u : ByteArray) (A : Option Addr) (cp : Nat) (w : World) (ht : TkAt t x u A cp w) (h1 : t.kind ≠ 1) (h2 : t.kind ≠ 2) (h3 : t.kind ≠ 3) (h4 : t.kind ≠ 4) (q : Bool) (h : mayT t = q) :
    Calls Try.prog 11 #[TkV t x u A cp] w fun e w' => e = .returned (.bool q) ∧ Below w.heap.size w w' := by
  have HB : Hid (∀ o, Below w.heap.size w (w.alloc o)) := Lib.hid fun o => (Below.refl _ _).alloc (Nat.le_refl _) o
  have HTK : Hid (∀ W, Below w.heap.size w W → TkAt t x u A cp W) := Lib.hid fun W hW => ht.on hW
  have HN : Hid (x.size ≤ 1000000) := ht.ns
  have HU : Hid (u.size ≤ 1000000) := ht.us
  unfold mayT at h
  rw [if_neg (fun e => e.elim h1 h3), if_neg h2, if_neg h4] at h
  obtain rfl : false = q := h
  obtain ⟨z, hz⟩ : ∃ z : Int, (t.kind : Int) = z := ⟨_, rfl⟩
  have g1 : ¬ z = 1 := by omega
  have g2 : ¬ z = 2 := by omega
  have g3 : ¬ z = 3 := by omega
  have g4 : ¬ z = 4 := by omega
  unfold TkV
  rw [hz]
  clear ht hz h1 h2 h3 h4
  go_enter Try.func11, Try.ntmps11
  go_wp2_with fail
  go_ret
  exact ⟨rfl, HB.out _⟩
theorem rmay9 (t : Tk) (x u : ByteArray) (A : Option Addr) (cp : Nat) (w : World) (ht : TkAt t x u A cp w) (q : Bool) (h : mayT t = q) :
    Calls Try.prog 11 #[TkV t x u A cp] w fun e w' => e = .returned (.bool q) ∧ Below w.heap.size w w' := by
  by_cases h1 : t.kind = 1
  · exact may_1 t x u A cp w ht h1 q h
  by_cases h2 : t.kind = 2
  · exact may_2 t x u A cp w ht h2 q h
  by_cases h3 : t.kind = 3
  · exact may_3 t x u A cp w ht h3 q h
  by_cases h4 : t.kind = 4
  · exact may_4 t x u A cp w ht h4 q h
  exact may_no t x u A cp w ht h1 h2 h3 h4 q h
def checkR (t : Tk) : Int := if mayT t then 0 else 8
set_option maxRecDepth 100000 in
theorem rcheck9 (t : Tk) (x u : ByteArray) (A : Option Addr) (cp : Nat) (w : World) (ht : TkAt t x u A cp w) (q : Int) (h : checkR t = q) :
    Calls Try.prog 6 #[TkV t x u A cp] w fun e w' => e = .returned (.int .i64 q) ∧ Below w.heap.size w w' := by
  unfold checkR at h
  obtain ⟨b, hb⟩ : ∃ b, mayT t = b := ⟨_, rfl⟩
  have HC : Hid (∀ W, Below w.heap.size w W → Calls Try.prog 11 #[TkV t x u A cp] W fun e w' => e = .returned (.bool b) ∧ Below W.heap.size W w') := Lib.hid fun W hW => rmay9 t x u A cp W (ht.on hW) b hb
  have HB : Hid (∀ o, Below w.heap.size w (w.alloc o)) := Lib.hid fun o => (Below.refl _ _).alloc (Nat.le_refl _) o
  rw [hb] at h
  unfold TkV at HC ⊢
  clear hb ht
  cases b <;> (
    subst h
    go_enter Try.func6, Try.ntmps6
    go_wp2_with (first
      | (go_at_call 11; (with_reducible refine (HC.out _ (HB.out _)).mono ?_); rintro e1 w1 ⟨rfl, hb1⟩)
      | fail)
    go_ret
    exact ⟨rfl, stp (HB.out _) hb1⟩)
end Hx
end Go.Proofs.Ytichboamakgabaa
