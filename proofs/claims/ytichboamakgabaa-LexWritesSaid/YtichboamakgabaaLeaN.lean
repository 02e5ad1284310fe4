/-
  Package lex as it landed: putText, put.
-/
import Derived.Test.YtichboamakgabaaBldK
import Derived.Test.YtichboamakgabaaEscB
import Derived.Test.YtichboamakgabaaLeaM
import Derived.Test.YtichboamakgabaaLexG
import Derived.Test.YtichboamakgabaaLexW
import Derived.Deep.LoopGhost
namespace Go.Proofs.Ytichboamakgabaa
open Go.RowKit
namespace Hx
open Lx Tx Nmb Es
set_option linter.unusedVariables false
set_option maxHeartbeats 1000000 in
set_option maxRecDepth 100000 in
theorem putText9 (B b : Nat) (l L : List UInt8) (s t : ByteArray) (q : Bool) (e : Int) (w : World) (h : Bld B b l w) (hm : s.size ≤ 1000000) (hp : putR s q = (t, e)) (hL : l ++ t.data.toList = L) (hl : L.length ≤ 1000000000) (hBw : B ≤ w.heap.size) :
    Calls Try.prog 23 #[.pointer (some ⟨b, 0, none⟩), .string s, .bool q] w fun e' w' => e' = .returned (.int .i64 e) ∧ Wrote B b L w w' := by
  have hw : IntKind.i64.wrap e = e := by rcases putR_lits hp with rfl | rfl | rfl <;> rfl
  have HP : Hid (Calls Try.prog 34 #[.string s, .bool q] w fun e' w' => e' = .returned (.tuple #[.string t, .int .i64 e]) ∧ Below w.heap.size w w') := Lib.hid (put8 s t q e w hm hp)
  have HB : Hid (∀ W, Below w.heap.size w W → Calls Try.prog 24 #[.pointer (some ⟨b, 0, none⟩), .string t] W fun e' w' => (∃ n : Int, e' = .returned (.tuple #[.int .i64 n, .nilIface])) ∧ Wrote B b L W w') := Lib.hid fun W hW => bwsL B b l L t W (h.below hW) hL hl (Nat.le_trans hBw hW.size)
  have H0 : Hid (B ≤ w.heap.size) := hBw
  clear h hm hp hL hl hBw
  go_enter Try.func23, Try.ntmps23
  go_wp2_with (first
    | (go_at_call 34; (with_reducible refine (HP.out).mono ?_); rintro e1 w1 ⟨rfl, hb1⟩; have HB1 := Lib.hid hb1; clear hb1)
    | (go_at_call 24; (with_reducible refine (HB.out w1 HB1.out).mono ?_); rintro e2 w2 ⟨⟨n2, rfl⟩, hw2⟩)
    | fail)
  go_ret
  exact ⟨rfl, hw2.1, (HB1.out.mono H0.out).trans hw2.2.1, (OK9.of_below HB1.out).trans hw2.2.2⟩
/-- Is what an attribute's value is written as short enough? A token's texts? -/
def fitP (p : Pr) : Bool := decide ((escL true p.value).length ≤ 16384)
def fitT (t : Tk) : Bool := if t.kind = 4 then decide ((escL false t.text).length ≤ 16384) else t.attrs.all fitP
theorem putR_ok {y : ByteArray} {q : Bool} (h : okT y.data.toList = true) : putR y q = if (escL q y.data.toList).length ≤ 16384 then (escS q y, 0) else (⟨#[]⟩, 4) := by
  unfold putR
  rw [if_neg (by rw [chk9_ok h]; decide)]
  have e : (escS q y).size = (escL q y.data.toList).length := by rw [← ba_l]; rfl
  rw [e]
  by_cases h2 : (escL q y.data.toList).length ≤ 16384
  · rw [if_neg (by omega), if_pos h2]
  · rw [if_pos (by omega), if_neg h2]
theorem escS_l (q : Bool) (y : ByteArray) : (escS q y).data.toList = escL q y.data.toList := rfl
/-- What may be known of a token that is to be written. -/
structure PutAt (t : Tk) (x u : ByteArray) (A : Option Addr) (cp : Nat) (B : Nat) (w : World) : Prop where
  name : x.data.toList = t.name
  text : u.data.toList = t.text
  attrs : RdC PrC w B A t.attrs
  le : t.attrs.length ≤ cp
  ns : x.size ≤ 1000000
  us : u.size ≤ 1000000
  sz : ∀ p ∈ t.attrs, p.name.length ≤ 1000000 ∧ p.value.length ≤ 1000000
  may : mayT t = true
theorem mayT_vals {t : Tk} (h : mayT t = true) (h4 : t.kind ≠ 4) : t.attrs.length ≤ 16 ∧ ∀ p ∈ t.attrs, okT p.value = true := by
  rcases mayT_cases h with ⟨b, _, _, h2, _⟩ | ⟨_, _, h2, _⟩ | ⟨h1, _⟩
  · rw [attrsOk_eq, Bool.and_eq_true, Bool.and_eq_true, decide_eq_true_eq] at h2
    refine ⟨h2.2, fun p hp => ?_⟩
    have := List.all_eq_true.1 h2.1.2 p hp
    unfold goodP at this
    rw [Bool.and_eq_true] at this
    exact this.2
  · rw [h2]; simp
  · exact absurd h1 h4
theorem mayT_okt {t : Tk} (h : mayT t = true) (h4 : t.kind = 4) : okT t.text = true := by
  unfold mayT at h
  rw [if_neg (by omega), if_neg (by omega), if_pos h4, Bool.and_eq_true] at h
  exact h.2
theorem flatA_fit : ∀ (l : List Pr), l.all fitP = true → (∀ p ∈ l, p.name.length ≤ 1000000 ∧ p.value.length ≤ 1000000) → (l.flatMap writeA).length ≤ l.length * 1100000
  | [], _, _ => by simp
  | p :: l, h, hs => by
    rw [List.all_cons, Bool.and_eq_true] at h
    have h2 := flatA_fit l h.2 (fun q hq => hs q (by simp [hq]))
    have h3 := (hs p (by simp)).1
    have h4 : (escL true p.value).length ≤ 16384 := by have := h.1; unfold fitP at this; simpa using this
    rw [List.flatMap_cons, List.length_append, List.length_cons]
    have h5 : (writeA p).length = p.name.length + (escL true p.value).length + 4 := by
      unfold writeA
      simp only [List.length_cons, List.length_append, List.length_nil]
      omega
    omega
set_option maxHeartbeats 2000000 in
set_option maxRecDepth 100000 in
theorem putq_4 (B b : Nat) (l : List UInt8) (t : Tk) (x u : ByteArray) (A : Option Addr) (cp : Nat) (w : World) (h : Bld B b l w) (hl : l.length ≤ 1000000) (ht : PutAt t x u A cp B w) (hBw : B ≤ w.heap.size) (h4 : t.kind = 4) (q : Int) (hq : (if fitT t then (0 : Int) else 4) = q) :
    Calls Try.prog 12 #[.pointer (some ⟨b, 0, none⟩), TkV t x u A cp] w fun e' w' => e' = .returned (.int .i64 q) ∧ (q = 0 → Bld B b (l ++ writeT t) w') ∧ Below B w w' := by
  have hok := mayT_okt ht.may h4
  rw [← ht.text] at hok
  have hpr := putR_ok (q := false) hok
  have H0 : Hid (∀ o, Below B w (w.alloc o)) := Lib.hid fun o => (Below.refl _ _).alloc hBw o
  have HP : Hid (∀ o, Calls Try.prog 23 #[.pointer (some ⟨b, 0, none⟩), .string u, .bool false] (w.alloc o) fun e' w' => e' = .returned (.int .i64 q) ∧ (q = 0 → Bld B b (l ++ writeT t) w') ∧ Below B (w.alloc o) w') := Lib.hid fun o => by
    have hB2 : B ≤ (w.alloc o).heap.size := Nat.le_trans hBw (by simp)
    unfold fitT at hq
    rw [if_pos h4, ← ht.text] at hq
    by_cases hf : (escL false u.data.toList).length ≤ 16384
    · rw [if_pos hf] at hpr
      rw [decide_eq_true hf] at hq
      obtain rfl : (0 : Int) = q := by simpa using hq
      refine (putText9 B b l (l ++ writeT t) u (escS false u) false 0 (w.alloc o) (h.alloc o) ht.us hpr ?_ ?_ hB2).mono fun e' w' ⟨k1, k2⟩ => ⟨k1, fun _ => k2.1, k2.2.1⟩
      · unfold writeT; rw [if_pos h4, escS_l, ht.text]
      · unfold writeT; rw [if_pos h4, List.length_append, ← ht.text]; omega
    · rw [if_neg hf] at hpr
      rw [decide_eq_false hf] at hq
      obtain rfl : (4 : Int) = q := by simpa using hq
      exact (putText9 B b l l u ⟨#[]⟩ false 4 (w.alloc o) (h.alloc o) ht.us hpr (by simp) (by omega) hB2).mono fun e' w' ⟨k1, k2⟩ => ⟨k1, fun e => by simp at e, k2.2.1⟩
  have hw : IntKind.i64.wrap q = q := by rw [← hq]; split <;> rfl
  unfold TkV
  rw [h4]
  obtain ⟨n, hn⟩ : ∃ n, t.attrs.length = n := ⟨_, rfl⟩
  rw [hn]
  clear hn h hl ht hBw h4 hq hok hpr
  go_enter Try.func12, Try.ntmps12
  go_wp2_with (first
    | (go_at_call 23; (with_reducible refine (HP.out _).mono ?_); rintro e1 w1 ⟨rfl, hb1, hb2⟩)
    | fail)
  go_ret
  exact ⟨rfl, hb1, (H0.out _).trans hb2⟩
set_option maxHeartbeats 2000000 in
set_option maxRecDepth 100000 in
theorem putq_2 (B b : Nat) (l : List UInt8) (t : Tk) (x u : ByteArray) (A : Option Addr) (cp : Nat) (w : World) (h : Bld B b l w) (hl : l.length ≤ 1000000) (ht : PutAt t x u A cp B w) (hBw : B ≤ w.heap.size) (h2 : t.kind = 2) :
    Calls Try.prog 12 #[.pointer (some ⟨b, 0, none⟩), TkV t x u A cp] w fun e' w' => e' = .returned (.int .i64 0) ∧ Bld B b (l ++ writeT t) w' ∧ Below B w w' := by
  have H0 : Hid (∀ o, Below B w (w.alloc o)) := Lib.hid fun o => (Below.refl _ _).alloc hBw o
  have hns := ht.ns
  have HW : Hid (∀ o, Calls Try.prog 24 #[.pointer (some ⟨b, 0, none⟩), .string ((⟨#[60, 47]⟩ : ByteArray) ++ x ++ ⟨#[62]⟩)] (w.alloc o) fun e' w' => (∃ n : Int, e' = .returned (.tuple #[.int .i64 n, .nilIface])) ∧ Wrote B b (l ++ writeT t) (w.alloc o) w') := Lib.hid fun o => by
    refine bwsL B b l _ _ _ (h.alloc o) ?_ ?_ (Nat.le_trans hBw (by simp))
    · unfold writeT
      rw [if_neg (by omega), if_pos h2, ba_app, ba_app, ht.name]
      rfl
    · unfold writeT
      rw [if_neg (by omega), if_pos h2, ← ht.name]
      simp only [List.length_append, List.length_cons, List.length_nil, ba_l]
      omega
  have l1 : ¬ 9223372036854775807 < 2 + x.size := by omega
  have l2 : ¬ 9223372036854775807 < 2 + x.size + 1 := by omega
  unfold TkV
  rw [h2]
  obtain ⟨n, hn⟩ : ∃ n, t.attrs.length = n := ⟨_, rfl⟩
  rw [hn]
  clear hn h hl ht hBw h2 hns
  go_enter Try.func12, Try.ntmps12
  go_wp2_with (first
    | (go_at_call 24; (with_reducible refine (HW.out _).mono ?_); rintro e1 w1 ⟨⟨n1, rfl⟩, hw1⟩)
    | fail)
  go_ret
  exact ⟨rfl, hw1.1, (H0.out _).trans hw1.2.1⟩
set_option maxHeartbeats 8000000 in
set_option maxRecDepth 100000 in
theorem putq_tag (B b : Nat) (l : List UInt8) (t : Tk) (x u : ByteArray) (A : Option Addr) (cp : Nat) (w : World) (h : Bld B b l w) (hl : l.length ≤ 1000000) (ht : PutAt t x u A cp B w) (hBw : B ≤ w.heap.size) (h4 : t.kind ≠ 4) (h2 : t.kind ≠ 2) (q : Int) (hq : (if fitT t then (0 : Int) else 4) = q) :
    Calls Try.prog 12 #[.pointer (some ⟨b, 0, none⟩), TkV t x u A cp] w fun e' w' => e' = .returned (.int .i64 q) ∧ (q = 0 → Bld B b (l ++ writeT t) w') ∧ Below B w w' := by
  obtain ⟨hn16, hvs⟩ := mayT_vals ht.may h4
  unfold fitT at hq
  rw [if_neg h4] at hq
  have hblt : b < w.heap.size := h.lt.2
  have hns := ht.ns
  obtain ⟨n, hn⟩ : ∃ n, t.attrs.length = n := ⟨_, rfl⟩
  obtain ⟨z, hz⟩ : ∃ z : Int, (t.kind : Int) = z := ⟨_, rfl⟩
  have q4 : (z == 4) = false := by simp; omega
  have q2 : (z == 2) = false := by simp; omega
  obtain ⟨L0, hL0⟩ : ∃ L0 : Nat → List UInt8, ∀ k, L0 k = l ++ 60 :: (t.name ++ (t.attrs.take k).flatMap writeA) := ⟨_, fun _ => rfl⟩
  have hL0len : ∀ k, k ≤ n → (t.attrs.take k).all fitP = true → (L0 k).length ≤ 20000000 := by
    intro k hk hf
    have h5 := flatA_fit _ hf (fun p hp => ht.sz p (List.mem_of_mem_take hp))
    rw [List.length_take] at h5
    rw [hL0, List.length_append, List.length_cons, List.length_append, ← ht.name, ba_l]
    omega
  have hend : ∀ L : List UInt8, L = L0 n ++ (if z = 3 then [47, 62] else [62]) → L = l ++ writeT t := by
    intro L e
    rw [e, hL0, List.take_of_length_le (by omega)]
    unfold writeT
    rw [if_neg h4, if_neg h2]
    by_cases h3 : t.kind = 3
    · rw [if_pos h3, if_pos (by omega)]; simp
    · rw [if_neg h3, if_neg (by omega)]; simp
  have HEND := Lib.hid hend
  have HL0 := Lib.hid hL0len
  have HATT : Hid (RdC PrC w B A t.attrs) := ht.attrs
  have HSZ := Lib.hid ht.sz
  have HVS := Lib.hid hvs
  have HQ := Lib.hid hq
  have HN := Lib.hid hn
  have HBW : Hid (B ≤ w.heap.size) := hBw
  have HBLT := Lib.hid hblt
  have HW0 : Hid (∀ o, Calls Try.prog 24 #[.pointer (some ⟨b, 0, none⟩), .string ((⟨#[60]⟩ : ByteArray) ++ x)] (w.alloc o) fun e' w' => (∃ n : Int, e' = .returned (.tuple #[.int .i64 n, .nilIface])) ∧ Wrote B b (L0 0) (w.alloc o) w') := Lib.hid fun o => by
    refine bwsL B b l _ _ _ (h.alloc o) ?_ ?_ (Nat.le_trans hBw (by simp))
    · rw [hL0, ba_app, ht.name]; simp
    · have := hL0len 0 (Nat.zero_le _) rfl; omega
  have HSTEP : Hid (∀ k (hk : k < t.attrs.length), L0 (k + 1) = L0 k ++ writeA (t.attrs[k]'hk)) := Lib.hid fun k hk => by
    rw [hL0, hL0, List.take_succ_eq_append_getElem hk, List.flatMap_append]
    simp [-List.take_append_getElem]
  have l1 : ¬ 9223372036854775807 < 1 + x.size := by omega
  have hw : IntKind.i64.wrap q = q := by rw [← hq]; split <;> rfl
  unfold TkV
  rw [hz, hn]
  have HN16 : Hid (n ≤ 16) := Lib.hid (by omega)
  clear hn h ht h4 h2 hq hns hz hL0 hL0len hend hvs hn16 hBw hblt hl
  go_enter Try.func12, Try.ntmps12
  go_wp2_with (first
    | (go_at_call 24; (with_reducible refine (HW0.out _).mono ?_); rintro e1 w1 ⟨⟨n1, rfl⟩, hw1⟩; have HG1 := Lib.hid (hw1.2.2.stay (heap_alloc_new w (.cells #[.int .u8 z, .string x, .slice A n cp, .string u] 26)) (Nat.ne_of_gt HBLT.out) (by decide)); have c2 := cellV w1 w.heap.size 2 _ _ _ HG1.out; have HW1 := Lib.hid hw1; clear hw1)
    | fail)
  obtain ⟨wo, rfl⟩ : ∃ wo : World, wo = w1 := ⟨_, rfl⟩
  go_loopg [32] n (fun gg vi wr => ∃ k : Nat, k + gg = n ∧ vi = .int .i64 k ∧ (t.attrs.take k).all fitP = true ∧ Wrote B b (L0 k) wo wr)
  case atStart => exact ⟨0, by omega, rfl, rfl, HW1.out.1, Below.refl _ _, Lib.OthersKept.refl _ _ _⟩
  case round =>
    obtain ⟨k, hk, rfl, hall, hwr⟩ := hrel
    have HWR := Lib.hid hwr
    have hgr := hwr.2.2.stay HG1.out (Nat.ne_of_gt HBLT.out) (by decide)
    have c0 := cellV wr w.heap.size 0 _ _ _ hgr
    have HGR := Lib.hid hgr
    have HB0 : Hid (Below B w wr) := Lib.hid ((((Below.refl _ _).alloc HBW.out _).trans HW1.out.2.1).trans hwr.2.1)
    have HBR : Hid (B ≤ wr.heap.size) := Lib.hid (Nat.le_trans HBW.out HB0.out.size)
    have hgrow : w.heap.size < wr.heap.size := (Array.getElem?_eq_some_iff.1 hgr).1
    have HBLR : Hid (b < wr.heap.size) := Lib.hid (by have := HBLT.out; omega)
    have hn16 := HN16.out
    by_cases hlt : k < n
    · have hk1 : k < t.attrs.length := by rw [HN.out]; exact hlt
      obtain ⟨b0, off, rfl, hbB, hc⟩ := (HATT.out.below HB0.out) (by omega)
      obtain ⟨cs, ⟨nm, vl, rfl, hnm, hvl⟩, hcell⟩ := hc k hk1
      have d0 : wr.cell? ⟨b0, off + k * 2, none⟩ = some (.string nm) := hcell 0 (by simp)
      have d1 : wr.cell? ⟨b0, off + k * 2 + 1, none⟩ = some (.string vl) := hcell 1 (by simp)
      have hz2 := HSZ.out _ (List.getElem_mem hk1)
      rw [← hvl, ← hnm, ba_l, ba_l] at hz2
      have hok := HVS.out _ (List.getElem_mem hk1)
      rw [← hvl] at hok
      have hpr := putR_ok (q := true) hok
      have hLk := HL0.out k (by omega) hall
      have hst := HSTEP.out k hk1
      have hfit : fitP (t.attrs[k]'hk1) = decide ((escL true vl.data.toList).length ≤ 16384) := by unfold fitP; rw [hvl]
      have bk : (0 : Int) ≤ (k : Int) ∧ (k : Int) < (n : Int) := by omega
      have bc : (k : Int) ≤ (cp : Int) ∨ True := .inr trivial
      have hnms := hz2.1
      have l2 : ¬ 9223372036854775807 < 1 + nm.size := by omega
      have l3 : ¬ 9223372036854775807 < 1 + nm.size + 2 := by omega
      obtain ⟨L1, hL1⟩ : ∃ L1, L1 = L0 k ++ 32 :: (nm.data.toList ++ [61, 34]) := ⟨_, rfl⟩
      have hL1len : L1.length ≤ 30000000 := by rw [hL1]; simp only [List.length_append, List.length_cons, List.length_nil, ba_l]; omega
      have HWN : Hid (∀ o, Calls Try.prog 24 #[.pointer (some ⟨b, 0, none⟩), .string ((⟨#[32]⟩ : ByteArray) ++ nm ++ ⟨#[61, 34]⟩)] (wr.alloc o) fun e' w' => (∃ n : Int, e' = .returned (.tuple #[.int .i64 n, .nilIface])) ∧ Wrote B b L1 (wr.alloc o) w') := Lib.hid fun o => by
        refine bwsL B b (L0 k) _ _ _ (hwr.1.alloc o) ?_ (by omega) (Nat.le_trans HBR.out (by simp))
        rw [hL1, ba_app, ba_app]; simp
      by_cases hf : (escL true vl.data.toList).length ≤ 16384
      · rw [if_pos hf] at hpr
        rw [decide_eq_true hf] at hfit
        obtain ⟨L2, hL2⟩ : ∃ L2, L2 = L1 ++ (escS true vl).data.toList := ⟨_, rfl⟩
        have hL2len : L2.length ≤ 40000000 := by rw [hL2, List.length_append, escS_l]; omega
        have HPT : Hid (∀ W, Bld B b L1 W → B ≤ W.heap.size → Calls Try.prog 23 #[.pointer (some ⟨b, 0, none⟩), .string vl, .bool true] W fun e' w' => e' = .returned (.int .i64 0) ∧ Wrote B b L2 W w') := Lib.hid fun W hW hB => putText9 B b L1 L2 vl _ true 0 W hW hz2.2 hpr hL2.symm (by omega) hB
        have HWQ : Hid (∀ W, Bld B b L2 W → B ≤ W.heap.size → Calls Try.prog 24 #[.pointer (some ⟨b, 0, none⟩), .string ⟨#[34]⟩] W fun e' w' => (∃ n : Int, e' = .returned (.tuple #[.int .i64 n, .nilIface])) ∧ Wrote B b (L0 (k + 1)) W w') := Lib.hid fun W hW hB => by
          refine bwsL B b L2 _ _ W hW ?_ ?_ hB
          · rw [hst, hL2, hL1, escS_l, hvl, hnm]; simp [writeA]
          · have := HL0.out (k + 1) (by omega) (by rw [all_snoc9 hk1, hall, hfit]; rfl); omega
        have HNX : Hid ((t.attrs.take (k + 1)).all fitP = true) := Lib.hid (by rw [all_snoc9 hk1, hall, hfit]; rfl)
        have HWA : Hid (∀ o, Wrote B b (L0 k) wo (wr.alloc o)) := Lib.hid fun o => hwr.of_below ((Below.refl _ _).alloc (Nat.le_refl _) o) (by have := (Array.getElem?_eq_some_iff.1 HG1.out).1; have := HBW.out; omega)
        clear hwr hgr hc hcell hnm hvl hz2 hok hpr hLk hst hfit hL1 hL1len hL2 hL2len hf hall hk1
        have tok1 : True := trivial
        go_wp2_with (first
          | (refine wpList_store_row rfl _ _ _ rfl wr.heap.size #[.string nm, .string vl] rfl rfl 37 zPr9 (heap_alloc_new _ _) sizePr rfl (onePr nm vl) ?_; rw [World.setRow_alloc_new])
          | (have _t := tok1; go_at_call 24; (with_reducible refine (HWN.out _).mono ?_); rintro e2 w2 ⟨⟨n2, rfl⟩, hw2⟩; have g1 := cellV w2 wr.heap.size 1 _ _ _ (hw2.2.2.stay (heap_alloc_new wr (.cells #[.string nm, .string vl] 37)) (Nat.ne_of_gt HBLR.out) (by decide)); have HW2 := Lib.hid ((HWA.out _).trans hw2); have HS2 : Hid (B ≤ w2.heap.size) := Lib.hid (Nat.le_trans (Nat.le_trans HBR.out (by simp)) hw2.size); clear hw2 _t tok1)
          | (go_at_call 23; (with_reducible refine (HPT.out w2 HW2.out.1 HS2.out).mono ?_); rintro e3 w3 ⟨rfl, hw3⟩; have HW3 := Lib.hid (HW2.out.trans hw3); have HS3 : Hid (B ≤ w3.heap.size) := Lib.hid (Nat.le_trans HS2.out hw3.size); clear hw3)
          | (go_at_call 24; (with_reducible refine (HWQ.out w3 HW3.out.1 HS3.out).mono ?_); rintro e4 w4 ⟨⟨n4, rfl⟩, hw4⟩; have HW4 := Lib.hid (HW3.out.trans hw4); clear hw4)
          | fail)
        go_roundg (gk - 1)
        case rel => exact ⟨k + 1, by omega, by go_num, HNX.out, HW4.out⟩
        case measure => omega
      · rw [if_neg hf] at hpr
        rw [decide_eq_false hf] at hfit
        obtain rfl : (4 : Int) = q := by
          rw [← HQ.out, if_neg]
          intro hh
          have := List.all_eq_true.1 hh _ (List.getElem_mem hk1)
          rw [hfit] at this
          cases this
        have HPT : Hid (∀ W, Bld B b L1 W → B ≤ W.heap.size → Calls Try.prog 23 #[.pointer (some ⟨b, 0, none⟩), .string vl, .bool true] W fun e' w' => e' = .returned (.int .i64 4) ∧ Wrote B b L1 W w') := Lib.hid fun W hW hB => putText9 B b L1 L1 vl _ true 4 W hW hz2.2 hpr (by simp) (by omega) hB
        have HBA : Hid (∀ o, Below B w (wr.alloc o)) := Lib.hid fun o => HB0.out.alloc HBR.out o
        clear hwr hgr hc hcell hnm hvl hz2 hok hpr hLk hst hfit hL1 hL1len hf hall hk1 hn16
        go_wp2_with (first
          | (refine wpList_store_row rfl _ _ _ rfl wr.heap.size #[.string nm, .string vl] rfl rfl 37 zPr9 (heap_alloc_new _ _) sizePr rfl (onePr nm vl) ?_; rw [World.setRow_alloc_new])
          | (go_at_call 24; (with_reducible refine (HWN.out _).mono ?_); rintro e2 w2 ⟨⟨n2, rfl⟩, hw2⟩; have g1 := cellV w2 wr.heap.size 1 _ _ _ (hw2.2.2.stay (heap_alloc_new wr (.cells #[.string nm, .string vl] 37)) (Nat.ne_of_gt HBLR.out) (by decide)); have HW2 := Lib.hid hw2; have HS2 : Hid (B ≤ w2.heap.size) := Lib.hid (Nat.le_trans (Nat.le_trans HBR.out (by simp)) hw2.size); clear hw2)
          | (go_at_call 23; (with_reducible refine (HPT.out w2 HW2.out.1 HS2.out).mono ?_); rintro e3 w3 ⟨rfl, hw3⟩)
          | fail)
        go_ret
        exact ⟨rfl, by first | trivial | (intro e; simp at e), ((HBA.out _).trans HW2.out.2.1).trans hw3.2.1⟩
    · obtain rfl : n = k := by omega
      obtain rfl : (0 : Int) = q := by
        rw [List.take_of_length_le (by rw [HN.out]; exact Nat.le_refl _)] at hall
        rw [← HQ.out, if_pos hall]
      have hLn := HL0.out n (Nat.le_refl _) hall
      by_cases h3 : z = 3
      · have q3 : (z == 3) = true := by simpa using h3
        have HWS : Hid (Calls Try.prog 24 #[.pointer (some ⟨b, 0, none⟩), .string ⟨#[47]⟩] wr fun e' w' => (∃ n : Int, e' = .returned (.tuple #[.int .i64 n, .nilIface])) ∧ Wrote B b (L0 n ++ [47]) wr w') := Lib.hid (bwsL B b (L0 n) _ _ wr hwr.1 rfl (by rw [List.length_append]; show (L0 n).length + 1 ≤ _; omega) HBR.out)
        have HWG : Hid (∀ W, Bld B b (L0 n ++ [47]) W → B ≤ W.heap.size → Calls Try.prog 24 #[.pointer (some ⟨b, 0, none⟩), .string ⟨#[62]⟩] W fun e' w' => (∃ n : Int, e' = .returned (.tuple #[.int .i64 n, .nilIface])) ∧ Wrote B b (l ++ writeT t) W w') := Lib.hid fun W hW hB => by
          refine bwsL B b _ _ _ W hW (HEND.out _ (by rw [if_pos h3]; simp)) ?_ hB
          rw [← HEND.out _ rfl, if_pos h3, List.length_append]
          show (L0 n).length + 2 ≤ _
          omega
        clear hwr hgr hall hn16 hLn
        have tok1 : True := trivial
        go_wp2_with (first
          | (have _t := tok1; go_at_call 24; (with_reducible refine (HWS.out).mono ?_); rintro e2 w2 ⟨⟨n2, rfl⟩, hw2⟩; have HW2 := Lib.hid hw2; have HS2 : Hid (B ≤ w2.heap.size) := Lib.hid (Nat.le_trans HBR.out hw2.size); clear hw2 _t tok1)
          | (go_at_call 24; (with_reducible refine (HWG.out w2 HW2.out.1 HS2.out).mono ?_); rintro e3 w3 ⟨⟨n3, rfl⟩, hw3⟩)
          | fail)
        go_ret
        exact ⟨rfl, by first | exact hw3.1 | exact fun _ => hw3.1, (HB0.out.trans HW2.out.2.1).trans hw3.2.1⟩
      · have q3 : (z == 3) = false := by simpa using h3
        have HWG : Hid (Calls Try.prog 24 #[.pointer (some ⟨b, 0, none⟩), .string ⟨#[62]⟩] wr fun e' w' => (∃ n : Int, e' = .returned (.tuple #[.int .i64 n, .nilIface])) ∧ Wrote B b (l ++ writeT t) wr w') := Lib.hid (by
          refine bwsL B b _ _ _ wr hwr.1 (HEND.out _ (by rw [if_neg h3])) ?_ HBR.out
          rw [← HEND.out _ rfl, if_neg h3, List.length_append]
          show (L0 n).length + 1 ≤ _
          omega)
        clear hwr hgr hall hn16 hLn
        go_wp2_with (first
          | (go_at_call 24; (with_reducible refine (HWG.out).mono ?_); rintro e3 w3 ⟨⟨n3, rfl⟩, hw3⟩)
          | fail)
        go_ret
        exact ⟨rfl, by first | exact hw3.1 | exact fun _ => hw3.1, HB0.out.trans hw3.2.1⟩
theorem put9 (B b : Nat) (l : List UInt8) (t : Tk) (x u : ByteArray) (A : Option Addr) (cp : Nat) (w : World) (h : Bld B b l w) (hl : l.length ≤ 1000000) (ht : PutAt t x u A cp B w) (hBw : B ≤ w.heap.size) (q : Int) (hq : (if fitT t then (0 : Int) else 4) = q) :
    Calls Try.prog 12 #[.pointer (some ⟨b, 0, none⟩), TkV t x u A cp] w fun e' w' => e' = .returned (.int .i64 q) ∧ (q = 0 → Bld B b (l ++ writeT t) w') ∧ Below B w w' := by
  by_cases h4 : t.kind = 4
  · exact putq_4 B b l t x u A cp w h hl ht hBw h4 q hq
  by_cases h2 : t.kind = 2
  · have : t.attrs = [] := by
      rcases mayT_cases ht.may with ⟨b, h1, _⟩ | ⟨_, _, h3, _⟩ | ⟨h1, _⟩
      · rw [h2] at h1; cases b <;> simp at h1
      · exact h3
      · exact absurd h1 h4
    obtain rfl : (0 : Int) = q := by rw [← hq]; unfold fitT; rw [if_neg h4, this]; rfl
    exact (putq_2 B b l t x u A cp w h hl ht hBw h2).mono fun e w' ⟨k1, k2, k3⟩ => ⟨k1, fun _ => k2, k3⟩
  · exact putq_tag B b l t x u A cp w h hl ht hBw h4 h2 q hq
end Hx
end Go.Proofs.Ytichboamakgabaa
