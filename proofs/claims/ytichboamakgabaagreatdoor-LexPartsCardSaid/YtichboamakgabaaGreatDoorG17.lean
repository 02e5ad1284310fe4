/-
  Texts of one seat, put together: LeaN, LeaO, LexB.
-/
import Derived.Test.YtichboamakgabaaGreatDoorG13
import Derived.Test.YtichboamakgabaaGreatDoorG15
import Derived.Test.YtichboamakgabaaGreatDoorG16
import Derived.Test.YtichboamakgabaaGreatDoorG11
import Derived.Test.YtichboamakgabaaGreatDoorG08
import Derived.Deep.LoopGhost
import Derived.Test.YtichboamakgabaaGreatDoorG07
import Derived.Test.YtichboamakgabaaGreatDoorG10
import Derived.Test.YtichboamakgabaaGreatDoorG12
namespace Go.Proofs.YtichboamakgabaaGreatDoor
open Go.RowKit
namespace Hx
open Lx Tx Nmb Es
set_option linter.unusedVariables false
set_option maxHeartbeats 1000000 in
set_option maxRecDepth 100000 in
theorem putText9 (B b : Nat) (l L : List UInt8) (s t : ByteArray) (q : Bool) (e : Int) (w : World) (h : Bld B b l w) (hm : s.size ≤ 1000000) (hp : putR s q = (t, e)) (hL : l ++ t.data.toList = L) (hl : L.length ≤ 1000000000) (hBw : B ≤ w.heap.size) :
    Calls Tryz.prog 43 #[.pointer (some ⟨b, 0, none⟩), .string s, .bool q] w fun e' w' => e' = .returned (.int .i64 e) ∧ Wrote B b L w w' := by
  have hw : IntKind.i64.wrap e = e := by rcases putR_lits hp with rfl | rfl | rfl <;> rfl
  have HP : Hid (Calls Tryz.prog 59 #[.string s, .bool q] w fun e' w' => e' = .returned (.tuple #[.string t, .int .i64 e]) ∧ Below w.heap.size w w') := Lib.hid (put8 s t q e w hm hp)
  have HB : Hid (∀ W, Below w.heap.size w W → Calls Tryz.prog 44 #[.pointer (some ⟨b, 0, none⟩), .string t] W fun e' w' => (∃ n : Int, e' = .returned (.tuple #[.int .i64 n, .nilIface])) ∧ Wrote B b L W w') := Lib.hid fun W hW => bwsL B b l L t W (h.below hW) hL hl (Nat.le_trans hBw hW.size)
  have H0 : Hid (B ≤ w.heap.size) := hBw
  clear h hm hp hL hl hBw
  go_enter Tryz.func43, Tryz.ntmps43
  go_wp2_with (first
    | (go_at_call 59; (with_reducible refine (HP.out).mono ?_); rintro e1 w1 ⟨rfl, hb1⟩; have HB1 := Lib.hid hb1; clear hb1)
    | (go_at_call 44; (with_reducible refine (HB.out w1 HB1.out).mono ?_); rintro e2 w2 ⟨⟨n2, rfl⟩, hw2⟩)
    | fail)
  go_ret
  exact ⟨rfl, hw2.1, (HB1.out.mono H0.out).trans hw2.2.1, (OK9.of_below HB1.out).trans hw2.2.2⟩
/-- Is what an attribute's value is written as short enough? A token's texts? -/
def fitP (p : Pr) : Bool := decide ((escL true p.value).length ≤ 16384)
def fitT (t : Tk) : Bool := if t.kind = 4 then decide ((escL false t.text).length ≤ 16384) else t.attrs.all fitP
theorem putR_ok {y : ByteArray} {q : Bool} (h : okT y.data.toList = true) : putR y q = if (escL q y.data.toList).length ≤ 16384 then (escS q y, 0) else (⟨#[]⟩, 4) := by
  unfold putR
  rw [if_neg (by rw [chk9_ok h]; decide)]
  have e : (escS q y).size = (escL q y.data.toList).length := by rw [← ba_l]; rfl
  rw [e]
  by_cases h2 : (escL q y.data.toList).length ≤ 16384
  · rw [if_neg (by omega), if_pos h2]
  · rw [if_pos (by omega), if_neg h2]
theorem escS_l (q : Bool) (y : ByteArray) : (escS q y).data.toList = escL q y.data.toList := rfl
/-- What may be known of a token that is to be written. -/
structure PutAt (t : Tk) (x u : ByteArray) (A : Option Addr) (cp : Nat) (B : Nat) (w : World) : Prop where
  name : x.data.toList = t.name
  text : u.data.toList = t.text
  attrs : RdC PrC w B A t.attrs
  le : t.attrs.length ≤ cp
  ns : x.size ≤ 1000000
  us : u.size ≤ 1000000
  sz : ∀ p ∈ t.attrs, p.name.length ≤ 1000000 ∧ p.value.length ≤ 1000000
  may : mayT t = true
theorem mayT_vals {t : Tk} (h : mayT t = true) (h4 : t.kind ≠ 4) : t.attrs.length ≤ 16 ∧ ∀ p ∈ t.attrs, okT p.value = true := by
  rcases mayT_cases h with ⟨b, _, _, h2, _⟩ | ⟨_, _, h2, _⟩ | ⟨h1, _⟩
  · rw [attrsOk_eq, Bool.and_eq_true, Bool.and_eq_true, decide_eq_true_eq] at h2
    refine ⟨h2.2, fun p hp => ?_⟩
    have := List.all_eq_true.1 h2.1.2 p hp
    unfold goodP at this
    rw [Bool.and_eq_true] at this
    exact this.2
  · rw [h2]; simp
  · exact absurd h1 h4
theorem mayT_okt {t : Tk} (h : mayT t = true) (h4 : t.kind = 4) : okT t.text = true := by
  unfold mayT at h
  rw [if_neg (by omega), if_neg (by omega), if_pos h4, Bool.and_eq_true] at h
  exact h.2
theorem flatA_fit : ∀ (l : List Pr), l.all fitP = true → (∀ p ∈ l, p.name.length ≤ 1000000 ∧ p.value.length ≤ 1000000) → (l.flatMap writeA).length ≤ l.length * 1100000
  | [], _, _ => by simp
  | p :: l, h, hs => by
    rw [List.all_cons, Bool.and_eq_true] at h
    have h2 := flatA_fit l h.2 (fun q hq => hs q (by simp [hq]))
    have h3 := (hs p (by simp)).1
    have h4 : (escL true p.value).length ≤ 16384 := by have := h.1; unfold fitP at this; simpa using this
    rw [List.flatMap_cons, List.length_append, List.length_cons]
    have h5 : (writeA p).length = p.name.length + (escL true p.value).length + 4 := by
      unfold writeA
      simp only [List.length_cons, List.length_append, List.length_nil]
      omega
    omega
set_option maxHeartbeats 2000000 in
set_option maxRecDepth 100000 in
theorem putq_4 (B b : Nat) (l : List UInt8) (t : Tk) (x u : ByteArray) (A : Option Addr) (cp : Nat) (w : World) (h : Bld B b l w) (hl : l.length ≤ 1000000) (ht : PutAt t x u A cp B w) (hBw : B ≤ w.heap.size) (h4 : t.kind = 4) (q : Int) (hq : (if fitT t then (0 : Int) else 4) = q) :
    Calls Tryz.prog 25 #[.pointer (some ⟨b, 0, none⟩), TkV t x u A cp] w fun e' w' => e' = .returned (.int .i64 q) ∧ (q = 0 → Bld B b (l ++ writeT t) w') ∧ Below B w w' := by
  have hok := mayT_okt ht.may h4
  rw [← ht.text] at hok
  have hpr := putR_ok (q := false) hok
  have H0 : Hid (∀ o, Below B w (w.alloc o)) := Lib.hid fun o => (Below.refl _ _).alloc hBw o
  have HP : Hid (∀ o, Calls Tryz.prog 43 #[.pointer (some ⟨b, 0, none⟩), .string u, .bool false] (w.alloc o) fun e' w' => e' = .returned (.int .i64 q) ∧ (q = 0 → Bld B b (l ++ writeT t) w') ∧ Below B (w.alloc o) w') := Lib.hid fun o => by
    have hB2 : B ≤ (w.alloc o).heap.size := Nat.le_trans hBw (by simp)
    unfold fitT at hq
    rw [if_pos h4, ← ht.text] at hq
    by_cases hf : (escL false u.data.toList).length ≤ 16384
    · rw [if_pos hf] at hpr
      rw [decide_eq_true hf] at hq
      obtain rfl : (0 : Int) = q := by simpa using hq
      refine (putText9 B b l (l ++ writeT t) u (escS false u) false 0 (w.alloc o) (h.alloc o) ht.us hpr ?_ ?_ hB2).mono fun e' w' ⟨k1, k2⟩ => ⟨k1, fun _ => k2.1, k2.2.1⟩
      · unfold writeT; rw [if_pos h4, escS_l, ht.text]
      · unfold writeT; rw [if_pos h4, List.length_append, ← ht.text]; omega
    · rw [if_neg hf] at hpr
      rw [decide_eq_false hf] at hq
      obtain rfl : (4 : Int) = q := by simpa using hq
      exact (putText9 B b l l u ⟨#[]⟩ false 4 (w.alloc o) (h.alloc o) ht.us hpr (by simp) (by omega) hB2).mono fun e' w' ⟨k1, k2⟩ => ⟨k1, fun e => by simp at e, k2.2.1⟩
  have hw : IntKind.i64.wrap q = q := by rw [← hq]; split <;> rfl
  unfold TkV
  rw [h4]
  obtain ⟨n, hn⟩ : ∃ n, t.attrs.length = n := ⟨_, rfl⟩
  rw [hn]
  clear hn h hl ht hBw h4 hq hok hpr
  go_enter Tryz.func25, Tryz.ntmps25
  go_wp2_with (first
    | (go_at_call 43; (with_reducible refine (HP.out _).mono ?_); rintro e1 w1 ⟨rfl, hb1, hb2⟩)
    | fail)
  go_ret
  exact ⟨rfl, hb1, (H0.out _).trans hb2⟩
set_option maxHeartbeats 2000000 in
set_option maxRecDepth 100000 in
theorem putq_2 (B b : Nat) (l : List UInt8) (t : Tk) (x u : ByteArray) (A : Option Addr) (cp : Nat) (w : World) (h : Bld B b l w) (hl : l.length ≤ 1000000) (ht : PutAt t x u A cp B w) (hBw : B ≤ w.heap.size) (h2 : t.kind = 2) :
    Calls Tryz.prog 25 #[.pointer (some ⟨b, 0, none⟩), TkV t x u A cp] w fun e' w' => e' = .returned (.int .i64 0) ∧ Bld B b (l ++ writeT t) w' ∧ Below B w w' := by
  have H0 : Hid (∀ o, Below B w (w.alloc o)) := Lib.hid fun o => (Below.refl _ _).alloc hBw o
  have hns := ht.ns
  have HW : Hid (∀ o, Calls Tryz.prog 44 #[.pointer (some ⟨b, 0, none⟩), .string ((⟨#[60, 47]⟩ : ByteArray) ++ x ++ ⟨#[62]⟩)] (w.alloc o) fun e' w' => (∃ n : Int, e' = .returned (.tuple #[.int .i64 n, .nilIface])) ∧ Wrote B b (l ++ writeT t) (w.alloc o) w') := Lib.hid fun o => by
    refine bwsL B b l _ _ _ (h.alloc o) ?_ ?_ (Nat.le_trans hBw (by simp))
    · unfold writeT
      rw [if_neg (by omega), if_pos h2, ba_app, ba_app, ht.name]
      rfl
    · unfold writeT
      rw [if_neg (by omega), if_pos h2, ← ht.name]
      simp only [List.length_append, List.length_cons, List.length_nil, ba_l]
      omega
  have l1 : ¬ 9223372036854775807 < 2 + x.size := by omega
  have l2 : ¬ 9223372036854775807 < 2 + x.size + 1 := by omega
  unfold TkV
  rw [h2]
  obtain ⟨n, hn⟩ : ∃ n, t.attrs.length = n := ⟨_, rfl⟩
  rw [hn]
  clear hn h hl ht hBw h2 hns
  go_enter Tryz.func25, Tryz.ntmps25
  go_wp2_with (first
    | (go_at_call 44; (with_reducible refine (HW.out _).mono ?_); rintro e1 w1 ⟨⟨n1, rfl⟩, hw1⟩)
    | fail)
  go_ret
  exact ⟨rfl, hw1.1, (H0.out _).trans hw1.2.1⟩
set_option maxHeartbeats 8000000 in
set_option maxRecDepth 100000 in
theorem putq_tag (B b : Nat) (l : List UInt8) (t : Tk) (x u : ByteArray) (A : Option Addr) (cp : Nat) (w : World) (h : Bld B b l w) (hl : l.length ≤ 1000000) (ht : PutAt t x u A cp B w) (hBw : B ≤ w.heap.size) (h4 : t.kind ≠ 4) (h2 : t.kind ≠ 2) (q : Int) (hq : (if fitT t then (0 : Int) else 4) = q) :
    Calls Tryz.prog 25 #[.pointer (some ⟨b, 0, none⟩), TkV t x u A cp] w fun e' w' => e' = .returned (.int .i64 q) ∧ (q = 0 → Bld B b (l ++ writeT t) w') ∧ Below B w w' := by
  obtain ⟨hn16, hvs⟩ := mayT_vals ht.may h4
  unfold fitT at hq
  rw [if_neg h4] at hq
  have hblt : b < w.heap.size := h.lt.2
  have hns := ht.ns
  obtain ⟨n, hn⟩ : ∃ n, t.attrs.length = n := ⟨_, rfl⟩
  obtain ⟨z, hz⟩ : ∃ z : Int, (t.kind : Int) = z := ⟨_, rfl⟩
  have q4 : (z == 4) = false := by simp; omega
  have q2 : (z == 2) = false := by simp; omega
  obtain ⟨L0, hL0⟩ : ∃ L0 : Nat → List UInt8, ∀ k, L0 k = l ++ 60 :: (t.name ++ (t.attrs.take k).flatMap writeA) := ⟨_, fun _ => rfl⟩
  have hL0len : ∀ k, k ≤ n → (t.attrs.take k).all fitP = true → (L0 k).length ≤ 20000000 := by
    intro k hk hf
    have h5 := flatA_fit _ hf (fun p hp => ht.sz p (List.mem_of_mem_take hp))
    rw [List.length_take] at h5
    rw [hL0, List.length_append, List.length_cons, List.length_append, ← ht.name, ba_l]
    omega
  have hend : ∀ L : List UInt8, L = L0 n ++ (if z = 3 then [47, 62] else [62]) → L = l ++ writeT t := by
    intro L e
    rw [e, hL0, List.take_of_length_le (by omega)]
    unfold writeT
    rw [if_neg h4, if_neg h2]
    by_cases h3 : t.kind = 3
    · rw [if_pos h3, if_pos (by omega)]; simp
    · rw [if_neg h3, if_neg (by omega)]; simp
  have HEND := Lib.hid hend
  have HL0 := Lib.hid hL0len
  have HATT : Hid (RdC PrC w B A t.attrs) := ht.attrs
  have HSZ := Lib.hid ht.sz
  have HVS := Lib.hid hvs
  have HQ := Lib.hid hq
  have HN := Lib.hid hn
  have HBW : Hid (B ≤ w.heap.size) := hBw
  have HBLT := Lib.hid hblt
  have HW0 : Hid (∀ o, Calls Tryz.prog 44 #[.pointer (some ⟨b, 0, none⟩), .string ((⟨#[60]⟩ : ByteArray) ++ x)] (w.alloc o) fun e' w' => (∃ n : Int, e' = .returned (.tuple #[.int .i64 n, .nilIface])) ∧ Wrote B b (L0 0) (w.alloc o) w') := Lib.hid fun o => by
    refine bwsL B b l _ _ _ (h.alloc o) ?_ ?_ (Nat.le_trans hBw (by simp))
    · rw [hL0, ba_app, ht.name]; simp
    · have := hL0len 0 (Nat.zero_le _) rfl; omega
  have HSTEP : Hid (∀ k (hk : k < t.attrs.length), L0 (k + 1) = L0 k ++ writeA (t.attrs[k]'hk)) := Lib.hid fun k hk => by
    rw [hL0, hL0, List.take_succ_eq_append_getElem hk, List.flatMap_append]
    simp [-List.take_append_getElem]
  have l1 : ¬ 9223372036854775807 < 1 + x.size := by omega
  have hw : IntKind.i64.wrap q = q := by rw [← hq]; split <;> rfl
  unfold TkV
  rw [hz, hn]
  have HN16 : Hid (n ≤ 16) := Lib.hid (by omega)
  clear hn h ht h4 h2 hq hns hz hL0 hL0len hend hvs hn16 hBw hblt hl
  go_enter Tryz.func25, Tryz.ntmps25
  go_wp2_with (first
    | (go_at_call 44; (with_reducible refine (HW0.out _).mono ?_); rintro e1 w1 ⟨⟨n1, rfl⟩, hw1⟩; have HG1 := Lib.hid (hw1.2.2.stay (heap_alloc_new w (.cells #[.int .u8 z, .string x, .slice A n cp, .string u] 32)) (Nat.ne_of_gt HBLT.out) (by decide)); have c2 := cellV w1 w.heap.size 2 _ _ _ HG1.out; have HW1 := Lib.hid hw1; clear hw1)
    | fail)
  obtain ⟨wo, rfl⟩ : ∃ wo : World, wo = w1 := ⟨_, rfl⟩
  go_loopg [32] n (fun gg vi wr => ∃ k : Nat, k + gg = n ∧ vi = .int .i64 k ∧ (t.attrs.take k).all fitP = true ∧ Wrote B b (L0 k) wo wr)
  case atStart => exact ⟨0, by omega, rfl, rfl, HW1.out.1, Below.refl _ _, Lib.OthersKept.refl _ _ _⟩
  case round =>
    obtain ⟨k, hk, rfl, hall, hwr⟩ := hrel
    have HWR := Lib.hid hwr
    have hgr := hwr.2.2.stay HG1.out (Nat.ne_of_gt HBLT.out) (by decide)
    have c0 := cellV wr w.heap.size 0 _ _ _ hgr
    have HGR := Lib.hid hgr
    have HB0 : Hid (Below B w wr) := Lib.hid ((((Below.refl _ _).alloc HBW.out _).trans HW1.out.2.1).trans hwr.2.1)
    have HBR : Hid (B ≤ wr.heap.size) := Lib.hid (Nat.le_trans HBW.out HB0.out.size)
    have hgrow : w.heap.size < wr.heap.size := (Array.getElem?_eq_some_iff.1 hgr).1
    have HBLR : Hid (b < wr.heap.size) := Lib.hid (by have := HBLT.out; omega)
    have hn16 := HN16.out
    by_cases hlt : k < n
    · have hk1 : k < t.attrs.length := by rw [HN.out]; exact hlt
      obtain ⟨b0, off, rfl, hbB, hc⟩ := (HATT.out.below HB0.out) (by omega)
      obtain ⟨cs, ⟨nm, vl, rfl, hnm, hvl⟩, hcell⟩ := hc k hk1
      have d0 : wr.cell? ⟨b0, off + k * 2, none⟩ = some (.string nm) := hcell 0 (by simp)
      have d1 : wr.cell? ⟨b0, off + k * 2 + 1, none⟩ = some (.string vl) := hcell 1 (by simp)
      have hz2 := HSZ.out _ (List.getElem_mem hk1)
      rw [← hvl, ← hnm, ba_l, ba_l] at hz2
      have hok := HVS.out _ (List.getElem_mem hk1)
      rw [← hvl] at hok
      have hpr := putR_ok (q := true) hok
      have hLk := HL0.out k (by omega) hall
      have hst := HSTEP.out k hk1
      have hfit : fitP (t.attrs[k]'hk1) = decide ((escL true vl.data.toList).length ≤ 16384) := by unfold fitP; rw [hvl]
      have bk : (0 : Int) ≤ (k : Int) ∧ (k : Int) < (n : Int) := by omega
      have bc : (k : Int) ≤ (cp : Int) ∨ True := .inr trivial
      have hnms := hz2.1
      have l2 : ¬ 9223372036854775807 < 1 + nm.size := by omega
      have l3 : ¬ 9223372036854775807 < 1 + nm.size + 2 := by omega
      obtain ⟨L1, hL1⟩ : ∃ L1, L1 = L0 k ++ 32 :: (nm.data.toList ++ [61, 34]) := ⟨_, rfl⟩
      have hL1len : L1.length ≤ 30000000 := by rw [hL1]; simp only [List.length_append, List.length_cons, List.length_nil, ba_l]; omega
      have HWN : Hid (∀ o, Calls Tryz.prog 44 #[.pointer (some ⟨b, 0, none⟩), .string ((⟨#[32]⟩ : ByteArray) ++ nm ++ ⟨#[61, 34]⟩)] (wr.alloc o) fun e' w' => (∃ n : Int, e' = .returned (.tuple #[.int .i64 n, .nilIface])) ∧ Wrote B b L1 (wr.alloc o) w') := Lib.hid fun o => by
        refine bwsL B b (L0 k) _ _ _ (hwr.1.alloc o) ?_ (by omega) (Nat.le_trans HBR.out (by simp))
        rw [hL1, ba_app, ba_app]; simp
      by_cases hf : (escL true vl.data.toList).length ≤ 16384
      · rw [if_pos hf] at hpr
        rw [decide_eq_true hf] at hfit
        obtain ⟨L2, hL2⟩ : ∃ L2, L2 = L1 ++ (escS true vl).data.toList := ⟨_, rfl⟩
        have hL2len : L2.length ≤ 40000000 := by rw [hL2, List.length_append, escS_l]; omega
        have HPT : Hid (∀ W, Bld B b L1 W → B ≤ W.heap.size → Calls Tryz.prog 43 #[.pointer (some ⟨b, 0, none⟩), .string vl, .bool true] W fun e' w' => e' = .returned (.int .i64 0) ∧ Wrote B b L2 W w') := Lib.hid fun W hW hB => putText9 B b L1 L2 vl _ true 0 W hW hz2.2 hpr hL2.symm (by omega) hB
        have HWQ : Hid (∀ W, Bld B b L2 W → B ≤ W.heap.size → Calls Tryz.prog 44 #[.pointer (some ⟨b, 0, none⟩), .string ⟨#[34]⟩] W fun e' w' => (∃ n : Int, e' = .returned (.tuple #[.int .i64 n, .nilIface])) ∧ Wrote B b (L0 (k + 1)) W w') := Lib.hid fun W hW hB => by
          refine bwsL B b L2 _ _ W hW ?_ ?_ hB
          · rw [hst, hL2, hL1, escS_l, hvl, hnm]; simp [writeA]
          · have := HL0.out (k + 1) (by omega) (by rw [all_snoc9 hk1, hall, hfit]; rfl); omega
        have HNX : Hid ((t.attrs.take (k + 1)).all fitP = true) := Lib.hid (by rw [all_snoc9 hk1, hall, hfit]; rfl)
        have HWA : Hid (∀ o, Wrote B b (L0 k) wo (wr.alloc o)) := Lib.hid fun o => hwr.of_below ((Below.refl _ _).alloc (Nat.le_refl _) o) (by have := (Array.getElem?_eq_some_iff.1 HG1.out).1; have := HBW.out; omega)
        clear hwr hgr hc hcell hnm hvl hz2 hok hpr hLk hst hfit hL1 hL1len hL2 hL2len hf hall hk1
        have tok1 : True := trivial
        go_wp2_with (first
          | (refine wpList_store_row rfl _ _ _ rfl wr.heap.size #[.string nm, .string vl] rfl rfl 35 zPr9 (heap_alloc_new _ _) sizePr rfl (onePr nm vl) ?_; rw [World.setRow_alloc_new])
          | (have _t := tok1; go_at_call 44; (with_reducible refine (HWN.out _).mono ?_); rintro e2 w2 ⟨⟨n2, rfl⟩, hw2⟩; have g1 := cellV w2 wr.heap.size 1 _ _ _ (hw2.2.2.stay (heap_alloc_new wr (.cells #[.string nm, .string vl] 35)) (Nat.ne_of_gt HBLR.out) (by decide)); have HW2 := Lib.hid ((HWA.out _).trans hw2); have HS2 : Hid (B ≤ w2.heap.size) := Lib.hid (Nat.le_trans (Nat.le_trans HBR.out (by simp)) hw2.size); clear hw2 _t tok1)
          | (go_at_call 43; (with_reducible refine (HPT.out w2 HW2.out.1 HS2.out).mono ?_); rintro e3 w3 ⟨rfl, hw3⟩; have HW3 := Lib.hid (HW2.out.trans hw3); have HS3 : Hid (B ≤ w3.heap.size) := Lib.hid (Nat.le_trans HS2.out hw3.size); clear hw3)
          | (go_at_call 44; (with_reducible refine (HWQ.out w3 HW3.out.1 HS3.out).mono ?_); rintro e4 w4 ⟨⟨n4, rfl⟩, hw4⟩; have HW4 := Lib.hid (HW3.out.trans hw4); clear hw4)
          | fail)
        go_roundg (gk - 1)
        case rel => exact ⟨k + 1, by omega, by go_num, HNX.out, HW4.out⟩
        case measure => omega
      · rw [if_neg hf] at hpr
        rw [decide_eq_false hf] at hfit
        obtain rfl : (4 : Int) = q := by
          rw [← HQ.out, if_neg]
          intro hh
          have := List.all_eq_true.1 hh _ (List.getElem_mem hk1)
          rw [hfit] at this
          cases this
        have HPT : Hid (∀ W, Bld B b L1 W → B ≤ W.heap.size → Calls Tryz.prog 43 #[.pointer (some ⟨b, 0, none⟩), .string vl, .bool true] W fun e' w' => e' = .returned (.int .i64 4) ∧ Wrote B b L1 W w') := Lib.hid fun W hW hB => putText9 B b L1 L1 vl _ true 4 W hW hz2.2 hpr (by simp) (by omega) hB
        have HBA : Hid (∀ o, Below B w (wr.alloc o)) := Lib.hid fun o => HB0.out.alloc HBR.out o
        clear hwr hgr hc hcell hnm hvl hz2 hok hpr hLk hst hfit hL1 hL1len hf hall hk1 hn16
        go_wp2_with (first
          | (refine wpList_store_row rfl _ _ _ rfl wr.heap.size #[.string nm, .string vl] rfl rfl 35 zPr9 (heap_alloc_new _ _) sizePr rfl (onePr nm vl) ?_; rw [World.setRow_alloc_new])
          | (go_at_call 44; (with_reducible refine (HWN.out _).mono ?_); rintro e2 w2 ⟨⟨n2, rfl⟩, hw2⟩; have g1 := cellV w2 wr.heap.size 1 _ _ _ (hw2.2.2.stay (heap_alloc_new wr (.cells #[.string nm, .string vl] 35)) (Nat.ne_of_gt HBLR.out) (by decide)); have HW2 := Lib.hid hw2; have HS2 : Hid (B ≤ w2.heap.size) := Lib.hid (Nat.le_trans (Nat.le_trans HBR.out (by simp)) hw2.size); clear hw2)
          | (go_at_call 43; (with_reducible refine (HPT.out w2 HW2.out.1 HS2.out).mono ?_); rintro e3 w3 ⟨rfl, hw3⟩)
          | fail)
        go_ret
        exact ⟨rfl, by first | trivial | (intro e; simp at e), ((HBA.out _).trans HW2.out.2.1).trans hw3.2.1⟩
    · obtain rfl : n = k := by omega
      obtain rfl : (0 : Int) = q := by
        rw [List.take_of_length_le (by rw [HN.out]; exact Nat.le_refl _)] at hall
        rw [← HQ.out, if_pos hall]
      have hLn := HL0.out n (Nat.le_refl _) hall
      by_cases h3 : z = 3
      · have q3 : (z == 3) = true := by simpa using h3
        have HWS : Hid (Calls Tryz.prog 44 #[.pointer (some ⟨b, 0, none⟩), .string ⟨#[47]⟩] wr fun e' w' => (∃ n : Int, e' = .returned (.tuple #[.int .i64 n, .nilIface])) ∧ Wrote B b (L0 n ++ [47]) wr w') := Lib.hid (bwsL B b (L0 n) _ _ wr hwr.1 rfl (by rw [List.length_append]; show (L0 n).length + 1 ≤ _; omega) HBR.out)
        have HWG : Hid (∀ W, Bld B b (L0 n ++ [47]) W → B ≤ W.heap.size → Calls Tryz.prog 44 #[.pointer (some ⟨b, 0, none⟩), .string ⟨#[62]⟩] W fun e' w' => (∃ n : Int, e' = .returned (.tuple #[.int .i64 n, .nilIface])) ∧ Wrote B b (l ++ writeT t) W w') := Lib.hid fun W hW hB => by
          refine bwsL B b _ _ _ W hW (HEND.out _ (by rw [if_pos h3]; simp)) ?_ hB
          rw [← HEND.out _ rfl, if_pos h3, List.length_append]
          show (L0 n).length + 2 ≤ _
          omega
        clear hwr hgr hall hn16 hLn
        have tok1 : True := trivial
        go_wp2_with (first
          | (have _t := tok1; go_at_call 44; (with_reducible refine (HWS.out).mono ?_); rintro e2 w2 ⟨⟨n2, rfl⟩, hw2⟩; have HW2 := Lib.hid hw2; have HS2 : Hid (B ≤ w2.heap.size) := Lib.hid (Nat.le_trans HBR.out hw2.size); clear hw2 _t tok1)
          | (go_at_call 44; (with_reducible refine (HWG.out w2 HW2.out.1 HS2.out).mono ?_); rintro e3 w3 ⟨⟨n3, rfl⟩, hw3⟩)
          | fail)
        go_ret
        exact ⟨rfl, by first | exact hw3.1 | exact fun _ => hw3.1, (HB0.out.trans HW2.out.2.1).trans hw3.2.1⟩
      · have q3 : (z == 3) = false := by simpa using h3
        have HWG : Hid (Calls Tryz.prog 44 #[.pointer (some ⟨b, 0, none⟩), .string ⟨#[62]⟩] wr fun e' w' => (∃ n : Int, e' = .returned (.tuple #[.int .i64 n, .nilIface])) ∧ Wrote B b (l ++ writeT t) wr w') := Lib.hid (by
          refine bwsL B b _ _ _ wr hwr.1 (HEND.out _ (by rw [if_neg h3])) ?_ HBR.out
          rw [← HEND.out _ rfl, if_neg h3, List.length_append]
          show (L0 n).length + 1 ≤ _
          omega)
        clear hwr hgr hall hn16 hLn
        go_wp2_with (first
          | (go_at_call 44; (with_reducible refine (HWG.out).mono ?_); rintro e3 w3 ⟨⟨n3, rfl⟩, hw3⟩)
          | fail)
        go_ret
        exact ⟨rfl, by first | exact hw3.1 | exact fun _ => hw3.1, HB0.out.trans hw3.2.1⟩
theorem put9 (B b : Nat) (l : List UInt8) (t : Tk) (x u : ByteArray) (A : Option Addr) (cp : Nat) (w : World) (h : Bld B b l w) (hl : l.length ≤ 1000000) (ht : PutAt t x u A cp B w) (hBw : B ≤ w.heap.size) (q : Int) (hq : (if fitT t then (0 : Int) else 4) = q) :
    Calls Tryz.prog 25 #[.pointer (some ⟨b, 0, none⟩), TkV t x u A cp] w fun e' w' => e' = .returned (.int .i64 q) ∧ (q = 0 → Bld B b (l ++ writeT t) w') ∧ Below B w w' := by
  by_cases h4 : t.kind = 4
  · exact putq_4 B b l t x u A cp w h hl ht hBw h4 q hq
  by_cases h2 : t.kind = 2
  · have : t.attrs = [] := by
      rcases mayT_cases ht.may with ⟨b, h1, _⟩ | ⟨_, _, h3, _⟩ | ⟨h1, _⟩
      · rw [h2] at h1; cases b <;> simp at h1
      · exact h3
      · exact absurd h1 h4
    obtain rfl : (0 : Int) = q := by rw [← hq]; unfold fitT; rw [if_neg h4, this]; rfl
    exact (putq_2 B b l t x u A cp w h hl ht hBw h2).mono fun e w' ⟨k1, k2, k3⟩ => ⟨k1, fun _ => k2, k3⟩
  · exact putq_tag B b l t x u A cp w h hl ht hBw h4 h2 q hq
end Hx
end Go.Proofs.YtichboamakgabaaGreatDoor
namespace Go.Proofs.YtichboamakgabaaGreatDoor
open Go.RowKit
namespace Hx
open Lx Tx Nmb Es
set_option linter.unusedVariables false
/-- Was the token ahead of place k a text? -/
def wasT (l : List Tk) : Nat → Bool
  | 0 => false
  | k + 1 => match l[k]? with | some t => decide (t.kind = 4) | none => false
theorem wasT_succ {l : List Tk} {k : Nat} (h : k < l.length) : wasT l (k + 1) = decide ((l[k]'h).kind = 4) := by
  show (match l[k]? with | some t => decide (t.kind = 4) | none => false) = _
  rw [List.getElem?_eq_getElem h]
theorem apart_on {l : List Tk} {k : Nat} (h : k < l.length) (hp : apart (l.take k) = true) (hb : (decide ((l[k]'h).kind = 4) && wasT l k) = false) : apart (l.take (k + 1)) = true := by
  cases k with
  | zero =>
    cases l with
    | nil => rfl
    | cons a r => rfl
  | succ k =>
    refine apart_next (by omega) h hp ?_
    rw [wasT_succ (by omega)] at hb
    rintro ⟨h1, h2⟩
    have h1' : (l[k]'(by omega)).kind = 4 := by simpa using h1
    simp [h1', h2] at hb
theorem apart_off {l : List Tk} {k : Nat} (h : k < l.length) (hb : (decide ((l[k]'h).kind = 4) && wasT l k) = true) : apart l = false := by
  cases k with
  | zero => simp [wasT] at hb
  | succ k =>
    rw [wasT_succ (by omega), Bool.and_eq_true, decide_eq_true_eq, decide_eq_true_eq] at hb
    exact apart_bad (by omega) h (by simpa using hb.2) hb.1
theorem flatT_le (l : List Tk) (k : Nat) : ((l.take k).flatMap writeT).length ≤ (l.flatMap writeT).length := by
  conv => rhs; rw [← List.take_append_drop k l]
  rw [List.flatMap_append, List.length_append]
  omega
theorem flatT_snoc {l : List Tk} {k : Nat} (h : k < l.length) : (l.take (k + 1)).flatMap writeT = (l.take k).flatMap writeT ++ writeT (l[k]'h) := by
  rw [List.take_succ_eq_append_getElem h, List.flatMap_append]
  simp [-List.take_append_getElem]
theorem flatA_ge : ∀ (l : List Pr), l.all fitP = false → 16384 < (l.flatMap writeA).length
  | [], h => by cases h
  | p :: l, h => by
    rw [List.flatMap_cons, List.length_append]
    rw [List.all_cons] at h
    cases hf : fitP p with
    | true =>
      rw [hf, Bool.true_and] at h
      have := flatA_ge l h
      omega
    | false =>
      have h4 : 16384 < (escL true p.value).length := by unfold fitP at hf; simpa using hf
      have h5 : (writeA p).length = p.name.length + (escL true p.value).length + 4 := by
        unfold writeA
        simp only [List.length_cons, List.length_append, List.length_nil]
        omega
      omega
theorem fitT_no {t : Tk} (hm : mayT t = true) (h : fitT t = false) : 16384 < (writeT t).length := by
  unfold fitT at h
  unfold writeT
  by_cases h4 : t.kind = 4
  · rw [if_pos h4] at h ⊢
    simpa using h
  · rw [if_neg h4] at h ⊢
    have := flatA_ge t.attrs h
    by_cases h2 : t.kind = 2
    · rcases mayT_cases hm with ⟨b, h1, _⟩ | ⟨_, _, h3, _⟩ | ⟨h1, _⟩
      · rw [h2] at h1; cases b <;> simp at h1
      · rw [h3] at h; cases h
      · exact absurd h1 h4
    · rw [if_neg h2]
      simp only [List.length_cons, List.length_append]
      omega
theorem writeT_fit {t : Tk} (hm : mayT t = true) (h : fitT t = true) (hs : Small t) : (writeT t).length ≤ 30000000 := by
  obtain ⟨s1, s2, s3, s4⟩ := hs
  unfold fitT at h
  unfold writeT
  by_cases h4 : t.kind = 4
  · rw [if_pos h4] at h ⊢
    simp at h
    omega
  · rw [if_neg h4] at h ⊢
    by_cases h2 : t.kind = 2
    · rw [if_pos h2]
      simp only [List.length_cons, List.length_append, List.length_nil]
      omega
    · rw [if_neg h2]
      have h5 := flatA_fit t.attrs h s4
      have h6 := (mayT_vals hm h4).1
      simp only [List.length_cons, List.length_append]
      split <;> simp only [List.length_cons, List.length_nil] <;> omega
theorem ba_mk9 (l : List UInt8) : (⟨l.toArray⟩ : ByteArray).data.toList = l := by simp
set_option maxHeartbeats 8000000 in
set_option maxRecDepth 100000 in
theorem join9q (A : Option Addr) (n cp : Nat) (l : List Tk) (w : World) (hr : RdC TkC w w.heap.size A l) (hn : l.length = n) (hm : n ≤ 1000000) (hsz : ∀ t ∈ l, Small t) (s : ByteArray) (e : Int) (h : joinR l = (s.data.toList, e)) :
    Calls Tryz.prog 10 #[.slice A n cp] w fun e' w' => e' = .returned (.tuple #[.string s, .int .i64 e]) ∧ Below w.heap.size w w' := by
  have HR := Lib.hid hr
  have HN := Lib.hid hn
  have HM := Lib.hid hm
  have HSZ := Lib.hid hsz
  have HBad : Hid (¬ (l.all mayT = true ∧ apart l = true) → s = ⟨#[]⟩ ∧ e = 8) := Lib.hid (by
    intro hb
    unfold joinR at h
    rw [if_neg hb] at h
    obtain ⟨h1, h2⟩ := (Prod.mk.injEq _ _ _ _).mp h
    exact ⟨ba_x (by rw [← h1]), h2.symm⟩)
  have HMany : Hid (l.all mayT = true → apart l = true → (512 < n ∨ 16384 < (l.flatMap writeT).length) → s = ⟨#[]⟩ ∧ e = 4) := Lib.hid (by
    intro h1 h2 h3
    unfold joinR at h
    rw [if_pos ⟨h1, h2⟩, hn, if_pos h3] at h
    obtain ⟨h1, h2⟩ := (Prod.mk.injEq _ _ _ _).mp h
    exact ⟨ba_x (by rw [← h1]), h2.symm⟩)
  have HGood : Hid (l.all mayT = true → apart l = true → n ≤ 512 → (l.flatMap writeT).length ≤ 16384 → s = ⟨(l.flatMap writeT).toArray⟩ ∧ e = 0) := Lib.hid (by
    intro h1 h2 h3 h4
    unfold joinR at h
    rw [if_pos ⟨h1, h2⟩, hn, if_neg (by omega)] at h
    obtain ⟨h1, h2⟩ := (Prod.mk.injEq _ _ _ _).mp h
    exact ⟨ba_x (by rw [← h1]), h2.symm⟩)
  clear hr hn h hsz
  go_enter Tryz.func10, Tryz.ntmps10
  go_wp2_with fail
  go_loopg [4, 15] n (fun gg vb vi wr => ∃ (k : Nat) (b : Bool), k + gg = n ∧ vi = .int .i64 k ∧ vb = .bool b ∧ wasT l k = b ∧ (l.take k).all mayT = true ∧ apart (l.take k) = true ∧ Below w.heap.size w wr)
  case atStart => exact ⟨0, false, by omega, rfl, rfl, rfl, rfl, rfl, Below.refl _ _⟩
  case round =>
    obtain ⟨k, b, hk, rfl, rfl, hwas, hall, hap, hbw⟩ := hrel
    have hMM := HM.out
    have HBW := Lib.hid hbw
    by_cases hlt : k < n
    · have hk1 : k < l.length := by rw [HN.out]; exact hlt
      obtain ⟨b0, off, x, u, a1, p1, rfl, hbB, c0, c1, c2, c3, htk⟩ := tk_at (HR.out.on hbw) hk1 (HSZ.out _ (List.getElem_mem hk1))
      obtain ⟨t, ht⟩ : ∃ t, l[k]'hk1 = t := ⟨_, rfl⟩
      rw [ht] at c0 c2 htk
      obtain ⟨z, hz⟩ : ∃ z : Int, (t.kind : Int) = z := ⟨_, rfl⟩
      obtain ⟨m, hmm⟩ : ∃ m, t.attrs.length = m := ⟨_, rfl⟩
      obtain ⟨q, hq⟩ : ∃ q, checkR t = q := ⟨_, rfl⟩
      have HCK : Hid (∀ o, Calls Tryz.prog 12 #[.agg #[.int .u8 z, .string x, .slice a1 m p1, .string u]] (wr.alloc o) fun e w' => e = .returned (.int .i64 q) ∧ Below (wr.alloc o).heap.size (wr.alloc o) w') := Lib.hid fun o => by
        have := check9q t x u a1 p1 (wr.alloc o) (htk.on ((Below.refl _ _).alloc (Nat.le_refl _) o)) q hq
        unfold TkV at this
        rw [hz, hmm] at this
        exact this
      rw [hz] at c0
      rw [hmm] at c2
      have HBO : Hid (∀ o, Below w.heap.size w (wr.alloc o)) := Lib.hid fun o => hbw.alloc hbw.size o
      have hcs : (q = 0 ∧ mayT t = true) ∨ (q = 8 ∧ mayT t = false) := by
        unfold checkR at hq
        cases hmt : mayT t with
        | true => rw [hmt] at hq; exact .inl ⟨hq.symm, rfl⟩
        | false => rw [hmt] at hq; exact .inr ⟨hq.symm, rfl⟩
      have bk : (0 : Int) ≤ (k : Int) ∧ (k : Int) < (n : Int) := by omega
      rcases hcs with ⟨rfl, hmt⟩ | ⟨rfl, hmt⟩
      · have hall' : (l.take (k + 1)).all mayT = true := by rw [List.take_succ_eq_append_getElem hk1, List.all_append, hall, ht]; simp [hmt]
        have HALL := Lib.hid hall'
        have hnew := wasT_succ hk1
        rw [ht] at hnew
        have hon := fun hb => apart_on hk1 hap hb
        have hoff := fun hb => apart_off hk1 hb
        rw [ht, hwas] at hon hoff
        by_cases h4 : z = 4
        · have q4 : (z == 4) = true := by simpa using h4
          rw [show t.kind = 4 by omega] at hon hoff hnew
          cases b with
          | true =>
            obtain ⟨rfl, rfl⟩ := HBad.out (fun hh => by rw [hoff (by decide)] at hh; exact absurd hh.2 (by decide))
            clear ht htk hbw hall hap hwas hz hmm hq hall' hnew hon hoff hmt h4
            go_wp2_with (first
              | (refine wpList_store_row rfl _ _ _ rfl wr.heap.size #[.int .u8 z, .string x, .slice a1 m p1, .string u] rfl rfl 32 zTk (heap_alloc_new _ _) sizeTk rfl (oneTk _ _ _ _) ?_; rw [World.setRow_alloc_new])
              | (refine wpList_load_row rfl _ _ rfl wr.heap.size rfl 32 #[.int .u8 z, .string x, .slice a1 m p1, .string u] (0, 0) _ (heap_alloc_new _ _) Tryz.underlying32 rfl sizeTk ?_)
              | (go_at_call 12; (with_reducible refine (HCK.out _).mono ?_); rintro e1 w1 ⟨rfl, hb1⟩; have d0 := (box_cell9 hb1 0 (.int .u8 z) rfl).1; have HB1 : Hid (Below w.heap.size w w1) := Lib.hid (stp (HBO.out _) hb1); clear hb1)
              | fail)
            go_ret2
            exact ⟨rfl, HB1.out⟩
          | false =>
            have HON := Lib.hid (hon (by decide))
            have HNEW : Hid (wasT l (k + 1) = true) := Lib.hid (by rw [hnew]; rfl)
            clear ht htk hbw hall hap hwas hz hmm hq hall' hnew hon hoff hmt h4
            go_wp2_with (first
              | (refine wpList_store_row rfl _ _ _ rfl wr.heap.size #[.int .u8 z, .string x, .slice a1 m p1, .string u] rfl rfl 32 zTk (heap_alloc_new _ _) sizeTk rfl (oneTk _ _ _ _) ?_; rw [World.setRow_alloc_new])
              | (refine wpList_load_row rfl _ _ rfl wr.heap.size rfl 32 #[.int .u8 z, .string x, .slice a1 m p1, .string u] (0, 0) _ (heap_alloc_new _ _) Tryz.underlying32 rfl sizeTk ?_)
              | (go_at_call 12; (with_reducible refine (HCK.out _).mono ?_); rintro e1 w1 ⟨rfl, hb1⟩; have d0 := (box_cell9 hb1 0 (.int .u8 z) rfl).1; have HB1 : Hid (Below w.heap.size w w1) := Lib.hid (stp (HBO.out _) hb1); clear hb1)
              | fail)
            go_roundg (gk - 1)
            case rel => exact ⟨k + 1, true, by omega, by go_num, by first | rfl | simp, HNEW.out, HALL.out, HON.out, HB1.out⟩
            case measure => omega
        · have q4 : (z == 4) = false := by simpa using h4
          rw [decide_eq_false (show ¬ t.kind = 4 by omega), Bool.false_and] at hon hoff
          rw [decide_eq_false (show ¬ t.kind = 4 by omega)] at hnew
          have HON := Lib.hid (hon rfl)
          have HNEW := Lib.hid hnew
          clear ht htk hbw hall hap hwas hz hmm hq hall' hnew hon hoff hmt h4
          go_wp2_with (first
            | (refine wpList_store_row rfl _ _ _ rfl wr.heap.size #[.int .u8 z, .string x, .slice a1 m p1, .string u] rfl rfl 32 zTk (heap_alloc_new _ _) sizeTk rfl (oneTk _ _ _ _) ?_; rw [World.setRow_alloc_new])
            | (refine wpList_load_row rfl _ _ rfl wr.heap.size rfl 32 #[.int .u8 z, .string x, .slice a1 m p1, .string u] (0, 0) _ (heap_alloc_new _ _) Tryz.underlying32 rfl sizeTk ?_)
            | (go_at_call 12; (with_reducible refine (HCK.out _).mono ?_); rintro e1 w1 ⟨rfl, hb1⟩; have d0 := (box_cell9 hb1 0 (.int .u8 z) rfl).1; have HB1 : Hid (Below w.heap.size w w1) := Lib.hid (stp (HBO.out _) hb1); clear hb1)
            | fail)
          go_roundg (gk - 1)
          case rel => exact ⟨k + 1, false, by omega, by go_num, by first | rfl | simp, HNEW.out, HALL.out, HON.out, HB1.out⟩
          case measure => omega
      · obtain ⟨rfl, rfl⟩ := HBad.out (fun hh => by
          have := List.all_eq_true.1 hh.1 _ (List.getElem_mem hk1)
          rw [ht, hmt] at this
          cases this)
        clear ht htk hbw hall hap hwas hz hmm hq hmt
        go_wp2_with (first
          | (refine wpList_store_row rfl _ _ _ rfl wr.heap.size #[.int .u8 z, .string x, .slice a1 m p1, .string u] rfl rfl 32 zTk (heap_alloc_new _ _) sizeTk rfl (oneTk _ _ _ _) ?_; rw [World.setRow_alloc_new])
          | (refine wpList_load_row rfl _ _ rfl wr.heap.size rfl 32 #[.int .u8 z, .string x, .slice a1 m p1, .string u] (0, 0) _ (heap_alloc_new _ _) Tryz.underlying32 rfl sizeTk ?_)
          | (go_at_call 12; (with_reducible refine (HCK.out _).mono ?_); rintro e1 w1 ⟨rfl, hb1⟩; have HB1 : Hid (Below w.heap.size w w1) := Lib.hid (stp (HBO.out _) hb1); clear hb1)
          | fail)
        go_ret2
        exact ⟨rfl, HB1.out⟩
    · obtain rfl : n = k := by omega
      have HAll : Hid (l.all mayT = true) := Lib.hid (by rwa [List.take_of_length_le (by rw [HN.out]; exact Nat.le_refl _)] at hall)
      have HAp : Hid (apart l = true) := Lib.hid (by rwa [List.take_of_length_le (by rw [HN.out]; exact Nat.le_refl _)] at hap)
      clear hall hap hwas hbw hlt hk
      by_cases h5 : 512 < n
      · have g5 : decide ((512 : Int) < (n : Int)) = true := decide_eq_true (by omega)
        obtain ⟨rfl, rfl⟩ := HMany.out HAll.out HAp.out (.inl h5)
        clear h5
        go_wp2_with fail
        go_ret2
        exact ⟨rfl, HBW.out⟩
      · have g5 : decide ((512 : Int) < (n : Int)) = false := decide_eq_false (by omega)
        have H5 : Hid (n ≤ 512) := Lib.hid (by omega)
        clear h5
        obtain ⟨B, hB⟩ : ∃ B, wr.heap.size = B := ⟨_, rfl⟩
        have hnewB := bld_new wr
        rw [hB] at hnewB
        have HNB := Lib.hid hnewB
        have HRW : Hid (RdC TkC wr B A l) := Lib.hid (hB ▸ HR.out.on HBW.out)
        have HBX : Hid (∀ o, Below B wr (wr.alloc o)) := Lib.hid fun o => (Below.refl _ _).alloc (by omega) o
        have HWB : Hid (∀ W, Below B wr W → Below w.heap.size w W) := Lib.hid fun W hW => HBW.out.trans (hW.mono (by have := HBW.out.size; omega))
        have HSB : Hid (wr.heap.size = B) := hB
        clear hnewB
        go_wp2_with fail
        obtain ⟨wo, rfl⟩ : ∃ wo : World, wo = wr := ⟨_, rfl⟩
        go_loopg [38] n (fun gg vi wr => ∃ (k : Nat), k + gg = n ∧ vi = .int .i64 k ∧ ((l.take k).flatMap writeT).length ≤ 16384 ∧ Bld B B ((l.take k).flatMap writeT) wr ∧ Below B wo wr)
        case atStart => exact ⟨0, by omega, rfl, Nat.zero_le _, HNB.out, HBX.out _⟩
        case round =>
          obtain ⟨k, hk, rfl, hlen, hbld, hbo⟩ := hrel
          have HBO2 := Lib.hid hbo
          have HBD := Lib.hid hbld
          have HSW : Hid (B ≤ wr.heap.size) := Lib.hid (HSB.out ▸ hbo.size)
          by_cases hlt : k < n
          · have hk1 : k < l.length := by rw [HN.out]; exact hlt
            obtain ⟨t, ht⟩ : ∃ t, l[k]'hk1 = t := ⟨_, rfl⟩
            have hsm := HSZ.out _ (List.getElem_mem hk1)
            have hmt := List.all_eq_true.1 HAll.out _ (List.getElem_mem hk1)
            obtain ⟨b0, off, rfl, hbB, hc⟩ := (HRW.out.below hbo) (by omega)
            obtain ⟨cs, ⟨x, a1, p1, u, rfl, hkd, hx, hu, hle, hmx, hnl, hrd⟩, hcell⟩ := hc k hk1
            have c0 : wr.cell? ⟨b0, off + k * 4, none⟩ = some (.int .u8 ((l[k]'hk1).kind : Int)) := hcell 0 (by simp)
            have c1 : wr.cell? ⟨b0, off + k * 4 + 1, none⟩ = some (.string x) := hcell 1 (by simp)
            have c2 : wr.cell? ⟨b0, off + k * 4 + 2, none⟩ = some (.slice a1 (l[k]'hk1).attrs.length p1) := hcell 2 (by simp)
            have c3 : wr.cell? ⟨b0, off + k * 4 + 3, none⟩ = some (.string u) := hcell 3 (by simp)
            have hsn := flatT_snoc hk1
            have hle2 := flatT_le l (k + 1)
            rw [ht] at hsm hmt hx hu hle hrd c0 c2 hsn
            have hpa : PutAt t x u a1 p1 B wr := ⟨hx, hu, hrd, hle, by rw [← ba_l, hx]; exact hsm.1, by rw [← ba_l, hu]; exact hsm.2.1, hsm.2.2.2, hmt⟩
            obtain ⟨z, hz⟩ : ∃ z : Int, (t.kind : Int) = z := ⟨_, rfl⟩
            obtain ⟨m, hmm⟩ : ∃ m, t.attrs.length = m := ⟨_, rfl⟩
            obtain ⟨q, hq⟩ : ∃ q : Int, (if fitT t then (0 : Int) else 4) = q := ⟨_, rfl⟩
            have HPUT : Hid (∀ o, Calls Tryz.prog 25 #[.pointer (some ⟨B, 0, none⟩), .agg #[.int .u8 z, .string x, .slice a1 m p1, .string u]] (wr.alloc o) fun e w' => e = .returned (.int .i64 q) ∧ (q = 0 → Bld B B ((l.take k).flatMap writeT ++ writeT t) w') ∧ Below B (wr.alloc o) w') := Lib.hid fun o => by
              have hbo2 : Below B wr (wr.alloc o) := (Below.refl _ _).alloc HSW.out o
              have := put9 B B ((l.take k).flatMap writeT) t x u a1 p1 (wr.alloc o) (hbld.alloc o) (by omega) ⟨hpa.name, hpa.text, hpa.attrs.below hbo2, hpa.le, hpa.ns, hpa.us, hpa.sz, hpa.may⟩ (Nat.le_trans HSW.out (by simp)) q hq
              unfold TkV at this
              rw [hz, hmm] at this
              exact this
            rw [hz] at c0
            rw [hmm] at c2
            have HBO3 : Hid (∀ o, Below B wo (wr.alloc o)) := Lib.hid fun o => hbo.alloc HSW.out o
            have bk : (0 : Int) ≤ (k : Int) ∧ (k : Int) < (n : Int) := by omega
            cases hfit : fitT t with
            | false =>
              rw [hfit] at hq
              obtain rfl : (4 : Int) = q := by simpa using hq
              have hbig := fitT_no hmt hfit
              obtain ⟨rfl, rfl⟩ := HMany.out HAll.out HAp.out (.inr (by rw [hsn, List.length_append] at hle2; omega))
              clear ht hsm hmt hc hx hu hle hmx hnl hrd hcell hsn hle2 hpa hz hmm hq hfit hbig hlen hbld hbo hkd hk1
              go_wp2_with (first
                | (refine wpList_store_row rfl _ _ _ rfl wr.heap.size #[.int .u8 z, .string x, .slice a1 m p1, .string u] rfl rfl 32 zTk (heap_alloc_new _ _) sizeTk rfl (oneTk _ _ _ _) ?_; rw [World.setRow_alloc_new])
                | (refine wpList_load_row rfl _ _ rfl wr.heap.size rfl 32 #[.int .u8 z, .string x, .slice a1 m p1, .string u] (0, 0) _ (heap_alloc_new _ _) Tryz.underlying32 rfl sizeTk ?_)
                | (go_at_call 25; (with_reducible refine (HPUT.out _).mono ?_); rintro e1 w1 ⟨rfl, _, hb1⟩; have HB1 : Hid (Below w.heap.size w w1) := Lib.hid (HWB.out _ ((HBO3.out _).trans hb1)); clear hb1)
                | fail)
              go_ret2
              exact ⟨rfl, HB1.out⟩
            | true =>
              rw [hfit] at hq
              obtain rfl : (0 : Int) = q := by simpa using hq
              have hwf := writeT_fit hmt hfit hsm
              obtain ⟨y, hy⟩ : ∃ y : ByteArray, y.data.toList = (l.take k).flatMap writeT ++ writeT t := ⟨⟨_⟩, ba_mk9 _⟩
              have hys : y.size = ((l.take (k + 1)).flatMap writeT).length := by rw [hsn, ← hy, ba_l]
              rw [← hy] at HPUT
              have HY : Hid (y.data.toList = (l.take (k + 1)).flatMap writeT) := Lib.hid (by rw [hy, hsn])
              by_cases hbig : 16384 < y.size
              · obtain ⟨rfl, rfl⟩ := HMany.out HAll.out HAp.out (.inr (by omega))
                have g6 : decide ((16384 : Int) < (y.size : Int)) = true := decide_eq_true (by omega)
                clear ht hsm hmt hc hx hu hle hmx hnl hrd hcell hsn hle2 hpa hz hmm hq hfit hbig hlen hbld hbo hkd hk1 hwf hy hys
                go_wp2_with (first
                  | (refine wpList_store_row rfl _ _ _ rfl wr.heap.size #[.int .u8 z, .string x, .slice a1 m p1, .string u] rfl rfl 32 zTk (heap_alloc_new _ _) sizeTk rfl (oneTk _ _ _ _) ?_; rw [World.setRow_alloc_new])
                  | (refine wpList_load_row rfl _ _ rfl wr.heap.size rfl 32 #[.int .u8 z, .string x, .slice a1 m p1, .string u] (0, 0) _ (heap_alloc_new _ _) Tryz.underlying32 rfl sizeTk ?_)
                  | (go_at_call 25; (with_reducible refine (HPUT.out _).mono ?_); rintro e1 w1 ⟨rfl, hbd1, hb1⟩; have HD1 := Lib.hid (hbd1 rfl); have HB1 : Hid (Below w.heap.size w w1) := Lib.hid (HWB.out _ ((HBO3.out _).trans hb1)); clear hb1 hbd1)
                  | (go_at_call 26; (with_reducible refine (bln B B y w1 HD1.out).mono ?_); rintro e2 w2 ⟨rfl, rfl⟩)
                  | fail)
                go_ret2
                exact ⟨rfl, HB1.out⟩
              · have g6 : decide ((16384 : Int) < (y.size : Int)) = false := decide_eq_false (by omega)
                have HYS : Hid (((l.take (k + 1)).flatMap writeT).length ≤ 16384) := Lib.hid (by omega)
                clear ht hsm hmt hc hx hu hle hmx hnl hrd hcell hsn hle2 hpa hz hmm hq hfit hbig hlen hbld hbo hkd hk1 hwf hy hys
                go_wp2_with (first
                  | (refine wpList_store_row rfl _ _ _ rfl wr.heap.size #[.int .u8 z, .string x, .slice a1 m p1, .string u] rfl rfl 32 zTk (heap_alloc_new _ _) sizeTk rfl (oneTk _ _ _ _) ?_; rw [World.setRow_alloc_new])
                  | (refine wpList_load_row rfl _ _ rfl wr.heap.size rfl 32 #[.int .u8 z, .string x, .slice a1 m p1, .string u] (0, 0) _ (heap_alloc_new _ _) Tryz.underlying32 rfl sizeTk ?_)
                  | (go_at_call 25; (with_reducible refine (HPUT.out _).mono ?_); rintro e1 w1 ⟨rfl, hbd1, hb1⟩; have HD1 := Lib.hid (hbd1 rfl); have HB1 : Hid (Below B wo w1) := Lib.hid ((HBO3.out _).trans hb1); clear hb1 hbd1)
                  | (go_at_call 26; (with_reducible refine (bln B B y w1 HD1.out).mono ?_); rintro e2 w2 ⟨rfl, rfl⟩)
                  | fail)
                go_roundg (gk - 1)
                case rel => exact ⟨k + 1, by omega, by go_num, HYS.out, HY.out ▸ HD1.out, HB1.out⟩
                case measure => omega
          · obtain rfl : n = k := by omega
            rw [List.take_of_length_le (by rw [HN.out]; exact Nat.le_refl _)] at hlen hbld
            obtain ⟨hs1, rfl⟩ := HGood.out HAll.out HAp.out H5.out hlen
            have hs2 : s.data.toList = l.flatMap writeT := by rw [hs1]
            have HBS : Hid (Bld B B s.data.toList wr) := Lib.hid (hs2 ▸ hbld)
            clear hs1 hs2 hbld hlen hbo HBD
            go_wp2_with (first
              | (go_at_call 27; (with_reducible refine (bst B B s wr HBS.out HSW.out).mono ?_); rintro e2 w2 ⟨rfl, _, hb2⟩)
              | fail)
            go_ret2
            exact ⟨rfl, HWB.out _ (HBO2.out.trans hb2)⟩
end Hx
end Go.Proofs.YtichboamakgabaaGreatDoor
namespace Go.Proofs.YtichboamakgabaaGreatDoor
open Go.RowKit
namespace Hx
open Lx Tx Nmb Es
set_option linter.unusedVariables false
theorem lexR_er {l : List UInt8} {ts : List Tk} {n er : Int} (h : lexR l = (ts, n, er)) : er = 0 ∨ er = 4 ∨ er = 50 ∨ er = 80 := by
  by_cases h0 : er = 0
  · exact .inl h0
  · exact .inr (lexR_bad h h0).2.1
theorem lexR_small {l : List UInt8} {ts : List Tk} {n er : Int} (h : lexR l = (ts, n, er)) : ts.length ≤ 512 ∧ ∀ t ∈ ts, t.attrs.length ≤ 16 := by
  by_cases h0 : er = 0
  · subst h0
    obtain ⟨_, _, _, _, h1, h2⟩ := lexR_ok h
    exact ⟨h1, h2⟩
  · rw [(lexR_bad h h0).1]
    exact ⟨by simp, by simp⟩
/-- Tokens that a call answers: where they lie. -/
def TkIn (ts : List Tk) (A : Option Addr) (c : Nat) (w : World) : Prop := RdC TkC w w.heap.size A ts ∧ ts.length ≤ c ∧ c ≤ maxLen ∧ (A = none → c = 0)
theorem TkIn.on {ts : List Tk} {A : Option Addr} {c : Nat} {w w' : World} (h : TkIn ts A c w) (hb : Below w.heap.size w w') : TkIn ts A c w' := ⟨h.1.on hb, h.2⟩
/-- ref.Lex, by what it answers. -/
theorem rlex9k (s : ByteArray) (w : World) (hm : s.size ≤ 1000000) (ts : List Tk) (n er : Int) (h : lexR s.data.toList = (ts, n, er)) :
    Calls Tryz.prog 15 #[.string s] w fun e w' => ∃ A c, e = .returned (.tuple #[.slice A ts.length c, .int .i64 n, .int .i64 er]) ∧ TkIn ts A c w' ∧ Below w.heap.size w w' := by
  refine (rlex9 s w hm).mono ?_
  rintro e w' ⟨hb, ts', n', er', A, c, h1, h2, h3, h4, h5, h6⟩
  rw [h] at h1
  obtain ⟨rfl, h7⟩ := (Prod.mk.injEq _ _ _ _).mp h1
  obtain ⟨rfl, rfl⟩ := (Prod.mk.injEq _ _ _ _).mp h7
  exact ⟨A, c, h2, ⟨h3, h4, h5, h6⟩, hb⟩
theorem name9 (s : ByteArray) (w : World) (hm : s.size ≤ 1000000) (b : Bool) (h : nameL s.data.toList = b) :
    Calls Tryz.prog 17 #[.string s] w fun e w' => e = .returned (.bool b) ∧ Below w.heap.size w w' :=
  (name9q s w hm b h).mono fun e w' ⟨h1, h2⟩ => ⟨h1, h2 ▸ Below.refl _ _⟩
theorem full9 (s : ByteArray) (w : World) (hm : s.size ≤ 1000000) (b : Bool) (h : fullL s.data.toList = b) :
    Calls Tryz.prog 19 #[.string s] w fun e w' => e = .returned (.bool b) ∧ Below w.heap.size w w' := full9q s w hm b h
theorem check9 (t : Tk) (x u : ByteArray) (A : Option Addr) (cp : Nat) (w : World) (ht : TkAt t x u A cp w) (q : Int) (h : checkR t = q) :
    Calls Tryz.prog 12 #[TkV t x u A cp] w fun e w' => e = .returned (.int .i64 q) ∧ Below w.heap.size w w' := check9q t x u A cp w ht q h
theorem join9 (A : Option Addr) (n cp : Nat) (l : List Tk) (w : World) (hr : RdC TkC w w.heap.size A l) (hn : l.length = n) (hm : n ≤ 1000000) (hsz : ∀ t ∈ l, Small t) (s : ByteArray) (e : Int) (h : joinR l = (s.data.toList, e)) :
    Calls Tryz.prog 10 #[.slice A n cp] w fun e' w' => e' = .returned (.tuple #[.string s, .int .i64 e]) ∧ Below w.heap.size w w' := join9q A n cp l w hr hn hm hsz s e h
end Hx
end Go.Proofs.YtichboamakgabaaGreatDoor
