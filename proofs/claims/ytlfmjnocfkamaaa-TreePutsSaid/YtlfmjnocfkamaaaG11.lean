/-
  Texts of one seat, put together: TreB, EscC, EscD.
-/
import Derived.Test.YtlfmjnocfkamaaaG10
import Derived.Test.YtlfmjnocfkamaaaG08
import Derived.Test.YtlfmjnocfkamaaaShelf
import Derived.Lib.ConvBytes
import Derived.Laws.Externs
namespace Go.Proofs.Ytlfmjnocfkamaaa
open Go.RowKit
namespace Hx
open Lx Tr Tx Nmb Es
set_option linter.unusedVariables false
theorem em_l (s : ByteArray) : s.toList.isEmpty = s.data.toList.isEmpty := by rw [ByteArray.toList_eq]
set_option maxHeartbeats 8000000 in
set_option maxRecDepth 100000 in
theorem hold_1 (n : Nd) (x y z : ByteArray) (A : Option Addr) (c : Nat) (w : World) (h : NdAt n x y z A c w) (hs : SmallN n) (hk : n.kind = 1) (q : Bool) (hq : holdB n = q) :
    Calls Try.prog 58 #[NdV n x y z A c] w fun e w' => e = .returned (.bool q) ∧ Below w.heap.size w w' := by
  have HBO : Hid (∀ o, Below w.heap.size w (w.alloc o)) := Lib.hid fun o => (Below.refl _ _).alloc (Nat.le_refl _) o
  have HND : Hid (∀ W, Below w.heap.size w W → NdAt n x y z A c W) := Lib.hid fun W hW => h.on hW
  have HXS : Hid (x.size ≤ 1000000) := Lib.hid (by rw [← ba_l, h.space]; exact hs.space)
  have HYS : Hid (y.size ≤ 1000000) := Lib.hid (by rw [← ba_l, h.name]; exact hs.name)
  have HZS : Hid (z.size ≤ 1000000) := Lib.hid (by rw [← ba_l, h.text]; exact hs.text)
  have HLN : Hid (n.attrs.length ≤ 1000000) := Lib.hid hs.attrs
  have HEA := Lib.hid hs.each
  have ba := h.lo
  have bb := h.hi
  obtain ⟨m, hm⟩ : ∃ m, n.attrs.length = m := ⟨_, rfl⟩
  have HNL := Lib.hid hm
  obtain ⟨y9, hmy⟩ : ∃ y9, n.many = y9 := ⟨_, rfl⟩
  obtain ⟨a1, h1⟩ : ∃ a, okT x.data.toList = a := ⟨_, rfl⟩
  obtain ⟨a2, h2⟩ : ∃ a, fullL y.data.toList = a := ⟨_, rfl⟩
  obtain ⟨a3, h3⟩ : ∃ a, atsOk n.attrs = a := ⟨_, rfl⟩
  obtain ⟨a4, h4⟩ : ∃ a, z.toList.isEmpty = a := ⟨_, rfl⟩
  obtain ⟨a5, h5⟩ : ∃ a, decide ((0 : Int) ≤ y9) = a := ⟨_, rfl⟩
  have HQ : Hid (q = (a1 && (a2 && (a3 && (a4 && a5))))) := Lib.hid (by
    rw [← hq, ← h1, ← h2, ← h3, ← h4, ← h5, em_l, h.space, h.name, h.text, ← hmy]
    unfold holdB ndOk
    rw [if_pos hk]
    cases fullL n.name <;> cases n.text.isEmpty <;> cases okT n.space <;> cases atsOk n.attrs <;> cases decide ((0 : Int) ≤ n.many) <;> rfl)
  have H1 := Lib.hid h1
  have H2 := Lib.hid h2
  have H3 := Lib.hid h3
  unfold NdV
  rw [hk, hm, hmy]
  rw [hmy] at ba bb
  clear h hs hk hq h1 h2 h3 hm hmy
  cases a1 with
  | false =>
    obtain rfl : q = false := HQ.out
    go_enter Try.func58, Try.ntmps58
    go_wp2_with (first
      | (go_at_call 63; (with_reducible refine (istext x _ HXS.out false H1.out).mono ?_); rintro e1 w1 ⟨rfl, hb1⟩; have HB1 : Hid (Below w.heap.size w w1) := Lib.hid (bel_in9 (HBO.out _) hb1); have HX1 := Lib.hid (kept_heap (heap_alloc_new w (.cells #[.int .u8 ((1 : Nat) : Int), .string x, .string y, .slice A m c, .string z, .int .i64 y9] 53)) hb1); have d10 := cellV w1 _ 0 _ _ _ HX1.out; have d11 := cellV w1 _ 1 _ _ _ HX1.out; have d12 := cellV w1 _ 2 _ _ _ HX1.out; have d13 := cellV w1 _ 3 _ _ _ HX1.out; have d14 := cellV w1 _ 4 _ _ _ HX1.out; have d15 := cellV w1 _ 5 _ _ _ HX1.out; clear hb1)
      | fail)
    go_ret
    exact ⟨rfl, HB1.out⟩
  | true =>
    cases a2 with
    | false =>
      obtain rfl : q = false := HQ.out
      go_enter Try.func58, Try.ntmps58
      go_wp2_with (first
        | (go_at_call 63; (with_reducible refine (istext x _ HXS.out true H1.out).mono ?_); rintro e1 w1 ⟨rfl, hb1⟩; have HB1 : Hid (Below w.heap.size w w1) := Lib.hid (bel_in9 (HBO.out _) hb1); have HX1 := Lib.hid (kept_heap (heap_alloc_new w (.cells #[.int .u8 ((1 : Nat) : Int), .string x, .string y, .slice A m c, .string z, .int .i64 y9] 53)) hb1); have d10 := cellV w1 _ 0 _ _ _ HX1.out; have d11 := cellV w1 _ 1 _ _ _ HX1.out; have d12 := cellV w1 _ 2 _ _ _ HX1.out; have d13 := cellV w1 _ 3 _ _ _ HX1.out; have d14 := cellV w1 _ 4 _ _ _ HX1.out; have d15 := cellV w1 _ 5 _ _ _ HX1.out; clear hb1)
        | (go_at_call 64; (with_reducible refine (full9q y _ HYS.out false H2.out).mono ?_); rintro e2 w2 ⟨rfl, hb2⟩; have HB2 : Hid (Below w.heap.size w w2) := Lib.hid (stp HB1.out hb2); have HX2 := Lib.hid (kept_heap HX1.out hb2); have d20 := cellV w2 _ 0 _ _ _ HX2.out; have d21 := cellV w2 _ 1 _ _ _ HX2.out; have d22 := cellV w2 _ 2 _ _ _ HX2.out; have d23 := cellV w2 _ 3 _ _ _ HX2.out; have d24 := cellV w2 _ 4 _ _ _ HX2.out; have d25 := cellV w2 _ 5 _ _ _ HX2.out; clear hb2)
        | fail)
      go_ret
      exact ⟨rfl, HB2.out⟩
    | true =>
      cases a3 with
      | false =>
        obtain rfl : q = false := HQ.out
        go_enter Try.func58, Try.ntmps58
        go_wp2_with (first
          | (go_at_call 63; (with_reducible refine (istext x _ HXS.out true H1.out).mono ?_); rintro e1 w1 ⟨rfl, hb1⟩; have HB1 : Hid (Below w.heap.size w w1) := Lib.hid (bel_in9 (HBO.out _) hb1); have HX1 := Lib.hid (kept_heap (heap_alloc_new w (.cells #[.int .u8 ((1 : Nat) : Int), .string x, .string y, .slice A m c, .string z, .int .i64 y9] 53)) hb1); have d10 := cellV w1 _ 0 _ _ _ HX1.out; have d11 := cellV w1 _ 1 _ _ _ HX1.out; have d12 := cellV w1 _ 2 _ _ _ HX1.out; have d13 := cellV w1 _ 3 _ _ _ HX1.out; have d14 := cellV w1 _ 4 _ _ _ HX1.out; have d15 := cellV w1 _ 5 _ _ _ HX1.out; clear hb1)
          | (go_at_call 64; (with_reducible refine (full9q y _ HYS.out true H2.out).mono ?_); rintro e2 w2 ⟨rfl, hb2⟩; have HB2 : Hid (Below w.heap.size w w2) := Lib.hid (stp HB1.out hb2); have HX2 := Lib.hid (kept_heap HX1.out hb2); have d20 := cellV w2 _ 0 _ _ _ HX2.out; have d21 := cellV w2 _ 1 _ _ _ HX2.out; have d22 := cellV w2 _ 2 _ _ _ HX2.out; have d23 := cellV w2 _ 3 _ _ _ HX2.out; have d24 := cellV w2 _ 4 _ _ _ HX2.out; have d25 := cellV w2 _ 5 _ _ _ HX2.out; clear hb2)
          | (go_at_call 65; (with_reducible refine (mayhave A m c n.attrs _ (HND.out _ HB2.out).rd HNL.out (HNL.out ▸ HLN.out) HEA.out false H3.out).mono ?_); rintro e3 w3 ⟨rfl, hb3⟩; have HB3 : Hid (Below w.heap.size w w3) := Lib.hid (stp HB2.out hb3); have HX3 := Lib.hid (kept_heap HX2.out hb3); have d30 := cellV w3 _ 0 _ _ _ HX3.out; have d31 := cellV w3 _ 1 _ _ _ HX3.out; have d32 := cellV w3 _ 2 _ _ _ HX3.out; have d33 := cellV w3 _ 3 _ _ _ HX3.out; have d34 := cellV w3 _ 4 _ _ _ HX3.out; have d35 := cellV w3 _ 5 _ _ _ HX3.out; clear hb3)
          | fail)
        go_ret
        exact ⟨rfl, HB3.out⟩
      | true =>
        cases a4 with
        | false =>
          obtain rfl : q = false := HQ.out
          go_enter Try.func58, Try.ntmps58
          go_wp2_with (first
            | (go_at_call 63; (with_reducible refine (istext x _ HXS.out true H1.out).mono ?_); rintro e1 w1 ⟨rfl, hb1⟩; have HB1 : Hid (Below w.heap.size w w1) := Lib.hid (bel_in9 (HBO.out _) hb1); have HX1 := Lib.hid (kept_heap (heap_alloc_new w (.cells #[.int .u8 ((1 : Nat) : Int), .string x, .string y, .slice A m c, .string z, .int .i64 y9] 53)) hb1); have d10 := cellV w1 _ 0 _ _ _ HX1.out; have d11 := cellV w1 _ 1 _ _ _ HX1.out; have d12 := cellV w1 _ 2 _ _ _ HX1.out; have d13 := cellV w1 _ 3 _ _ _ HX1.out; have d14 := cellV w1 _ 4 _ _ _ HX1.out; have d15 := cellV w1 _ 5 _ _ _ HX1.out; clear hb1)
            | (go_at_call 64; (with_reducible refine (full9q y _ HYS.out true H2.out).mono ?_); rintro e2 w2 ⟨rfl, hb2⟩; have HB2 : Hid (Below w.heap.size w w2) := Lib.hid (stp HB1.out hb2); have HX2 := Lib.hid (kept_heap HX1.out hb2); have d20 := cellV w2 _ 0 _ _ _ HX2.out; have d21 := cellV w2 _ 1 _ _ _ HX2.out; have d22 := cellV w2 _ 2 _ _ _ HX2.out; have d23 := cellV w2 _ 3 _ _ _ HX2.out; have d24 := cellV w2 _ 4 _ _ _ HX2.out; have d25 := cellV w2 _ 5 _ _ _ HX2.out; clear hb2)
            | (go_at_call 65; (with_reducible refine (mayhave A m c n.attrs _ (HND.out _ HB2.out).rd HNL.out (HNL.out ▸ HLN.out) HEA.out true H3.out).mono ?_); rintro e3 w3 ⟨rfl, hb3⟩; have HB3 : Hid (Below w.heap.size w w3) := Lib.hid (stp HB2.out hb3); have HX3 := Lib.hid (kept_heap HX2.out hb3); have d30 := cellV w3 _ 0 _ _ _ HX3.out; have d31 := cellV w3 _ 1 _ _ _ HX3.out; have d32 := cellV w3 _ 2 _ _ _ HX3.out; have d33 := cellV w3 _ 3 _ _ _ HX3.out; have d34 := cellV w3 _ 4 _ _ _ HX3.out; have d35 := cellV w3 _ 5 _ _ _ HX3.out; clear hb3)
            | fail)
          go_ret
          exact ⟨rfl, HB3.out⟩
        | true =>
          obtain rfl : q = a5 := HQ.out
          go_enter Try.func58, Try.ntmps58
          go_wp2_with (first
            | (go_at_call 63; (with_reducible refine (istext x _ HXS.out true H1.out).mono ?_); rintro e1 w1 ⟨rfl, hb1⟩; have HB1 : Hid (Below w.heap.size w w1) := Lib.hid (bel_in9 (HBO.out _) hb1); have HX1 := Lib.hid (kept_heap (heap_alloc_new w (.cells #[.int .u8 ((1 : Nat) : Int), .string x, .string y, .slice A m c, .string z, .int .i64 y9] 53)) hb1); have d10 := cellV w1 _ 0 _ _ _ HX1.out; have d11 := cellV w1 _ 1 _ _ _ HX1.out; have d12 := cellV w1 _ 2 _ _ _ HX1.out; have d13 := cellV w1 _ 3 _ _ _ HX1.out; have d14 := cellV w1 _ 4 _ _ _ HX1.out; have d15 := cellV w1 _ 5 _ _ _ HX1.out; clear hb1)
            | (go_at_call 64; (with_reducible refine (full9q y _ HYS.out true H2.out).mono ?_); rintro e2 w2 ⟨rfl, hb2⟩; have HB2 : Hid (Below w.heap.size w w2) := Lib.hid (stp HB1.out hb2); have HX2 := Lib.hid (kept_heap HX1.out hb2); have d20 := cellV w2 _ 0 _ _ _ HX2.out; have d21 := cellV w2 _ 1 _ _ _ HX2.out; have d22 := cellV w2 _ 2 _ _ _ HX2.out; have d23 := cellV w2 _ 3 _ _ _ HX2.out; have d24 := cellV w2 _ 4 _ _ _ HX2.out; have d25 := cellV w2 _ 5 _ _ _ HX2.out; clear hb2)
            | (go_at_call 65; (with_reducible refine (mayhave A m c n.attrs _ (HND.out _ HB2.out).rd HNL.out (HNL.out ▸ HLN.out) HEA.out true H3.out).mono ?_); rintro e3 w3 ⟨rfl, hb3⟩; have HB3 : Hid (Below w.heap.size w w3) := Lib.hid (stp HB2.out hb3); have HX3 := Lib.hid (kept_heap HX2.out hb3); have d30 := cellV w3 _ 0 _ _ _ HX3.out; have d31 := cellV w3 _ 1 _ _ _ HX3.out; have d32 := cellV w3 _ 2 _ _ _ HX3.out; have d33 := cellV w3 _ 3 _ _ _ HX3.out; have d34 := cellV w3 _ 4 _ _ _ HX3.out; have d35 := cellV w3 _ 5 _ _ _ HX3.out; clear hb3)
            | fail)
          go_ret
          exact ⟨rfl, HB3.out⟩
set_option maxHeartbeats 8000000 in
set_option maxRecDepth 100000 in
theorem hold_2 (n : Nd) (x y z : ByteArray) (A : Option Addr) (c : Nat) (w : World) (h : NdAt n x y z A c w) (hs : SmallN n) (hk : n.kind = 2) (q : Bool) (hq : holdB n = q) :
    Calls Try.prog 58 #[NdV n x y z A c] w fun e w' => e = .returned (.bool q) ∧ Below w.heap.size w w' := by
  have HBO : Hid (∀ o, Below w.heap.size w (w.alloc o)) := Lib.hid fun o => (Below.refl _ _).alloc (Nat.le_refl _) o
  have HND : Hid (∀ W, Below w.heap.size w W → NdAt n x y z A c W) := Lib.hid fun W hW => h.on hW
  have HXS : Hid (x.size ≤ 1000000) := Lib.hid (by rw [← ba_l, h.space]; exact hs.space)
  have HYS : Hid (y.size ≤ 1000000) := Lib.hid (by rw [← ba_l, h.name]; exact hs.name)
  have HZS : Hid (z.size ≤ 1000000) := Lib.hid (by rw [← ba_l, h.text]; exact hs.text)
  have HLN : Hid (n.attrs.length ≤ 1000000) := Lib.hid hs.attrs
  have HEA := Lib.hid hs.each
  have ba := h.lo
  have bb := h.hi
  obtain ⟨m, hm⟩ : ∃ m, n.attrs.length = m := ⟨_, rfl⟩
  have HNL := Lib.hid hm
  obtain ⟨y9, hmy⟩ : ∃ y9, n.many = y9 := ⟨_, rfl⟩
  obtain ⟨a1, h1⟩ : ∃ a, x.toList.isEmpty = a := ⟨_, rfl⟩
  obtain ⟨a2, h2⟩ : ∃ a, y.toList.isEmpty = a := ⟨_, rfl⟩
  obtain ⟨a3, h3⟩ : ∃ a, ((m : Int) == 0) = a := ⟨_, rfl⟩
  obtain ⟨a4, h4⟩ : ∃ a, (!z.toList.isEmpty) = a := ⟨_, rfl⟩
  obtain ⟨a5, h5⟩ : ∃ a, okT z.data.toList = a := ⟨_, rfl⟩
  obtain ⟨a6, h6⟩ : ∃ a, (y9 == 0) = a := ⟨_, rfl⟩
  have HQ : Hid (q = (a1 && (a2 && (a3 && (a4 && (a5 && a6)))))) := Lib.hid (by
    have e3 : ((m : Int) == 0) = n.attrs.isEmpty := by rw [← hm]; cases n.attrs <;> simp <;> omega
    have e6 : (y9 == 0) = (decide (n.many = 0) && decide (0 ≤ n.many)) := by rw [hmy, Bool.eq_iff_iff]; simp; omega
    rw [← hq, ← h1, ← h2, ← h3, ← h4, ← h5, ← h6, e3, e6, em_l, em_l, em_l, h.space, h.name, h.text]
    unfold holdB ndOk
    rw [if_neg (by omega), if_pos hk]
    cases n.name.isEmpty <;> cases n.space.isEmpty <;> cases n.attrs.isEmpty <;> cases decide (n.many = 0) <;> cases n.text.isEmpty <;> cases okT n.text <;> cases decide ((0 : Int) ≤ n.many) <;> rfl)
  have H5 := Lib.hid h5
  unfold NdV
  rw [hk, hm, hmy]
  rw [hmy] at ba bb
  clear h hs hk hq h5 hm hmy
  cases a1 with
  | false =>
    obtain rfl : q = false := HQ.out
    go_enter Try.func58, Try.ntmps58
    go_wp2_with fail
    go_ret
    exact ⟨rfl, HBO.out _⟩
  | true =>
    cases a2 with
    | false =>
      obtain rfl : q = false := HQ.out
      go_enter Try.func58, Try.ntmps58
      go_wp2_with fail
      go_ret
      exact ⟨rfl, HBO.out _⟩
    | true =>
      cases a3 with
      | false =>
        obtain rfl : q = false := HQ.out
        go_enter Try.func58, Try.ntmps58
        go_wp2_with fail
        go_ret
        exact ⟨rfl, HBO.out _⟩
      | true =>
        cases a4 with
        | false =>
          obtain rfl : q = false := HQ.out
          go_enter Try.func58, Try.ntmps58
          go_wp2_with fail
          go_ret
          exact ⟨rfl, HBO.out _⟩
        | true =>
          cases a5 with
          | false =>
            obtain rfl : q = false := HQ.out
            go_enter Try.func58, Try.ntmps58
            go_wp2_with (first
              | (go_at_call 63; (with_reducible refine (istext z _ HZS.out false H5.out).mono ?_); rintro e1 w1 ⟨rfl, hb1⟩; have HB1 : Hid (Below w.heap.size w w1) := Lib.hid (bel_in9 (HBO.out _) hb1); have HX1 := Lib.hid (kept_heap (heap_alloc_new w (.cells #[.int .u8 ((2 : Nat) : Int), .string x, .string y, .slice A m c, .string z, .int .i64 y9] 53)) hb1); have d10 := cellV w1 _ 0 _ _ _ HX1.out; have d11 := cellV w1 _ 1 _ _ _ HX1.out; have d12 := cellV w1 _ 2 _ _ _ HX1.out; have d13 := cellV w1 _ 3 _ _ _ HX1.out; have d14 := cellV w1 _ 4 _ _ _ HX1.out; have d15 := cellV w1 _ 5 _ _ _ HX1.out; clear hb1)
              | fail)
            go_ret
            exact ⟨rfl, HB1.out⟩
          | true =>
            obtain rfl : q = a6 := HQ.out
            go_enter Try.func58, Try.ntmps58
            go_wp2_with (first
              | (go_at_call 63; (with_reducible refine (istext z _ HZS.out true H5.out).mono ?_); rintro e1 w1 ⟨rfl, hb1⟩; have HB1 : Hid (Below w.heap.size w w1) := Lib.hid (bel_in9 (HBO.out _) hb1); have HX1 := Lib.hid (kept_heap (heap_alloc_new w (.cells #[.int .u8 ((2 : Nat) : Int), .string x, .string y, .slice A m c, .string z, .int .i64 y9] 53)) hb1); have d10 := cellV w1 _ 0 _ _ _ HX1.out; have d11 := cellV w1 _ 1 _ _ _ HX1.out; have d12 := cellV w1 _ 2 _ _ _ HX1.out; have d13 := cellV w1 _ 3 _ _ _ HX1.out; have d14 := cellV w1 _ 4 _ _ _ HX1.out; have d15 := cellV w1 _ 5 _ _ _ HX1.out; clear hb1)
              | fail)
            go_ret
            exact ⟨rfl, HB1.out⟩
set_option maxHeartbeats 8000000 in
set_option maxRecDepth 100000 in
theorem hold_no (n : Nd) (x y z : ByteArray) (A : Option Addr) (c : Nat) (w : World) (h : NdAt n x y z A c w) (hs : SmallN n) (hk1 : n.kind ≠ 1) (hk2 : n.kind ≠ 2) (q : Bool) (hq : holdB n = q) :
    Calls Try.prog 58 #[NdV n x y z A c] w fun e w' => e = .returned (.bool q) ∧ Below w.heap.size w w' := by
  have HBO : Hid (∀ o, Below w.heap.size w (w.alloc o)) := Lib.hid fun o => (Below.refl _ _).alloc (Nat.le_refl _) o
  obtain rfl : q = false := by rw [← hq]; unfold holdB ndOk; rw [if_neg hk1, if_neg hk2]; rfl
  have f1 : ((n.kind : Int) == 1) = false := by simp; omega
  have f2 : ((n.kind : Int) == 2) = false := by simp; omega
  unfold NdV
  clear h hs hk1 hk2 hq
  go_enter Try.func58, Try.ntmps58
  go_wp2_with fail
  go_ret
  exact ⟨rfl, HBO.out _⟩
/-- A node may be, and has no less than no nodes within it. -/
theorem hold10 (n : Nd) (x y z : ByteArray) (A : Option Addr) (c : Nat) (w : World) (h : NdAt n x y z A c w) (hs : SmallN n) (q : Bool) (hq : holdB n = q) :
    Calls Try.prog 58 #[NdV n x y z A c] w fun e w' => e = .returned (.bool q) ∧ Below w.heap.size w w' := by
  by_cases h1 : n.kind = 1
  · exact hold_1 n x y z A c w h hs h1 q hq
  · by_cases h2 : n.kind = 2
    · exact hold_2 n x y z A c w h hs h2 q hq
    · exact hold_no n x y z A c w h hs h1 h2 q hq
end Hx
end Go.Proofs.Ytlfmjnocfkamaaa
namespace Go.Proofs.Ytlfmjnocfkamaaa
open Go.RowKit
namespace Hx
open Tx Nmb Es
set_option linter.unusedVariables false
def lowv (c : UInt8) : Nat := (c ||| 32).toNat
theorem low_bits (c : UInt8) : bits .or .u8 (c.toNat : Int) 32 = (lowv c : Int) := u8_every (fun c => bits .or .u8 (c.toNat : Int) 32 = (lowv c : Int)) (by decide +kernel) c
theorem low_cases (c : UInt8) : lowv c ≤ 255 ∧ ((48 ≤ c.toNat ∧ c.toNat ≤ 57 ∧ hxv c = some (c.toNat - 48)) ∨ ((c.toNat < 48 ∨ 57 < c.toNat) ∧ c.toNat ≠ 95 ∧ 97 ≤ lowv c ∧ lowv c ≤ 102 ∧ hxv c = some (lowv c - 87)) ∨
    ((c.toNat < 48 ∨ 57 < c.toNat) ∧ c.toNat ≠ 95 ∧ 103 ≤ lowv c ∧ lowv c ≤ 122 ∧ hxv c = none) ∨ ((c.toNat < 48 ∨ 57 < c.toNat) ∧ (lowv c < 97 ∨ 122 < lowv c) ∧ hxv c = none)) :=
  u8_every (fun c => lowv c ≤ 255 ∧ ((48 ≤ c.toNat ∧ c.toNat ≤ 57 ∧ hxv c = some (c.toNat - 48)) ∨ ((c.toNat < 48 ∨ 57 < c.toNat) ∧ c.toNat ≠ 95 ∧ 97 ≤ lowv c ∧ lowv c ≤ 102 ∧ hxv c = some (lowv c - 87)) ∨
    ((c.toNat < 48 ∨ 57 < c.toNat) ∧ c.toNat ≠ 95 ∧ 103 ≤ lowv c ∧ lowv c ≤ 122 ∧ hxv c = none) ∨ ((c.toNat < 48 ∨ 57 < c.toNat) ∧ (lowv c < 97 ∨ 122 < lowv c) ∧ hxv c = none))) (by decide +kernel) c
/-- What ParseUint answers at the base of 16, of six bytes at most. -/
def puV (o : Option Nat) (ev : Value) : Value := match o with | some n => .tuple #[.int .u64 (n : Int), .nilIface] | none => .tuple #[.int .u64 0, ev]
theorem pow16 {k : Nat} (h : k ≤ 5) : 16 ^ k ≤ 1048576 := Nat.le_trans (Nat.pow_le_pow_right (by decide) h) (by decide)
theorem u64_in {x : Int} (h0 : 0 ≤ x) (h1 : x ≤ 9007199254740991) : IntKind.u64.wrap x = x := by rw [IntKind.wrap_u64]; omega
theorem u8_in {x : Int} (h0 : 0 ≤ x) (h1 : x ≤ 255) : IntKind.u8.wrap x = x := by rw [IntKind.wrap_u8]; omega
end Hx
end Go.Proofs.Ytlfmjnocfkamaaa
namespace Go.Proofs.Ytlfmjnocfkamaaa
open Go.RowKit
namespace Hx
open Tx Nmb Es
set_option linter.unusedVariables false
/-- The number of hexadecimal digits, six at most, whatever stands first. -/
def hexO (l : List UInt8) : Option Nat := if l = [] then none else hexF l
/-- What hexadecimal answers. -/
def hexI (l : List UInt8) : Int × Int := match hexV l with | some n => ((n : Int), 0) | none => (0, 80)
theorem hexO_le {l : List UInt8} {n : Nat} (h : hexO l = some n) (h6 : l.length ≤ 6) : n ≤ 16777215 := by
  unfold hexO at h
  split at h
  · cases h
  · have key : ∀ (k : Nat), k ≤ l.length → ∀ m, hexF (l.take k) = some m → m + 1 ≤ 16 ^ k := by
      intro k
      induction k with
      | zero => intro _ m h; cases h; decide
      | succ k ih =>
        intro hk m hm
        have hc : l[k]? = some (l[k]'(by omega)) := List.getElem?_eq_getElem (by omega)
        rw [take_next8 hc, hexF_snoc] at hm
        cases h1 : hexF (l.take k) with
        | none => rw [h1] at hm; cases hm
        | some p =>
          have := ih (by omega) p h1
          rw [h1] at hm
          cases h3 : hxv (l[k]'(by omega)) with
          | none => rw [h3] at hm; cases hm
          | some d =>
            rw [h3] at hm
            have hd : d ≤ 15 := by
              unfold hxv at h3
              split at h3
              · cases h3; omega
              · split at h3
                · cases h3; omega
                · split at h3
                  · cases h3; omega
                  · cases h3
            have : m = 16 * p + d := by simpa using hm.symm
            rw [this, Nat.pow_succ]
            omega
    have := key l.length (Nat.le_refl _) n (by rw [List.take_length]; exact h)
    have h2 : 16 ^ l.length ≤ 16 ^ 6 := Nat.pow_le_pow_right (by decide) h6
    have h3 : (16 : Nat) ^ 6 = 16777216 := by decide
    omega
theorem hexV_O {l : List UInt8} (h6 : ¬ 6 < l.length) (h : l.head? ≠ some 48) : hexV l = hexO l := by
  unfold hexO
  by_cases h0 : l = []
  · rw [if_pos h0, hexV_out (.inl h0)]
  · rw [if_neg h0, hexV_in h0 h6 h]
theorem pre48 (l : List UInt8) : Lib.hasPrefix l [48] = decide (l.head? = some 48) := by
  cases l with
  | nil => rfl
  | cons c r =>
    by_cases hb : c = 48
    · subst hb; simp [Lib.hasPrefix, List.isPrefixOf]
    · have hb2 : (48 == c) = false := by simpa using Ne.symm hb
      have e : decide ((c :: r).head? = some 48) = false := decide_eq_false (fun h => hb (Option.some.inj h))
      rw [e]
      simp [Lib.hasPrefix, List.isPrefixOf, hb2]
theorem hp48 (s : ByteArray) (b : Bool) (w : World) (h : decide (s.data.toList.head? = some 48) = b) :
    Calls Try.prog 79 #[.string s, .string ⟨#[48]⟩] w fun e w' => e = .returned (.bool b) ∧ w = w' :=
  (Try.strings_HasPrefix s ⟨#[48]⟩ w).mono fun e w' ⟨h1, h2⟩ => ⟨by rw [h1, ← h]; exact congrArg _ (congrArg _ (pre48 _)), h2.symm⟩
end Hx
end Go.Proofs.Ytlfmjnocfkamaaa
