/-
  Texts of one seat, put together: TreK, TreB, EscC, EscD, NumT, NumU.
-/
import Derived.Test.YtioiifdcgdoanaaGreatDoorIn02
import Derived.Test.YtioiifdcgdoanaaGreatDoorIn10
import Derived.Test.YtioiifdcgdoanaaGreatDoorIn04
import Derived.Test.YtioiifdcgdoanaaGreatDoorShelf
import Derived.Lib.ConvBytes
import Derived.Laws.Externs
namespace Go.Proofs.YtioiifdcgdoanaaGreatDoor
namespace Hx
open Lx Tr Tx Nmb Es
set_option linter.unusedVariables false
def holdB (n : Nd) : Bool := ndOk n && decide (0 ≤ n.many)
theorem kidsD_add {g : List Nd → Option (List Nd)} : ∀ (k k2 : Nat) (b b1 : Bool) (l m : List Nd), kidsD g k b l = some (b1, m) → kidsD g (k + k2) b l = kidsD g k2 b1 m := by
  intro k
  induction k with
  | zero =>
    intro k2 b b1 l m h
    rw [kidsD] at h
    obtain ⟨rfl, rfl⟩ := (Prod.mk.injEq _ _ _ _).mp (Option.some.inj h)
    rw [Nat.zero_add]
  | succ k ih =>
    intro k2 b b1 l m h
    cases l with
    | nil => rw [kidsD] at h; cases h
    | cons n l =>
      rw [kidsD] at h
      by_cases hb : b = true ∧ n.kind = 2
      · rw [if_pos hb] at h; cases h
      · rw [if_neg hb] at h
        rw [show k + 1 + k2 = (k + k2) + 1 by omega, kidsD, if_neg hb]
        cases hn : g (n :: l) with
        | none => rw [hn] at h; cases h
        | some y =>
          rw [hn] at h
          exact ih k2 _ _ _ _ h
theorem kidsD_fail {g : List Nd → Option (List Nd)} : ∀ (k k2 : Nat) (b : Bool) (l : List Nd), kidsD g k b l = none → kidsD g (k + k2) b l = none := by
  intro k
  induction k with
  | zero => intro k2 b l h; rw [kidsD] at h; cases h
  | succ k ih =>
    intro k2 b l h
    cases l with
    | nil => rw [show k + 1 + k2 = (k + k2) + 1 by omega, kidsD]
    | cons n l =>
      rw [kidsD] at h
      rw [show k + 1 + k2 = (k + k2) + 1 by omega, kidsD]
      by_cases hb : b = true ∧ n.kind = 2
      · rw [if_pos hb]
      · rw [if_neg hb] at h ⊢
        cases hn : g (n :: l) with
        | none => rfl
        | some y =>
          rw [hn] at h
          exact ih k2 _ _ h
theorem kids_next {d j m : Nat} {b : Bool} {l : List Nd} {v : List Nd} {p' : Nat} (h : kidsD (restD d) j false l = some (b, v.drop p')) (hj : j < m) :
    (v.length ≤ p' → kidsD (restD d) m false l = none) ∧
    (∀ hp : p' < v.length, (b = true ∧ (v[p']'hp).kind = 2 → kidsD (restD d) m false l = none) ∧ (restD d (v.drop p') = none → kidsD (restD d) m false l = none) ∧
      (∀ r, ¬ (b = true ∧ (v[p']'hp).kind = 2) → restD d (v.drop p') = some r → kidsD (restD d) (j + 1) false l = some (decide ((v[p']'hp).kind = 2), r))) := by
  have e1 := kidsD_add j 1 false b l _ h
  have fail : kidsD (restD d) 1 b (v.drop p') = none → kidsD (restD d) m false l = none := by
    intro hf
    rw [hf] at e1
    have := kidsD_fail (j + 1) (m - (j + 1)) false l e1
    rwa [show j + 1 + (m - (j + 1)) = m by omega] at this
  refine ⟨fun hp => fail (by rw [List.drop_of_length_le hp, kidsD]), fun hp => ⟨fun hb => fail ?_, fun hn => fail ?_, fun r hb hr => ?_⟩⟩
  · rw [List.drop_eq_getElem_cons hp, kidsD, if_pos hb]
  · rw [List.drop_eq_getElem_cons hp] at hn ⊢
    rw [kidsD]
    by_cases hb : b = true ∧ (v[p']'hp).kind = 2
    · rw [if_pos hb]
    · rw [if_neg hb, hn]
  · rw [e1]
    rw [List.drop_eq_getElem_cons hp] at hr ⊢
    rw [kidsD, if_neg hb, hr]
    rfl
theorem restD_eq {d : Nat} {v : List Nd} {p : Nat} (hp : p < v.length) : restD d (v.drop p) = if holdB (v[p]'hp) = true ∧ ¬ ((v[p]'hp).kind = 1 ∧ d = 0) then (kidsD (restD (d - 1)) (v[p]'hp).many.toNat false (v.drop (p + 1))).map (·.2) else none := by
  rw [List.drop_eq_getElem_cons hp]
  have hB : holdB (v[p]'hp) = true ↔ ndOk (v[p]'hp) = true ∧ 0 ≤ (v[p]'hp).many := by unfold holdB; simp
  cases d with
  | zero =>
    rw [restD]
    by_cases h : ndOk (v[p]'hp) = true ∧ (v[p]'hp).kind = 2
    · have h0 := (ndOk_two h.1 h.2).1
      rw [if_pos h, if_pos ⟨hB.2 ⟨h.1, by omega⟩, by omega⟩, h0]
      rfl
    · rw [if_neg h, if_neg]
      rintro ⟨h1, h2⟩
      have h3 := hB.1 h1
      rcases ndOk_kind h3.1 with h4 | h4
      · exact h2 ⟨h4, rfl⟩
      · exact h ⟨h3.1, h4⟩
  | succ d =>
    rw [restD]
    by_cases h : ndOk (v[p]'hp) = true ∧ 0 ≤ (v[p]'hp).many
    · rw [if_pos h, if_pos ⟨hB.2 h, by omega⟩]
      rfl
    · rw [if_neg h, if_neg]
      rintro ⟨h1, _⟩
      exact h (hB.1 h1)
theorem mayV_one {v : List Nd} (h : v.length ≤ 512) (h1 : ∃ n l, v = n :: l ∧ n.kind = 1) : mayV v = decide (restD 12 v = some []) := by
  rw [Bool.eq_iff_iff, mayV_iff, decide_eq_true_eq]
  exact ⟨fun k => k.2.2, fun k => ⟨h, h1, k⟩⟩
theorem mayV_no {v : List Nd} (h : ¬ (v.length ≤ 512 ∧ ∃ n l, v = n :: l ∧ n.kind = 1)) : mayV v = false := by
  rw [Bool.eq_false_iff]
  intro hm
  have := mayV_iff.1 hm
  exact h ⟨this.1, this.2.1⟩
def checkV (v : List Nd) : Int := if mayV v = true then 0 else 8
end Hx
end Go.Proofs.YtioiifdcgdoanaaGreatDoor
namespace Go.Proofs.YtioiifdcgdoanaaGreatDoor
open Go.RowKit
namespace Hx
open Lx Tr Tx Nmb Es
set_option maxRecDepth 100000
set_option maxHeartbeats 16000000
set_option linter.unusedVariables false
theorem em_l (s : ByteArray) : s.toList.isEmpty = s.data.toList.isEmpty := by rw [ByteArray.toList_eq]
theorem hold_1 (n : Nd) (x y z : ByteArray) (A : Option Addr) (c : Nat) (w : World) (h : NdAt n x y z A c w) (hs : SmallN n) (hk : n.kind = 1) (q : Bool) (hq : holdB n = q) :
    Calls Tryz.prog 127 #[NdV n x y z A c] w fun e w' => e = .returned (.bool q) ∧ Below w.heap.size w w' := by
  have HBO : Hid (∀ o, Below w.heap.size w (w.alloc o)) := Lib.hid fun o => (Below.refl _ _).alloc (Nat.le_refl _) o
  have HND : Hid (∀ W, Below w.heap.size w W → NdAt n x y z A c W) := Lib.hid fun W hW => h.on hW
  have HXS : Hid (x.size ≤ 1000000) := Lib.hid (by rw [← ba_l, h.space]; exact hs.space)
  have HYS : Hid (y.size ≤ 1000000) := Lib.hid (by rw [← ba_l, h.name]; exact hs.name)
  have HZS : Hid (z.size ≤ 1000000) := Lib.hid (by rw [← ba_l, h.text]; exact hs.text)
  have HLN : Hid (n.attrs.length ≤ 1000000) := Lib.hid hs.attrs
  have HEA := Lib.hid hs.each
  have ba := h.lo
  have bb := h.hi
  obtain ⟨m, hm⟩ : ∃ m, n.attrs.length = m := ⟨_, rfl⟩
  have HNL := Lib.hid hm
  obtain ⟨y9, hmy⟩ : ∃ y9, n.many = y9 := ⟨_, rfl⟩
  obtain ⟨a1, h1⟩ : ∃ a, okT x.data.toList = a := ⟨_, rfl⟩
  obtain ⟨a2, h2⟩ : ∃ a, fullL y.data.toList = a := ⟨_, rfl⟩
  obtain ⟨a3, h3⟩ : ∃ a, atsOk n.attrs = a := ⟨_, rfl⟩
  obtain ⟨a4, h4⟩ : ∃ a, z.toList.isEmpty = a := ⟨_, rfl⟩
  obtain ⟨a5, h5⟩ : ∃ a, decide ((0 : Int) ≤ y9) = a := ⟨_, rfl⟩
  have HQ : Hid (q = (a1 && (a2 && (a3 && (a4 && a5))))) := Lib.hid (by
    rw [← hq, ← h1, ← h2, ← h3, ← h4, ← h5, em_l, h.space, h.name, h.text, ← hmy]
    unfold holdB ndOk
    rw [if_pos hk]
    cases fullL n.name <;> cases n.text.isEmpty <;> cases okT n.space <;> cases atsOk n.attrs <;> cases decide ((0 : Int) ≤ n.many) <;> rfl)
  have H1 := Lib.hid h1
  have H2 := Lib.hid h2
  have H3 := Lib.hid h3
  unfold NdV
  rw [hk, hm, hmy]
  rw [hmy] at ba bb
  clear h hs hk hq h1 h2 h3 hm hmy
  cases a1 with
  | false =>
    obtain rfl : q = false := HQ.out
    go_enter Tryz.func127, Tryz.ntmps127
    go_wp2_with (first
      | (go_at_call 171; (with_reducible refine (istext x _ HXS.out false H1.out).mono ?_); rintro e1 w1 ⟨rfl, hb1⟩; have HB1 : Hid (Below w.heap.size w w1) := Lib.hid (bel_in9 (HBO.out _) hb1); have HX1 := Lib.hid (kept_heap (heap_alloc_new w (.cells #[.int .u8 ((1 : Nat) : Int), .string x, .string y, .slice A m c, .string z, .int .i64 y9] 28)) hb1); have d10 := cellV w1 _ 0 _ _ _ HX1.out; have d11 := cellV w1 _ 1 _ _ _ HX1.out; have d12 := cellV w1 _ 2 _ _ _ HX1.out; have d13 := cellV w1 _ 3 _ _ _ HX1.out; have d14 := cellV w1 _ 4 _ _ _ HX1.out; have d15 := cellV w1 _ 5 _ _ _ HX1.out; clear hb1)
      | fail)
    go_ret
    exact ⟨rfl, HB1.out⟩
  | true =>
    cases a2 with
    | false =>
      obtain rfl : q = false := HQ.out
      go_enter Tryz.func127, Tryz.ntmps127
      go_wp2_with (first
        | (go_at_call 171; (with_reducible refine (istext x _ HXS.out true H1.out).mono ?_); rintro e1 w1 ⟨rfl, hb1⟩; have HB1 : Hid (Below w.heap.size w w1) := Lib.hid (bel_in9 (HBO.out _) hb1); have HX1 := Lib.hid (kept_heap (heap_alloc_new w (.cells #[.int .u8 ((1 : Nat) : Int), .string x, .string y, .slice A m c, .string z, .int .i64 y9] 28)) hb1); have d10 := cellV w1 _ 0 _ _ _ HX1.out; have d11 := cellV w1 _ 1 _ _ _ HX1.out; have d12 := cellV w1 _ 2 _ _ _ HX1.out; have d13 := cellV w1 _ 3 _ _ _ HX1.out; have d14 := cellV w1 _ 4 _ _ _ HX1.out; have d15 := cellV w1 _ 5 _ _ _ HX1.out; clear hb1)
        | (go_at_call 172; (with_reducible refine (full9q y _ HYS.out false H2.out).mono ?_); rintro e2 w2 ⟨rfl, hb2⟩; have HB2 : Hid (Below w.heap.size w w2) := Lib.hid (stp HB1.out hb2); have HX2 := Lib.hid (kept_heap HX1.out hb2); have d20 := cellV w2 _ 0 _ _ _ HX2.out; have d21 := cellV w2 _ 1 _ _ _ HX2.out; have d22 := cellV w2 _ 2 _ _ _ HX2.out; have d23 := cellV w2 _ 3 _ _ _ HX2.out; have d24 := cellV w2 _ 4 _ _ _ HX2.out; have d25 := cellV w2 _ 5 _ _ _ HX2.out; clear hb2)
        | fail)
      go_ret
      exact ⟨rfl, HB2.out⟩
    | true =>
      cases a3 with
      | false =>
        obtain rfl : q = false := HQ.out
        go_enter Tryz.func127, Tryz.ntmps127
        go_wp2_with (first
          | (go_at_call 171; (with_reducible refine (istext x _ HXS.out true H1.out).mono ?_); rintro e1 w1 ⟨rfl, hb1⟩; have HB1 : Hid (Below w.heap.size w w1) := Lib.hid (bel_in9 (HBO.out _) hb1); have HX1 := Lib.hid (kept_heap (heap_alloc_new w (.cells #[.int .u8 ((1 : Nat) : Int), .string x, .string y, .slice A m c, .string z, .int .i64 y9] 28)) hb1); have d10 := cellV w1 _ 0 _ _ _ HX1.out; have d11 := cellV w1 _ 1 _ _ _ HX1.out; have d12 := cellV w1 _ 2 _ _ _ HX1.out; have d13 := cellV w1 _ 3 _ _ _ HX1.out; have d14 := cellV w1 _ 4 _ _ _ HX1.out; have d15 := cellV w1 _ 5 _ _ _ HX1.out; clear hb1)
          | (go_at_call 172; (with_reducible refine (full9q y _ HYS.out true H2.out).mono ?_); rintro e2 w2 ⟨rfl, hb2⟩; have HB2 : Hid (Below w.heap.size w w2) := Lib.hid (stp HB1.out hb2); have HX2 := Lib.hid (kept_heap HX1.out hb2); have d20 := cellV w2 _ 0 _ _ _ HX2.out; have d21 := cellV w2 _ 1 _ _ _ HX2.out; have d22 := cellV w2 _ 2 _ _ _ HX2.out; have d23 := cellV w2 _ 3 _ _ _ HX2.out; have d24 := cellV w2 _ 4 _ _ _ HX2.out; have d25 := cellV w2 _ 5 _ _ _ HX2.out; clear hb2)
          | (go_at_call 173; (with_reducible refine (mayhave A m c n.attrs _ (HND.out _ HB2.out).rd HNL.out (HNL.out ▸ HLN.out) HEA.out false H3.out).mono ?_); rintro e3 w3 ⟨rfl, hb3⟩; have HB3 : Hid (Below w.heap.size w w3) := Lib.hid (stp HB2.out hb3); have HX3 := Lib.hid (kept_heap HX2.out hb3); have d30 := cellV w3 _ 0 _ _ _ HX3.out; have d31 := cellV w3 _ 1 _ _ _ HX3.out; have d32 := cellV w3 _ 2 _ _ _ HX3.out; have d33 := cellV w3 _ 3 _ _ _ HX3.out; have d34 := cellV w3 _ 4 _ _ _ HX3.out; have d35 := cellV w3 _ 5 _ _ _ HX3.out; clear hb3)
          | fail)
        go_ret
        exact ⟨rfl, HB3.out⟩
      | true =>
        cases a4 with
        | false =>
          obtain rfl : q = false := HQ.out
          go_enter Tryz.func127, Tryz.ntmps127
          go_wp2_with (first
            | (go_at_call 171; (with_reducible refine (istext x _ HXS.out true H1.out).mono ?_); rintro e1 w1 ⟨rfl, hb1⟩; have HB1 : Hid (Below w.heap.size w w1) := Lib.hid (bel_in9 (HBO.out _) hb1); have HX1 := Lib.hid (kept_heap (heap_alloc_new w (.cells #[.int .u8 ((1 : Nat) : Int), .string x, .string y, .slice A m c, .string z, .int .i64 y9] 28)) hb1); have d10 := cellV w1 _ 0 _ _ _ HX1.out; have d11 := cellV w1 _ 1 _ _ _ HX1.out; have d12 := cellV w1 _ 2 _ _ _ HX1.out; have d13 := cellV w1 _ 3 _ _ _ HX1.out; have d14 := cellV w1 _ 4 _ _ _ HX1.out; have d15 := cellV w1 _ 5 _ _ _ HX1.out; clear hb1)
            | (go_at_call 172; (with_reducible refine (full9q y _ HYS.out true H2.out).mono ?_); rintro e2 w2 ⟨rfl, hb2⟩; have HB2 : Hid (Below w.heap.size w w2) := Lib.hid (stp HB1.out hb2); have HX2 := Lib.hid (kept_heap HX1.out hb2); have d20 := cellV w2 _ 0 _ _ _ HX2.out; have d21 := cellV w2 _ 1 _ _ _ HX2.out; have d22 := cellV w2 _ 2 _ _ _ HX2.out; have d23 := cellV w2 _ 3 _ _ _ HX2.out; have d24 := cellV w2 _ 4 _ _ _ HX2.out; have d25 := cellV w2 _ 5 _ _ _ HX2.out; clear hb2)
            | (go_at_call 173; (with_reducible refine (mayhave A m c n.attrs _ (HND.out _ HB2.out).rd HNL.out (HNL.out ▸ HLN.out) HEA.out true H3.out).mono ?_); rintro e3 w3 ⟨rfl, hb3⟩; have HB3 : Hid (Below w.heap.size w w3) := Lib.hid (stp HB2.out hb3); have HX3 := Lib.hid (kept_heap HX2.out hb3); have d30 := cellV w3 _ 0 _ _ _ HX3.out; have d31 := cellV w3 _ 1 _ _ _ HX3.out; have d32 := cellV w3 _ 2 _ _ _ HX3.out; have d33 := cellV w3 _ 3 _ _ _ HX3.out; have d34 := cellV w3 _ 4 _ _ _ HX3.out; have d35 := cellV w3 _ 5 _ _ _ HX3.out; clear hb3)
            | fail)
          go_ret
          exact ⟨rfl, HB3.out⟩
        | true =>
          obtain rfl : q = a5 := HQ.out
          go_enter Tryz.func127, Tryz.ntmps127
          go_wp2_with (first
            | (go_at_call 171; (with_reducible refine (istext x _ HXS.out true H1.out).mono ?_); rintro e1 w1 ⟨rfl, hb1⟩; have HB1 : Hid (Below w.heap.size w w1) := Lib.hid (bel_in9 (HBO.out _) hb1); have HX1 := Lib.hid (kept_heap (heap_alloc_new w (.cells #[.int .u8 ((1 : Nat) : Int), .string x, .string y, .slice A m c, .string z, .int .i64 y9] 28)) hb1); have d10 := cellV w1 _ 0 _ _ _ HX1.out; have d11 := cellV w1 _ 1 _ _ _ HX1.out; have d12 := cellV w1 _ 2 _ _ _ HX1.out; have d13 := cellV w1 _ 3 _ _ _ HX1.out; have d14 := cellV w1 _ 4 _ _ _ HX1.out; have d15 := cellV w1 _ 5 _ _ _ HX1.out; clear hb1)
            | (go_at_call 172; (with_reducible refine (full9q y _ HYS.out true H2.out).mono ?_); rintro e2 w2 ⟨rfl, hb2⟩; have HB2 : Hid (Below w.heap.size w w2) := Lib.hid (stp HB1.out hb2); have HX2 := Lib.hid (kept_heap HX1.out hb2); have d20 := cellV w2 _ 0 _ _ _ HX2.out; have d21 := cellV w2 _ 1 _ _ _ HX2.out; have d22 := cellV w2 _ 2 _ _ _ HX2.out; have d23 := cellV w2 _ 3 _ _ _ HX2.out; have d24 := cellV w2 _ 4 _ _ _ HX2.out; have d25 := cellV w2 _ 5 _ _ _ HX2.out; clear hb2)
            | (go_at_call 173; (with_reducible refine (mayhave A m c n.attrs _ (HND.out _ HB2.out).rd HNL.out (HNL.out ▸ HLN.out) HEA.out true H3.out).mono ?_); rintro e3 w3 ⟨rfl, hb3⟩; have HB3 : Hid (Below w.heap.size w w3) := Lib.hid (stp HB2.out hb3); have HX3 := Lib.hid (kept_heap HX2.out hb3); have d30 := cellV w3 _ 0 _ _ _ HX3.out; have d31 := cellV w3 _ 1 _ _ _ HX3.out; have d32 := cellV w3 _ 2 _ _ _ HX3.out; have d33 := cellV w3 _ 3 _ _ _ HX3.out; have d34 := cellV w3 _ 4 _ _ _ HX3.out; have d35 := cellV w3 _ 5 _ _ _ HX3.out; clear hb3)
            | fail)
          go_ret
          exact ⟨rfl, HB3.out⟩
theorem hold_2 (n : Nd) (x y z : ByteArray) (A : Option Addr) (c : Nat) (w : World) (h : NdAt n x y z A c w) (hs : SmallN n) (hk : n.kind = 2) (q : Bool) (hq : holdB n = q) :
    Calls Tryz.prog 127 #[NdV n x y z A c] w fun e w' => e = .returned (.bool q) ∧ Below w.heap.size w w' := by
  have HBO : Hid (∀ o, Below w.heap.size w (w.alloc o)) := Lib.hid fun o => (Below.refl _ _).alloc (Nat.le_refl _) o
  have HND : Hid (∀ W, Below w.heap.size w W → NdAt n x y z A c W) := Lib.hid fun W hW => h.on hW
  have HXS : Hid (x.size ≤ 1000000) := Lib.hid (by rw [← ba_l, h.space]; exact hs.space)
  have HYS : Hid (y.size ≤ 1000000) := Lib.hid (by rw [← ba_l, h.name]; exact hs.name)
  have HZS : Hid (z.size ≤ 1000000) := Lib.hid (by rw [← ba_l, h.text]; exact hs.text)
  have HLN : Hid (n.attrs.length ≤ 1000000) := Lib.hid hs.attrs
  have HEA := Lib.hid hs.each
  have ba := h.lo
  have bb := h.hi
  obtain ⟨m, hm⟩ : ∃ m, n.attrs.length = m := ⟨_, rfl⟩
  have HNL := Lib.hid hm
  obtain ⟨y9, hmy⟩ : ∃ y9, n.many = y9 := ⟨_, rfl⟩
  obtain ⟨a1, h1⟩ : ∃ a, x.toList.isEmpty = a := ⟨_, rfl⟩
  obtain ⟨a2, h2⟩ : ∃ a, y.toList.isEmpty = a := ⟨_, rfl⟩
  obtain ⟨a3, h3⟩ : ∃ a, ((m : Int) == 0) = a := ⟨_, rfl⟩
  obtain ⟨a4, h4⟩ : ∃ a, (!z.toList.isEmpty) = a := ⟨_, rfl⟩
  obtain ⟨a5, h5⟩ : ∃ a, okT z.data.toList = a := ⟨_, rfl⟩
  obtain ⟨a6, h6⟩ : ∃ a, (y9 == 0) = a := ⟨_, rfl⟩
  have HQ : Hid (q = (a1 && (a2 && (a3 && (a4 && (a5 && a6)))))) := Lib.hid (by
    have e3 : ((m : Int) == 0) = n.attrs.isEmpty := by rw [← hm]; cases n.attrs <;> simp <;> omega
    have e6 : (y9 == 0) = (decide (n.many = 0) && decide (0 ≤ n.many)) := by rw [hmy, Bool.eq_iff_iff]; simp; omega
    rw [← hq, ← h1, ← h2, ← h3, ← h4, ← h5, ← h6, e3, e6, em_l, em_l, em_l, h.space, h.name, h.text]
    unfold holdB ndOk
    rw [if_neg (by omega), if_pos hk]
    cases n.name.isEmpty <;> cases n.space.isEmpty <;> cases n.attrs.isEmpty <;> cases decide (n.many = 0) <;> cases n.text.isEmpty <;> cases okT n.text <;> cases decide ((0 : Int) ≤ n.many) <;> rfl)
  have H5 := Lib.hid h5
  unfold NdV
  rw [hk, hm, hmy]
  rw [hmy] at ba bb
  clear h hs hk hq h5 hm hmy
  cases a1 with
  | false =>
    obtain rfl : q = false := HQ.out
    go_enter Tryz.func127, Tryz.ntmps127
    go_wp2_with fail
    go_ret
    exact ⟨rfl, HBO.out _⟩
  | true =>
    cases a2 with
    | false =>
      obtain rfl : q = false := HQ.out
      go_enter Tryz.func127, Tryz.ntmps127
      go_wp2_with fail
      go_ret
      exact ⟨rfl, HBO.out _⟩
    | true =>
      cases a3 with
      | false =>
        obtain rfl : q = false := HQ.out
        go_enter Tryz.func127, Tryz.ntmps127
        go_wp2_with fail
        go_ret
        exact ⟨rfl, HBO.out _⟩
      | true =>
        cases a4 with
        | false =>
          obtain rfl : q = false := HQ.out
          go_enter Tryz.func127, Tryz.ntmps127
          go_wp2_with fail
          go_ret
          exact ⟨rfl, HBO.out _⟩
        | true =>
          cases a5 with
          | false =>
            obtain rfl : q = false := HQ.out
            go_enter Tryz.func127, Tryz.ntmps127
            go_wp2_with (first
              | (go_at_call 171; (with_reducible refine (istext z _ HZS.out false H5.out).mono ?_); rintro e1 w1 ⟨rfl, hb1⟩; have HB1 : Hid (Below w.heap.size w w1) := Lib.hid (bel_in9 (HBO.out _) hb1); have HX1 := Lib.hid (kept_heap (heap_alloc_new w (.cells #[.int .u8 ((2 : Nat) : Int), .string x, .string y, .slice A m c, .string z, .int .i64 y9] 28)) hb1); have d10 := cellV w1 _ 0 _ _ _ HX1.out; have d11 := cellV w1 _ 1 _ _ _ HX1.out; have d12 := cellV w1 _ 2 _ _ _ HX1.out; have d13 := cellV w1 _ 3 _ _ _ HX1.out; have d14 := cellV w1 _ 4 _ _ _ HX1.out; have d15 := cellV w1 _ 5 _ _ _ HX1.out; clear hb1)
              | fail)
            go_ret
            exact ⟨rfl, HB1.out⟩
          | true =>
            obtain rfl : q = a6 := HQ.out
            go_enter Tryz.func127, Tryz.ntmps127
            go_wp2_with (first
              | (go_at_call 171; (with_reducible refine (istext z _ HZS.out true H5.out).mono ?_); rintro e1 w1 ⟨rfl, hb1⟩; have HB1 : Hid (Below w.heap.size w w1) := Lib.hid (bel_in9 (HBO.out _) hb1); have HX1 := Lib.hid (kept_heap (heap_alloc_new w (.cells #[.int .u8 ((2 : Nat) : Int), .string x, .string y, .slice A m c, .string z, .int .i64 y9] 28)) hb1); have d10 := cellV w1 _ 0 _ _ _ HX1.out; have d11 := cellV w1 _ 1 _ _ _ HX1.out; have d12 := cellV w1 _ 2 _ _ _ HX1.out; have d13 := cellV w1 _ 3 _ _ _ HX1.out; have d14 := cellV w1 _ 4 _ _ _ HX1.out; have d15 := cellV w1 _ 5 _ _ _ HX1.out; clear hb1)
              | fail)
            go_ret
            exact ⟨rfl, HB1.out⟩
theorem hold_no (n : Nd) (x y z : ByteArray) (A : Option Addr) (c : Nat) (w : World) (h : NdAt n x y z A c w) (hs : SmallN n) (hk1 : n.kind ≠ 1) (hk2 : n.kind ≠ 2) (q : Bool) (hq : holdB n = q) :
    Calls Tryz.prog 127 #[NdV n x y z A c] w fun e w' => e = .returned (.bool q) ∧ Below w.heap.size w w' := by
  have HBO : Hid (∀ o, Below w.heap.size w (w.alloc o)) := Lib.hid fun o => (Below.refl _ _).alloc (Nat.le_refl _) o
  obtain rfl : q = false := by rw [← hq]; unfold holdB ndOk; rw [if_neg hk1, if_neg hk2]; rfl
  have f1 : ((n.kind : Int) == 1) = false := by simp; omega
  have f2 : ((n.kind : Int) == 2) = false := by simp; omega
  unfold NdV
  clear h hs hk1 hk2 hq
  go_enter Tryz.func127, Tryz.ntmps127
  go_wp2_with fail
  go_ret
  exact ⟨rfl, HBO.out _⟩
theorem hold10 (n : Nd) (x y z : ByteArray) (A : Option Addr) (c : Nat) (w : World) (h : NdAt n x y z A c w) (hs : SmallN n) (q : Bool) (hq : holdB n = q) :
    Calls Tryz.prog 127 #[NdV n x y z A c] w fun e w' => e = .returned (.bool q) ∧ Below w.heap.size w w' := by
  by_cases h1 : n.kind = 1
  · exact hold_1 n x y z A c w h hs h1 q hq
  · by_cases h2 : n.kind = 2
    · exact hold_2 n x y z A c w h hs h2 q hq
    · exact hold_no n x y z A c w h hs h1 h2 q hq
end Hx
end Go.Proofs.YtioiifdcgdoanaaGreatDoor
namespace Go.Proofs.YtioiifdcgdoanaaGreatDoor
open Go.RowKit
namespace Hx
open Tx Nmb Es
set_option maxRecDepth 100000
set_option maxHeartbeats 16000000
set_option linter.unusedVariables false
def lowv (c : UInt8) : Nat := (c ||| 32).toNat
theorem low_bits (c : UInt8) : bits .or .u8 (c.toNat : Int) 32 = (lowv c : Int) := u8_every (fun c => bits .or .u8 (c.toNat : Int) 32 = (lowv c : Int)) (by decide +kernel) c
theorem low_cases (c : UInt8) : lowv c ≤ 255 ∧ ((48 ≤ c.toNat ∧ c.toNat ≤ 57 ∧ hxv c = some (c.toNat - 48)) ∨ ((c.toNat < 48 ∨ 57 < c.toNat) ∧ c.toNat ≠ 95 ∧ 97 ≤ lowv c ∧ lowv c ≤ 102 ∧ hxv c = some (lowv c - 87)) ∨
    ((c.toNat < 48 ∨ 57 < c.toNat) ∧ c.toNat ≠ 95 ∧ 103 ≤ lowv c ∧ lowv c ≤ 122 ∧ hxv c = none) ∨ ((c.toNat < 48 ∨ 57 < c.toNat) ∧ (lowv c < 97 ∨ 122 < lowv c) ∧ hxv c = none)) :=
  u8_every (fun c => lowv c ≤ 255 ∧ ((48 ≤ c.toNat ∧ c.toNat ≤ 57 ∧ hxv c = some (c.toNat - 48)) ∨ ((c.toNat < 48 ∨ 57 < c.toNat) ∧ c.toNat ≠ 95 ∧ 97 ≤ lowv c ∧ lowv c ≤ 102 ∧ hxv c = some (lowv c - 87)) ∨
    ((c.toNat < 48 ∨ 57 < c.toNat) ∧ c.toNat ≠ 95 ∧ 103 ≤ lowv c ∧ lowv c ≤ 122 ∧ hxv c = none) ∨ ((c.toNat < 48 ∨ 57 < c.toNat) ∧ (lowv c < 97 ∨ 122 < lowv c) ∧ hxv c = none))) (by decide +kernel) c
theorem lower8 (z y : Int) (w : World) (h : bits .or .u8 z 32 = y) :
    Calls Tryz.prog 278 #[.int .u8 z] w fun e w' => e = .returned (.int .u8 y) ∧ w = w' := by
  go_enter Tryz.func278, Tryz.ntmps278
  go_wp2
  go_ret
  exact ⟨rfl, rfl⟩
def puV (o : Option Nat) (ev : Value) : Value := match o with | some n => .tuple #[.int .u64 (n : Int), .nilIface] | none => .tuple #[.int .u64 0, ev]
def puE : Value := .iface 291 (.int .i64 2)
theorem pow16 {k : Nat} (h : k ≤ 5) : 16 ^ k ≤ 1048576 := Nat.le_trans (Nat.pow_le_pow_right (by decide) h) (by decide)
theorem u64_in {x : Int} (h0 : 0 ≤ x) (h1 : x ≤ 9007199254740991) : IntKind.u64.wrap x = x := by rw [IntKind.wrap_u64]; omega
theorem u8_in {x : Int} (h0 : 0 ≤ x) (h1 : x ≤ 255) : IntKind.u8.wrap x = x := by rw [IntKind.wrap_u8]; omega
theorem ipu8 (t : ByteArray) (w : World) (h0 : 1 ≤ t.size) (h6 : t.size ≤ 6) (o : Option Nat) (ho : hexF t.data.toList = o) :
    Calls Tryz.prog 273 #[.string t, .int .i64 16, .int .i64 64] w fun e w' => e = .returned (puV o puE) ∧ Below w.heap.size w w' := by
  have hemp : t.toList.isEmpty = false := by
    rw [← decide_eq_emptyBytes]
    exact decide_eq_false (fun h => by rw [h] at h0; exact absurd h0 (by decide))
  have hcv := Lib.run_convert_string_bytes (P := Tryz.prog) w 9 176 5 t Tryz.underlying9 Tryz.underlying176 Tryz.underlying5
  have hB : Hid (∀ j, j < t.size → (Lib.bytesWorld w 5 t).cell? ⟨w.heap.size, j, none⟩ = some (.int .u8 (t.data.toList.getD j 0).toNat)) := fun j hj => Lib.bytesWorld_cell w 5 t j hj
  have hbel : Hid (Below w.heap.size w (Lib.bytesWorld w 5 t)) := Lib.hid (Lib.bytesWorld_below _ _ _)
  obtain ⟨W1, hW1⟩ : ∃ W1, W1 = Lib.bytesWorld w 5 t := ⟨_, rfl⟩
  rw [← hW1] at hcv hB hbel
  clear hW1
  have HO := Lib.hid ho
  clear ho
  have hmv : IntKind.u64.wrap (IntKind.u64.wrap 18446744073709551616 - 1) = 18446744073709551615 := by
    rw [IntKind.wrap_u64, IntKind.wrap_u64]
    decide
  go_enter Tryz.func273, Tryz.ntmps273
  go_wp2_with fail
  go_loopg [12, 13, 101] t.size (fun gg vu vn vi wr => ∃ (k acc : Nat) (a : Int), k + gg = t.size ∧ vu = .bool false ∧ vn = .int .u64 a ∧ vi = .int .i64 k ∧ wr = W1 ∧ Hid (a = (acc : Int) ∧ acc + 1 ≤ 16 ^ k ∧ hexF (t.data.toList.take k) = some acc))
  case atStart => exact ⟨0, 0, 0, by omega, rfl, rfl, rfl, rfl, Lib.hid ⟨rfl, by decide, rfl⟩⟩
  case round =>
    obtain ⟨k, acc, a, hk, rfl, rfl, rfl, rfl, hh⟩ := hrel
    by_cases hlt : k < t.size
    · obtain ⟨c, hc, hat⟩ := byte_at8 t k hlt
      have hcell := hB.out k hlt
      rw [show t.data.toList.getD k 0 = c by rw [List.getD_eq_getElem?_getD, hc]; rfl] at hcell
      obtain ⟨z, hz⟩ : ∃ z : Int, (c.toNat : Int) = z := ⟨_, rfl⟩
      obtain ⟨y, hy⟩ : ∃ y : Int, (lowv c : Int) = y := ⟨_, rfl⟩
      have HY : Hid (bits .or .u8 z 32 = y) := by show _ = _; rw [← hz, ← hy]; exact low_bits c
      have bk : (0 : Int) ≤ (k : Int) ∧ (k : Int) < (t.size : Int) := by omega
      have hzr : 0 ≤ z ∧ z ≤ 255 := by have := c.toNat_lt; omega
      obtain ⟨hl255, hcs⟩ := low_cases c
      have hyr : 0 ≤ y ∧ y ≤ 255 := by omega
      have ha1 : a + 1 ≤ 1048576 ∧ 0 ≤ a := by
        obtain ⟨h1, h2, _⟩ := hh.out
        have := pow16 (show k ≤ 5 by omega)
        omega
      have d1 : decide ((1152921504606846976 : Int) ≤ a) = false := by simp; omega
      obtain ⟨m, hm⟩ : ∃ m : Int, a * 16 = m := ⟨_, rfl⟩
      have w1 : IntKind.u64.wrap m = m := u64_in (by omega) (by omega)
      rw [hz] at hcell
      rcases hcs with ⟨q1, q2, q3⟩ | ⟨q1, q0, q2, q3, q4⟩ | ⟨q1, q0, q2, q3, q4⟩ | ⟨q1, q2, q4⟩
      · -- a digit
        have z1 : (48 : Int) ≤ z ∧ z ≤ 57 := by omega
        obtain ⟨d, hd⟩ : ∃ d : Int, z - 48 = d := ⟨_, rfl⟩
        have d2 : IntKind.u8.wrap d = d := u8_in (by omega) (by omega)
        have d3 : decide ((16 : Int) ≤ d) = false := by simp; omega
        obtain ⟨v, hv⟩ : ∃ v : Int, m + d = v := ⟨_, rfl⟩
        have w2 : IntKind.u64.wrap d = d := u64_in (by omega) (by omega)
        have w3 : IntKind.u64.wrap v = v := u64_in (by omega) (by omega)
        have d4 : decide (v < m) = false := by simp; omega
        have d5 : decide ((18446744073709551615 : Int) < v) = false := by simp; omega
        have HN : Hid (v = ((16 * acc + (c.toNat - 48) : Nat) : Int) ∧ (16 * acc + (c.toNat - 48)) + 1 ≤ 16 ^ (k + 1) ∧ hexF (t.data.toList.take (k + 1)) = some (16 * acc + (c.toNat - 48))) := by
          obtain ⟨h1, h2, h3⟩ := hh.out
          refine Lib.hid ⟨by omega, ?_, hexF_next hc h3 q3⟩
          rw [Nat.pow_succ]
          omega
        clear hc hat hz hy q1 q2 q3 hl255 ha1 hyr
        go_wp2_with fail
        go_roundg (gk - 1)
        case rel => exact ⟨k + 1, _, v, by omega, rfl, rfl, by go_num, rfl, HN⟩
        case measure => omega
      · -- a letter
        have y1 : (97 : Int) ≤ y ∧ y ≤ 102 := by omega
        obtain ⟨f, hf⟩ : ∃ f : Int, y - 97 = f := ⟨_, rfl⟩
        have d0 : IntKind.u8.wrap f = f := u8_in (by omega) (by omega)
        obtain ⟨d, hd⟩ : ∃ d : Int, f + 10 = d := ⟨_, rfl⟩
        have d2 : IntKind.u8.wrap d = d := u8_in (by omega) (by omega)
        have d3 : decide ((16 : Int) ≤ d) = false := by simp; omega
        obtain ⟨v, hv⟩ : ∃ v : Int, m + d = v := ⟨_, rfl⟩
        have w2 : IntKind.u64.wrap d = d := u64_in (by omega) (by omega)
        have w3 : IntKind.u64.wrap v = v := u64_in (by omega) (by omega)
        have d4 : decide (v < m) = false := by simp; omega
        have d5 : decide ((18446744073709551615 : Int) < v) = false := by simp; omega
        have HN : Hid (v = ((16 * acc + (lowv c - 87) : Nat) : Int) ∧ (16 * acc + (lowv c - 87)) + 1 ≤ 16 ^ (k + 1) ∧ hexF (t.data.toList.take (k + 1)) = some (16 * acc + (lowv c - 87))) := by
          obtain ⟨h1, h2, h3⟩ := hh.out
          refine Lib.hid ⟨by omega, ?_, hexF_next hc h3 q4⟩
          rw [Nat.pow_succ]
          omega
        have z1 : z < 48 ∨ 57 < z := by omega
        have z2 : ¬ z = 95 := by omega
        clear hc hat hz hy q1 q2 q3 q4 hl255 ha1 q0
        rcases z1 with z1 | z1
        · go_wp2_with (first
            | (go_at_call 278; (with_reducible refine (lower8 z y wr HY.out).mono ?_); rintro e1 w4 ⟨rfl, rfl⟩)
            | fail)
          go_roundg (gk - 1)
          case rel => exact ⟨k + 1, _, v, by omega, rfl, rfl, by go_num, rfl, HN⟩
          case measure => omega
        · go_wp2_with (first
            | (go_at_call 278; (with_reducible refine (lower8 z y wr HY.out).mono ?_); rintro e1 w4 ⟨rfl, rfl⟩)
            | fail)
          go_roundg (gk - 1)
          case rel => exact ⟨k + 1, _, v, by omega, rfl, rfl, by go_num, rfl, HN⟩
          case measure => omega
      · -- a letter that is no digit
        have y1 : (103 : Int) ≤ y ∧ y ≤ 122 := by omega
        obtain ⟨f, hf⟩ : ∃ f : Int, y - 97 = f := ⟨_, rfl⟩
        have d0 : IntKind.u8.wrap f = f := u8_in (by omega) (by omega)
        obtain ⟨d, hd⟩ : ∃ d : Int, f + 10 = d := ⟨_, rfl⟩
        have d2 : IntKind.u8.wrap d = d := u8_in (by omega) (by omega)
        have d3 : decide ((16 : Int) ≤ d) = true := by simp; omega
        obtain rfl : none = o := by rw [← HO.out, hexF_stop hc q4]
        have z1 : z < 48 ∨ 57 < z := by omega
        have z2 : ¬ z = 95 := by omega
        clear hc hat hz hy q1 q2 q3 q4 hl255 ha1 q0
        rcases z1 with z1 | z1
        · go_wp2_with (first
            | (go_at_call 278; (with_reducible refine (lower8 z y wr HY.out).mono ?_); rintro e1 w4 ⟨rfl, rfl⟩)
            | fail)
          all_goals go_ret2
          all_goals exact ⟨rfl, hbel.out⟩
        · go_wp2_with (first
            | (go_at_call 278; (with_reducible refine (lower8 z y wr HY.out).mono ?_); rintro e1 w4 ⟨rfl, rfl⟩)
            | fail)
          all_goals go_ret2
          all_goals exact ⟨rfl, hbel.out⟩
      · -- another byte
        obtain rfl : none = o := by rw [← HO.out, hexF_stop hc q4]
        have z1 : z < 48 ∨ 57 < z := by omega
        have y1 : y < 97 ∨ 122 < y := by omega
        clear hc hat hz hy q1 q2 q4 hl255 ha1
        by_cases z2 : z = 95
        · subst z2
          rcases y1 with y1 | y1
          all_goals go_wp2_with (first
            | (go_at_call 278; (with_reducible refine (lower8 95 y wr HY.out).mono ?_); rintro e1 w4 ⟨rfl, rfl⟩)
            | fail)
          all_goals go_ret2
          all_goals exact ⟨rfl, hbel.out⟩
        · rcases z1 with z1 | z1 <;> rcases y1 with y1 | y1
          all_goals go_wp2_with (first
            | (go_at_call 278; (with_reducible refine (lower8 z y wr HY.out).mono ?_); rintro e1 w4 ⟨rfl, rfl⟩)
            | fail)
          all_goals go_ret2
          all_goals exact ⟨rfl, hbel.out⟩
    · obtain rfl : t.size = k := by omega
      obtain ⟨h1, h2, h3⟩ := hh.out
      have htk : t.data.toList.take t.size = t.data.toList := List.take_of_length_le (by rw [ba_len5]; exact Nat.le_refl _)
      rw [htk, HO.out] at h3
      subst h3
      subst h1
      clear hh h2 htk
      go_wp2_with fail
      go_ret2
      exact ⟨rfl, hbel.out⟩
def Ev (w : World) : Prop := ∃ te pe, w.cell? ⟨7, 0, none⟩ = some (.iface te pe)
theorem Ev.to {w w' : World} (h : Ev w) (hb : Below w.heap.size w w') : Ev w' := by
  obtain ⟨te, pe, h⟩ := h
  exact ⟨te, pe, (hb.cell (show (⟨7, 0, none⟩ : Addr).block < w.heap.size from Lib.lt_of_cell h)).trans h⟩
theorem toerr8 (fn s : ByteArray) (base bits : Int) (w : World) (hlim : s.size ≤ 1000000) (hE : Ev w) :
    Calls Tryz.prog 274 #[.string fn, .string s, .int .i64 base, .int .i64 bits, puE] w fun e w' => ∃ v, e = .returned (.iface 293 v) ∧ Below w.heap.size w w' := by
  obtain ⟨te, pe, h⟩ := hE
  exact (Tryz.strconv_toError_syntax fn s base bits _ w (by omega) h (.inr ⟨te, pe, rfl⟩)).mono fun e w' ⟨N, h1, _, _, h2⟩ => ⟨_, h1, h2⟩
theorem ipu_empty (t : ByteArray) (w : World) (h0 : t.size = 0) :
    Calls Tryz.prog 273 #[.string t, .int .i64 16, .int .i64 64] w fun e w' => e = .returned (puV none puE) ∧ Below w.heap.size w w' := by
  have hemp : t.toList.isEmpty = true := by
    rw [ByteArray.toList_eq, List.isEmpty_iff]
    exact List.eq_nil_of_length_eq_zero (by rw [ba_len5]; exact h0)
  clear h0
  go_enter Tryz.func273, Tryz.ntmps273
  go_wp2_with fail
  go_ret2
  exact ⟨rfl, Below.refl _ _⟩
def hexO (l : List UInt8) : Option Nat := if l = [] then none else hexF l
theorem ipu (t : ByteArray) (w : World) (h6 : t.size ≤ 6) (o : Option Nat) (ho : hexO t.data.toList = o) :
    Calls Tryz.prog 273 #[.string t, .int .i64 16, .int .i64 64] w fun e w' => e = .returned (puV o puE) ∧ Below w.heap.size w w' := by
  have hl : t.data.toList.length = t.size := ba_len5 t
  by_cases h0 : t.size = 0
  · unfold hexO at ho
    rw [if_pos (List.eq_nil_of_length_eq_zero (by omega))] at ho
    subst ho
    exact ipu_empty t w h0
  · refine ipu8 t w (by omega) h6 o ?_
    unfold hexO at ho
    rwa [if_neg (fun e => by rw [e] at hl; exact h0 hl.symm)] at ho
theorem pu_some (t : ByteArray) (n : Nat) (w : World) (h6 : t.size ≤ 6) (ho : hexO t.data.toList = some n) :
    Calls Tryz.prog 263 #[.string t, .int .i64 16, .int .i64 64] w fun e w' => e = .returned (.tuple #[.int .u64 (n : Int), .nilIface]) ∧ Below w.heap.size w w' := by
  have H : Hid (Calls Tryz.prog 273 #[.string t, .int .i64 16, .int .i64 64] w fun e w' => e = .returned (.tuple #[.int .u64 (n : Int), .nilIface]) ∧ Below w.heap.size w w') := ipu t w h6 _ ho
  clear h6 ho
  go_enter Tryz.func263, Tryz.ntmps263
  go_wp2_with (first
    | (go_at_call 273; (with_reducible refine (H.out).mono ?_); rintro e w1 ⟨rfl, hb1⟩)
    | fail)
  go_ret2
  exact ⟨rfl, hb1⟩
theorem pu_none (t : ByteArray) (w : World) (h6 : t.size ≤ 6) (ho : hexO t.data.toList = none) (hE : Ev w) :
    Calls Tryz.prog 263 #[.string t, .int .i64 16, .int .i64 64] w fun e w' => (∃ v, e = .returned (.tuple #[.int .u64 0, .iface 293 v])) ∧ Below w.heap.size w w' := by
  have H : Hid (Calls Tryz.prog 273 #[.string t, .int .i64 16, .int .i64 64] w fun e w' => e = .returned (.tuple #[.int .u64 0, puE]) ∧ Below w.heap.size w w') := ipu t w h6 _ ho
  have HL : Hid (t.size ≤ 1000000) := Lib.hid (by omega)
  have HE := Lib.hid hE
  unfold puE at H
  clear h6 ho hE
  go_enter Tryz.func263, Tryz.ntmps263
  go_wp2_with (first
    | (go_at_call 273; (with_reducible refine (H.out).mono ?_); rintro e w1 ⟨rfl, hb1⟩)
    | (go_at_call 274; refine (toerr8 _ t 16 64 w1 HL.out (HE.out.to hb1)).mono ?_; rintro e w2 ⟨v, rfl, hb2⟩)
    | fail)
  go_ret2
  exact ⟨⟨v, rfl⟩, stp hb1 hb2⟩
def hexI (l : List UInt8) : Int × Int := match hexV l with | some n => ((n : Int), 0) | none => (0, 80)
theorem hexO_le {l : List UInt8} {n : Nat} (h : hexO l = some n) (h6 : l.length ≤ 6) : n ≤ 16777215 := by
  unfold hexO at h
  split at h
  · cases h
  · have key : ∀ (k : Nat), k ≤ l.length → ∀ m, hexF (l.take k) = some m → m + 1 ≤ 16 ^ k := by
      intro k
      induction k with
      | zero => intro _ m h; cases h; decide
      | succ k ih =>
        intro hk m hm
        have hc : l[k]? = some (l[k]'(by omega)) := List.getElem?_eq_getElem (by omega)
        rw [take_next8 hc, hexF_snoc] at hm
        cases h1 : hexF (l.take k) with
        | none => rw [h1] at hm; cases hm
        | some p =>
          have := ih (by omega) p h1
          rw [h1] at hm
          cases h3 : hxv (l[k]'(by omega)) with
          | none => rw [h3] at hm; cases hm
          | some d =>
            rw [h3] at hm
            have hd : d ≤ 15 := by
              unfold hxv at h3
              split at h3
              · cases h3; omega
              · split at h3
                · cases h3; omega
                · split at h3
                  · cases h3; omega
                  · cases h3
            have : m = 16 * p + d := by simpa using hm.symm
            rw [this, Nat.pow_succ]
            omega
    have := key l.length (Nat.le_refl _) n (by rw [List.take_length]; exact h)
    have h2 : 16 ^ l.length ≤ 16 ^ 6 := Nat.pow_le_pow_right (by decide) h6
    have h3 : (16 : Nat) ^ 6 = 16777216 := by decide
    omega
theorem hexV_O {l : List UInt8} (h6 : ¬ 6 < l.length) (h : l.head? ≠ some 48) : hexV l = hexO l := by
  unfold hexO
  by_cases h0 : l = []
  · rw [if_pos h0, hexV_out (.inl h0)]
  · rw [if_neg h0, hexV_in h0 h6 h]
theorem pre48 (l : List UInt8) : Lib.hasPrefix l [48] = decide (l.head? = some 48) := by
  cases l with
  | nil => rfl
  | cons c r =>
    by_cases hb : c = 48
    · subst hb; simp [Lib.hasPrefix, List.isPrefixOf]
    · have hb2 : (48 == c) = false := by simpa using Ne.symm hb
      have e : decide ((c :: r).head? = some 48) = false := decide_eq_false (fun h => hb (Option.some.inj h))
      rw [e]
      simp [Lib.hasPrefix, List.isPrefixOf, hb2]
theorem hp48 (s : ByteArray) (b : Bool) (w : World) (h : decide (s.data.toList.head? = some 48) = b) :
    Calls Tryz.prog 122 #[.string s, .string ⟨#[48]⟩] w fun e w' => e = .returned (.bool b) ∧ w = w' :=
  (Tryz.strings_HasPrefix s ⟨#[48]⟩ w).mono fun e w' ⟨h1, h2⟩ => ⟨by rw [h1, ← h]; exact congrArg _ (congrArg _ (pre48 _)), h2.symm⟩
theorem hex8 (s : ByteArray) (a b : Int) (w : World) (hm : s.size ≤ 1000000) (h : hexI s.data.toList = (a, b)) (hE : Ev w) :
    Calls Tryz.prog 245 #[.string s] w fun e w' => e = .returned (.tuple #[.int .i64 a, .int .i64 b]) ∧ Below w.heap.size w w' := by
  have hl : s.data.toList.length = s.size := ba_len5 s
  have HE := Lib.hid hE
  unfold hexI at h
  by_cases h6 : 6 < s.size
  · rw [hexV_out (.inr (.inl (by omega)))] at h
    obtain ⟨rfl, rfl⟩ : (0 : Int) = a ∧ (80 : Int) = b := by cases h; exact ⟨rfl, rfl⟩
    have d0 : decide ((6 : Int) < (s.size : Int)) = true := by simp; omega
    clear h hE hl
    go_enter Tryz.func245, Tryz.ntmps245
    go_wp2_with fail
    go_ret2
    exact ⟨rfl, Below.refl _ _⟩
  · have d0 : decide ((6 : Int) < (s.size : Int)) = false := by simp; omega
    by_cases h48 : s.data.toList.head? = some 48
    · rw [hexV_out (.inr (.inr h48))] at h
      obtain ⟨rfl, rfl⟩ : (0 : Int) = a ∧ (80 : Int) = b := by cases h; exact ⟨rfl, rfl⟩
      have HP : Hid (decide (s.data.toList.head? = some 48) = true) := Lib.hid (decide_eq_true h48)
      have b6 : (s.size : Int) ≤ 6 := by omega
      clear h hE hl h48 h6
      go_enter Tryz.func245, Tryz.ntmps245
      go_wp2_with (first
        | (go_at_call 122; (with_reducible refine (hp48 s true w HP.out).mono ?_); rintro e w1 ⟨rfl, rfl⟩)
        | fail)
      go_ret2
      exact ⟨rfl, Below.refl _ _⟩
    · rw [hexV_O (by omega) h48] at h
      have HP : Hid (decide (s.data.toList.head? = some 48) = false) := Lib.hid (decide_eq_false h48)
      have b6 : (s.size : Int) ≤ 6 := by omega
      have H6 : Hid (s.size ≤ 6) := Lib.hid (by omega)
      cases ho : hexO s.data.toList with
      | none =>
        rw [ho] at h
        obtain ⟨rfl, rfl⟩ : (0 : Int) = a ∧ (80 : Int) = b := by cases h; exact ⟨rfl, rfl⟩
        have HO := Lib.hid ho
        clear h hE hl h48 h6 ho
        go_enter Tryz.func245, Tryz.ntmps245
        go_wp2_with (first
          | (go_at_call 122; (with_reducible refine (hp48 s false w HP.out).mono ?_); rintro e w1 ⟨rfl, rfl⟩)
          | (go_at_call 263; (with_reducible refine (pu_none s w H6.out HO.out HE.out).mono ?_); rintro e w2 ⟨⟨v, rfl⟩, hb2⟩)
          | fail)
        go_ret2
        exact ⟨rfl, hb2⟩
      | some n =>
        rw [ho] at h
        have hn := hexO_le ho (by omega)
        obtain ⟨rfl, rfl⟩ : (n : Int) = a ∧ (0 : Int) = b := by cases h; exact ⟨rfl, rfl⟩
        have HO := Lib.hid ho
        have bn : IntKind.i64.wrap (n : Int) = (n : Int) := IntWalk.i64_in _ (by omega)
        clear h hE hl h48 h6 ho hn
        go_enter Tryz.func245, Tryz.ntmps245
        go_wp2_with (first
          | (go_at_call 122; (with_reducible refine (hp48 s false w HP.out).mono ?_); rintro e w1 ⟨rfl, rfl⟩)
          | (go_at_call 263; (with_reducible refine (pu_some s n w H6.out HO.out).mono ?_); rintro e w2 ⟨rfl, hb2⟩)
          | fail)
        go_ret2
        exact ⟨rfl, hb2⟩
end Hx
end Go.Proofs.YtioiifdcgdoanaaGreatDoor
namespace Go.Proofs.YtioiifdcgdoanaaGreatDoor
open Go.RowKit
namespace Hx
open Nmb
set_option linter.unusedVariables false
end Hx
end Go.Proofs.YtioiifdcgdoanaaGreatDoor
