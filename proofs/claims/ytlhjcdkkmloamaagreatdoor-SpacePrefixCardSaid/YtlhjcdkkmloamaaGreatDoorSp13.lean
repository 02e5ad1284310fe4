/-
  Texts of one seat, put together: TreK, TreB.
-/
import Derived.Test.YtlhjcdkkmloamaaGreatDoorSp02
import Derived.Test.YtlhjcdkkmloamaaGreatDoorSp10
set_option linter.unusedSimpArgs false
namespace Go.Proofs.YtlhjcdkkmloamaaGreatDoor
namespace Hx
open Lx Tr Tx Nmb Es
set_option linter.unusedVariables false
def holdB (n : Nd) : Bool := ndOk n && decide (0 ≤ n.many)
theorem kidsD_add {g : List Nd → Option (List Nd)} : ∀ (k k2 : Nat) (b b1 : Bool) (l m : List Nd), kidsD g k b l = some (b1, m) → kidsD g (k + k2) b l = kidsD g k2 b1 m := by
  intro k
  induction k with
  | zero =>
    intro k2 b b1 l m h
    rw [kidsD] at h
    obtain ⟨rfl, rfl⟩ := (Prod.mk.injEq _ _ _ _).mp (Option.some.inj h)
    rw [Nat.zero_add]
  | succ k ih =>
    intro k2 b b1 l m h
    cases l with
    | nil => rw [kidsD] at h; cases h
    | cons n l =>
      rw [kidsD] at h
      by_cases hb : b = true ∧ n.kind = 2
      · rw [if_pos hb] at h; cases h
      · rw [if_neg hb] at h
        rw [show k + 1 + k2 = (k + k2) + 1 by omega, kidsD, if_neg hb]
        cases hn : g (n :: l) with
        | none => rw [hn] at h; cases h
        | some y =>
          rw [hn] at h
          exact ih k2 _ _ _ _ h
theorem kidsD_fail {g : List Nd → Option (List Nd)} : ∀ (k k2 : Nat) (b : Bool) (l : List Nd), kidsD g k b l = none → kidsD g (k + k2) b l = none := by
  intro k
  induction k with
  | zero => intro k2 b l h; rw [kidsD] at h; cases h
  | succ k ih =>
    intro k2 b l h
    cases l with
    | nil => rw [show k + 1 + k2 = (k + k2) + 1 by omega, kidsD]
    | cons n l =>
      rw [kidsD] at h
      rw [show k + 1 + k2 = (k + k2) + 1 by omega, kidsD]
      by_cases hb : b = true ∧ n.kind = 2
      · rw [if_pos hb]
      · rw [if_neg hb] at h ⊢
        cases hn : g (n :: l) with
        | none => rfl
        | some y =>
          rw [hn] at h
          exact ih k2 _ _ h
theorem kids_next {d j m : Nat} {b : Bool} {l : List Nd} {v : List Nd} {p' : Nat} (h : kidsD (restD d) j false l = some (b, v.drop p')) (hj : j < m) :
    (v.length ≤ p' → kidsD (restD d) m false l = none) ∧
    (∀ hp : p' < v.length, (b = true ∧ (v[p']'hp).kind = 2 → kidsD (restD d) m false l = none) ∧ (restD d (v.drop p') = none → kidsD (restD d) m false l = none) ∧
      (∀ r, ¬ (b = true ∧ (v[p']'hp).kind = 2) → restD d (v.drop p') = some r → kidsD (restD d) (j + 1) false l = some (decide ((v[p']'hp).kind = 2), r))) := by
  have e1 := kidsD_add j 1 false b l _ h
  have fail : kidsD (restD d) 1 b (v.drop p') = none → kidsD (restD d) m false l = none := by
    intro hf
    rw [hf] at e1
    have := kidsD_fail (j + 1) (m - (j + 1)) false l e1
    rwa [show j + 1 + (m - (j + 1)) = m by omega] at this
  refine ⟨fun hp => fail (by rw [List.drop_of_length_le hp, kidsD]), fun hp => ⟨fun hb => fail ?_, fun hn => fail ?_, fun r hb hr => ?_⟩⟩
  · rw [List.drop_eq_getElem_cons hp, kidsD, if_pos hb]
  · rw [List.drop_eq_getElem_cons hp] at hn ⊢
    rw [kidsD]
    by_cases hb : b = true ∧ (v[p']'hp).kind = 2
    · rw [if_pos hb]
    · rw [if_neg hb, hn]
  · rw [e1]
    rw [List.drop_eq_getElem_cons hp] at hr ⊢
    rw [kidsD, if_neg hb, hr]
    rfl
theorem restD_eq {d : Nat} {v : List Nd} {p : Nat} (hp : p < v.length) : restD d (v.drop p) = if holdB (v[p]'hp) = true ∧ ¬ ((v[p]'hp).kind = 1 ∧ d = 0) then (kidsD (restD (d - 1)) (v[p]'hp).many.toNat false (v.drop (p + 1))).map (·.2) else none := by
  rw [List.drop_eq_getElem_cons hp]
  have hB : holdB (v[p]'hp) = true ↔ ndOk (v[p]'hp) = true ∧ 0 ≤ (v[p]'hp).many := by unfold holdB; simp
  cases d with
  | zero =>
    rw [restD]
    by_cases h : ndOk (v[p]'hp) = true ∧ (v[p]'hp).kind = 2
    · have h0 := (ndOk_two h.1 h.2).1
      rw [if_pos h, if_pos ⟨hB.2 ⟨h.1, by omega⟩, by omega⟩, h0]
      rfl
    · rw [if_neg h, if_neg]
      rintro ⟨h1, h2⟩
      have h3 := hB.1 h1
      rcases ndOk_kind h3.1 with h4 | h4
      · exact h2 ⟨h4, rfl⟩
      · exact h ⟨h3.1, h4⟩
  | succ d =>
    rw [restD]
    by_cases h : ndOk (v[p]'hp) = true ∧ 0 ≤ (v[p]'hp).many
    · rw [if_pos h, if_pos ⟨hB.2 h, by omega⟩]
      rfl
    · rw [if_neg h, if_neg]
      rintro ⟨h1, _⟩
      exact h (hB.1 h1)
theorem mayV_one {v : List Nd} (h : v.length ≤ 512) (h1 : ∃ n l, v = n :: l ∧ n.kind = 1) : mayV v = decide (restD 12 v = some []) := by
  rw [Bool.eq_iff_iff, mayV_iff, decide_eq_true_eq]
  exact ⟨fun k => k.2.2, fun k => ⟨h, h1, k⟩⟩
theorem mayV_no {v : List Nd} (h : ¬ (v.length ≤ 512 ∧ ∃ n l, v = n :: l ∧ n.kind = 1)) : mayV v = false := by
  rw [Bool.eq_false_iff]
  intro hm
  have := mayV_iff.1 hm
  exact h ⟨this.1, this.2.1⟩
def checkV (v : List Nd) : Int := if mayV v = true then 0 else 8
end Hx
end Go.Proofs.YtlhjcdkkmloamaaGreatDoor
namespace Go.Proofs.YtlhjcdkkmloamaaGreatDoor
open Go.RowKit
namespace Hx
open Lx Tr Tx Nmb Es
set_option maxRecDepth 100000
set_option maxHeartbeats 16000000
set_option linter.unusedVariables false
theorem em_l (s : ByteArray) : s.toList.isEmpty = s.data.toList.isEmpty := by rw [ByteArray.toList_eq]
theorem hold_1 (n : Nd) (x y z : ByteArray) (A : Option Addr) (c : Nat) (w : World) (h : NdAt n x y z A c w) (hs : SmallN n) (hk : n.kind = 1) (q : Bool) (hq : holdB n = q) :
    Calls Tryz.prog 47 #[NdV n x y z A c] w fun e w' => e = .returned (.bool q) ∧ Below w.heap.size w w' := by
  have HBO : Hid (∀ o, Below w.heap.size w (w.alloc o)) := Lib.hid fun o => (Below.refl _ _).alloc (Nat.le_refl _) o
  have HND : Hid (∀ W, Below w.heap.size w W → NdAt n x y z A c W) := Lib.hid fun W hW => h.on hW
  have HXS : Hid (x.size ≤ 1000000) := Lib.hid (by rw [← ba_l, h.space]; exact hs.space)
  have HYS : Hid (y.size ≤ 1000000) := Lib.hid (by rw [← ba_l, h.name]; exact hs.name)
  have HZS : Hid (z.size ≤ 1000000) := Lib.hid (by rw [← ba_l, h.text]; exact hs.text)
  have HLN : Hid (n.attrs.length ≤ 1000000) := Lib.hid hs.attrs
  have HEA := Lib.hid hs.each
  have ba := h.lo
  have bb := h.hi
  obtain ⟨m, hm⟩ : ∃ m, n.attrs.length = m := ⟨_, rfl⟩
  have HNL := Lib.hid hm
  obtain ⟨y9, hmy⟩ : ∃ y9, n.many = y9 := ⟨_, rfl⟩
  obtain ⟨a1, h1⟩ : ∃ a, okT x.data.toList = a := ⟨_, rfl⟩
  obtain ⟨a2, h2⟩ : ∃ a, fullL y.data.toList = a := ⟨_, rfl⟩
  obtain ⟨a3, h3⟩ : ∃ a, atsOk n.attrs = a := ⟨_, rfl⟩
  obtain ⟨a4, h4⟩ : ∃ a, z.toList.isEmpty = a := ⟨_, rfl⟩
  obtain ⟨a5, h5⟩ : ∃ a, decide ((0 : Int) ≤ y9) = a := ⟨_, rfl⟩
  have HQ : Hid (q = (a1 && (a2 && (a3 && (a4 && a5))))) := Lib.hid (by
    rw [← hq, ← h1, ← h2, ← h3, ← h4, ← h5, em_l, h.space, h.name, h.text, ← hmy]
    unfold holdB ndOk
    rw [if_pos hk]
    cases fullL n.name <;> cases n.text.isEmpty <;> cases okT n.space <;> cases atsOk n.attrs <;> cases decide ((0 : Int) ≤ n.many) <;> rfl)
  have H1 := Lib.hid h1
  have H2 := Lib.hid h2
  have H3 := Lib.hid h3
  unfold NdV
  rw [hk, hm, hmy]
  rw [hmy] at ba bb
  clear h hs hk hq h1 h2 h3 hm hmy
  cases a1 with
  | false =>
    obtain rfl : q = false := HQ.out
    go_enter Tryz.func47, Tryz.ntmps47
    go_wp2_with (first
      | (go_at_call 64; (with_reducible refine (istext x _ HXS.out false H1.out).mono ?_); rintro e1 w1 ⟨rfl, hb1⟩; have HB1 : Hid (Below w.heap.size w w1) := Lib.hid (bel_in9 (HBO.out _) hb1); have HX1 := Lib.hid (kept_heap (heap_alloc_new w (.cells #[.int .u8 ((1 : Nat) : Int), .string x, .string y, .slice A m c, .string z, .int .i64 y9] 32)) hb1); have d10 := cellV w1 _ 0 _ _ _ HX1.out; have d11 := cellV w1 _ 1 _ _ _ HX1.out; have d12 := cellV w1 _ 2 _ _ _ HX1.out; have d13 := cellV w1 _ 3 _ _ _ HX1.out; have d14 := cellV w1 _ 4 _ _ _ HX1.out; have d15 := cellV w1 _ 5 _ _ _ HX1.out; clear hb1)
      | fail)
    go_ret
    exact ⟨rfl, HB1.out⟩
  | true =>
    cases a2 with
    | false =>
      obtain rfl : q = false := HQ.out
      go_enter Tryz.func47, Tryz.ntmps47
      go_wp2_with (first
        | (go_at_call 64; (with_reducible refine (istext x _ HXS.out true H1.out).mono ?_); rintro e1 w1 ⟨rfl, hb1⟩; have HB1 : Hid (Below w.heap.size w w1) := Lib.hid (bel_in9 (HBO.out _) hb1); have HX1 := Lib.hid (kept_heap (heap_alloc_new w (.cells #[.int .u8 ((1 : Nat) : Int), .string x, .string y, .slice A m c, .string z, .int .i64 y9] 32)) hb1); have d10 := cellV w1 _ 0 _ _ _ HX1.out; have d11 := cellV w1 _ 1 _ _ _ HX1.out; have d12 := cellV w1 _ 2 _ _ _ HX1.out; have d13 := cellV w1 _ 3 _ _ _ HX1.out; have d14 := cellV w1 _ 4 _ _ _ HX1.out; have d15 := cellV w1 _ 5 _ _ _ HX1.out; clear hb1)
        | (go_at_call 65; (with_reducible refine (full9q y _ HYS.out false H2.out).mono ?_); rintro e2 w2 ⟨rfl, hb2⟩; have HB2 : Hid (Below w.heap.size w w2) := Lib.hid (stp HB1.out hb2); have HX2 := Lib.hid (kept_heap HX1.out hb2); have d20 := cellV w2 _ 0 _ _ _ HX2.out; have d21 := cellV w2 _ 1 _ _ _ HX2.out; have d22 := cellV w2 _ 2 _ _ _ HX2.out; have d23 := cellV w2 _ 3 _ _ _ HX2.out; have d24 := cellV w2 _ 4 _ _ _ HX2.out; have d25 := cellV w2 _ 5 _ _ _ HX2.out; clear hb2)
        | fail)
      go_ret
      exact ⟨rfl, HB2.out⟩
    | true =>
      cases a3 with
      | false =>
        obtain rfl : q = false := HQ.out
        go_enter Tryz.func47, Tryz.ntmps47
        go_wp2_with (first
          | (go_at_call 64; (with_reducible refine (istext x _ HXS.out true H1.out).mono ?_); rintro e1 w1 ⟨rfl, hb1⟩; have HB1 : Hid (Below w.heap.size w w1) := Lib.hid (bel_in9 (HBO.out _) hb1); have HX1 := Lib.hid (kept_heap (heap_alloc_new w (.cells #[.int .u8 ((1 : Nat) : Int), .string x, .string y, .slice A m c, .string z, .int .i64 y9] 32)) hb1); have d10 := cellV w1 _ 0 _ _ _ HX1.out; have d11 := cellV w1 _ 1 _ _ _ HX1.out; have d12 := cellV w1 _ 2 _ _ _ HX1.out; have d13 := cellV w1 _ 3 _ _ _ HX1.out; have d14 := cellV w1 _ 4 _ _ _ HX1.out; have d15 := cellV w1 _ 5 _ _ _ HX1.out; clear hb1)
          | (go_at_call 65; (with_reducible refine (full9q y _ HYS.out true H2.out).mono ?_); rintro e2 w2 ⟨rfl, hb2⟩; have HB2 : Hid (Below w.heap.size w w2) := Lib.hid (stp HB1.out hb2); have HX2 := Lib.hid (kept_heap HX1.out hb2); have d20 := cellV w2 _ 0 _ _ _ HX2.out; have d21 := cellV w2 _ 1 _ _ _ HX2.out; have d22 := cellV w2 _ 2 _ _ _ HX2.out; have d23 := cellV w2 _ 3 _ _ _ HX2.out; have d24 := cellV w2 _ 4 _ _ _ HX2.out; have d25 := cellV w2 _ 5 _ _ _ HX2.out; clear hb2)
          | (go_at_call 66; (with_reducible refine (mayhave A m c n.attrs _ (HND.out _ HB2.out).rd HNL.out (HNL.out ▸ HLN.out) HEA.out false H3.out).mono ?_); rintro e3 w3 ⟨rfl, hb3⟩; have HB3 : Hid (Below w.heap.size w w3) := Lib.hid (stp HB2.out hb3); have HX3 := Lib.hid (kept_heap HX2.out hb3); have d30 := cellV w3 _ 0 _ _ _ HX3.out; have d31 := cellV w3 _ 1 _ _ _ HX3.out; have d32 := cellV w3 _ 2 _ _ _ HX3.out; have d33 := cellV w3 _ 3 _ _ _ HX3.out; have d34 := cellV w3 _ 4 _ _ _ HX3.out; have d35 := cellV w3 _ 5 _ _ _ HX3.out; clear hb3)
          | fail)
        go_ret
        exact ⟨rfl, HB3.out⟩
      | true =>
        cases a4 with
        | false =>
          obtain rfl : q = false := HQ.out
          go_enter Tryz.func47, Tryz.ntmps47
          go_wp2_with (first
            | (go_at_call 64; (with_reducible refine (istext x _ HXS.out true H1.out).mono ?_); rintro e1 w1 ⟨rfl, hb1⟩; have HB1 : Hid (Below w.heap.size w w1) := Lib.hid (bel_in9 (HBO.out _) hb1); have HX1 := Lib.hid (kept_heap (heap_alloc_new w (.cells #[.int .u8 ((1 : Nat) : Int), .string x, .string y, .slice A m c, .string z, .int .i64 y9] 32)) hb1); have d10 := cellV w1 _ 0 _ _ _ HX1.out; have d11 := cellV w1 _ 1 _ _ _ HX1.out; have d12 := cellV w1 _ 2 _ _ _ HX1.out; have d13 := cellV w1 _ 3 _ _ _ HX1.out; have d14 := cellV w1 _ 4 _ _ _ HX1.out; have d15 := cellV w1 _ 5 _ _ _ HX1.out; clear hb1)
            | (go_at_call 65; (with_reducible refine (full9q y _ HYS.out true H2.out).mono ?_); rintro e2 w2 ⟨rfl, hb2⟩; have HB2 : Hid (Below w.heap.size w w2) := Lib.hid (stp HB1.out hb2); have HX2 := Lib.hid (kept_heap HX1.out hb2); have d20 := cellV w2 _ 0 _ _ _ HX2.out; have d21 := cellV w2 _ 1 _ _ _ HX2.out; have d22 := cellV w2 _ 2 _ _ _ HX2.out; have d23 := cellV w2 _ 3 _ _ _ HX2.out; have d24 := cellV w2 _ 4 _ _ _ HX2.out; have d25 := cellV w2 _ 5 _ _ _ HX2.out; clear hb2)
            | (go_at_call 66; (with_reducible refine (mayhave A m c n.attrs _ (HND.out _ HB2.out).rd HNL.out (HNL.out ▸ HLN.out) HEA.out true H3.out).mono ?_); rintro e3 w3 ⟨rfl, hb3⟩; have HB3 : Hid (Below w.heap.size w w3) := Lib.hid (stp HB2.out hb3); have HX3 := Lib.hid (kept_heap HX2.out hb3); have d30 := cellV w3 _ 0 _ _ _ HX3.out; have d31 := cellV w3 _ 1 _ _ _ HX3.out; have d32 := cellV w3 _ 2 _ _ _ HX3.out; have d33 := cellV w3 _ 3 _ _ _ HX3.out; have d34 := cellV w3 _ 4 _ _ _ HX3.out; have d35 := cellV w3 _ 5 _ _ _ HX3.out; clear hb3)
            | fail)
          go_ret
          exact ⟨rfl, HB3.out⟩
        | true =>
          obtain rfl : q = a5 := HQ.out
          go_enter Tryz.func47, Tryz.ntmps47
          go_wp2_with (first
            | (go_at_call 64; (with_reducible refine (istext x _ HXS.out true H1.out).mono ?_); rintro e1 w1 ⟨rfl, hb1⟩; have HB1 : Hid (Below w.heap.size w w1) := Lib.hid (bel_in9 (HBO.out _) hb1); have HX1 := Lib.hid (kept_heap (heap_alloc_new w (.cells #[.int .u8 ((1 : Nat) : Int), .string x, .string y, .slice A m c, .string z, .int .i64 y9] 32)) hb1); have d10 := cellV w1 _ 0 _ _ _ HX1.out; have d11 := cellV w1 _ 1 _ _ _ HX1.out; have d12 := cellV w1 _ 2 _ _ _ HX1.out; have d13 := cellV w1 _ 3 _ _ _ HX1.out; have d14 := cellV w1 _ 4 _ _ _ HX1.out; have d15 := cellV w1 _ 5 _ _ _ HX1.out; clear hb1)
            | (go_at_call 65; (with_reducible refine (full9q y _ HYS.out true H2.out).mono ?_); rintro e2 w2 ⟨rfl, hb2⟩; have HB2 : Hid (Below w.heap.size w w2) := Lib.hid (stp HB1.out hb2); have HX2 := Lib.hid (kept_heap HX1.out hb2); have d20 := cellV w2 _ 0 _ _ _ HX2.out; have d21 := cellV w2 _ 1 _ _ _ HX2.out; have d22 := cellV w2 _ 2 _ _ _ HX2.out; have d23 := cellV w2 _ 3 _ _ _ HX2.out; have d24 := cellV w2 _ 4 _ _ _ HX2.out; have d25 := cellV w2 _ 5 _ _ _ HX2.out; clear hb2)
            | (go_at_call 66; (with_reducible refine (mayhave A m c n.attrs _ (HND.out _ HB2.out).rd HNL.out (HNL.out ▸ HLN.out) HEA.out true H3.out).mono ?_); rintro e3 w3 ⟨rfl, hb3⟩; have HB3 : Hid (Below w.heap.size w w3) := Lib.hid (stp HB2.out hb3); have HX3 := Lib.hid (kept_heap HX2.out hb3); have d30 := cellV w3 _ 0 _ _ _ HX3.out; have d31 := cellV w3 _ 1 _ _ _ HX3.out; have d32 := cellV w3 _ 2 _ _ _ HX3.out; have d33 := cellV w3 _ 3 _ _ _ HX3.out; have d34 := cellV w3 _ 4 _ _ _ HX3.out; have d35 := cellV w3 _ 5 _ _ _ HX3.out; clear hb3)
            | fail)
          go_ret
          exact ⟨rfl, HB3.out⟩
theorem hold_2 (n : Nd) (x y z : ByteArray) (A : Option Addr) (c : Nat) (w : World) (h : NdAt n x y z A c w) (hs : SmallN n) (hk : n.kind = 2) (q : Bool) (hq : holdB n = q) :
    Calls Tryz.prog 47 #[NdV n x y z A c] w fun e w' => e = .returned (.bool q) ∧ Below w.heap.size w w' := by
  have HBO : Hid (∀ o, Below w.heap.size w (w.alloc o)) := Lib.hid fun o => (Below.refl _ _).alloc (Nat.le_refl _) o
  have HND : Hid (∀ W, Below w.heap.size w W → NdAt n x y z A c W) := Lib.hid fun W hW => h.on hW
  have HXS : Hid (x.size ≤ 1000000) := Lib.hid (by rw [← ba_l, h.space]; exact hs.space)
  have HYS : Hid (y.size ≤ 1000000) := Lib.hid (by rw [← ba_l, h.name]; exact hs.name)
  have HZS : Hid (z.size ≤ 1000000) := Lib.hid (by rw [← ba_l, h.text]; exact hs.text)
  have HLN : Hid (n.attrs.length ≤ 1000000) := Lib.hid hs.attrs
  have HEA := Lib.hid hs.each
  have ba := h.lo
  have bb := h.hi
  obtain ⟨m, hm⟩ : ∃ m, n.attrs.length = m := ⟨_, rfl⟩
  have HNL := Lib.hid hm
  obtain ⟨y9, hmy⟩ : ∃ y9, n.many = y9 := ⟨_, rfl⟩
  obtain ⟨a1, h1⟩ : ∃ a, x.toList.isEmpty = a := ⟨_, rfl⟩
  obtain ⟨a2, h2⟩ : ∃ a, y.toList.isEmpty = a := ⟨_, rfl⟩
  obtain ⟨a3, h3⟩ : ∃ a, ((m : Int) == 0) = a := ⟨_, rfl⟩
  obtain ⟨a4, h4⟩ : ∃ a, (!z.toList.isEmpty) = a := ⟨_, rfl⟩
  obtain ⟨a5, h5⟩ : ∃ a, okT z.data.toList = a := ⟨_, rfl⟩
  obtain ⟨a6, h6⟩ : ∃ a, (y9 == 0) = a := ⟨_, rfl⟩
  have HQ : Hid (q = (a1 && (a2 && (a3 && (a4 && (a5 && a6)))))) := Lib.hid (by
    have e3 : ((m : Int) == 0) = n.attrs.isEmpty := by rw [← hm]; cases n.attrs <;> simp <;> omega
    have e6 : (y9 == 0) = (decide (n.many = 0) && decide (0 ≤ n.many)) := by rw [hmy, Bool.eq_iff_iff]; simp; omega
    rw [← hq, ← h1, ← h2, ← h3, ← h4, ← h5, ← h6, e3, e6, em_l, em_l, em_l, h.space, h.name, h.text]
    unfold holdB ndOk
    rw [if_neg (by omega), if_pos hk]
    cases n.name.isEmpty <;> cases n.space.isEmpty <;> cases n.attrs.isEmpty <;> cases decide (n.many = 0) <;> cases n.text.isEmpty <;> cases okT n.text <;> cases decide ((0 : Int) ≤ n.many) <;> rfl)
  have H5 := Lib.hid h5
  unfold NdV
  rw [hk, hm, hmy]
  rw [hmy] at ba bb
  clear h hs hk hq h5 hm hmy
  cases a1 with
  | false =>
    obtain rfl : q = false := HQ.out
    go_enter Tryz.func47, Tryz.ntmps47
    go_wp2_with fail
    go_ret
    exact ⟨rfl, HBO.out _⟩
  | true =>
    cases a2 with
    | false =>
      obtain rfl : q = false := HQ.out
      go_enter Tryz.func47, Tryz.ntmps47
      go_wp2_with fail
      go_ret
      exact ⟨rfl, HBO.out _⟩
    | true =>
      cases a3 with
      | false =>
        obtain rfl : q = false := HQ.out
        go_enter Tryz.func47, Tryz.ntmps47
        go_wp2_with fail
        go_ret
        exact ⟨rfl, HBO.out _⟩
      | true =>
        cases a4 with
        | false =>
          obtain rfl : q = false := HQ.out
          go_enter Tryz.func47, Tryz.ntmps47
          go_wp2_with fail
          go_ret
          exact ⟨rfl, HBO.out _⟩
        | true =>
          cases a5 with
          | false =>
            obtain rfl : q = false := HQ.out
            go_enter Tryz.func47, Tryz.ntmps47
            go_wp2_with (first
              | (go_at_call 64; (with_reducible refine (istext z _ HZS.out false H5.out).mono ?_); rintro e1 w1 ⟨rfl, hb1⟩; have HB1 : Hid (Below w.heap.size w w1) := Lib.hid (bel_in9 (HBO.out _) hb1); have HX1 := Lib.hid (kept_heap (heap_alloc_new w (.cells #[.int .u8 ((2 : Nat) : Int), .string x, .string y, .slice A m c, .string z, .int .i64 y9] 32)) hb1); have d10 := cellV w1 _ 0 _ _ _ HX1.out; have d11 := cellV w1 _ 1 _ _ _ HX1.out; have d12 := cellV w1 _ 2 _ _ _ HX1.out; have d13 := cellV w1 _ 3 _ _ _ HX1.out; have d14 := cellV w1 _ 4 _ _ _ HX1.out; have d15 := cellV w1 _ 5 _ _ _ HX1.out; clear hb1)
              | fail)
            go_ret
            exact ⟨rfl, HB1.out⟩
          | true =>
            obtain rfl : q = a6 := HQ.out
            go_enter Tryz.func47, Tryz.ntmps47
            go_wp2_with (first
              | (go_at_call 64; (with_reducible refine (istext z _ HZS.out true H5.out).mono ?_); rintro e1 w1 ⟨rfl, hb1⟩; have HB1 : Hid (Below w.heap.size w w1) := Lib.hid (bel_in9 (HBO.out _) hb1); have HX1 := Lib.hid (kept_heap (heap_alloc_new w (.cells #[.int .u8 ((2 : Nat) : Int), .string x, .string y, .slice A m c, .string z, .int .i64 y9] 32)) hb1); have d10 := cellV w1 _ 0 _ _ _ HX1.out; have d11 := cellV w1 _ 1 _ _ _ HX1.out; have d12 := cellV w1 _ 2 _ _ _ HX1.out; have d13 := cellV w1 _ 3 _ _ _ HX1.out; have d14 := cellV w1 _ 4 _ _ _ HX1.out; have d15 := cellV w1 _ 5 _ _ _ HX1.out; clear hb1)
              | fail)
            go_ret
            exact ⟨rfl, HB1.out⟩
theorem hold_no (n : Nd) (x y z : ByteArray) (A : Option Addr) (c : Nat) (w : World) (h : NdAt n x y z A c w) (hs : SmallN n) (hk1 : n.kind ≠ 1) (hk2 : n.kind ≠ 2) (q : Bool) (hq : holdB n = q) :
    Calls Tryz.prog 47 #[NdV n x y z A c] w fun e w' => e = .returned (.bool q) ∧ Below w.heap.size w w' := by
  have HBO : Hid (∀ o, Below w.heap.size w (w.alloc o)) := Lib.hid fun o => (Below.refl _ _).alloc (Nat.le_refl _) o
  obtain rfl : q = false := by rw [← hq]; unfold holdB ndOk; rw [if_neg hk1, if_neg hk2]; rfl
  have f1 : ((n.kind : Int) == 1) = false := by simp; omega
  have f2 : ((n.kind : Int) == 2) = false := by simp; omega
  unfold NdV
  clear h hs hk1 hk2 hq
  go_enter Tryz.func47, Tryz.ntmps47
  go_wp2_with fail
  go_ret
  exact ⟨rfl, HBO.out _⟩
theorem hold10 (n : Nd) (x y z : ByteArray) (A : Option Addr) (c : Nat) (w : World) (h : NdAt n x y z A c w) (hs : SmallN n) (q : Bool) (hq : holdB n = q) :
    Calls Tryz.prog 47 #[NdV n x y z A c] w fun e w' => e = .returned (.bool q) ∧ Below w.heap.size w w' := by
  by_cases h1 : n.kind = 1
  · exact hold_1 n x y z A c w h hs h1 q hq
  · by_cases h2 : n.kind = 2
    · exact hold_2 n x y z A c w h hs h2 q hq
    · exact hold_no n x y z A c w h hs h1 h2 q hq
end Hx
end Go.Proofs.YtlhjcdkkmloamaaGreatDoor
