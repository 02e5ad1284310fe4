/-
  Texts of one seat, put together: TrhE, TrhF, TrhG, TrhJ, TrhK, TrhL.
-/
import Derived.Test.YtkmaogafknehgaaG14
import Derived.Test.YtkmaogafknehgaaG19
import Derived.Test.YtkmaogafknehgaaG20
import Derived.Test.YtkmaogafknehgaaG18
import Derived.Test.YtkmaogafknehgaaG17
import Derived.Test.YtkmaogafknehgaaG07
import Derived.Test.YtkmaogafknehgaaG02
import Derived.Test.YtkmaogafknehgaaG12
import Derived.Deep.AppendLies
import Derived.Test.YtkmaogafknehgaaG10
import Derived.Test.YtkmaogafknehgaaG08
import Derived.Test.YtkmaogafknehgaaG06
namespace Go.Proofs.Ytkmaogafknehgaa
open Go.RowKit
namespace Hx
open Lx Tr Tx Nmb Es
set_option linter.unusedVariables false
/-- What Sub answers. -/
def subR (v : List Nd) (i : Int) : List Nd × Int := if askedR v i = 0 then (match v[i.toNat]? with
  | some n => if n.kind = 2 then ([], 2) else (partV v i.toNat, 0)
  | none => ([], 2)) else ([], askedR v i)
def SubTo (v : List Nd) (i : Int) (w : World) (e : Ending) (w' : World) : Prop := ∃ (out : List Nd) (q : Int) (A : Option Addr) (c : Nat), subR v i = (out, q) ∧ e = .returned (.tuple #[.slice A out.length c, .int .i64 q]) ∧ NdOut w.heap.size w out A c w' ∧ Below w.heap.size w w'
theorem SubTo.bad {v : List Nd} {i q : Int} {w w' : World} (h : subR v i = ([], q)) (hb : Below w.heap.size w w') : SubTo v i w (.returned (.tuple #[.slice none 0 0, .int .i64 q])) w' := ⟨[], q, none, 0, h, rfl, NdOut.none _ _ _, hb⟩
/-- A piece of some nodes. -/
theorem nds_piece {w : World} {A : Option Addr} {v : List Nd} {n c : Nat} (hr : RdB NdS w A v) (hn : v.length = n) (hnc : n ≤ c) (p q : Nat) (hp : p < n) (hpq : p ≤ q) (hq : q ≤ n) :
    ∃ A', RdB NdS w A' ((v.drop p).take (q - p)) ∧ ∀ W, (Instr.slice 22 (.slice A n c) (some (.int .i64 (p : Int))) (some (.int .i64 (q : Int))) none).run Try.prog W = .ok (.slice A' (q - p) (c - p)) W := by
  obtain ⟨b, off, rfl, hb, hc⟩ := hr (by omega)
  refine ⟨some ⟨b, off + p * 6, none⟩, RdS.take (RdS.drop (C := NdS) hr p) (q - p), fun W => ?_⟩
  have hel : Try.prog.elem 22 = 53 := by simp [Program.elem, Try.underlying22]
  have htt : Try.prog.underlying 22 = some (.slice (Try.prog.elem 22)) := by rw [hel]; exact Try.underlying22
  obtain ⟨i0, hi, hz⟩ : ∃ i0, Try.prog.info? 53 = some i0 ∧ i0.size = 6 := by
    have h := infoNdS
    cases hq : Try.prog.info? 53 with
    | none => rw [hq] at h; cases h
    | some i0 => rw [hq] at h; exact ⟨i0, rfl, Option.some.inj h⟩
  have hs : (sizeOf 53).run Try.prog W = .ok 6 W := by simp [sizeOf, typeInfo, hi, hz]
  rw [run_slice_lh W 22 _ n c htt .i64 .i64 (p : Int) (q : Int) (by omega) (by omega) (by omega), hel, hs]
  show Result.ok (sliced _ _ _ _ _) W = _
  unfold sliced
  rw [if_neg (by omega), Int.toNat_natCast, Int.toNat_natCast]
  simp [addr_plain]
theorem kind_of {v : List Nd} {p : Nat} {r : List Nd} (hp : p < v.length) (h : restD 12 (v.drop p) = some r) : (v[p]'hp).kind = 1 ∨ (v[p]'hp).kind = 2 := by
  rw [List.drop_eq_getElem_cons hp] at h
  exact ndOk_kind (restD_ok h).1
theorem sub_part {v : List Nd} {p : Nat} (hp : p < v.length) (h : askedR v p = 0) (hk : (v[p]'hp).kind = 1) : subR v p = (partV v p, 0) := by
  unfold subR
  rw [if_pos h, Int.toNat_natCast, List.getElem?_eq_getElem hp]
  show (if (v[p]'hp).kind = 2 then _ else _) = _
  rw [if_neg (by omega)]
theorem sub_text {v : List Nd} {p : Nat} (hp : p < v.length) (h : askedR v p = 0) (hk : (v[p]'hp).kind = 2) : subR v p = ([], 2) := by
  unfold subR
  rw [if_pos h, Int.toNat_natCast, List.getElem?_eq_getElem hp]
  show (if (v[p]'hp).kind = 2 then _ else _) = _
  rw [if_pos hk]
theorem sub_no {v : List Nd} {i : Int} (h : askedR v i ≠ 0) : subR v i = ([], askedR v i) := by unfold subR; rw [if_neg h]
/-- The piece that is the tree at a place. -/
theorem part_is {v : List Nd} {p : Nat} {r : List Nd} (hr : restD 12 (v.drop p) = some r) : (v.drop p).take (v.length - r.length - p) = partV v p ∧ (partV v p).length = v.length - r.length - p := by
  obtain ⟨h1, h2⟩ := partV_eq hr
  have hl := restD_len hr
  have h3 := congrArg List.length h2
  rw [List.length_append, List.length_drop] at h3
  rw [List.length_drop] at hl h1
  refine ⟨by rw [h1, show v.length - r.length - p = v.length - p - r.length by omega], by omega⟩
theorem part_mem {v : List Nd} {p : Nat} {r : List Nd} (hr : restD 12 (v.drop p) = some r) : ∀ x ∈ partV v p, x ∈ v := by
  intro x hx
  rw [← (part_is hr).1] at hx
  exact List.mem_of_mem_drop (List.mem_of_mem_take hx)
set_option maxHeartbeats 8000000 in
set_option maxRecDepth 100000 in
theorem rpart10 (A : Option Addr) (n c : Nat) (v : List Nd) (p : Nat) (w : World) (hr : RdB NdS w A v) (hn : v.length = n) (hnc : n ≤ c) (h5 : n ≤ 512) (hsm : ∀ m ∈ v, SmallN m) (r : List Nd) (hp : p < n) (hrr : restD 12 (v.drop p) = some r) (out : List Nd) (ho : partV v p = out) :
    Calls Try.prog 34 #[.slice A n c, .int .i64 p] w fun e w' => ∃ A' c', e = .returned (.slice A' out.length c') ∧ NdOut w.heap.size w out A' c' w' ∧ Below w.heap.size w w' := by
  have hlr := restD_len hrr
  rw [List.length_drop] at hlr
  obtain ⟨hp1, hp2⟩ := part_is hrr
  have hbh := bhZ_some hrr
  obtain ⟨q, hq⟩ : ∃ q, v.length - r.length = q := ⟨_, rfl⟩
  rw [hq] at hp1 hp2 hbh
  have hc := rb_all A n c v hn h5 hsm 12 (by omega) 1 p w (by omega) (by omega) hr
  rw [hbh] at hc
  have HC := Lib.hid hc
  obtain ⟨A2, hr2, hsl⟩ := nds_piece hr hn hnc p q hp (by omega) (by omega)
  rw [hp1] at hr2
  have hmem := part_mem hrr
  rw [ho] at hr2 hp2 hmem
  have HT : Hid (∀ W, Below w.heap.size w W → Calls Try.prog 5 #[.slice A2 (q - p) (c - p)] W (TwinTo out W)) := Lib.hid fun W hW => rtwin10 A2 (q - p) (c - p) out W (hr2.on hW) hp2 (by omega) fun x hx => (hsm x (hmem x hx)).attrs
  clear hr hn hnc h5 hsm hrr ho hlr hp1 hp2 hbh hc hr2 hmem hq
  go_enter Try.func34, Try.ntmps34
  go_wp2_with (first
    | (go_at_call 47; (with_reducible refine (HC.out).mono ?_); rintro e1 w1 ⟨rfl, hb1⟩; have HB1 := Lib.hid hb1; clear hb1)
    | (go_at_call 5; (with_reducible refine (HT.out _ HB1.out).mono ?_); rintro e2 w2 ⟨A3, c3, rfl, ho3, hb3⟩; have HO3 := Lib.hid ho3; have HB3 := Lib.hid hb3; clear ho3 hb3)
    | fail)
  go_ret
  exact ⟨A3, c3, rfl, HO3.out.weak HB1.out.size, stp HB1.out HB3.out⟩
set_option maxHeartbeats 8000000 in
set_option maxRecDepth 100000 in
theorem sub10 (A : Option Addr) (n c : Nat) (v : List Nd) (i : Int) (w : World) (hr : RdB NdS w A v) (hn : v.length = n) (hnc : n ≤ c) (hmax : n ≤ 9223372036854775807) (hsm : n ≤ 512 → ∀ m ∈ v, SmallN m) :
    Calls Try.prog 10 #[.slice A n c, .int .i64 i] w (SubTo v i w) := by
  obtain ⟨qq, hqq⟩ : ∃ qq, askedR v i = qq := ⟨_, rfl⟩
  have HC := Lib.hid (place10 A n c v i w hr hn hmax hsm qq hqq)
  by_cases h0 : qq = 0
  · subst h0
    obtain ⟨hm, h1, h2⟩ := asked_zero hqq
    have h5 := (mayV_iff.1 hm).1
    obtain ⟨p, rfl⟩ := int_nat h1
    have hpv : p < v.length := by omega
    obtain ⟨r, hrr⟩ := mayV_at hm (i := p) hpv
    obtain ⟨b0, off, x, y, t, A1, c1, hA, hbB, hin, q0, -⟩ := nd_at hr hpv
    have HBB := Lib.hid hbB
    have bp : (0 : Int) ≤ (p : Int) ∧ (p : Int) < (n : Int) := by omega
    rcases kind_of hpv hrr with hk | hk
    · have HS := Lib.hid (sub_part hpv hqq hk)
      rw [hk, show ((1 : Nat) : Int) = 1 from rfl] at q0
      obtain ⟨out, ho⟩ : ∃ out, partV v p = out := ⟨_, rfl⟩
      rw [ho] at HS
      have hlr := restD_len hrr
      rw [List.length_drop] at hlr
      obtain ⟨hp1, hp2⟩ := part_is hrr
      obtain ⟨q, hq⟩ : ∃ q, v.length - r.length = q := ⟨_, rfl⟩
      rw [hq] at hp1 hp2
      have HBH : Hid (∀ W, Below w.heap.size w W → Calls Try.prog 33 #[.slice A n c, .int .i64 p] W fun e w' => e = .returned (.int .i64 q) ∧ Below W.heap.size W w') := Lib.hid fun W hW => behind10 A n c v p 12 r W (hr.on hW) hn (by omega) (by omega) hrr q (by rw [← hn]; exact hq)
      obtain ⟨A2, hr2, hsl⟩ := nds_piece hr hn hnc p q (by omega) (by omega) (by omega)
      rw [hp1] at hr2
      have hmem := part_mem hrr
      rw [ho] at hr2 hp2 hmem
      have hsm2 := hsm (by omega)
      have HT : Hid (∀ W, Below w.heap.size w W → Calls Try.prog 14 #[.slice A2 (q - p) (c - p)] W (TwinTo out W)) := Lib.hid fun W hW => twin10 A2 (q - p) (c - p) out W (hr2.on hW) hp2 (by omega) fun x hx => hsm2 x (hmem x hx)
      subst hA
      clear hr hn hnc hmax hsm hsm2 hqq hm h1 h2 h5 hrr hin hk hlr hp1 hp2 hr2 hmem hq ho hbB
      go_enter Try.func10, Try.ntmps10
      go_wp2_with (first
        | (go_at_call 29; (with_reducible refine (HC.out).mono ?_); rintro e1 w1 ⟨rfl, hb1⟩; have HB1 := Lib.hid hb1; have s0 := (hb1.cell (p := ⟨b0, _, none⟩) HBB.out).trans q0; clear hb1)
        | (go_at_call 33; (with_reducible refine (HBH.out _ HB1.out).mono ?_); rintro e2 w2 ⟨rfl, hb2⟩; have HB2 := Lib.hid (stp HB1.out hb2); clear hb2)
        | (go_at_call 14; (with_reducible refine (HT.out _ HB2.out).mono ?_); rintro e3 w3 ⟨A3, c3, rfl, ho3, hb3⟩; have HO3 := Lib.hid ho3; have HB3 := Lib.hid hb3; clear ho3 hb3)
        | fail)
      go_ret2
      exact ⟨out, 0, A3, c3, HS.out, rfl, HO3.out.weak HB2.out.size, stp HB2.out HB3.out⟩
    · have HS := Lib.hid (sub_text hpv hqq hk)
      rw [hk, show ((2 : Nat) : Int) = 2 from rfl] at q0
      subst hA
      clear hr hn hnc hmax hsm hqq hm h1 h2 h5 hrr hin hk hbB
      go_enter Try.func10, Try.ntmps10
      go_wp2_with (first
        | (go_at_call 29; (with_reducible refine (HC.out).mono ?_); rintro e1 w1 ⟨rfl, hb1⟩; have HB1 := Lib.hid hb1; have s0 := (hb1.cell (p := ⟨b0, _, none⟩) HBB.out).trans q0; clear hb1)
        | fail)
      go_ret2
      exact SubTo.bad HS.out HB1.out
  · have hs := sub_no (v := v) (i := i) (by omega)
    rw [hqq] at hs
    have HS := Lib.hid hs
    have hv := asked_vals v i
    have hq2 : qq = 2 ∨ qq = 8 := by omega
    clear hr hn hnc hmax hsm hqq hv hs
    rcases hq2 with rfl | rfl
    all_goals
      go_enter Try.func10, Try.ntmps10
      go_wp2_with (first
        | (go_at_call 29; (with_reducible refine (HC.out).mono ?_); rintro e1 w1 ⟨rfl, hb1⟩; have HB1 := Lib.hid hb1; clear hb1)
        | fail)
      go_ret2
      exact SubTo.bad HS.out HB1.out
set_option maxHeartbeats 8000000 in
set_option maxRecDepth 100000 in
theorem rsub10 (A : Option Addr) (n c : Nat) (v : List Nd) (i : Int) (w : World) (hr : RdB NdS w A v) (hn : v.length = n) (hnc : n ≤ c) (hmax : n ≤ 9223372036854775807) (hsm : n ≤ 512 → ∀ m ∈ v, SmallN m) :
    Calls Try.prog 11 #[.slice A n c, .int .i64 i] w (SubTo v i w) := by
  obtain ⟨qq, hqq⟩ : ∃ qq, askedR v i = qq := ⟨_, rfl⟩
  have HC := Lib.hid (rasked10 A n c v i w hr hn hmax hsm qq hqq)
  by_cases h0 : qq = 0
  · subst h0
    obtain ⟨hm, h1, h2⟩ := asked_zero hqq
    have h5 := (mayV_iff.1 hm).1
    obtain ⟨p, rfl⟩ := int_nat h1
    have hpv : p < v.length := by omega
    obtain ⟨r, hrr⟩ := mayV_at hm (i := p) hpv
    obtain ⟨b0, off, x, y, t, A1, c1, hA, hbB, hin, q0, -⟩ := nd_at hr hpv
    have HBB := Lib.hid hbB
    have bp : (0 : Int) ≤ (p : Int) ∧ (p : Int) < (n : Int) := by omega
    rcases kind_of hpv hrr with hk | hk
    · have HS := Lib.hid (sub_part hpv hqq hk)
      rw [hk, show ((1 : Nat) : Int) = 1 from rfl] at q0
      obtain ⟨out, ho⟩ : ∃ out, partV v p = out := ⟨_, rfl⟩
      rw [ho] at HS
      have hsm2 := hsm (by omega)
      have HP : Hid (∀ W, Below w.heap.size w W → Calls Try.prog 34 #[.slice A n c, .int .i64 p] W fun e w' => ∃ A' c', e = .returned (.slice A' out.length c') ∧ NdOut W.heap.size W out A' c' w' ∧ Below W.heap.size W w') := Lib.hid fun W hW => rpart10 A n c v p W (hr.on hW) hn hnc (by omega) hsm2 r (by omega) hrr out ho
      subst hA
      clear hr hn hnc hmax hsm hsm2 hqq hm h1 h2 h5 hrr hin hk ho hbB
      go_enter Try.func11, Try.ntmps11
      go_wp2_with (first
        | (go_at_call 31; (with_reducible refine (HC.out).mono ?_); rintro e1 w1 ⟨rfl, hb1⟩; have HB1 := Lib.hid hb1; have s0 := (hb1.cell (p := ⟨b0, _, none⟩) HBB.out).trans q0; clear hb1)
        | (go_at_call 34; (with_reducible refine (HP.out _ HB1.out).mono ?_); rintro e3 w3 ⟨A3, c3, rfl, ho3, hb3⟩; have HO3 := Lib.hid ho3; have HB3 := Lib.hid hb3; clear ho3 hb3)
        | fail)
      go_ret2
      exact ⟨out, 0, A3, c3, HS.out, rfl, HO3.out.weak HB1.out.size, stp HB1.out HB3.out⟩
    · have HS := Lib.hid (sub_text hpv hqq hk)
      rw [hk, show ((2 : Nat) : Int) = 2 from rfl] at q0
      subst hA
      clear hr hn hnc hmax hsm hqq hm h1 h2 h5 hrr hin hk hbB
      go_enter Try.func11, Try.ntmps11
      go_wp2_with (first
        | (go_at_call 31; (with_reducible refine (HC.out).mono ?_); rintro e1 w1 ⟨rfl, hb1⟩; have HB1 := Lib.hid hb1; have s0 := (hb1.cell (p := ⟨b0, _, none⟩) HBB.out).trans q0; clear hb1)
        | fail)
      go_ret2
      exact SubTo.bad HS.out HB1.out
  · have hs := sub_no (v := v) (i := i) (by omega)
    rw [hqq] at hs
    have HS := Lib.hid hs
    have hv := asked_vals v i
    have hq2 : qq = 2 ∨ qq = 8 := by omega
    clear hr hn hnc hmax hsm hqq hv hs
    rcases hq2 with rfl | rfl
    all_goals
      go_enter Try.func11, Try.ntmps11
      go_wp2_with (first
        | (go_at_call 31; (with_reducible refine (HC.out).mono ?_); rintro e1 w1 ⟨rfl, hb1⟩; have HB1 := Lib.hid hb1; clear hb1)
        | fail)
      go_ret2
      exact SubTo.bad HS.out HB1.out
end Hx
end Go.Proofs.Ytkmaogafknehgaa
namespace Go.Proofs.Ytkmaogafknehgaa
open Go.RowKit
namespace Hx
open Lx Tr Tx Nmb Es
set_option linter.unusedVariables false
/-- The text of a node at a place. -/
def textAt (v : List Nd) (k : Nat) : List UInt8 := match v[k]? with
  | some n => n.text
  | none => []
def wordsV (v : List Nd) (p : Nat) : List UInt8 := textAt v p ++ (under v p).flatMap (textAt v)
def wordsR (v : List Nd) (i : Int) : List UInt8 := if askedR v i = 0 then wordsV v i.toNat else []
theorem textAt_in {v : List Nd} {k : Nat} (hk : k < v.length) : textAt v k = (v[k]'hk).text := by unfold textAt; rw [List.getElem?_eq_getElem hk]
theorem places_lt {g : List Nd → Option (List Nd)} (hg : Tr.Loc g) : ∀ (m p0 : Nat) (b0 b : Bool) (l r : List Nd), kidsD g m b0 l = some (b, r) → (places g m p0 l).length = m ∧ ∀ k ∈ places g m p0 l, p0 ≤ k ∧ k < p0 + l.length := by
  intro m
  induction m with
  | zero => intro p0 b0 b l r h; rw [places]; exact ⟨rfl, fun k hk => by cases hk⟩
  | succ m ih =>
    intro p0 b0 b l r h
    cases l with
    | nil => rw [kidsD] at h; cases h
    | cons n l =>
      rw [kidsD] at h
      by_cases hb : b0 = true ∧ n.kind = 2
      · rw [if_pos hb] at h; cases h
      · rw [if_neg hb] at h
        cases hn : g (n :: l) with
        | none => rw [hn] at h; cases h
        | some y =>
          rw [hn] at h
          obtain ⟨q, hq, e1, _⟩ := hg _ _ hn
          have l1 : y.length + q.length = (n :: l).length := by rw [e1, List.length_append]; omega
          obtain ⟨h1, h2⟩ := ih (p0 + ((n :: l).length - y.length)) _ _ _ _ h
          rw [places, hn]
          refine ⟨by rw [List.length_cons, h1], fun k hk => ?_⟩
          rcases List.mem_cons.1 hk with rfl | hk
          · simp
          · have := h2 k hk
            omega
theorem under_lt {v : List Nd} {p : Nat} {r : List Nd} (hp : p < v.length) (h : restD 12 (v.drop p) = some r) : (∀ k ∈ under v p, k < v.length) ∧ (under v p).length ≤ v.length := by
  have h' := h
  rw [List.drop_eq_getElem_cons hp] at h'
  obtain ⟨_, hm0, bb, hk0⟩ := restD_ok h'
  have hk := kidsD_le (e := 12) (by omega) hk0
  obtain ⟨h1, h2⟩ := places_lt (restD_loc 12) _ (p + 1) _ _ _ _ hk
  have hU : under v p = places (restD 12) (v[p]'hp).many.toNat (p + 1) (v.drop (p + 1)) := by unfold under; rw [List.getElem?_eq_getElem hp]
  have hl := kidsD_len hk
  rw [List.length_drop] at hl
  refine ⟨fun k hk2 => ?_, by rw [hU, h1]; omega⟩
  rw [hU] at hk2
  have := h2 k hk2
  rw [List.length_drop] at this
  omega
theorem texts_len {v : List Nd} (hs : ∀ n ∈ v, SmallN n) (l : List Nat) : (l.flatMap (textAt v)).length ≤ l.length * 1000000 := by
  induction l with
  | nil => simp
  | cons k l ih =>
    have h1 : (textAt v k).length ≤ 1000000 := by
      unfold textAt
      cases hq : v[k]? with
      | none => simp
      | some n => exact (hs n (List.mem_of_getElem? hq)).text
    rw [List.flatMap_cons, List.length_append, List.length_cons]
    omega
theorem flat_take {v : List Nd} (l : List Nat) (j : Nat) (hj : j < l.length) : (l.take (j + 1)).flatMap (textAt v) = (l.take j).flatMap (textAt v) ++ textAt v (l[j]'hj) := by
  rw [List.take_succ_eq_append_getElem hj, List.flatMap_append]
  simp
/-- A row of numbers of the call's own, while a builder of its own grows. -/
theorem ints_kept {w w' : World} {base b : Nat} {A : Option Addr} {n c : Nat} {l : List Int} (h : w.ownsRow base 3 1 (.slice A n c) n (l.map encZ)) (hb : b < base) (hk : OK9 b w w') : RdZ w' w.heap.size A l := by
  intro hp
  obtain ⟨b', off, e, hlt, hc⟩ := (RdG.of_own h).1 hp
  have hl : l.length = n := (RdG.of_own h).2
  rcases h.2 with ⟨_, h0⟩ | ⟨g, cap, cur, hv, hg1, hg, _⟩
  · omega
  injection hv with hA _ _
  subst hA
  injection e with e
  injection e with e1 e2 _
  subst e1 e2
  refine ⟨g, 0, rfl, hlt, fun j hj => ?_⟩
  rw [cell_blk ((hk.stay hg (by omega) (by decide)).trans hg.symm)]
  exact hc j hj
set_option maxHeartbeats 8000000 in
set_option maxRecDepth 100000 in
theorem words10 (A : Option Addr) (n c : Nat) (v : List Nd) (i : Int) (w : World) (hr : RdB NdS w A v) (hn : v.length = n) (hmax : n ≤ 9223372036854775807) (hsm : n ≤ 512 → ∀ m ∈ v, SmallN m) (q : Int) (hq : askedR v i = q) (s : ByteArray) (hs : wordsR v i = s.data.toList) :
    Calls Try.prog 12 #[.slice A n c, .int .i64 i] w fun e w' => e = .returned (.tuple #[.string s, .int .i64 q]) ∧ Below w.heap.size w w' := by
  have HC := Lib.hid (place10 A n c v i w hr hn hmax hsm q hq)
  by_cases h0 : q = 0
  · subst h0
    obtain ⟨hm, h1, h2⟩ := asked_zero hq
    have h5 := (mayV_iff.1 hm).1
    obtain ⟨p, rfl⟩ := int_nat h1
    have hpv : p < v.length := by omega
    obtain ⟨r, hrr⟩ := mayV_at hm (i := p) hpv
    have hw : wordsV v p = s.data.toList := by rw [← hs]; unfold wordsR; rw [if_pos hq, Int.toNat_natCast]
    obtain ⟨b0, off, x, y, t, A1, c1, hA, hbB, hin, -, -, -, -, q4, -⟩ := nd_at hr hpv
    have HBB := Lib.hid hbB
    obtain ⟨ul, hul⟩ : ∃ ul, under v p = ul := ⟨_, rfl⟩
    obtain ⟨ult, ulen⟩ := under_lt hpv hrr
    have hsm2 := hsm (by omega)
    have HW : Hid (∀ W, Below w.heap.size w W → Calls Try.prog 30 #[.slice A n c, .int .i64 p] W (IntsTo ul W)) := Lib.hid fun W hW => by
      rw [← hul]
      exact within10 A n c v p r W (hr.on hW) hn (by omega) (by omega) hrr
    have ht : textAt v p = t.data.toList := by rw [textAt_in hpv]; exact hin.text.symm
    unfold wordsV at hw
    rw [hul, ht] at hw
    rw [hul] at ult ulen
    have htl : t.data.toList.length ≤ 1000000 := by rw [← ht, textAt_in hpv]; exact (hsm2 _ (List.getElem_mem hpv)).text
    have HFL : Hid (∀ j, j ≤ ul.length → (t.data.toList ++ (ul.take j).flatMap (textAt v)).length ≤ 1000000000) := Lib.hid fun j hj => by
      have h9 := texts_len hsm2 (ul.take j)
      rw [List.length_take] at h9
      rw [List.length_append]
      have : min j ul.length * 1000000 ≤ 512 * 1000000 := Nat.mul_le_mul_right _ (by omega)
      omega
    have HUL := Lib.hid ult
    have HRB := Lib.hid hr
    have HWS := Lib.hid hw
    have HN := Lib.hid hn
    have bp : (0 : Int) ≤ (p : Int) ∧ (p : Int) < (n : Int) := by omega
    have bu : ul.length ≤ 512 := by omega
    subst hA
    have HQ4 := Lib.hid q4
    clear hr hn hmax hsm hsm2 hq hs hm h1 h2 h5 hrr hin hbB hul hw ht htl ult ulen hpv
    go_enter Try.func12, Try.ntmps12
    go_wp2_with (first
      | (go_at_call 29; (with_reducible refine (HC.out).mono ?_); rintro e1 w1 ⟨rfl, hb1⟩; have HB1 := Lib.hid hb1; have s4 := ((stpA hb1 (.cells #[.pointer none, .slice none 0 0] 70)).cell (p := ⟨b0, _, none⟩) HBB.out).trans q4; clear hb1)
      | (go_at_call 35; refine (bwsL w1.heap.size w1.heap.size [] (t.data.toList ++ (ul.take 0).flatMap (textAt v)) t _ (bld_new w1) (by rw [List.take_zero]; simp) (HFL.out 0 (Nat.zero_le _)) (by rw [World.size_alloc]; omega)).mono ?_; rintro e2 w2 ⟨⟨z2, rfl⟩, hwr2⟩; have HWR2 := Lib.hid hwr2; have HB2 : Hid (Below w.heap.size w w2) := Lib.hid ((stpA HB1.out _).trans (hwr2.2.1.mono HB1.out.size)); have HSZ2 : Hid (w1.heap.size < w2.heap.size) := Lib.hid (by have := hwr2.size; rw [World.size_alloc] at this; omega); clear hwr2)
      | (go_at_call 30; (with_reducible refine (HW.out _ HB2.out).mono ?_); rintro e3 w3 ⟨hb3, A2, c2, rfl, -, -, ho3⟩; have HO3 := Lib.hid ho3; have HB3 := Lib.hid hb3; have HWR3 : Hid (Wrote w1.heap.size w1.heap.size (t.data.toList ++ (ul.take 0).flatMap (textAt v)) w3 w3) := Lib.hid ⟨HWR2.out.1.below hb3, Below.refl _ _, OK9.of_below (Below.refl _ _)⟩; have HB4 : Hid (Below w.heap.size w w3) := Lib.hid (stp HB2.out hb3); clear hb3 ho3)
      | fail)
    go_loopg [9, 26] ul.length (fun gg x9 i wr => ∃ j, j + gg = ul.length ∧ i = .int .i64 j ∧ Wrote w1.heap.size w1.heap.size (t.data.toList ++ (ul.take j).flatMap (textAt v)) w3 wr)
    case atStart => exact ⟨0, by omega, rfl, HWR3.out⟩
    case round =>
      obtain ⟨j, hjg, rfl, hwr⟩ := hrel
      have HWR := Lib.hid hwr
      have hB3s : w1.heap.size ≤ w3.heap.size := by have := HSZ2.out; have := HB3.out.size; omega
      have HBW : Hid (Below w.heap.size w wr) := Lib.hid (HB4.out.trans (hwr.2.1.mono HB1.out.size))
      by_cases hlt : j < ul.length
      · have hlt2 : (j : Int) < (ul.length : Int) := by omega
        have hrz := ints_kept HO3.out HSZ2.out hwr.2.2
        obtain ⟨b5, off5, hA2, _, hc5⟩ := hrz (by rw [zs_length]; omega)
        have u5 := hc5 j (by rw [zs_length]; exact hlt)
        obtain ⟨k, hk⟩ : ∃ k, ul[j]'hlt = k := ⟨_, rfl⟩
        have hkv : k < v.length := HUL.out k (hk ▸ List.getElem_mem hlt)
        have u6 : wr.cell? ⟨b5, off5 + j, none⟩ = some (.int .i64 k) := by
          rw [u5]
          simp [encZ, zs, hk]
        obtain ⟨b6, off6, x6, y6, t6, A6, c6, hA6, hbB6, hin6, -, -, -, -, u7, -⟩ := nd_at (HRB.out.on HBW.out) hkv
        injection hA6 with hA6
        injection hA6 with ha1 ha2 _
        subst ha1 ha2
        subst hA2
        have hL : (t.data.toList ++ (ul.take j).flatMap (textAt v)) ++ t6.data.toList = t.data.toList ++ (ul.take (j + 1)).flatMap (textAt v) := by
          rw [flat_take ul j hlt, hk, textAt_in hkv, hin6.text, List.append_assoc]
        have HL := Lib.hid hL
        have HJ : Hid (j + 1 ≤ ul.length) := Lib.hid hlt
        have bk : (0 : Int) ≤ (k : Int) ∧ (k : Int) < (n : Int) := by have := HN.out; omega
        clear hrz hc5 u5 hk hkv hin6 hL hwr hbB6 s4
        go_wp2_with (first
          | (go_at_call 35; refine (bwsL w1.heap.size w1.heap.size _ (t.data.toList ++ (ul.take (j + 1)).flatMap (textAt v)) t6 _ HWR.out.1 HL.out (HFL.out _ HJ.out) (by have := HWR.out.size; omega)).mono ?_; rintro e7 w7 ⟨⟨z7, rfl⟩, hwr7⟩; have HWR7 := Lib.hid hwr7; clear hwr7)
          | fail)
        go_roundg (gk - 1)
        case measure => omega
        case rel => exact ⟨j + 1, by omega, by go_num, HWR.out.trans HWR7.out⟩
      · obtain rfl : j = ul.length := by omega
        have hS : Bld w1.heap.size w1.heap.size s.data.toList wr := by
          rw [← HWS.out]
          have := hwr.1
          rwa [List.take_length] at this
        have HS := Lib.hid hS
        have hjj : ¬ ((ul.length : Int) < (ul.length : Int)) := by omega
        clear hwr hS s4
        go_wp2_with (first
          | (go_at_call 36; refine (bst w1.heap.size w1.heap.size s wr HS.out (by have := HWR.out.size; omega)).mono ?_; rintro e8 w8 ⟨rfl, _, hb8⟩; have HB8 := Lib.hid hb8; clear hb8)
          | fail)
        go_ret2
        exact ⟨rfl, HBW.out.trans (HB8.out.mono HB1.out.size)⟩
  · have hs2 : s = ⟨#[]⟩ := by
      have : s.data.toList = [] := by rw [← hs]; unfold wordsR; rw [if_neg (by omega)]
      rw [ba_eq5 s, this]
    subst hs2
    have hv := asked_vals v i
    have hq2 : q = 2 ∨ q = 8 := by omega
    clear hr hn hmax hsm hq hs hv
    rcases hq2 with rfl | rfl
    all_goals
      go_enter Try.func12, Try.ntmps12
      go_wp2_with (first
        | (go_at_call 29; (with_reducible refine (HC.out).mono ?_); rintro e1 w1 ⟨rfl, hb1⟩; have HB1 := Lib.hid hb1; clear hb1)
        | fail)
      go_ret2
      exact ⟨rfl, HB1.out⟩
end Hx
end Go.Proofs.Ytkmaogafknehgaa
namespace Go.Proofs.Ytkmaogafknehgaa
open Go.RowKit
namespace Hx
open Lx Tr Tx Nmb Es
set_option linter.unusedVariables false
theorem ba_ext5 {a b : ByteArray} (h : a.data.toList = b.data.toList) : a = b := by rw [ba_eq5 a, ba_eq5 b, h]
set_option maxHeartbeats 8000000 in
set_option maxRecDepth 100000 in
theorem rsaid10 (A : Option Addr) (n c : Nat) (v : List Nd) (p : Nat) (w : World) (hr : RdB NdS w A v) (hn : v.length = n) (h5 : n ≤ 512) (hsm : ∀ m ∈ v, SmallN m) (r : List Nd) (hpv : p < v.length) (hrr : restD 12 (v.drop p) = some r) (s : ByteArray) (hw : wordsV v p = s.data.toList) :
    Calls Try.prog 37 #[.slice A n c, .int .i64 p] w fun e w' => e = .returned (.string s) ∧ Below w.heap.size w w' := by
  obtain ⟨b0, off, x, y, t, A1, c1, hA, hbB, hin, q0, -, -, -, q4, -⟩ := nd_at hr hpv
  have HBB := Lib.hid hbB
  obtain ⟨ul, hul⟩ : ∃ ul, under v p = ul := ⟨_, rfl⟩
  obtain ⟨ult, ulen⟩ := under_lt hpv hrr
  have HW : Hid (∀ W, Below w.heap.size w W → Calls Try.prog 32 #[.slice A n c, .int .i64 p] W (IntsTo ul W)) := Lib.hid fun W hW => by
    rw [← hul]
    exact runder10 A n c v p r W (hr.on hW) hn (by omega) hsm (by omega) hrr
  have ht : textAt v p = t.data.toList := by rw [textAt_in hpv]; exact hin.text.symm
  have bp : (0 : Int) ≤ (p : Int) ∧ (p : Int) < (n : Int) := by omega
  have hok : ndOk (v[p]'hpv) = true := by
    have h' := hrr
    rw [List.drop_eq_getElem_cons hpv] at h'
    exact (restD_ok h').1
  rcases kind_of hpv hrr with hk | hk
  · rw [hk, show ((1 : Nat) : Int) = 1 from rfl] at q0
    have ht0 : t.data.toList = [] := by rw [← ht, textAt_in hpv]; exact (ndOk_one hok hk).2.1
    unfold wordsV at hw
    rw [hul, ht, ht0, List.nil_append] at hw
    rw [hul] at ult ulen
    have HFL : Hid (∀ j, j ≤ ul.length → ((ul.take j).flatMap (textAt v)).length ≤ 512000000) := Lib.hid fun j hj => by
      have h9 := texts_len hsm (ul.take j)
      rw [List.length_take] at h9
      have : min j ul.length * 1000000 ≤ 512 * 1000000 := Nat.mul_le_mul_right _ (by omega)
      omega
    have HUL := Lib.hid ult
    have HRB := Lib.hid hr
    have HWS := Lib.hid hw
    have HN := Lib.hid hn
    have HSM := Lib.hid hsm
    have bu : ul.length ≤ 512 := by omega
    subst hA
    clear hr hn hsm h5 hrr hin hbB hul hw ht ht0 ult ulen hk hok q4 hpv
    go_enter Try.func37, Try.ntmps37
    go_wp2_with (first
      | (go_at_call 32; (with_reducible refine (HW.out _ (Below.refl _ _)).mono ?_); rintro e3 w3 ⟨hb3, A2, c2, rfl, -, hr3, -⟩; have HR3 := Lib.hid hr3; have HB3 := Lib.hid hb3; clear hb3 hr3)
      | fail)
    go_loopg [5, 7] ul.length (fun gg x5 i wr => ∃ (j : Nat) (a : ByteArray), j + gg = ul.length ∧ i = .int .i64 j ∧ x5 = .string a ∧ a.data.toList = (ul.take j).flatMap (textAt v) ∧ Below w3.heap.size w3 wr)
    case atStart => exact ⟨0, ⟨#[]⟩, by omega, rfl, rfl, rfl, Below.refl _ _⟩
    case round =>
      obtain ⟨j, a, hjg, rfl, rfl, hal, hbw⟩ := hrel
      have HAL := Lib.hid hal
      have HBW := Lib.hid hbw
      have HBW2 : Hid (Below w.heap.size w wr) := Lib.hid (stp HB3.out hbw)
      by_cases hlt : j < ul.length
      · have hlt2 : (j : Int) < (ul.length : Int) := by omega
        obtain ⟨b5, off5, hA2, _, hc5⟩ := (HR3.out.on hbw) (by rw [zs_length]; omega)
        have u5 := hc5 j (by rw [zs_length]; exact hlt)
        obtain ⟨k, hk⟩ : ∃ k, ul[j]'hlt = k := ⟨_, rfl⟩
        have hkv : k < v.length := HUL.out k (hk ▸ List.getElem_mem hlt)
        have u6 : wr.cell? ⟨b5, off5 + j, none⟩ = some (.int .i64 k) := by
          rw [u5]
          simp [encZ, zs, hk]
        obtain ⟨b6, off6, x6, y6, t6, A6, c6, hA6, hbB6, hin6, -, -, -, -, u7, -⟩ := nd_at (HRB.out.on HBW2.out) hkv
        injection hA6 with hA6
        injection hA6 with ha1 ha2 _
        subst ha1 ha2
        subst hA2
        have HL : Hid ((a ++ t6).data.toList = (ul.take (j + 1)).flatMap (textAt v)) := Lib.hid (by
          rw [flat_take ul j hlt, hk, textAt_in hkv, ba_app, hal, hin6.text])
        have hsz1 : a.size ≤ 512000000 := by rw [← ba_len5, hal]; exact HFL.out j (by omega)
        have hsz2 : t6.size ≤ 1000000 := by rw [← ba_len5, hin6.text]; exact (HSM.out _ (List.getElem_mem hkv)).text
        have hnn : ¬ 9223372036854775807 < a.size + t6.size := by omega
        have bk : (0 : Int) ≤ (k : Int) ∧ (k : Int) < (n : Int) := by have := HN.out; omega
        clear hc5 u5 hk hkv hin6 hal hbw hbB6 q0
        go_wp2_with fail
        go_roundg (gk - 1)
        case measure => omega
        case rel => exact ⟨j + 1, a ++ t6, by omega, by go_num, rfl, HL.out, HBW.out⟩
      · obtain rfl : j = ul.length := by omega
        obtain rfl : a = s := ba_ext5 (by rw [hal, List.take_length, HWS.out])
        have hjj : ¬ ((ul.length : Int) < (ul.length : Int)) := by omega
        clear hal hbw q0
        go_wp2_with fail
        go_ret
        exact ⟨rfl, HBW2.out⟩
  · rw [hk, show ((2 : Nat) : Int) = 2 from rfl] at q0
    have hts : t = s := ba_ext5 (by
      rw [← hw]
      unfold wordsV under
      rw [List.getElem?_eq_getElem hpv]
      have hm := (ndOk_two hok hk).1
      show _ = _ ++ (places (restD 12) (v[p]'hpv).many.toNat (p + 1) (v.drop (p + 1))).flatMap (textAt v)
      rw [hm, ht]
      simp [places])
    subst hts
    subst hA
    clear hr hn hsm h5 hrr hin hbB hul hw ht ult ulen hk hok HW hpv
    go_enter Try.func37, Try.ntmps37
    go_wp2_with fail
    go_ret
    exact ⟨rfl, Below.refl _ _⟩
set_option maxHeartbeats 8000000 in
set_option maxRecDepth 100000 in
theorem rwords10 (A : Option Addr) (n c : Nat) (v : List Nd) (i : Int) (w : World) (hr : RdB NdS w A v) (hn : v.length = n) (hmax : n ≤ 9223372036854775807) (hsm : n ≤ 512 → ∀ m ∈ v, SmallN m) (q : Int) (hq : askedR v i = q) (s : ByteArray) (hs : wordsR v i = s.data.toList) :
    Calls Try.prog 13 #[.slice A n c, .int .i64 i] w fun e w' => e = .returned (.tuple #[.string s, .int .i64 q]) ∧ Below w.heap.size w w' := by
  have HC := Lib.hid (rasked10 A n c v i w hr hn hmax hsm q hq)
  by_cases h0 : q = 0
  · subst h0
    obtain ⟨hm, h1, h2⟩ := asked_zero hq
    have h5 := (mayV_iff.1 hm).1
    obtain ⟨p, rfl⟩ := int_nat h1
    have hpv : p < v.length := by omega
    obtain ⟨r, hrr⟩ := mayV_at hm (i := p) hpv
    have hw : wordsV v p = s.data.toList := by rw [← hs]; unfold wordsR; rw [if_pos hq, Int.toNat_natCast]
    have HW : Hid (∀ W, Below w.heap.size w W → Calls Try.prog 37 #[.slice A n c, .int .i64 p] W fun e w' => e = .returned (.string s) ∧ Below W.heap.size W w') := Lib.hid fun W hW => rsaid10 A n c v p W (hr.on hW) hn (by omega) (hsm (by omega)) r hpv hrr s hw
    clear hr hn hmax hsm hq hs hm h1 h2 h5 hrr hw hpv
    go_enter Try.func13, Try.ntmps13
    go_wp2_with (first
      | (go_at_call 31; (with_reducible refine (HC.out).mono ?_); rintro e1 w1 ⟨rfl, hb1⟩; have HB1 := Lib.hid hb1; clear hb1)
      | (go_at_call 37; (with_reducible refine (HW.out _ HB1.out).mono ?_); rintro e2 w2 ⟨rfl, hb2⟩; have HB2 := Lib.hid hb2; clear hb2)
      | fail)
    go_ret2
    exact ⟨rfl, stp HB1.out HB2.out⟩
  · have hs2 : s = ⟨#[]⟩ := by
      have : s.data.toList = [] := by rw [← hs]; unfold wordsR; rw [if_neg (by omega)]
      rw [ba_eq5 s, this]
    subst hs2
    have hv := asked_vals v i
    have hq2 : q = 2 ∨ q = 8 := by omega
    clear hr hn hmax hsm hq hs hv
    rcases hq2 with rfl | rfl
    all_goals
      go_enter Try.func13, Try.ntmps13
      go_wp2_with (first
        | (go_at_call 31; (with_reducible refine (HC.out).mono ?_); rintro e1 w1 ⟨rfl, hb1⟩; have HB1 := Lib.hid hb1; clear hb1)
        | fail)
      go_ret2
      exact ⟨rfl, HB1.out⟩
end Hx
end Go.Proofs.Ytkmaogafknehgaa
namespace Go.Proofs.Ytkmaogafknehgaa
open Go.RowKit
namespace Hx
open Lx Tr Tx Nmb Es
set_option linter.unusedVariables false
theorem rawV_no {v : List Nd} {k : Nat} (hk : k < v.length) (h : rawN (v[k]'hk) = false) : rawV v = false := by
  unfold rawV
  rw [List.all_eq_false]
  exact ⟨_, List.getElem_mem hk, by rw [h]; decide⟩
theorem rawN_no {n : Nd} {j : Nat} (hj : j < n.attrs.length) (h : (n.attrs[j]'hj).space ≠ []) : rawN n = false := by
  unfold rawN
  rw [Bool.and_eq_false_iff]
  right
  rw [List.all_eq_false]
  exact ⟨_, List.getElem_mem hj, by simpa using h⟩
theorem rawN_sp {n : Nd} (h : n.space ≠ []) : rawN n = false := by
  unfold rawN
  rw [Bool.and_eq_false_iff]
  left
  simpa using h
theorem all_next {α : Type} {f : α → Bool} {l : List α} {k : Nat} (hk : k < l.length) (h : (l.take k).all f = true) (h2 : f (l[k]'hk) = true) : (l.take (k + 1)).all f = true := by
  rw [List.take_succ_eq_append_getElem hk, List.all_append, h, List.all_cons, h2]
  rfl
theorem ba_nil {x : ByteArray} (h : x.data.toList = []) : x = ⟨#[]⟩ := by rw [ba_eq5 x, h]
theorem ba_ne {x : ByteArray} (h : x.data.toList ≠ []) : (x.toList == []) = false ∧ ¬ x.toList = [] := by
  have : ¬ x.toList = [] := by rw [ByteArray.toList_eq]; exact h
  exact ⟨by simpa using this, this⟩
set_option maxHeartbeats 16000000 in
set_option maxRecDepth 100000 in
theorem raw10 (A : Option Addr) (n c : Nat) (v : List Nd) (w : World) (hr : RdB NdS w A v) (hn : v.length = n) (hm : n ≤ 1000000) (hsm : ∀ x ∈ v, SmallN x) (q : Bool) (h : rawV v = q) :
    Calls Try.prog 22 #[.slice A n c] w fun e w' => e = .returned (.bool q) ∧ Below w.heap.size w w' := by
  have HR := Lib.hid hr
  have HN := Lib.hid hn
  have HM := Lib.hid hm
  have HH := Lib.hid h
  have HSM := Lib.hid hsm
  clear hr hn h hsm
  go_enter Try.func22, Try.ntmps22
  go_wp2_with fail
  go_loopg [9] n (fun gg i wr => ∃ k : Nat, k + gg = n ∧ i = .int .i64 k ∧ (v.take k).all rawN = true ∧ Below w.heap.size w wr)
  case atStart => exact ⟨0, by omega, rfl, rfl, Below.refl _ _⟩
  case round =>
    obtain ⟨k, hkg, rfl, hall, hbw⟩ := hrel
    obtain ⟨wo, rfl⟩ : ∃ wo : World, wo = wr := ⟨_, rfl⟩
    obtain ⟨g0, rfl⟩ : ∃ g0 : Nat, g0 = gk := ⟨_, rfl⟩
    have hm := HM.out
    have HALL := Lib.hid hall
    have HBW := Lib.hid hbw
    have HG := Lib.hid hkg
    by_cases hlt : k < n
    · have hk1 : k < v.length := by rw [HN.out]; exact hlt
      obtain ⟨b0, off, x, y, t, A1, c1, rfl, hbB, hin, c0, c1', c2, c3, c4, c5⟩ := nd_at (HR.out.on hbw) hk1
      have hs1 := (HSM.out _ (List.getElem_mem hk1)).attrs
      obtain ⟨nd, hnd⟩ : ∃ nd, v[k]'hk1 = nd := ⟨_, rfl⟩
      have HK1 := Lib.hid hk1
      have HNO : Hid (rawN nd = false → false = q) := Lib.hid fun hf => by rw [← HH.out]; exact (rawV_no HK1.out (by rw [hnd]; exact hf)).symm
      have HYS : Hid (rawN nd = true → (v.take (k + 1)).all rawN = true) := Lib.hid fun hf => all_next HK1.out HALL.out (by rw [hnd]; exact hf)
      rw [hnd] at hin c0 c3 c5 hs1
      have bk : (0 : Int) ≤ (k : Int) ∧ (k : Int) < (n : Int) := by omega
      have hsp := hin.space
      have HAR := Lib.hid hin.attrs
      have HIN := Lib.hid hin
      obtain ⟨n1, hn1⟩ : ∃ n1, nd.attrs.length = n1 := ⟨_, rfl⟩
      have HN1 := Lib.hid hn1
      rw [hn1] at c3 hs1
      obtain ⟨m1, hm1⟩ : ∃ m1, nd.many = m1 := ⟨_, rfl⟩
      rw [hm1] at c5
      obtain ⟨kd, hkd⟩ : ∃ kd, nd.kind = kd := ⟨_, rfl⟩
      rw [hkd] at c0
      by_cases hx : nd.space = []
      · obtain rfl := ba_nil (hsp.trans hx)
        have HX := Lib.hid hx
        have HLT := Lib.hid hlt
        have HBB := Lib.hid hbB
        clear hall hbw hnd hin hsp hx hn1 hm1 hkd hkg hbB
        go_wp2_with fail
        go_loopg [19] n1 (fun gg i wi => ∃ j : Nat, j + gg = n1 ∧ i = .int .i64 j ∧ (nd.attrs.take j).all (fun a => a.space.isEmpty) = true ∧ Below wo.heap.size wo wi)
        case atStart => exact ⟨0, by omega, rfl, rfl, by first | exact Below.refl _ _ | exact stpA (Below.refl _ _) _⟩
        case round =>
          obtain ⟨j, hjg, rfl, hal2, hb2⟩ := hrel
          have HAL2 := Lib.hid hal2
          have HB2 := Lib.hid hb2
          have HJG := Lib.hid hjg
          clear c0
          by_cases hlj : j < n1
          · have hj1 : j < nd.attrs.length := by rw [HN1.out]; exact hlj
            obtain ⟨b1, of1, x1, y1, z1, rfl, hbB1, hx1, -, -, d0, d1, d2⟩ := at_at (RdB.on (w := wo) HAR.out hb2) hj1
            have bj : (0 : Int) ≤ (j : Int) ∧ (j : Int) < (n1 : Int) := by omega
            by_cases hsx : x1.data.toList = []
            · have HT : Hid ((nd.attrs.take (j + 1)).all (fun a => a.space.isEmpty) = true) := Lib.hid (all_next hj1 hal2 (by rw [← hx1, hsx]; rfl))
              obtain rfl := ba_nil hsx
              clear hal2 hb2 hjg hx1 hsx hbB1
              go_wp2_with fail
              go_roundg (gk - 1)
              case rel => exact ⟨j + 1, by have := HJG.out; omega, by go_num, HT.out, by first | exact HB2.out | exact stpA HB2.out _⟩
              case measure => have := HJG.out; omega
            · obtain rfl : false = q := HNO.out (rawN_no hj1 (by rw [← hx1]; exact hsx))
              obtain ⟨e1, e2⟩ := ba_ne hsx
              clear hal2 hb2 hjg hx1 hsx hbB1
              go_wp2_with fail
              go_ret
              exact ⟨rfl, by first | exact HBW.out.trans (HB2.out.mono HBW.out.size) | exact HBW.out.trans ((stpA HB2.out _).mono HBW.out.size)⟩
          · obtain rfl : j = n1 := by have := HJG.out; omega
            have HT := Lib.hid (HYS.out (by
              unfold rawN
              rw [HX.out]
              rw [← HN1.out, List.take_length] at hal2
              rw [hal2]
              rfl))
            have HE := Lib.hid (HBW.out.trans (hb2.mono HBW.out.size))
            have hjj : ¬ ((j : Int) < (j : Int)) := by omega
            clear hal2 hb2 hjg
            go_wp2_with fail
            go_roundg (g0 - 1)
            case rel => exact ⟨k + 1, by have := HG.out; have := HLT.out; omega, by go_num, HT.out, HE.out⟩
            case measure => have := HG.out; have := HLT.out; omega
      · obtain rfl : false = q := HNO.out (rawN_sp hx)
        obtain ⟨e1, e2⟩ := ba_ne (x := x) (by rw [hsp]; exact hx)
        clear hall hbw hnd hin hsp hx hn1 hm1 hkd hkg hbB
        go_wp2_with fail
        go_ret
        exact ⟨rfl, by first | exact HBW.out | exact stpA HBW.out _⟩
    · obtain rfl : k = n := by omega
      have hjj : ¬ ((k : Int) < (k : Int)) := by omega
      obtain rfl : true = q := by
        rw [← HH.out]
        rw [List.take_of_length_le (by rw [HN.out]; exact Nat.le_refl _)] at hall
        exact hall.symm
      clear hall hbw hkg
      go_wp2_with fail
      go_ret
      exact ⟨rfl, HBW.out⟩
set_option maxHeartbeats 16000000 in
set_option maxRecDepth 100000 in
theorem rspaced10 (A : Option Addr) (n c : Nat) (v : List Nd) (w : World) (hr : RdB NdS w A v) (hn : v.length = n) (hm : n ≤ 1000000) (hsm : ∀ x ∈ v, SmallN x) (q : Bool) (h : rawV v = q) :
    Calls Try.prog 27 #[.slice A n c] w fun e w' => e = .returned (.bool (!q)) ∧ Below w.heap.size w w' := by
  have HR := Lib.hid hr
  have HN := Lib.hid hn
  have HM := Lib.hid hm
  have HH := Lib.hid h
  have HSM := Lib.hid hsm
  clear hr hn h hsm
  go_enter Try.func27, Try.ntmps27
  go_wp2_with fail
  go_loopg [3] n (fun gg i wr => ∃ k : Nat, k + gg = n ∧ i = .int .i64 k ∧ (v.take k).all rawN = true ∧ Below w.heap.size w wr)
  case atStart => exact ⟨0, by omega, rfl, rfl, Below.refl _ _⟩
  case round =>
    obtain ⟨k, hkg, rfl, hall, hbw⟩ := hrel
    obtain ⟨wo, rfl⟩ : ∃ wo : World, wo = wr := ⟨_, rfl⟩
    obtain ⟨g0, rfl⟩ : ∃ g0 : Nat, g0 = gk := ⟨_, rfl⟩
    have hm := HM.out
    have HALL := Lib.hid hall
    have HBW := Lib.hid hbw
    have HG := Lib.hid hkg
    by_cases hlt : k < n
    · have hk1 : k < v.length := by rw [HN.out]; exact hlt
      obtain ⟨b0, off, x, y, t, A1, c1, rfl, hbB, hin, c0, c1', c2, c3, c4, c5⟩ := nd_at (HR.out.on hbw) hk1
      have hs1 := (HSM.out _ (List.getElem_mem hk1)).attrs
      obtain ⟨nd, hnd⟩ : ∃ nd, v[k]'hk1 = nd := ⟨_, rfl⟩
      have HK1 := Lib.hid hk1
      have HNO : Hid (rawN nd = false → false = q) := Lib.hid fun hf => by rw [← HH.out]; exact (rawV_no HK1.out (by rw [hnd]; exact hf)).symm
      have HYS : Hid (rawN nd = true → (v.take (k + 1)).all rawN = true) := Lib.hid fun hf => all_next HK1.out HALL.out (by rw [hnd]; exact hf)
      rw [hnd] at hin c0 c3 c5 hs1
      have bk : (0 : Int) ≤ (k : Int) ∧ (k : Int) < (n : Int) := by omega
      have hsp := hin.space
      have HAR := Lib.hid hin.attrs
      have HIN := Lib.hid hin
      obtain ⟨n1, hn1⟩ : ∃ n1, nd.attrs.length = n1 := ⟨_, rfl⟩
      have HN1 := Lib.hid hn1
      rw [hn1] at c3 hs1
      obtain ⟨m1, hm1⟩ : ∃ m1, nd.many = m1 := ⟨_, rfl⟩
      rw [hm1] at c5
      obtain ⟨kd, hkd⟩ : ∃ kd, nd.kind = kd := ⟨_, rfl⟩
      rw [hkd] at c0
      by_cases hx : nd.space = []
      · obtain rfl := ba_nil (hsp.trans hx)
        have HX := Lib.hid hx
        have HLT := Lib.hid hlt
        have HBB := Lib.hid hbB
        clear hall hbw hnd hin hsp hx hn1 hm1 hkd hkg hbB
        go_wp2_with fail
        go_loopg [4] n1 (fun gg i wi => ∃ j : Nat, j + gg = n1 ∧ i = .int .i64 j ∧ (nd.attrs.take j).all (fun a => a.space.isEmpty) = true ∧ Below wo.heap.size wo wi)
        case atStart => exact ⟨0, by omega, rfl, rfl, by first | exact Below.refl _ _ | exact stpA (Below.refl _ _) _⟩
        case round =>
          obtain ⟨j, hjg, rfl, hal2, hb2⟩ := hrel
          have HAL2 := Lib.hid hal2
          have HB2 := Lib.hid hb2
          have HJG := Lib.hid hjg
          have r3 := (hb2.cell (p := ⟨b0, _, none⟩) HBB.out).trans c3; clear c0
          by_cases hlj : j < n1
          · have hj1 : j < nd.attrs.length := by rw [HN1.out]; exact hlj
            obtain ⟨b1, of1, x1, y1, z1, rfl, hbB1, hx1, -, -, d0, d1, d2⟩ := at_at (RdB.on (w := wo) HAR.out hb2) hj1
            have bj : (0 : Int) ≤ (j : Int) ∧ (j : Int) < (n1 : Int) := by omega
            by_cases hsx : x1.data.toList = []
            · have HT : Hid ((nd.attrs.take (j + 1)).all (fun a => a.space.isEmpty) = true) := Lib.hid (all_next hj1 hal2 (by rw [← hx1, hsx]; rfl))
              obtain rfl := ba_nil hsx
              clear hal2 hb2 hjg hx1 hsx hbB1
              go_wp2_with fail
              go_roundg (gk - 1)
              case rel => exact ⟨j + 1, by have := HJG.out; omega, by go_num, HT.out, by first | exact HB2.out | exact stpA HB2.out _⟩
              case measure => have := HJG.out; omega
            · obtain rfl : false = q := HNO.out (rawN_no hj1 (by rw [← hx1]; exact hsx))
              obtain ⟨e1, e2⟩ := ba_ne hsx
              clear hal2 hb2 hjg hx1 hsx hbB1
              go_wp2_with fail
              go_ret
              exact ⟨rfl, by first | exact HBW.out.trans (HB2.out.mono HBW.out.size) | exact HBW.out.trans ((stpA HB2.out _).mono HBW.out.size)⟩
          · obtain rfl : j = n1 := by have := HJG.out; omega
            have HT := Lib.hid (HYS.out (by
              unfold rawN
              rw [HX.out]
              rw [← HN1.out, List.take_length] at hal2
              rw [hal2]
              rfl))
            have HE := Lib.hid (HBW.out.trans (hb2.mono HBW.out.size))
            have hjj : ¬ ((j : Int) < (j : Int)) := by omega
            clear hal2 hb2 hjg
            go_wp2_with fail
            go_roundg (g0 - 1)
            case rel => exact ⟨k + 1, by have := HG.out; have := HLT.out; omega, by go_num, HT.out, HE.out⟩
            case measure => have := HG.out; have := HLT.out; omega
      · obtain rfl : false = q := HNO.out (rawN_sp hx)
        obtain ⟨e1, e2⟩ := ba_ne (x := x) (by rw [hsp]; exact hx)
        clear hall hbw hnd hin hsp hx hn1 hm1 hkd hkg hbB
        go_wp2_with fail
        go_ret
        exact ⟨rfl, by first | exact HBW.out | exact stpA HBW.out _⟩
    · obtain rfl : k = n := by omega
      have hjj : ¬ ((k : Int) < (k : Int)) := by omega
      obtain rfl : true = q := by
        rw [← HH.out]
        rw [List.take_of_length_le (by rw [HN.out]; exact Nat.le_refl _)] at hall
        exact hall.symm
      clear hall hbw hkg
      go_wp2_with fail
      go_ret
      exact ⟨rfl, HBW.out⟩
end Hx
end Go.Proofs.Ytkmaogafknehgaa
namespace Go.Proofs.Ytkmaogafknehgaa
open Go.RowKit
namespace Hx
open Lx Tr Tx Nmb Es
set_option linter.unusedVariables false
/-- An attribute's cells, as a token's. -/
def pbA (a : At) : PB := (⟨a.name.toArray⟩, ⟨a.value.toArray⟩)
theorem pbA_val (l : List At) : (l.map pbA).map prVal = pairsN l := by
  unfold pairsN
  rw [List.map_map]
  rfl
theorem pbA_next {l : List At} {j : Nat} (hj : j < l.length) {y z : ByteArray} (hy : y.data.toList = (l[j]'hj).name) (hz : z.data.toList = (l[j]'hj).value) :
    ((l.take (j + 1)).map pbA).flatMap prCells = ((l.take j).map pbA).flatMap prCells ++ [.string y, .string z] := by
  rw [List.take_succ_eq_append_getElem hj, List.map_append, List.flatMap_append]
  unfold pbA prCells
  rw [List.map_cons, List.map_nil, List.flatMap_cons, List.flatMap_nil, List.append_nil]
  rw [← hy, ← hz, ← ba_eq5, ← ba_eq5]
/-- What pairs answers. -/
def PairsTo (l : List At) (w : World) (e : Ending) (w' : World) : Prop := Below w.heap.size w w' ∧ ∃ A c, e = .returned (.slice A l.length c) ∧ w'.ownsRow w.heap.size 84 2 (.slice A l.length c) l.length ((l.map pbA).flatMap prCells)
set_option maxHeartbeats 16000000 in
set_option maxRecDepth 100000 in
theorem rpairs10 (A : Option Addr) (n cp : Nat) (l : List At) (w : World) (hr : RdB AtS w A l) (hn : l.length = n) (hm : n ≤ 1000000) :
    Calls Try.prog 48 #[.slice A n cp] w (PairsTo l w) := by
  obtain ⟨j0, hj, hy0, hy1, hy2⟩ := info_parts infoPr
  have HJ := Lib.hid hj
  have HY0 := Lib.hid hy0
  have HY1 := Lib.hid hy1
  have HY2 := Lib.hid hy2
  have HR := Lib.hid hr
  have HN := Lib.hid hn
  have HM := Lib.hid hm
  clear hr hn hj hy0 hy1 hy2
  go_enter Try.func48, Try.ntmps48
  go_wp2_with fail
  go_loopg [3, 4] n (fun gg x3 i wr => ∃ k : Nat, k + gg = n ∧ i = .int .i64 k ∧ wr.ownsRow w.heap.size 84 2 x3 k (((l.take k).map pbA).flatMap prCells) ∧ Below w.heap.size w wr)
  case atStart => exact ⟨0, by omega, rfl, World.ownsRow_nil _ _ _ _, Below.refl _ _⟩
  case round =>
    obtain ⟨k, hkg, rfl, hown, hbw⟩ := hrel
    obtain ⟨Aa, ca, rfl⟩ := own_form2 hown
    have HO := Lib.hid hown
    have HBW := Lib.hid hbw
    have hsz := hbw.size
    by_cases hlt : k < n
    · have hk1 : k < l.length := by rw [HN.out]; exact hlt
      obtain ⟨b0, off, x, y, z, rfl, hbB, hx, hy, hz, c0, c1, c2⟩ := at_at HR.out hk1
      have HBB := Lib.hid hbB
      have C1 := Lib.hid c1
      have C2 := Lib.hid c2
      have d1 := (hbw.cell (p := ⟨b0, _, none⟩) hbB).trans c1
      have d2 := (hbw.cell (p := ⟨b0, _, none⟩) hbB).trans c2
      have HK : Hid (∀ W, Below w.heap.size w W → W.cell? ⟨b0, off + k * 3 + 1, none⟩ = some (.string y) ∧ W.cell? ⟨b0, off + k * 3 + 2, none⟩ = some (.string z)) := Lib.hid fun W hW => ⟨(hW.cell (p := ⟨b0, _, none⟩) HBB.out).trans C1.out, (hW.cell (p := ⟨b0, _, none⟩) HBB.out).trans C2.out⟩
      have HNX := Lib.hid (pbA_next hk1 hy hz)
      have bk : (0 : Int) ≤ (k : Int) ∧ (k : Int) < (n : Int) := by omega
      have HK5 : Hid (k + 1 ≤ 1000000) := Lib.hid (by have := HM.out; omega)
      clear hown hbw hx hy hz c0 c1 c2
      go_wp2_with fail
      clear d1 d2
      go_region_held3 (fun W => W.cell? ⟨b0, off + k * 3 + 1, none⟩ = some (.string y) ∧ W.cell? ⟨b0, off + k * 3 + 2, none⟩ = some (.string z))
        (first | exact HK.out _ HBW.out.drew | exact HK.out _ (HBW.out.alloc hsz _).drew | exact HK.out _ (HBW.out.drew.alloc hsz _) | exact HK.out _ ((HBW.out.alloc hsz _).drew.grown hgr4 (by simp; omega) (fun g hg => (HO.out.lt g hg).1)) | exact HK.out _ ((HBW.out.drew.alloc hsz _).grown hgr4 (by simp; omega) (fun g hg => (HO.out.lt g hg).1)))
        ((first
          | (refine step_append_lies _ (by rfl) (.tmp 11) (.tmp 23) 58 (by rfl) w.heap.size 84 j0 (.agg #[.string ⟨#[]⟩, .string ⟨#[]⟩]) 2 32 Try.underlying58 HJ.out HY0.out HY1.out HY2.out rfl (by decide) _ k _ (by rfl) (own_belowK HO.out (stpA (Below.refl _ _) _).drew (Nat.le_refl _)) ⟨wr.heap.size, 0, none⟩ 1 1 [.string y, .string z] (by rfl) (by rfl) (fun j u h => new_at wr [.string y, .string z] 84 _ rfl j u h) (by simp [Value.oneCell']) (by decide) (by have := HK5.out; unfold maxLen; omega) (by have := HK5.out; omega) (by simp; omega) (wr.heap.size + 1) (by simp) ?_; intro gg cap w4 hown4 hgr4 hat4 hlt4)))
      have hb4 : Below w.heap.size w w4 := (HBW.out.alloc hsz _).drew.grown hgr4 (by simp; omega) (fun g hg => (HO.out.lt g hg).1)
      have HB4 := Lib.hid hb4
      rw [← HNX.out] at hown4
      have HO4 := Lib.hid hown4
      clear hb4 hown4 hgr4 hat4 hlt4
      go_wp2_with fail
      go_roundg (gk - 1)
      case measure => omega
      case rel => exact ⟨k + 1, by omega, by go_num, HO4.out, HB4.out⟩
    · obtain rfl : k = n := by omega
      have hjj : ¬ ((k : Int) < (k : Int)) := by omega
      have HF : Hid (PairsTo l w (.returned (.slice Aa k ca)) wr) := Lib.hid ⟨hbw, Aa, ca, by rw [HN.out], by
        rw [List.take_of_length_le (by rw [HN.out]; exact Nat.le_refl _)] at hown
        rw [HN.out]
        exact hown⟩
      clear hown hbw
      go_wp2_with fail
      go_ret
      exact HF.out
end Hx
end Go.Proofs.Ytkmaogafknehgaa
namespace Go.Proofs.Ytkmaogafknehgaa
open Go.RowKit
namespace Hx
open Lx Tr Tx Nmb Es
set_option linter.unusedVariables false
theorem set_same10 (w : World) (g k : Nat) (cs : Array Value) (T : TypeId) (x : Value) (h : w.heap[g]? = some (.cells cs T (0, 0))) : (w.setCell ⟨g, k, none⟩ x).heap[g]? = some (.cells (cs.setIfInBounds k x) T (0, 0)) := by
  simp [World.setCell, Array.getElem?_modify, h]
/-- What the loop over a node's attributes holds. -/
structure TagS (w : World) (g4 g5 : Nat) (z : Int) (t : ByteArray) (l : List At) (k : Nat) (v : Value) (wr : World) : Prop where
  bel : Below w.heap.size w wr
  c4 : wr.heap[g4]? = some (.cells zTk 60 (0, 0))
  c5 : wr.heap[g5]? = some (.cells #[.int .u8 z, .string t, v, .string ⟨#[]⟩] 60 (0, 0))
  own : wr.ownsRow (g5 + 1) 84 2 v k (((l.take k).map pbA).flatMap prCells)
section
variable {w : World} {g4 g5 : Nat} {z : Int} {t : ByteArray} {l : List At} {k : Nat} {v : Value} {wr : World}
theorem TagS.below (h : TagS w g4 g5 z t l k v wr) {wr' : World} (b : Below wr.heap.size wr wr') : TagS w g4 g5 z t l k v wr' :=
  ⟨stp h.bel b, kept_heap h.c4 b, kept_heap h.c5 b, own_belowK h.own b (Nat.le_refl _)⟩
theorem TagS.cell (h : TagS w g4 g5 z t l k v wr) (j : Nat) : wr.cell? ⟨g5, j, none⟩ = (#[.int .u8 z, .string t, v, .string ⟨#[]⟩] : Array Value)[j]? := cellV wr g5 j _ _ _ h.c5
theorem TagS.push {A : Option Addr} {c a4 e4 : Nat} {nm vl : ByteArray} {w5 w6 : World} {ob : Obj} (h : TagS w g4 g5 z t l k (.slice A k c) w5) (h4 : g4 < g5) (hw : w.heap.size ≤ g4) (hk : k < l.length) (hy : nm.data.toList = (l[k]'hk).name) (hz : vl.data.toList = (l[k]'hk).value)
    (hown : w6.ownsRow (g5 + 1) 84 2 (.slice (some ⟨a4, 0, none⟩) (k + 1) e4) (k + 1) (((l.take k).map pbA).flatMap prCells ++ [.string nm, .string vl])) (hgr : (w5.alloc ob).grownBy w6 (Value.slice A k c).ownBlock) :
    TagS w g4 g5 z t l (k + 1) (.slice (some ⟨a4, 0, none⟩) (k + 1) e4) (w6.setCell ⟨g5, 2, none⟩ (.slice (some ⟨a4, 0, none⟩) (k + 1) e4)) := by
  have hne : ∀ q, q ≤ g5 → some q ≠ (Value.slice A k c).ownBlock := fun q hq e => by have := (h.own.lt q e.symm).1; omega
  have stay : ∀ q o, q ≤ g5 → w5.heap[q]? = some o → w6.heap[q]? = some o := fun q o hq ho => by
    have h1 := kept_heap ho (stpA (Below.refl w5.heap.size w5) ob)
    exact (hgr.block q (Array.getElem?_eq_some_iff.1 h1).1 (hne q hq)).trans h1
  have ho2 := set_same10 w6 g5 2 _ _ (.slice (some ⟨a4, 0, none⟩) (k + 1) e4) (stay g5 _ (Nat.le_refl _) h.c5)
  have hsz := h.bel.size
  refine ⟨((h.bel.alloc hsz ob).grown hgr (by simp; omega) (fun q hq => by have := (h.own.lt q hq).1; omega)).setCell (p := ⟨g5, 2, none⟩) (by show _ ≤ g5; omega) _, (set_other w6 g5 2 g4 _ (by omega)).trans (stay g4 _ (by omega) h.c4), by simpa using ho2, ?_⟩
  have := own_setCell hown g5 2 (by omega) (.slice (some ⟨a4, 0, none⟩) (k + 1) e4)
  rw [pbA_next hk hy hz]
  exact this
end
/-- What tag answers. -/
def TgTo10 (z : Int) (t : ByteArray) (l : List At) (w : World) (e : Ending) (w' : World) : Prop := Below w.heap.size w w' ∧ ∃ A c, e = .returned (.agg #[.int .u8 z, .string t, .slice A l.length c, .string ⟨#[]⟩]) ∧ w'.ownsRow w.heap.size 84 2 (.slice A l.length c) l.length ((l.map pbA).flatMap prCells)
theorem TagS.start (w : World) (cs : Array Value) (T : TypeId) (z : Int) (t : ByteArray) (l : List At) (w1 : World) (h : Below ((w.alloc (.cells cs T)).alloc (.cells zTk 60)).heap.size ((w.alloc (.cells cs T)).alloc (.cells zTk 60)) w1) :
    TagS w (w.heap.size + 1) w1.heap.size z t l 0 (.slice none 0 0) (w1.alloc (.cells #[.int .u8 z, .string t, .slice none 0 0, .string ⟨#[]⟩] 60)) := by
  have h0 := heap_alloc_new (w.alloc (.cells cs T)) (.cells zTk 60)
  rw [World.size_alloc] at h0
  exact ⟨stpA (stp (stpA (stpA (Below.refl _ _) _) _) h) _, kept_heap (kept_heap h0 h) (stpA (Below.refl _ _) _), heap_alloc_new _ _, World.ownsRow_nil _ _ _ _⟩
theorem own_low {w : World} {base base' size n : Nat} {e : TypeId} {v : Value} {xs : List Value} (h : w.ownsRow base e size v n xs) (hb : base' ≤ base) : w.ownsRow base' e size v n xs := by
  refine ⟨h.1, ?_⟩
  rcases h.2 with h0 | ⟨g, cap, cur, hv, hg, rest⟩
  · exact .inl h0
  · exact .inr ⟨g, cap, cur, hv, Nat.le_trans hb hg, rest⟩
theorem TagS.fin {w wr : World} {g5 k c : Nat} {z : Int} {t : ByteArray} {l : List At} {A : Option Addr} (h : TagS w (w.heap.size + 1) g5 z t l k (.slice A k c) wr) (hp : l.length = k) (hg : w.heap.size + 1 < g5) (cs : Array Value) :
    TgTo10 z t l w (.returned (.agg #[.int .u8 z, .string t, .slice A k c, .string ⟨#[]⟩])) (wr.setRow (w.heap.size + 1) cs) := by
  have h1 := own_low (own_setRow h.own (w.heap.size + 1) (by omega) cs) (base' := w.heap.size) (by omega)
  rw [List.take_of_length_le (by omega)] at h1
  exact ⟨below_setRowV h.bel (by omega) cs, A, c, by rw [hp], by rw [hp]; exact h1⟩
set_option maxHeartbeats 16000000 in
set_option maxRecDepth 100000 in
theorem tag10 (z : Int) (n : Nd) (x y t : ByteArray) (A : Option Addr) (c : Nat) (w : World) (h : NdAt n x y t A c w) (hs : SmallN n) :
    Calls Try.prog 25 #[.int .u8 z, NdV n x y t A c] w (TgTo10 z y n.attrs w) := by
  obtain ⟨i0, hi, hz0, hz1, hz2⟩ := info_parts infoPr
  have HI := Lib.hid hi
  have HZ0 := Lib.hid hz0
  have HZ1 := Lib.hid hz1
  have HZ2 := Lib.hid hz2
  unfold NdV
  have HR := Lib.hid h.rd
  have hys : y.size ≤ 1000000 := by rw [← ba_len5, h.name]; exact hs.name
  have HYS := Lib.hid hys
  have hal := hs.attrs
  have HEA := Lib.hid hs.each
  obtain ⟨l, hl⟩ : ∃ l, n.attrs = l := ⟨_, rfl⟩
  rw [hl] at HR hal HEA
  rw [hl]
  obtain ⟨p, hp⟩ : ∃ p, l.length = p := ⟨_, rfl⟩
  have HP := Lib.hid hp
  rw [hp] at hal
  rw [hp]
  obtain ⟨kd, hkd⟩ : ∃ kd, n.kind = kd := ⟨_, rfl⟩
  obtain ⟨mm, hmm⟩ : ∃ mm, n.many = mm := ⟨_, rfl⟩
  rw [hkd, hmm]
  clear h hs hl hp hkd hmm hi hz0 hz1 hz2 hys
  have HB3 : Hid (∀ w1, Below ((w.alloc (.cells #[.int .u8 (kd : Int), .string x, .string y, .slice A p c, .string t, .int .i64 mm] 53)).alloc (.cells zTk 60)).heap.size ((w.alloc (.cells #[.int .u8 (kd : Int), .string x, .string y, .slice A p c, .string t, .int .i64 mm] 53)).alloc (.cells zTk 60)) w1 → w1.heap[w.heap.size]? = some (.cells #[.int .u8 (kd : Int), .string x, .string y, .slice A p c, .string t, .int .i64 mm] 53 (0, 0)) ∧ w.heap.size + 1 < w1.heap.size ∧ TagS w (w.heap.size + 1) w1.heap.size z y l 0 (.slice none 0 0) (w1.alloc (.cells #[.int .u8 z, .string y, .slice none 0 0, .string ⟨#[]⟩] 60))) := Lib.hid fun w1 hb =>
    ⟨kept_heap (kept_heap (heap_alloc_new w _) (stpA (Below.refl _ _) _)) hb, by have := hb.size; simp at this; omega, TagS.start w _ _ z y l w1 hb⟩
  go_enter Try.func25, Try.ntmps25
  go_wp2_with (first
    | (go_at_call 24; (with_reducible refine (clone9 y _ HYS.out).mono ?_); rintro e1 w1 ⟨rfl, hb1⟩; have HG : Hid (w.heap.size + 1 < w1.heap.size) := Lib.hid (HB3.out w1 hb1).2.1; have HST := Lib.hid (HB3.out w1 hb1).2.2; have k3 : (w1.alloc (.cells #[.int .u8 z, .string y, .slice none 0 0, .string ⟨#[]⟩] 60)).cell? ⟨w.heap.size, 3, none⟩ = some (.slice A p c) := cellV _ _ 3 _ _ _ (kept_heap (HB3.out w1 hb1).1 (stpA (Below.refl _ _) _)); clear hb1)
    | (refine wpList_store_row rfl _ _ _ rfl w1.heap.size #[.int .u8 z, .string y, .slice none 0 0, .string ⟨#[]⟩] rfl rfl 60 zTk (heap_alloc_new _ _) sizeTk rfl (oneTk _ _ _ _) ?_; rw [World.setRow_alloc_new])
    | fail)
  go_loopg [16] p (fun gg i wr => ∃ (k : Nat) (v : Value), k + gg = p ∧ i = .int .i64 k ∧ TagS w (w.heap.size + 1) w1.heap.size z y l k v wr)
  case atStart => exact ⟨0, _, by omega, rfl, HST.out⟩
  case round =>
    obtain ⟨k, v, hkg, rfl, hst⟩ := hrel
    obtain ⟨Aa, ca, rfl⟩ := own_form2 hst.own
    have HS := Lib.hid hst
    by_cases hlt : k < p
    · have hk1 : k < l.length := by rw [HP.out]; exact hlt
      obtain ⟨b0, off, x1, y1, z1, rfl, hbB, hx, hy, hz, c0, c1, c2⟩ := at_at (HR.out.on hst.bel) hk1
      have hea := HEA.out _ (List.getElem_mem hk1)
      rw [← hy, ← hz, ba_l, ba_l] at hea
      have HY1 := Lib.hid hea.2.1
      have HZ1' := Lib.hid hea.2.2
      have HYE := Lib.hid hy
      have HZE := Lib.hid hz
      have HK1 := Lib.hid hk1
      have HKP : Hid (k + 1 ≤ 1000000) := Lib.hid (by omega)
      have bk : (0 : Int) ≤ (k : Int) ∧ (k : Int) < (p : Int) := by omega
      obtain ⟨W0, hW0⟩ : ∃ W0, wr.alloc (.cells #[.string x1, .string y1, .string z1] 55) = W0 := ⟨_, rfl⟩
      have HW0 : Hid (W0.heap[wr.heap.size]? = some (.cells #[.string x1, .string y1, .string z1] 55 (0, 0))) := Lib.hid (by rw [← hW0]; exact heap_alloc_new wr _)
      have HS0 : Hid (TagS w (w.heap.size + 1) w1.heap.size z y l k (.slice Aa k ca) W0) := Lib.hid (by rw [← hW0]; exact hst.below (stpA (Below.refl _ _) _))
      have HLT : Hid (w1.heap.size < wr.heap.size) := Lib.hid (lt_heap hst.c5)
      clear hst hx hy hz hea hbB
      go_wp2_with fail
      clear c0 c1 c2
      try rw [hW0]
      clear hW0
      refine wp_region_noPanic ?_
      refine wp_region_Z (fun W => W.cell? ⟨w1.heap.size, 2, none⟩ = some (.slice Aa k ca) ∧ W.cell? ⟨wr.heap.size, 1, none⟩ = some (.string y1) ∧ W.cell? ⟨wr.heap.size, 2, none⟩ = some (.string z1)) 12 (by kernel_rfl) ?_
      have hS : W0.drew.cell? ⟨w1.heap.size, 2, none⟩ = some (.slice Aa k ca) ∧ W0.drew.cell? ⟨wr.heap.size, 1, none⟩ = some (.string y1) ∧ W0.drew.cell? ⟨wr.heap.size, 2, none⟩ = some (.string z1) := ⟨HS0.out.cell 2, cellV W0 _ 1 _ _ _ HW0.out, cellV W0 _ 2 _ _ _ HW0.out⟩
      refine takeZ (i := 0) (v := .pointer (some ⟨w1.heap.size, 2, none⟩)) rfl (by kernel_rfl) (by kernel_rfl) (by kernel_rfl) (by kernel_rfl) (fun _ _ _ h => h) (Or.inl ⟨by rfl, ?_⟩) hS ?_
      · intro w' hSw; (try dsimp only at hSw); go_simp
      try simp only [Act.put, List.setIfInBounds_toArray, List.set_cons_zero, List.set_cons_succ]
      refine takeZ (i := 1) (v := .slice Aa k ca) rfl (by kernel_rfl) (by kernel_rfl) (by kernel_rfl) (by kernel_rfl) (fun _ _ _ h => h) (Or.inl ⟨by rfl, ?_⟩) hS ?_
      · intro w' hSw; (try dsimp only at hSw); go_simp
      try simp only [Act.put, List.setIfInBounds_toArray, List.set_cons_zero, List.set_cons_succ]
      refine takeZ (i := 2) (v := .pointer (some ⟨wr.heap.size, 1, none⟩)) rfl (by kernel_rfl) (by kernel_rfl) (by kernel_rfl) (by kernel_rfl) (fun _ _ _ h => h) (Or.inl ⟨by rfl, ?_⟩) hS ?_
      · intro w' hSw; (try dsimp only at hSw); go_simp
      try simp only [Act.put, List.setIfInBounds_toArray, List.set_cons_zero, List.set_cons_succ]
      refine takeZ (i := 3) (v := .string y1) rfl (by kernel_rfl) (by kernel_rfl) (by kernel_rfl) (by kernel_rfl) (fun _ _ _ h => h) (Or.inl ⟨by rfl, ?_⟩) hS ?_
      · intro w' hSw; (try dsimp only at hSw); go_simp
      try simp only [Act.put, List.setIfInBounds_toArray, List.set_cons_zero, List.set_cons_succ]
      refine takeZ (i := 5) (v := .pointer (some ⟨wr.heap.size, 2, none⟩)) rfl (by kernel_rfl) (by kernel_rfl) (by kernel_rfl) (by kernel_rfl) (fun _ _ _ h => h) (Or.inl ⟨by rfl, ?_⟩) hS ?_
      · intro w' hSw; (try dsimp only at hSw); go_simp
      try simp only [Act.put, List.setIfInBounds_toArray, List.set_cons_zero, List.set_cons_succ]
      refine takeZ (i := 6) (v := .string z1) rfl (by kernel_rfl) (by kernel_rfl) (by kernel_rfl) (by kernel_rfl) (fun _ _ _ h => h) (Or.inl ⟨by rfl, ?_⟩) hS ?_
      · intro w' hSw; (try dsimp only at hSw); go_simp
      try simp only [Act.put, List.setIfInBounds_toArray, List.set_cons_zero, List.set_cons_succ]
      refine stepZ (i := 4) (by kernel_rfl) rfl (fun K hK => ?_)
      go_simp
      go_at_call 24; (with_reducible refine (clone9 y1 _ HY1.out).mono ?_); rintro e5 w5 ⟨rfl, hb5⟩
      have HS5 : Hid (TagS w (w.heap.size + 1) w1.heap.size z y l k (.slice Aa k ca) w5) := Lib.hid (HS0.out.below (stp (Below.refl _ _).drew hb5))
      have HW5 : Hid (w5.heap[wr.heap.size]? = some (.cells #[.string x1, .string y1, .string z1] 55 (0, 0))) := Lib.hid (kept_heap HW0.out (stp (Below.refl _ _).drew hb5))
      have hS5 : w5.cell? ⟨w1.heap.size, 2, none⟩ = some (.slice Aa k ca) ∧ w5.cell? ⟨wr.heap.size, 1, none⟩ = some (.string y1) ∧ w5.cell? ⟨wr.heap.size, 2, none⟩ = some (.string z1) := ⟨HS5.out.cell 2, cellV w5 _ 1 _ _ _ HW5.out, cellV w5 _ 2 _ _ _ HW5.out⟩
      go_wp2_with fail
      refine hK.out _ _ (fun _ => hS5) (fun _ => ?_)
      clear hK K hb5
      try simp only [Act.put, List.setIfInBounds_toArray, List.set_cons_zero, List.set_cons_succ]
      refine stepZ (i := 7) (by kernel_rfl) rfl (fun K hK => ?_)
      go_simp
      go_at_call 24; (with_reducible refine (clone9 z1 _ HZ1'.out).mono ?_); rintro e6 w6 ⟨rfl, hb6⟩
      have HS6 : Hid (TagS w (w.heap.size + 1) w1.heap.size z y l k (.slice Aa k ca) w6) := Lib.hid (HS5.out.below hb6)
      have HW6 : Hid (w6.heap[wr.heap.size]? = some (.cells #[.string x1, .string y1, .string z1] 55 (0, 0))) := Lib.hid (kept_heap HW5.out hb6)
      have hS6 : w6.cell? ⟨w1.heap.size, 2, none⟩ = some (.slice Aa k ca) ∧ w6.cell? ⟨wr.heap.size, 1, none⟩ = some (.string y1) ∧ w6.cell? ⟨wr.heap.size, 2, none⟩ = some (.string z1) := ⟨HS6.out.cell 2, cellV w6 _ 1 _ _ _ HW6.out, cellV w6 _ 2 _ _ _ HW6.out⟩
      go_wp2_with fail
      refine hK.out _ _ (fun _ => hS6) (fun _ => ?_)
      clear hK K hb6 hS hS5
      try simp only [Act.put, List.setIfInBounds_toArray, List.set_cons_zero, List.set_cons_succ]
      refine takeZ (i := 8) (v := .agg #[.string y1, .string z1]) rfl (by kernel_rfl) (by kernel_rfl) (by kernel_rfl) (by kernel_rfl) (fun _ _ _ h => h) (Or.inl ⟨by rfl, ?_⟩) hS6 ?_
      · intro w' hSw; (try dsimp only at hSw); go_simp
      try simp only [Act.put, List.setIfInBounds_toArray, List.set_cons_zero, List.set_cons_succ]
      refine stepZ (i := 9) (by kernel_rfl) rfl (fun K hK => ?_)
      go_simp
      have HS7 : Hid (TagS w (w.heap.size + 1) w1.heap.size z y l k (.slice Aa k ca) (w6.alloc (.cells #[.string y1, .string z1] 84))) := Lib.hid (HS6.out.below (stpA (Below.refl _ _) _))
      have hS7 : (w6.alloc (.cells #[.string y1, .string z1] 84)).cell? ⟨w1.heap.size, 2, none⟩ = some (.slice Aa k ca) ∧ (w6.alloc (.cells #[.string y1, .string z1] 84)).cell? ⟨wr.heap.size, 1, none⟩ = some (.string y1) ∧ (w6.alloc (.cells #[.string y1, .string z1] 84)).cell? ⟨wr.heap.size, 2, none⟩ = some (.string z1) := ⟨HS7.out.cell 2, cellV _ _ 1 _ _ _ (kept_heap HW6.out (stpA (Below.refl _ _) _)), cellV _ _ 2 _ _ _ (kept_heap HW6.out (stpA (Below.refl _ _) _))⟩
      refine hK.out _ _ (fun _ => hS7) (fun _ => ?_)
      clear hK K
      try simp only [Act.put, List.setIfInBounds_toArray, List.set_cons_zero, List.set_cons_succ]
      refine stepZ (i := 10) (by kernel_rfl) rfl (fun K hK => ?_)
      refine step_append_lies _ rfl (.tmp 21) (.tmp 29) 58 rfl (w1.heap.size + 1) 84 i0 (.agg #[.string ⟨#[]⟩, .string ⟨#[]⟩]) 2 32 Try.underlying58 HI.out HZ0.out HZ1.out HZ2.out rfl (by decide) _ k _ rfl (own_belowK HS6.out.own (stpA (Below.refl _ _) _) (Nat.le_refl _)) ⟨w6.heap.size, 0, none⟩ 1 1 [.string y1, .string z1] rfl rfl (new_at w6 [.string y1, .string z1] 84 _ rfl) (by simp [Value.oneCell']) (by decide) (by have := HKP.out; unfold maxLen; omega) (by have := HKP.out; omega) (by have := lt_heap HS6.out.c5; simp; omega) _ rfl ?_
      intro g8 c8 w8 hown8 hgr8 hor hlt8
      have HP8 := Lib.hid (HS6.out.push HG.out (Nat.le_succ _) HK1.out HYE.out HZE.out hown8 hgr8)
      have hst8 : ∀ (q : Nat) (o : Obj), (q = w1.heap.size ∨ q = wr.heap.size) → w6.heap[q]? = some o → (∀ e, (Value.slice Aa k ca).ownBlock = some e → e ≠ q) → w8.heap[q]? = some o := fun q o _ ho hne => by
        have h1 := kept_heap ho (stpA (Below.refl w6.heap.size w6) (.cells #[.string y1, .string z1] 84))
        exact (hgr8.block _ (Array.getElem?_eq_some_iff.1 h1).1 (fun e => hne _ e.symm rfl)).trans h1
      have h8a := hst8 w1.heap.size _ (.inl rfl) HS6.out.c5 (fun e he => by have := (HS6.out.own.lt e he).1; omega)
      have h8b := hst8 wr.heap.size _ (.inr rfl) HW6.out (fun e he => by have := (HS.out.own.lt e he).2; omega)
      have k8 : w8.cell? ⟨w1.heap.size, 2, none⟩ = some (.slice Aa k ca) ∧ w8.cell? ⟨wr.heap.size, 1, none⟩ = some (.string y1) ∧ w8.cell? ⟨wr.heap.size, 2, none⟩ = some (.string z1) := ⟨cellV w8 _ 2 _ _ _ h8a, cellV w8 _ 1 _ _ _ h8b, cellV w8 _ 2 _ _ _ h8b⟩
      have f8 : w8.frozen? ⟨w1.heap.size, 2, none⟩ = false := freeV w8 _ 2 _ _ h8a
      clear hown8 hgr8 hor h8a h8b hst8
      refine hK.out _ _ (fun _ => k8) (fun _ => ?_)
      clear hK K
      try simp only [Act.put, List.setIfInBounds_toArray, List.set_cons_zero, List.set_cons_succ]
      refine takeZ (i := 11) (v := .pointer (some ⟨w1.heap.size, 2, none⟩)) rfl (by kernel_rfl) (by kernel_rfl) (by kernel_rfl) (by kernel_rfl) (fun _ _ _ h => h) (Or.inl ⟨by rfl, ?_⟩) k8 ?_
      · intro w' hSw; (try dsimp only at hSw); go_simp
      try simp only [Act.put, List.setIfInBounds_toArray, List.set_cons_zero, List.set_cons_succ]
      refine stepZ (i := 12) (by kernel_rfl) rfl (fun K hK => ?_)
      have k82 := k8.1
      go_simp
      refine hK.out _ _ (fun h => absurd rfl h) (fun _ => ?_)
      clear hK K
      try simp only [Act.put, List.setIfInBounds_toArray, List.set_cons_zero, List.set_cons_succ]
      refine doneZ (by kernel_rfl) ?_ _
      refine NoPanic.normal ?_
      go_wp2_with fail
      go_roundg (gk - 1)
      case rel => exact ⟨k + 1, _, by omega, by go_num, HP8.out⟩
      case measure => omega
    · obtain rfl : k = p := by omega
      have hjj : ¬ ((k : Int) < (k : Int)) := by omega
      clear hst
      go_wp2_with (first
        | (refine wpList_load_row rfl _ _ rfl w1.heap.size rfl 60 #[.int .u8 z, .string y, .slice Aa k ca, .string ⟨#[]⟩] (0, 0) _ HS.out.c5 Try.underlying60 rfl sizeTk ?_)
        | (refine wpList_store_row rfl _ _ _ rfl (w.heap.size + 1) #[.int .u8 z, .string y, .slice Aa k ca, .string ⟨#[]⟩] rfl rfl 60 zTk HS.out.c4 sizeTk rfl (oneTk _ _ _ _) ?_)
        | fail)
      (try simp only [Exit.inBlock, Exit.then, Exit.noGoto])
      exact bodyPost_ret (v := .agg #[.int .u8 z, .string y, .slice Aa k ca, .string ⟨#[]⟩]) (results_cell_row rfl _ _ _ _ _ _ _ rfl (setRow_heap _ _ _ #[.int .u8 z, .string y, .slice Aa k ca, .string ⟨#[]⟩] _ _ HS.out.c4) Try.underlying60 rfl sizeTk) rfl
        (HS.out.fin HP.out HG.out _)
end Hx
end Go.Proofs.Ytkmaogafknehgaa
