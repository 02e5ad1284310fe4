/-
  Texts of one seat, put together: TrhE, TrhF, TrhG, TrhJ.
-/
import Derived.Test.YtbjgfaflikgobaaGreatDoorH32
import Derived.Test.YtbjgfaflikgobaaGreatDoorH33
import Derived.Test.YtbjgfaflikgobaaGreatDoorH34
import Derived.Test.YtbjgfaflikgobaaGreatDoorH08
import Derived.Test.YtbjgfaflikgobaaGreatDoorH07
import Derived.Test.YtbjgfaflikgobaaGreatDoorH02
import Derived.Test.YtbjgfaflikgobaaGreatDoorH30
namespace Go.Proofs.YtbjgfaflikgobaaGreatDoor
open Go.RowKit
namespace Hx
open Lx Tr Tx Nmb Es
set_option linter.unusedVariables false
/-- What Sub answers. -/
def subR (v : List Nd) (i : Int) : List Nd × Int := if askedR v i = 0 then (match v[i.toNat]? with
  | some n => if n.kind = 2 then ([], 2) else (partV v i.toNat, 0)
  | none => ([], 2)) else ([], askedR v i)
def SubTo (v : List Nd) (i : Int) (w : World) (e : Ending) (w' : World) : Prop := ∃ (out : List Nd) (q : Int) (A : Option Addr) (c : Nat), subR v i = (out, q) ∧ e = .returned (.tuple #[.slice A out.length c, .int .i64 q]) ∧ NdOut w.heap.size w out A c w' ∧ Below w.heap.size w w'
theorem SubTo.bad {v : List Nd} {i q : Int} {w w' : World} (h : subR v i = ([], q)) (hb : Below w.heap.size w w') : SubTo v i w (.returned (.tuple #[.slice none 0 0, .int .i64 q])) w' := ⟨[], q, none, 0, h, rfl, NdOut.none _ _ _, hb⟩
/-- A piece of some nodes. -/
theorem nds_piece {w : World} {A : Option Addr} {v : List Nd} {n c : Nat} (hr : RdB NdS w A v) (hn : v.length = n) (hnc : n ≤ c) (p q : Nat) (hp : p < n) (hpq : p ≤ q) (hq : q ≤ n) :
    ∃ A', RdB NdS w A' ((v.drop p).take (q - p)) ∧ ∀ W, (Instr.slice 24 (.slice A n c) (some (.int .i64 (p : Int))) (some (.int .i64 (q : Int))) none).run Tryz.prog W = .ok (.slice A' (q - p) (c - p)) W := by
  obtain ⟨b, off, rfl, hb, hc⟩ := hr (by omega)
  refine ⟨some ⟨b, off + p * 6, none⟩, RdS.take (RdS.drop (C := NdS) hr p) (q - p), fun W => ?_⟩
  have hel : Tryz.prog.elem 24 = 36 := by simp [Program.elem, Tryz.underlying24]
  have htt : Tryz.prog.underlying 24 = some (.slice (Tryz.prog.elem 24)) := by rw [hel]; exact Tryz.underlying24
  obtain ⟨i0, hi, hz⟩ : ∃ i0, Tryz.prog.info? 36 = some i0 ∧ i0.size = 6 := by
    have h := infoNdS
    cases hq : Tryz.prog.info? 36 with
    | none => rw [hq] at h; cases h
    | some i0 => rw [hq] at h; exact ⟨i0, rfl, Option.some.inj h⟩
  have hs : (sizeOf 36).run Tryz.prog W = .ok 6 W := by simp [sizeOf, typeInfo, hi, hz]
  rw [run_slice_lh W 24 _ n c htt .i64 .i64 (p : Int) (q : Int) (by omega) (by omega) (by omega), hel, hs]
  show Result.ok (sliced _ _ _ _ _) W = _
  unfold sliced
  rw [if_neg (by omega), Int.toNat_natCast, Int.toNat_natCast]
  simp [addr_plain]
theorem kind_of {v : List Nd} {p : Nat} {r : List Nd} (hp : p < v.length) (h : restD 12 (v.drop p) = some r) : (v[p]'hp).kind = 1 ∨ (v[p]'hp).kind = 2 := by
  rw [List.drop_eq_getElem_cons hp] at h
  exact ndOk_kind (restD_ok h).1
theorem sub_part {v : List Nd} {p : Nat} (hp : p < v.length) (h : askedR v p = 0) (hk : (v[p]'hp).kind = 1) : subR v p = (partV v p, 0) := by
  unfold subR
  rw [if_pos h, Int.toNat_natCast, List.getElem?_eq_getElem hp]
  show (if (v[p]'hp).kind = 2 then _ else _) = _
  rw [if_neg (by omega)]
theorem sub_text {v : List Nd} {p : Nat} (hp : p < v.length) (h : askedR v p = 0) (hk : (v[p]'hp).kind = 2) : subR v p = ([], 2) := by
  unfold subR
  rw [if_pos h, Int.toNat_natCast, List.getElem?_eq_getElem hp]
  show (if (v[p]'hp).kind = 2 then _ else _) = _
  rw [if_pos hk]
theorem sub_no {v : List Nd} {i : Int} (h : askedR v i ≠ 0) : subR v i = ([], askedR v i) := by unfold subR; rw [if_neg h]
/-- The piece that is the tree at a place. -/
theorem part_is {v : List Nd} {p : Nat} {r : List Nd} (hr : restD 12 (v.drop p) = some r) : (v.drop p).take (v.length - r.length - p) = partV v p ∧ (partV v p).length = v.length - r.length - p := by
  obtain ⟨h1, h2⟩ := partV_eq hr
  have hl := restD_len hr
  have h3 := congrArg List.length h2
  rw [List.length_append, List.length_drop] at h3
  rw [List.length_drop] at hl h1
  refine ⟨by rw [h1, show v.length - r.length - p = v.length - p - r.length by omega], by omega⟩
theorem part_mem {v : List Nd} {p : Nat} {r : List Nd} (hr : restD 12 (v.drop p) = some r) : ∀ x ∈ partV v p, x ∈ v := by
  intro x hx
  rw [← (part_is hr).1] at hx
  exact List.mem_of_mem_drop (List.mem_of_mem_take hx)
set_option maxHeartbeats 8000000 in
set_option maxRecDepth 100000 in
theorem sub10 (A : Option Addr) (n c : Nat) (v : List Nd) (i : Int) (w : World) (hr : RdB NdS w A v) (hn : v.length = n) (hnc : n ≤ c) (hmax : n ≤ 9223372036854775807) (hsm : n ≤ 512 → ∀ m ∈ v, SmallN m) :
    Calls Tryz.prog 16 #[.slice A n c, .int .i64 i] w (SubTo v i w) := by
  obtain ⟨qq, hqq⟩ : ∃ qq, askedR v i = qq := ⟨_, rfl⟩
  have HC := Lib.hid (place10 A n c v i w hr hn hmax hsm qq hqq)
  by_cases h0 : qq = 0
  · subst h0
    obtain ⟨hm, h1, h2⟩ := asked_zero hqq
    have h5 := (mayV_iff.1 hm).1
    obtain ⟨p, rfl⟩ := int_nat h1
    have hpv : p < v.length := by omega
    obtain ⟨r, hrr⟩ := mayV_at hm (i := p) hpv
    obtain ⟨b0, off, x, y, t, A1, c1, hA, hbB, hin, q0, -⟩ := nd_at hr hpv
    have HBB := Lib.hid hbB
    have bp : (0 : Int) ≤ (p : Int) ∧ (p : Int) < (n : Int) := by omega
    rcases kind_of hpv hrr with hk | hk
    · have HS := Lib.hid (sub_part hpv hqq hk)
      rw [hk, show ((1 : Nat) : Int) = 1 from rfl] at q0
      obtain ⟨out, ho⟩ : ∃ out, partV v p = out := ⟨_, rfl⟩
      rw [ho] at HS
      have hlr := restD_len hrr
      rw [List.length_drop] at hlr
      obtain ⟨hp1, hp2⟩ := part_is hrr
      obtain ⟨q, hq⟩ : ∃ q, v.length - r.length = q := ⟨_, rfl⟩
      rw [hq] at hp1 hp2
      have HBH : Hid (∀ W, Below w.heap.size w W → Calls Tryz.prog 47 #[.slice A n c, .int .i64 p] W fun e w' => e = .returned (.int .i64 q) ∧ Below W.heap.size W w') := Lib.hid fun W hW => behind10 A n c v p 12 r W (hr.on hW) hn (by omega) (by omega) hrr q (by rw [← hn]; exact hq)
      obtain ⟨A2, hr2, hsl⟩ := nds_piece hr hn hnc p q (by omega) (by omega) (by omega)
      rw [hp1] at hr2
      have hmem := part_mem hrr
      rw [ho] at hr2 hp2 hmem
      have hsm2 := hsm (by omega)
      have HT : Hid (∀ W, Below w.heap.size w W → Calls Tryz.prog 46 #[.slice A2 (q - p) (c - p)] W (TwinTo out W)) := Lib.hid fun W hW => twin10 A2 (q - p) (c - p) out W (hr2.on hW) hp2 (by omega) fun x hx => hsm2 x (hmem x hx)
      subst hA
      clear hr hn hnc hmax hsm hsm2 hqq hm h1 h2 h5 hrr hin hk hlr hp1 hp2 hr2 hmem hq ho hbB
      go_enter Tryz.func16, Tryz.ntmps16
      go_wp2_with (first
        | (go_at_call 42; (with_reducible refine (HC.out).mono ?_); rintro e1 w1 ⟨rfl, hb1⟩; have HB1 := Lib.hid hb1; have s0 := (hb1.cell (p := ⟨b0, _, none⟩) HBB.out).trans q0; clear hb1)
        | (go_at_call 47; (with_reducible refine (HBH.out _ HB1.out).mono ?_); rintro e2 w2 ⟨rfl, hb2⟩; have HB2 := Lib.hid (stp HB1.out hb2); clear hb2)
        | (go_at_call 46; (with_reducible refine (HT.out _ HB2.out).mono ?_); rintro e3 w3 ⟨A3, c3, rfl, ho3, hb3⟩; have HO3 := Lib.hid ho3; have HB3 := Lib.hid hb3; clear ho3 hb3)
        | fail)
      go_ret2
      exact ⟨out, 0, A3, c3, HS.out, rfl, HO3.out.weak HB2.out.size, stp HB2.out HB3.out⟩
    · have HS := Lib.hid (sub_text hpv hqq hk)
      rw [hk, show ((2 : Nat) : Int) = 2 from rfl] at q0
      subst hA
      clear hr hn hnc hmax hsm hqq hm h1 h2 h5 hrr hin hk hbB
      go_enter Tryz.func16, Tryz.ntmps16
      go_wp2_with (first
        | (go_at_call 42; (with_reducible refine (HC.out).mono ?_); rintro e1 w1 ⟨rfl, hb1⟩; have HB1 := Lib.hid hb1; have s0 := (hb1.cell (p := ⟨b0, _, none⟩) HBB.out).trans q0; clear hb1)
        | fail)
      go_ret2
      exact SubTo.bad HS.out HB1.out
  · have hs := sub_no (v := v) (i := i) (by omega)
    rw [hqq] at hs
    have HS := Lib.hid hs
    have hv := asked_vals v i
    have hq2 : qq = 2 ∨ qq = 8 := by omega
    clear hr hn hnc hmax hsm hqq hv hs
    rcases hq2 with rfl | rfl
    all_goals
      go_enter Tryz.func16, Tryz.ntmps16
      go_wp2_with (first
        | (go_at_call 42; (with_reducible refine (HC.out).mono ?_); rintro e1 w1 ⟨rfl, hb1⟩; have HB1 := Lib.hid hb1; clear hb1)
        | fail)
      go_ret2
      exact SubTo.bad HS.out HB1.out
end Hx
end Go.Proofs.YtbjgfaflikgobaaGreatDoor
namespace Go.Proofs.YtbjgfaflikgobaaGreatDoor
open Go.RowKit
namespace Hx
open Lx Tr Tx Nmb Es
set_option linter.unusedVariables false
/-- The text of a node at a place. -/
def textAt (v : List Nd) (k : Nat) : List UInt8 := match v[k]? with
  | some n => n.text
  | none => []
def wordsV (v : List Nd) (p : Nat) : List UInt8 := textAt v p ++ (under v p).flatMap (textAt v)
def wordsR (v : List Nd) (i : Int) : List UInt8 := if askedR v i = 0 then wordsV v i.toNat else []
theorem textAt_in {v : List Nd} {k : Nat} (hk : k < v.length) : textAt v k = (v[k]'hk).text := by unfold textAt; rw [List.getElem?_eq_getElem hk]
theorem places_lt {g : List Nd → Option (List Nd)} (hg : Tr.Loc g) : ∀ (m p0 : Nat) (b0 b : Bool) (l r : List Nd), kidsD g m b0 l = some (b, r) → (places g m p0 l).length = m ∧ ∀ k ∈ places g m p0 l, p0 ≤ k ∧ k < p0 + l.length := by
  intro m
  induction m with
  | zero => intro p0 b0 b l r h; rw [places]; exact ⟨rfl, fun k hk => by cases hk⟩
  | succ m ih =>
    intro p0 b0 b l r h
    cases l with
    | nil => rw [kidsD] at h; cases h
    | cons n l =>
      rw [kidsD] at h
      by_cases hb : b0 = true ∧ n.kind = 2
      · rw [if_pos hb] at h; cases h
      · rw [if_neg hb] at h
        cases hn : g (n :: l) with
        | none => rw [hn] at h; cases h
        | some y =>
          rw [hn] at h
          obtain ⟨q, hq, e1, _⟩ := hg _ _ hn
          have l1 : y.length + q.length = (n :: l).length := by rw [e1, List.length_append]; omega
          obtain ⟨h1, h2⟩ := ih (p0 + ((n :: l).length - y.length)) _ _ _ _ h
          rw [places, hn]
          refine ⟨by rw [List.length_cons, h1], fun k hk => ?_⟩
          rcases List.mem_cons.1 hk with rfl | hk
          · simp
          · have := h2 k hk
            omega
theorem under_lt {v : List Nd} {p : Nat} {r : List Nd} (hp : p < v.length) (h : restD 12 (v.drop p) = some r) : (∀ k ∈ under v p, k < v.length) ∧ (under v p).length ≤ v.length := by
  have h' := h
  rw [List.drop_eq_getElem_cons hp] at h'
  obtain ⟨_, hm0, bb, hk0⟩ := restD_ok h'
  have hk := kidsD_le (e := 12) (by omega) hk0
  obtain ⟨h1, h2⟩ := places_lt (restD_loc 12) _ (p + 1) _ _ _ _ hk
  have hU : under v p = places (restD 12) (v[p]'hp).many.toNat (p + 1) (v.drop (p + 1)) := by unfold under; rw [List.getElem?_eq_getElem hp]
  have hl := kidsD_len hk
  rw [List.length_drop] at hl
  refine ⟨fun k hk2 => ?_, by rw [hU, h1]; omega⟩
  rw [hU] at hk2
  have := h2 k hk2
  rw [List.length_drop] at this
  omega
theorem texts_len {v : List Nd} (hs : ∀ n ∈ v, SmallN n) (l : List Nat) : (l.flatMap (textAt v)).length ≤ l.length * 1000000 := by
  induction l with
  | nil => simp
  | cons k l ih =>
    have h1 : (textAt v k).length ≤ 1000000 := by
      unfold textAt
      cases hq : v[k]? with
      | none => simp
      | some n => exact (hs n (List.mem_of_getElem? hq)).text
    rw [List.flatMap_cons, List.length_append, List.length_cons]
    omega
theorem flat_take {v : List Nd} (l : List Nat) (j : Nat) (hj : j < l.length) : (l.take (j + 1)).flatMap (textAt v) = (l.take j).flatMap (textAt v) ++ textAt v (l[j]'hj) := by
  rw [List.take_succ_eq_append_getElem hj, List.flatMap_append]
  simp
/-- A row of numbers of the call's own, while a builder of its own grows. -/
theorem ints_kept {w w' : World} {base b : Nat} {A : Option Addr} {n c : Nat} {l : List Int} (h : w.ownsRow base 3 1 (.slice A n c) n (l.map encZ)) (hb : b < base) (hk : OK9 b w w') : RdZ w' w.heap.size A l := by
  intro hp
  obtain ⟨b', off, e, hlt, hc⟩ := (RdG.of_own h).1 hp
  have hl : l.length = n := (RdG.of_own h).2
  rcases h.2 with ⟨_, h0⟩ | ⟨g, cap, cur, hv, hg1, hg, _⟩
  · omega
  injection hv with hA _ _
  subst hA
  injection e with e
  injection e with e1 e2 _
  subst e1 e2
  refine ⟨g, 0, rfl, hlt, fun j hj => ?_⟩
  rw [cell_blk ((hk.stay hg (by omega) (by decide)).trans hg.symm)]
  exact hc j hj
set_option maxHeartbeats 8000000 in
set_option maxRecDepth 100000 in
theorem words10 (A : Option Addr) (n c : Nat) (v : List Nd) (i : Int) (w : World) (hr : RdB NdS w A v) (hn : v.length = n) (hmax : n ≤ 9223372036854775807) (hsm : n ≤ 512 → ∀ m ∈ v, SmallN m) (q : Int) (hq : askedR v i = q) (s : ByteArray) (hs : wordsR v i = s.data.toList) :
    Calls Tryz.prog 15 #[.slice A n c, .int .i64 i] w fun e w' => e = .returned (.tuple #[.string s, .int .i64 q]) ∧ Below w.heap.size w w' := by
  have HC := Lib.hid (place10 A n c v i w hr hn hmax hsm q hq)
  by_cases h0 : q = 0
  · subst h0
    obtain ⟨hm, h1, h2⟩ := asked_zero hq
    have h5 := (mayV_iff.1 hm).1
    obtain ⟨p, rfl⟩ := int_nat h1
    have hpv : p < v.length := by omega
    obtain ⟨r, hrr⟩ := mayV_at hm (i := p) hpv
    have hw : wordsV v p = s.data.toList := by rw [← hs]; unfold wordsR; rw [if_pos hq, Int.toNat_natCast]
    obtain ⟨b0, off, x, y, t, A1, c1, hA, hbB, hin, -, -, -, -, q4, -⟩ := nd_at hr hpv
    have HBB := Lib.hid hbB
    obtain ⟨ul, hul⟩ : ∃ ul, under v p = ul := ⟨_, rfl⟩
    obtain ⟨ult, ulen⟩ := under_lt hpv hrr
    have hsm2 := hsm (by omega)
    have HW : Hid (∀ W, Below w.heap.size w W → Calls Tryz.prog 43 #[.slice A n c, .int .i64 p] W (IntsTo ul W)) := Lib.hid fun W hW => by
      rw [← hul]
      exact within10 A n c v p r W (hr.on hW) hn (by omega) (by omega) hrr
    have ht : textAt v p = t.data.toList := by rw [textAt_in hpv]; exact hin.text.symm
    unfold wordsV at hw
    rw [hul, ht] at hw
    rw [hul] at ult ulen
    have htl : t.data.toList.length ≤ 1000000 := by rw [← ht, textAt_in hpv]; exact (hsm2 _ (List.getElem_mem hpv)).text
    have HFL : Hid (∀ j, j ≤ ul.length → (t.data.toList ++ (ul.take j).flatMap (textAt v)).length ≤ 1000000000) := Lib.hid fun j hj => by
      have h9 := texts_len hsm2 (ul.take j)
      rw [List.length_take] at h9
      rw [List.length_append]
      have : min j ul.length * 1000000 ≤ 512 * 1000000 := Nat.mul_le_mul_right _ (by omega)
      omega
    have HUL := Lib.hid ult
    have HRB := Lib.hid hr
    have HWS := Lib.hid hw
    have HN := Lib.hid hn
    have bp : (0 : Int) ≤ (p : Int) ∧ (p : Int) < (n : Int) := by omega
    have bu : ul.length ≤ 512 := by omega
    subst hA
    have HQ4 := Lib.hid q4
    clear hr hn hmax hsm hsm2 hq hs hm h1 h2 h5 hrr hin hbB hul hw ht htl ult ulen hpv
    go_enter Tryz.func15, Tryz.ntmps15
    go_wp2_with (first
      | (go_at_call 42; (with_reducible refine (HC.out).mono ?_); rintro e1 w1 ⟨rfl, hb1⟩; have HB1 := Lib.hid hb1; have s4 := ((stpA hb1 (.cells #[.pointer none, .slice none 0 0] 72)).cell (p := ⟨b0, _, none⟩) HBB.out).trans q4; clear hb1)
      | (go_at_call 44; refine (bwsL w1.heap.size w1.heap.size [] (t.data.toList ++ (ul.take 0).flatMap (textAt v)) t _ (bld_new w1) (by rw [List.take_zero]; simp) (HFL.out 0 (Nat.zero_le _)) (by rw [World.size_alloc]; omega)).mono ?_; rintro e2 w2 ⟨⟨z2, rfl⟩, hwr2⟩; have HWR2 := Lib.hid hwr2; have HB2 : Hid (Below w.heap.size w w2) := Lib.hid ((stpA HB1.out _).trans (hwr2.2.1.mono HB1.out.size)); have HSZ2 : Hid (w1.heap.size < w2.heap.size) := Lib.hid (by have := hwr2.size; rw [World.size_alloc] at this; omega); clear hwr2)
      | (go_at_call 43; (with_reducible refine (HW.out _ HB2.out).mono ?_); rintro e3 w3 ⟨hb3, A2, c2, rfl, -, -, ho3⟩; have HO3 := Lib.hid ho3; have HB3 := Lib.hid hb3; have HWR3 : Hid (Wrote w1.heap.size w1.heap.size (t.data.toList ++ (ul.take 0).flatMap (textAt v)) w3 w3) := Lib.hid ⟨HWR2.out.1.below hb3, Below.refl _ _, OK9.of_below (Below.refl _ _)⟩; have HB4 : Hid (Below w.heap.size w w3) := Lib.hid (stp HB2.out hb3); clear hb3 ho3)
      | fail)
    go_loopg [9, 26] ul.length (fun gg x9 i wr => ∃ j, j + gg = ul.length ∧ i = .int .i64 j ∧ Wrote w1.heap.size w1.heap.size (t.data.toList ++ (ul.take j).flatMap (textAt v)) w3 wr)
    case atStart => exact ⟨0, by omega, rfl, HWR3.out⟩
    case round =>
      obtain ⟨j, hjg, rfl, hwr⟩ := hrel
      have HWR := Lib.hid hwr
      have hB3s : w1.heap.size ≤ w3.heap.size := by have := HSZ2.out; have := HB3.out.size; omega
      have HBW : Hid (Below w.heap.size w wr) := Lib.hid (HB4.out.trans (hwr.2.1.mono HB1.out.size))
      by_cases hlt : j < ul.length
      · have hlt2 : (j : Int) < (ul.length : Int) := by omega
        have hrz := ints_kept HO3.out HSZ2.out hwr.2.2
        obtain ⟨b5, off5, hA2, _, hc5⟩ := hrz (by rw [zs_length]; omega)
        have u5 := hc5 j (by rw [zs_length]; exact hlt)
        obtain ⟨k, hk⟩ : ∃ k, ul[j]'hlt = k := ⟨_, rfl⟩
        have hkv : k < v.length := HUL.out k (hk ▸ List.getElem_mem hlt)
        have u6 : wr.cell? ⟨b5, off5 + j, none⟩ = some (.int .i64 k) := by
          rw [u5]
          simp [encZ, zs, hk]
        obtain ⟨b6, off6, x6, y6, t6, A6, c6, hA6, hbB6, hin6, -, -, -, -, u7, -⟩ := nd_at (HRB.out.on HBW.out) hkv
        injection hA6 with hA6
        injection hA6 with ha1 ha2 _
        subst ha1 ha2
        subst hA2
        have hL : (t.data.toList ++ (ul.take j).flatMap (textAt v)) ++ t6.data.toList = t.data.toList ++ (ul.take (j + 1)).flatMap (textAt v) := by
          rw [flat_take ul j hlt, hk, textAt_in hkv, hin6.text, List.append_assoc]
        have HL := Lib.hid hL
        have HJ : Hid (j + 1 ≤ ul.length) := Lib.hid hlt
        have bk : (0 : Int) ≤ (k : Int) ∧ (k : Int) < (n : Int) := by have := HN.out; omega
        clear hrz hc5 u5 hk hkv hin6 hL hwr hbB6 s4
        go_wp2_with (first
          | (go_at_call 44; refine (bwsL w1.heap.size w1.heap.size _ (t.data.toList ++ (ul.take (j + 1)).flatMap (textAt v)) t6 _ HWR.out.1 HL.out (HFL.out _ HJ.out) (by have := HWR.out.size; omega)).mono ?_; rintro e7 w7 ⟨⟨z7, rfl⟩, hwr7⟩; have HWR7 := Lib.hid hwr7; clear hwr7)
          | fail)
        go_roundg (gk - 1)
        case measure => omega
        case rel => exact ⟨j + 1, by omega, by go_num, HWR.out.trans HWR7.out⟩
      · obtain rfl : j = ul.length := by omega
        have hS : Bld w1.heap.size w1.heap.size s.data.toList wr := by
          rw [← HWS.out]
          have := hwr.1
          rwa [List.take_length] at this
        have HS := Lib.hid hS
        have hjj : ¬ ((ul.length : Int) < (ul.length : Int)) := by omega
        clear hwr hS s4
        go_wp2_with (first
          | (go_at_call 45; refine (bst w1.heap.size w1.heap.size s wr HS.out (by have := HWR.out.size; omega)).mono ?_; rintro e8 w8 ⟨rfl, _, hb8⟩; have HB8 := Lib.hid hb8; clear hb8)
          | fail)
        go_ret2
        exact ⟨rfl, HBW.out.trans (HB8.out.mono HB1.out.size)⟩
  · have hs2 : s = ⟨#[]⟩ := by
      have : s.data.toList = [] := by rw [← hs]; unfold wordsR; rw [if_neg (by omega)]
      rw [ba_eq5 s, this]
    subst hs2
    have hv := asked_vals v i
    have hq2 : q = 2 ∨ q = 8 := by omega
    clear hr hn hmax hsm hq hs hv
    rcases hq2 with rfl | rfl
    all_goals
      go_enter Tryz.func15, Tryz.ntmps15
      go_wp2_with (first
        | (go_at_call 42; (with_reducible refine (HC.out).mono ?_); rintro e1 w1 ⟨rfl, hb1⟩; have HB1 := Lib.hid hb1; clear hb1)
        | fail)
      go_ret2
      exact ⟨rfl, HB1.out⟩
end Hx
end Go.Proofs.YtbjgfaflikgobaaGreatDoor
namespace Go.Proofs.YtbjgfaflikgobaaGreatDoor
open Go.RowKit
namespace Hx
open Lx Tr Tx Nmb Es
set_option linter.unusedVariables false
end Hx
end Go.Proofs.YtbjgfaflikgobaaGreatDoor
namespace Go.Proofs.YtbjgfaflikgobaaGreatDoor
open Go.RowKit
namespace Hx
open Lx Tr Tx Nmb Es
set_option linter.unusedVariables false
theorem rawV_no {v : List Nd} {k : Nat} (hk : k < v.length) (h : rawN (v[k]'hk) = false) : rawV v = false := by
  unfold rawV
  rw [List.all_eq_false]
  exact ⟨_, List.getElem_mem hk, by rw [h]; decide⟩
theorem rawN_no {n : Nd} {j : Nat} (hj : j < n.attrs.length) (h : (n.attrs[j]'hj).space ≠ []) : rawN n = false := by
  unfold rawN
  rw [Bool.and_eq_false_iff]
  right
  rw [List.all_eq_false]
  exact ⟨_, List.getElem_mem hj, by simpa using h⟩
theorem rawN_sp {n : Nd} (h : n.space ≠ []) : rawN n = false := by
  unfold rawN
  rw [Bool.and_eq_false_iff]
  left
  simpa using h
theorem all_next {α : Type} {f : α → Bool} {l : List α} {k : Nat} (hk : k < l.length) (h : (l.take k).all f = true) (h2 : f (l[k]'hk) = true) : (l.take (k + 1)).all f = true := by
  rw [List.take_succ_eq_append_getElem hk, List.all_append, h, List.all_cons, h2]
  rfl
theorem ba_nil {x : ByteArray} (h : x.data.toList = []) : x = ⟨#[]⟩ := by rw [ba_eq5 x, h]
theorem ba_ne {x : ByteArray} (h : x.data.toList ≠ []) : (x.toList == []) = false ∧ ¬ x.toList = [] := by
  have : ¬ x.toList = [] := by rw [ByteArray.toList_eq]; exact h
  exact ⟨by simpa using this, this⟩
set_option maxHeartbeats 16000000 in
set_option maxRecDepth 100000 in
theorem raw10 (A : Option Addr) (n c : Nat) (v : List Nd) (w : World) (hr : RdB NdS w A v) (hn : v.length = n) (hm : n ≤ 1000000) (hsm : ∀ x ∈ v, SmallN x) (q : Bool) (h : rawV v = q) :
    Calls Tryz.prog 49 #[.slice A n c] w fun e w' => e = .returned (.bool q) ∧ Below w.heap.size w w' := by
  have HR := Lib.hid hr
  have HN := Lib.hid hn
  have HM := Lib.hid hm
  have HH := Lib.hid h
  have HSM := Lib.hid hsm
  clear hr hn h hsm
  go_enter Tryz.func49, Tryz.ntmps49
  go_wp2_with fail
  go_loopg [9] n (fun gg i wr => ∃ k : Nat, k + gg = n ∧ i = .int .i64 k ∧ (v.take k).all rawN = true ∧ Below w.heap.size w wr)
  case atStart => exact ⟨0, by omega, rfl, rfl, Below.refl _ _⟩
  case round =>
    obtain ⟨k, hkg, rfl, hall, hbw⟩ := hrel
    obtain ⟨wo, rfl⟩ : ∃ wo : World, wo = wr := ⟨_, rfl⟩
    obtain ⟨g0, rfl⟩ : ∃ g0 : Nat, g0 = gk := ⟨_, rfl⟩
    have hm := HM.out
    have HALL := Lib.hid hall
    have HBW := Lib.hid hbw
    have HG := Lib.hid hkg
    by_cases hlt : k < n
    · have hk1 : k < v.length := by rw [HN.out]; exact hlt
      obtain ⟨b0, off, x, y, t, A1, c1, rfl, hbB, hin, c0, c1', c2, c3, c4, c5⟩ := nd_at (HR.out.on hbw) hk1
      have hs1 := (HSM.out _ (List.getElem_mem hk1)).attrs
      obtain ⟨nd, hnd⟩ : ∃ nd, v[k]'hk1 = nd := ⟨_, rfl⟩
      have HK1 := Lib.hid hk1
      have HNO : Hid (rawN nd = false → false = q) := Lib.hid fun hf => by rw [← HH.out]; exact (rawV_no HK1.out (by rw [hnd]; exact hf)).symm
      have HYS : Hid (rawN nd = true → (v.take (k + 1)).all rawN = true) := Lib.hid fun hf => all_next HK1.out HALL.out (by rw [hnd]; exact hf)
      rw [hnd] at hin c0 c3 c5 hs1
      have bk : (0 : Int) ≤ (k : Int) ∧ (k : Int) < (n : Int) := by omega
      have hsp := hin.space
      have HAR := Lib.hid hin.attrs
      have HIN := Lib.hid hin
      obtain ⟨n1, hn1⟩ : ∃ n1, nd.attrs.length = n1 := ⟨_, rfl⟩
      have HN1 := Lib.hid hn1
      rw [hn1] at c3 hs1
      obtain ⟨m1, hm1⟩ : ∃ m1, nd.many = m1 := ⟨_, rfl⟩
      rw [hm1] at c5
      obtain ⟨kd, hkd⟩ : ∃ kd, nd.kind = kd := ⟨_, rfl⟩
      rw [hkd] at c0
      by_cases hx : nd.space = []
      · obtain rfl := ba_nil (hsp.trans hx)
        have HX := Lib.hid hx
        have HLT := Lib.hid hlt
        have HBB := Lib.hid hbB
        clear hall hbw hnd hin hsp hx hn1 hm1 hkd hkg hbB
        go_wp2_with fail
        go_loopg [19] n1 (fun gg i wi => ∃ j : Nat, j + gg = n1 ∧ i = .int .i64 j ∧ (nd.attrs.take j).all (fun a => a.space.isEmpty) = true ∧ Below wo.heap.size wo wi)
        case atStart => exact ⟨0, by omega, rfl, rfl, by first | exact Below.refl _ _ | exact stpA (Below.refl _ _) _⟩
        case round =>
          obtain ⟨j, hjg, rfl, hal2, hb2⟩ := hrel
          have HAL2 := Lib.hid hal2
          have HB2 := Lib.hid hb2
          have HJG := Lib.hid hjg
          clear c0
          by_cases hlj : j < n1
          · have hj1 : j < nd.attrs.length := by rw [HN1.out]; exact hlj
            obtain ⟨b1, of1, x1, y1, z1, rfl, hbB1, hx1, -, -, d0, d1, d2⟩ := at_at (RdB.on (w := wo) HAR.out hb2) hj1
            have bj : (0 : Int) ≤ (j : Int) ∧ (j : Int) < (n1 : Int) := by omega
            by_cases hsx : x1.data.toList = []
            · have HT : Hid ((nd.attrs.take (j + 1)).all (fun a => a.space.isEmpty) = true) := Lib.hid (all_next hj1 hal2 (by rw [← hx1, hsx]; rfl))
              obtain rfl := ba_nil hsx
              clear hal2 hb2 hjg hx1 hsx hbB1
              go_wp2_with fail
              go_roundg (gk - 1)
              case rel => exact ⟨j + 1, by have := HJG.out; omega, by go_num, HT.out, by first | exact HB2.out | exact stpA HB2.out _⟩
              case measure => have := HJG.out; omega
            · obtain rfl : false = q := HNO.out (rawN_no hj1 (by rw [← hx1]; exact hsx))
              obtain ⟨e1, e2⟩ := ba_ne hsx
              clear hal2 hb2 hjg hx1 hsx hbB1
              go_wp2_with fail
              go_ret
              exact ⟨rfl, by first | exact HBW.out.trans (HB2.out.mono HBW.out.size) | exact HBW.out.trans ((stpA HB2.out _).mono HBW.out.size)⟩
          · obtain rfl : j = n1 := by have := HJG.out; omega
            have HT := Lib.hid (HYS.out (by
              unfold rawN
              rw [HX.out]
              rw [← HN1.out, List.take_length] at hal2
              rw [hal2]
              rfl))
            have HE := Lib.hid (HBW.out.trans (hb2.mono HBW.out.size))
            have hjj : ¬ ((j : Int) < (j : Int)) := by omega
            clear hal2 hb2 hjg
            go_wp2_with fail
            go_roundg (g0 - 1)
            case rel => exact ⟨k + 1, by have := HG.out; have := HLT.out; omega, by go_num, HT.out, HE.out⟩
            case measure => have := HG.out; have := HLT.out; omega
      · obtain rfl : false = q := HNO.out (rawN_sp hx)
        obtain ⟨e1, e2⟩ := ba_ne (x := x) (by rw [hsp]; exact hx)
        clear hall hbw hnd hin hsp hx hn1 hm1 hkd hkg hbB
        go_wp2_with fail
        go_ret
        exact ⟨rfl, by first | exact HBW.out | exact stpA HBW.out _⟩
    · obtain rfl : k = n := by omega
      have hjj : ¬ ((k : Int) < (k : Int)) := by omega
      obtain rfl : true = q := by
        rw [← HH.out]
        rw [List.take_of_length_le (by rw [HN.out]; exact Nat.le_refl _)] at hall
        exact hall.symm
      clear hall hbw hkg
      go_wp2_with fail
      go_ret
      exact ⟨rfl, HBW.out⟩
end Hx
end Go.Proofs.YtbjgfaflikgobaaGreatDoor
