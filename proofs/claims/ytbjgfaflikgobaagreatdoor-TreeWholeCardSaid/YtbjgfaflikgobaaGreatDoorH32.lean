/-
  Texts of one seat, put together: TreI, TrhB, TrhA, TrhC, TrhD.
-/
import Derived.Test.YtbjgfaflikgobaaGreatDoorH31
import Derived.Test.YtbjgfaflikgobaaGreatDoorH29
import Derived.Test.YtbjgfaflikgobaaGreatDoorH04
namespace Go.Proofs.YtbjgfaflikgobaaGreatDoor
open Go.RowKit
namespace Hx
open Lx Tr Tx Nmb Es
set_option linter.unusedVariables false
def bhQ (v : List Nd) : Bool := bhZ v 12 0 == (v.length : Int)
end Hx
end Go.Proofs.YtbjgfaflikgobaaGreatDoor
namespace Go.Proofs.YtbjgfaflikgobaaGreatDoor
open Go.RowKit
namespace Hx
open Lx Tr Tx Nmb Es
set_option linter.unusedVariables false
theorem asked_no {v : List Nd} {i : Int} (h : mayV v = false) : askedR v i = 8 := by unfold askedR; rw [h]; rfl
theorem asked_lo {v : List Nd} {i : Int} (h : mayV v = true) (hi : i < 0 ∨ (v.length : Int) ≤ i) : askedR v i = 2 := by unfold askedR; rw [if_pos h, if_pos hi]
theorem asked_in {v : List Nd} {i : Int} (h : mayV v = true) (h0 : 0 ≤ i) (h1 : i < (v.length : Int)) : askedR v i = 0 := by unfold askedR; rw [if_pos h, if_neg (by omega)]
theorem checkV_yes {v : List Nd} (h : mayV v = true) : checkV v = 0 := by unfold checkV; rw [if_pos h]
theorem checkV_no {v : List Nd} (h : mayV v = false) : checkV v = 8 := by unfold checkV; rw [h]; rfl
set_option maxHeartbeats 8000000 in
set_option maxRecDepth 100000 in
theorem place10 (A : Option Addr) (n c : Nat) (v : List Nd) (i : Int) (w : World) (hr : RdB NdS w A v) (hn : v.length = n) (hmax : n ≤ 9223372036854775807) (hsm : n ≤ 512 → ∀ m ∈ v, SmallN m) (q : Int) (hq : askedR v i = q) :
    Calls Tryz.prog 42 #[.slice A n c, .int .i64 i] w fun e w' => e = .returned (.int .i64 q) ∧ Below w.heap.size w w' := by
  have bn : (n : Int) ≤ 9223372036854775807 := by omega
  cases hm : mayV v with
  | false =>
    rw [asked_no hm] at hq
    subst hq
    have HC := Lib.hid (checkv A n c v w hr hn hmax hsm 8 (checkV_no hm))
    clear hr hn hmax hsm hm
    go_enter Tryz.func42, Tryz.ntmps42
    go_wp2_with (first
      | (go_at_call 20; (with_reducible refine (HC.out).mono ?_); rintro e1 w1 ⟨rfl, hb1⟩)
      | fail)
    go_ret
    exact ⟨rfl, hb1⟩
  | true =>
    have HC := Lib.hid (checkv A n c v w hr hn hmax hsm 0 (checkV_yes hm))
    by_cases h0 : i < 0
    · rw [asked_lo hm (.inl h0)] at hq
      subst hq
      have f0 : decide (i < 0) = true := decide_eq_true h0
      clear hr hn hmax hsm hm
      go_enter Tryz.func42, Tryz.ntmps42
      go_wp2_with (first
        | (go_at_call 20; (with_reducible refine (HC.out).mono ?_); rintro e1 w1 ⟨rfl, hb1⟩)
        | fail)
      go_ret
      exact ⟨rfl, hb1⟩
    · have f0 : decide (i < 0) = false := decide_eq_false h0
      by_cases h1 : (n : Int) ≤ i
      · rw [asked_lo hm (.inr (by omega))] at hq
        subst hq
        have f1 : decide ((n : Int) ≤ i) = true := decide_eq_true h1
        clear hr hn hmax hsm hm h0
        go_enter Tryz.func42, Tryz.ntmps42
        go_wp2_with (first
          | (go_at_call 20; (with_reducible refine (HC.out).mono ?_); rintro e1 w1 ⟨rfl, hb1⟩)
          | fail)
        go_ret
        exact ⟨rfl, hb1⟩
      · rw [asked_in hm (by omega) (by omega)] at hq
        subst hq
        have f1 : decide ((n : Int) ≤ i) = false := decide_eq_false h1
        clear hr hn hmax hsm hm h0 h1
        go_enter Tryz.func42, Tryz.ntmps42
        go_wp2_with (first
          | (go_at_call 20; (with_reducible refine (HC.out).mono ?_); rintro e1 w1 ⟨rfl, hb1⟩)
          | fail)
        go_ret
        exact ⟨rfl, hb1⟩
end Hx
end Go.Proofs.YtbjgfaflikgobaaGreatDoor
namespace Go.Proofs.YtbjgfaflikgobaaGreatDoor
open Go.RowKit
namespace Hx
open Lx Tr Tx Nmb Es
set_option linter.unusedVariables false
/-- Within what is read: the next node is there, and is read. -/
theorem kids_more {d j m : Nat} {b b0 : Bool} {l r0 : List Nd} {v : List Nd} {p' : Nat} (hall : kidsD (restD d) m false l = some (b0, r0)) (h : kidsD (restD d) j false l = some (b, v.drop p')) (hj : j < m) :
    ∃ (hp : p' < v.length) (r : List Nd), restD d (v.drop p') = some r ∧ kidsD (restD d) (j + 1) false l = some (decide ((v[p']'hp).kind = 2), v.drop (v.length - r.length)) ∧ r.length + p' < v.length := by
  obtain ⟨h1, h2⟩ := kids_next h hj
  by_cases hp : p' < v.length
  · obtain ⟨h3, h4, h5⟩ := h2 hp
    have hb : ¬ (b = true ∧ (v[p']'hp).kind = 2) := fun hb => by rw [h3 hb] at hall; cases hall
    cases hr : restD d (v.drop p') with
    | none => rw [h4 hr] at hall; cases hall
    | some r =>
      have hk := h5 r hb hr
      have hsuf := restD_drop hr
      have hlr := restD_len hr
      rw [List.length_drop] at hsuf hlr
      rw [List.drop_drop, show p' + (v.length - p' - r.length) = v.length - r.length by omega] at hsuf
      exact ⟨hp, r, rfl, by rw [hk, ← hsuf], by omega⟩
  · rw [h1 (by omega)] at hall; cases hall
/-- The closure of behind, as a value. -/
def skipF (gv gs : Nat) : Value := .func (.func 84) #[] #[.pointer (some ⟨gv, 0, none⟩), .pointer (some ⟨gs, 0, none⟩)]
structure Sk (gv gs : Nat) (A : Option Addr) (c : Nat) (v : List Nd) (w : World) : Prop where
  hv : w.heap[gv]? = some (.cells #[.slice A v.length c] 24 (0, 0))
  hs : w.heap[gs]? = some (.cells #[skipF gv gs] 116 (0, 0))
  rd : RdB NdS w A v
/-- What is asked of the next depth. -/
def Skips (d : Nat) (gv gs : Nat) (A : Option Addr) (c : Nat) (v : List Nd) (w : World) : Prop := ∀ (p : Nat) (r : List Nd), p < v.length → restD d (v.drop p) = some r →
  Calls Tryz.prog 84 #[.int .i64 p, .pointer (some ⟨gv, 0, none⟩), .pointer (some ⟨gs, 0, none⟩)] w fun e w' => e = .returned (.int .i64 ((v.length - r.length : Nat) : Int)) ∧ w' = w
set_option maxHeartbeats 8000000 in
set_option maxRecDepth 100000 in
theorem skip_step (d : Nat) (gv gs : Nat) (A : Option Addr) (c : Nat) (v : List Nd) (w : World) (hl : v.length ≤ 1000000) (hx : Sk gv gs A c v w) (ih : 0 < d → Skips (d - 1) gv gs A c v w) : Skips d gv gs A c v w := by
  intro p r hp hr
  obtain ⟨b0, off, x, y, t, A1, c1, hA, hbB, hin, q0, q1, q2, q3, q4, q5⟩ := nd_at hx.rd hp
  have hr' := hr
  rw [List.drop_eq_getElem_cons hp] at hr'
  obtain ⟨hok, hm0, bb, hk⟩ := restD_ok hr'
  have hdd : 0 < (v[p]'hp).many → 0 < d := by
    intro h
    cases d with
    | succ d => omega
    | zero =>
      rw [restD] at hr'
      by_cases hn : ndOk (v[p]'hp) = true ∧ (v[p]'hp).kind = 2
      · have := (ndOk_two hn.1 hn.2).1; omega
      · rw [if_neg hn] at hr'; cases hr'
  have hlen := kidsD_len hk
  rw [List.length_drop] at hlen
  obtain ⟨mm, hmm⟩ : ∃ mm, (v[p]'hp).many = mm := ⟨_, rfl⟩
  rw [hmm] at q5 hm0 hk hlen hdd
  have kv := cell_of_one hx.hv
  have ks := cell_of_one hx.hs
  unfold skipF at ks
  have HK := Lib.hid hk
  have HIH := Lib.hid ih
  have HDD := Lib.hid hdd
  obtain ⟨m, hm⟩ : ∃ m : Nat, mm = (m : Int) := ⟨mm.toNat, by omega⟩
  subst hm
  rw [Int.toNat_natCast] at HK
  have bm : (m : Int) ≤ 1000000 := by omega
  have bp : (0 : Int) ≤ (p : Int) ∧ (p : Int) < (v.length : Int) := by omega
  have bv : (v.length : Int) ≤ 1000000 := by omega
  obtain ⟨n, hn⟩ : ∃ n, v.length = n := ⟨_, rfl⟩
  have HLN := Lib.hid hn
  have HPL : Hid (p < v.length) := Lib.hid hp
  subst hA
  rw [hn] at kv bp bv
  obtain ⟨q, hq⟩ : ∃ q, v.length - r.length = q := ⟨_, rfl⟩
  have HQ : Hid (r.length + q = n ∧ q ≤ n) := Lib.hid (by have := restD_len hr; rw [List.length_drop] at this; omega)
  rw [hq]
  clear q0 q1 q2 q3 q4 hx hl hin hr hr' hok hk hlen ih hdd hmm hp hn hm0 hq
  go_enter Tryz.func84, Tryz.ntmps84
  go_wp2_with fail
  go_loopg [5, 13] m (fun gg x5 i wr => ∃ (j : Nat) (b : Bool) (p' : Nat), j + gg = m ∧ i = .int .i64 j ∧ x5 = .int .i64 p' ∧ kidsD (restD (d - 1)) j false (v.drop (p + 1)) = some (b, v.drop p') ∧ p' ≤ n ∧ wr = w)
  case atStart => exact ⟨0, false, p + 1, by omega, rfl, by go_num, by rw [kidsD], by have := HPL.out; have := HLN.out; omega, rfl⟩
  case round =>
    obtain ⟨j, b, p', hjg, rfl, rfl, hkd, hpn, rfl⟩ := hrel
    have bp2 : (0 : Int) ≤ (p' : Int) ∧ (p' : Int) ≤ (n : Int) := by omega
    by_cases hlt : j < m
    · have hlt2 : (j : Int) < (m : Int) := by omega
      obtain ⟨hp2, r2, h1, h2, h3⟩ := kids_more HK.out hkd hlt
      have HC := Lib.hid (HIH.out (HDD.out (by omega)) p' r2 hp2 h1)
      obtain ⟨p3, hp3⟩ : ∃ p3, v.length - r2.length = p3 := ⟨_, rfl⟩
      rw [hp3] at HC h2
      have H2 := Lib.hid h2
      have HP3 : Hid (p3 ≤ n) := Lib.hid (by have := HLN.out; omega)
      clear hkd h1 h2 h3 hp3
      go_wp2_with (first
        | (go_at_call 84; (with_reducible refine (HC.out).mono ?_); rintro e2 w2 ⟨rfl, rfl⟩)
        | fail)
      go_roundg (gk - 1)
      case measure => omega
      case rel => exact ⟨j + 1, _, p3, by omega, by go_num, rfl, H2.out, HP3.out, rfl⟩
    · obtain rfl : j = m := by omega
      have hjj : ¬ ((j : Int) < (j : Int)) := by omega
      obtain rfl : p' = q := (by
        have h9 := HK.out
        rw [hkd] at h9
        injection h9 with h9
        injection h9 with _ h9
        have h8 := congrArg List.length h9
        rw [List.length_drop, HLN.out] at h8
        have := HQ.out
        omega)
      clear hkd
      go_wp2_with fail
      go_ret
      exact ⟨rfl, rfl⟩
theorem skip_all (gv gs : Nat) (A : Option Addr) (c : Nat) (v : List Nd) (w : World) (hl : v.length ≤ 1000000) (hx : Sk gv gs A c v w) : ∀ d, Skips d gv gs A c v w := by
  intro d
  induction d with
  | zero => exact skip_step 0 gv gs A c v w hl hx (fun h => by omega)
  | succ d ih => exact skip_step (d + 1) gv gs A c v w hl hx (fun _ => ih)
theorem sk_made {w : World} {A : Option Addr} {c : Nat} {v : List Nd} (hr : RdB NdS w A v) :
    Sk w.heap.size (w.heap.size + 1) A c v ((w.alloc (.cells #[.slice A v.length c] 24)).alloc (.cells #[skipF w.heap.size (w.heap.size + 1)] 116)) := by
  have h0 := heap_alloc_new w (.cells #[.slice A v.length c] 24)
  have h1 := heap_alloc_new (w.alloc (.cells #[.slice A v.length c] 24)) (.cells #[skipF w.heap.size (w.heap.size + 1)] 116)
  rw [World.size_alloc] at h1
  exact ⟨kept_heap h0 (stpA (Below.refl _ _) _), h1, hr.on (stpA (stpA (Below.refl w.heap.size w) _) _)⟩
set_option maxHeartbeats 8000000 in
set_option maxRecDepth 100000 in
/-- The place behind a node. -/
theorem behind10 (A : Option Addr) (n c : Nat) (v : List Nd) (p d : Nat) (r : List Nd) (w : World) (hr : RdB NdS w A v) (hn : v.length = n) (hl : n ≤ 1000000) (hp : p < n) (hrr : restD d (v.drop p) = some r) (q : Nat) (hq : n - r.length = q) :
    Calls Tryz.prog 47 #[.slice A n c, .int .i64 p] w fun e w' => e = .returned (.int .i64 q) ∧ Below w.heap.size w w' := by
  have hmf : ∀ (fn : Fn) (first cap : Array Value) (w : World), (Instr.makeFunc fn first cap).run Tryz.prog w = .ok (.func fn first cap) w := fun _ _ _ _ => rfl
  have HBB : Hid (Below w.heap.size w ((w.alloc (.cells #[.slice A v.length c] 24)).alloc (.cells #[skipF w.heap.size (w.heap.size + 1)] 116))) := Lib.hid (stpA (stpA (Below.refl _ _) _) _)
  have hc := skip_all _ _ A c v _ (by omega) (sk_made (c := c) hr) d p r (by omega) hrr
  rw [hn, hq] at hc
  rw [hn] at HBB
  unfold skipF at hc HBB
  have HC := Lib.hid hc
  clear hr hn hrr hq hc
  go_enter Tryz.func47, Tryz.ntmps47
  go_wp2_with (first
    | (go_at_call 84; (with_reducible refine (HC.out).mono ?_); rintro e2 w2 ⟨rfl, rfl⟩)
    | fail)
  go_ret
  exact ⟨rfl, HBB.out⟩
end Hx
end Go.Proofs.YtbjgfaflikgobaaGreatDoor
namespace Go.Proofs.YtbjgfaflikgobaaGreatDoor
open Go.RowKit
namespace Hx
open Lx Tr Tx Nmb Es
set_option linter.unusedVariables false
/-- One place more. -/
theorem places_next {g : List Nd → Option (List Nd)} (hg : Tr.Loc g) : ∀ (j p0 : Nat) (b0 b : Bool) (l m : List Nd), kidsD g j b0 l = some (b, m) → places g (j + 1) p0 l = places g j p0 l ++ [p0 + (l.length - m.length)] := by
  intro j
  induction j with
  | zero =>
    intro p0 b0 b l m h
    rw [kidsD] at h
    obtain ⟨rfl, rfl⟩ := (Prod.mk.injEq _ _ _ _).mp (Option.some.inj h)
    rw [places, places, Nat.sub_self]
    cases g l <;> rfl
  | succ j ih =>
    intro p0 b0 b l m h
    cases l with
    | nil => rw [kidsD] at h; cases h
    | cons n l =>
      rw [kidsD] at h
      by_cases hb : b0 = true ∧ n.kind = 2
      · rw [if_pos hb] at h; cases h
      · rw [if_neg hb] at h
        cases hn : g (n :: l) with
        | none => rw [hn] at h; cases h
        | some y =>
          rw [hn] at h
          obtain ⟨q, _, e1, _⟩ := hg _ _ hn
          obtain ⟨q2, e2, _, _⟩ := kidsD_loc hg _ _ _ _ _ h
          have l1 : y.length ≤ (n :: l).length := by rw [e1, List.length_append]; omega
          have l2 : m.length ≤ y.length := by rw [e2, List.length_append]; omega
          have h3 := ih (p0 + ((n :: l).length - y.length)) _ _ _ _ h
          rw [places, hn, places, hn]
          show p0 :: places g (j + 1) (p0 + ((n :: l).length - y.length)) y = p0 :: places g j (p0 + ((n :: l).length - y.length)) y ++ [p0 + ((n :: l).length - m.length)]
          rw [h3, List.cons_append, show p0 + ((n :: l).length - y.length) + (y.length - m.length) = p0 + ((n :: l).length - m.length) by omega]
/-- What is answered. -/
def IntsTo (l : List Nat) (w : World) (e : Ending) (w' : World) : Prop := Below w.heap.size w w' ∧ ∃ A c, e = .returned (.slice A l.length c) ∧ (A = none → c = 0) ∧ RdZ w' w'.heap.size A (zs l) ∧ w'.ownsRow w.heap.size 3 1 (.slice A l.length c) l.length ((zs l).map encZ)
theorem IntsTo.mk {l : List Nat} {w w' : World} {A : Option Addr} {n c : Nat} (hb : Below w.heap.size w w') (hn : l.length = n) (h0 : A = none → c = 0) (hr : RdZ w' w'.heap.size A (zs l)) (ho : w'.ownsRow w.heap.size 3 1 (.slice A n c) l.length ((zs l).map encZ)) : IntsTo l w (.returned (.slice A n c)) w' := ⟨hb, A, c, by rw [hn], h0, hr, by rw [hn]; rw [hn] at ho; exact ho⟩
theorem own_nil0 {w : World} {b : Nat} {t : TypeId} {A : Option Addr} {n c : Nat} {l : List Value} (h : w.ownsRow b t 1 (.slice A n c) n l) : A = none → c = 0 := by
  intro hA
  subst hA
  rcases h.2 with ⟨e, _⟩ | ⟨g, cap, cur, e, _⟩
  · injection e with _ _ h3
  · injection e with h3 _ _
    cases h3
set_option maxHeartbeats 8000000 in
set_option maxRecDepth 100000 in
theorem within10 (A : Option Addr) (n c : Nat) (v : List Nd) (p : Nat) (r : List Nd) (w : World) (hr : RdB NdS w A v) (hn : v.length = n) (hl : n ≤ 1000000) (hp : p < n) (hrr : restD 12 (v.drop p) = some r) :
    Calls Tryz.prog 43 #[.slice A n c, .int .i64 p] w (IntsTo (under v p) w) := by
  have hpv : p < v.length := by omega
  obtain ⟨i0, hi, hz0, hz1, hz2⟩ := info_parts infoZ
  have QI := Lib.hid hi
  have QZ0 := Lib.hid hz0
  have QZ1 := Lib.hid hz1
  have QZ2 := Lib.hid hz2
  obtain ⟨b0, off, x, y, t, A1, c1, hA, hbB, hin, q0, q1, q2, q3, q4, q5⟩ := nd_at hr hpv
  have hr' := hrr
  rw [List.drop_eq_getElem_cons hpv] at hr'
  obtain ⟨hok, hm0, bb, hk0⟩ := restD_ok hr'
  have hk := kidsD_le (e := 12) (by omega) hk0
  clear hk0
  have hlen := kidsD_len hk
  rw [List.length_drop] at hlen
  have hU : under v p = places (restD 12) (v[p]'hpv).many.toNat (p + 1) (v.drop (p + 1)) := by unfold under; rw [List.getElem?_eq_getElem hpv]
  obtain ⟨mm, hmm⟩ : ∃ mm, (v[p]'hpv).many = mm := ⟨_, rfl⟩
  rw [hmm] at q5 hm0 hk hlen hU
  have HRB := Lib.hid hr
  have HBB := Lib.hid hbB
  obtain ⟨m, hm⟩ : ∃ m : Nat, mm = (m : Int) := ⟨mm.toNat, by omega⟩
  subst hm
  rw [Int.toNat_natCast] at hk hU
  have HK := Lib.hid hk
  have HU := Lib.hid hU
  have bm : (m : Int) ≤ 1000000 := by omega
  have bp : (0 : Int) ≤ (p : Int) ∧ (p : Int) < (n : Int) := by omega
  have bv : (n : Int) ≤ 1000000 := by omega
  have HLN := Lib.hid hn
  have HL := Lib.hid hl
  have HMN : Hid (m ≤ n ∧ p < v.length) := Lib.hid (by omega)
  subst hA
  clear q0 q1 q2 q3 q4 hl hin hr hr' hok hk hlen hmm hp hn hm0 hU hrr hi hz0 hz1 hz2 hpv hbB
  go_enter Tryz.func43, Tryz.ntmps43
  go_wp2_with fail
  go_loopg [5, 6, 14] m (fun gg x5 x6 i wr => ∃ (j : Nat) (b : Bool) (p' : Nat) (l : List Nat), j + gg = m ∧ i = .int .i64 j ∧ x6 = .int .i64 p' ∧ wr.ownsRow w.heap.size 3 1 x5 l.length ((zs l).map encZ) ∧ l = places (restD 12) j (p + 1) (v.drop (p + 1)) ∧ l.length = j ∧ kidsD (restD 12) j false (v.drop (p + 1)) = some (b, v.drop p') ∧ p' ≤ n ∧ Below w.heap.size w wr)
  case atStart => exact ⟨0, false, p + 1, [], by omega, rfl, by go_num, World.ownsRow_nil _ _ _ _, by rw [places], rfl, by rw [kidsD], by have := HMN.out; have := HLN.out; omega, Below.refl _ _⟩
  case round =>
    obtain ⟨j, b, p', l, hjg, rfl, rfl, hown, hpl, hlj, hkd, hpn, hbw⟩ := hrel
    have bp2 : (0 : Int) ≤ (p' : Int) ∧ (p' : Int) ≤ (n : Int) := by omega
    have HO := Lib.hid hown
    have HBW := Lib.hid hbw
    by_cases hlt : j < m
    · have hlt2 : (j : Int) < (m : Int) := by omega
      obtain ⟨hp2, r2, h1, h2, h3⟩ := kids_more HK.out hkd hlt
      obtain ⟨p3, hp3⟩ : ∃ p3, v.length - r2.length = p3 := ⟨_, rfl⟩
      have hp3n : n - r2.length = p3 := by rw [← HLN.out]; exact hp3
      have hnx := places_next (restD_loc 12) j (p + 1) false b _ _ hkd
      rw [← hpl, List.length_drop, List.length_drop, show p + 1 + (v.length - (p + 1) - (v.length - p')) = p' by
        have := kidsD_len hkd
        rw [List.length_drop, List.length_drop] at this
        have := HMN.out
        omega] at hnx
      have HNX := Lib.hid hnx.symm
      have HLJ := Lib.hid hlj
      have hsw := hbw.size
      have HC : Hid (∀ W, Below w.heap.size w W → Calls Tryz.prog 47 #[.slice (some ⟨b0, off, none⟩) n c, .int .i64 p'] W fun e w' => e = .returned (.int .i64 p3) ∧ Below W.heap.size W w') := Lib.hid fun W hW => behind10 _ n c v p' 12 r2 W (HRB.out.on hW) HLN.out HL.out (by have := HLN.out; omega) h1 p3 hp3n
      rw [hp3] at h2
      have H2 := Lib.hid h2
      have HP3 : Hid (p3 ≤ n ∧ l.length ≤ 1000000) := Lib.hid (by have := HLN.out; omega)
      clear hkd h1 h2 h3 hp3 hp3n hown hbw hnx hpl hlj
      go_wp2_with (first
        | (at_builtin; refine wpList_append_rdg encZ_one rfl (.tmp 16) (.tmp 18) 27 rfl w.heap.size 3 i0 (.int .i64 0) 8 Tryz.underlying27 QI.out QZ0.out QZ1.out QZ2.out (by decide) rfl _ l.length _ rfl (own_below HO.out (stpA (Below.refl wr.heap.size wr) (.cells #[.int .i64 p'] 3)) (Nat.le_refl _)) (wr.heap.size + 1) (some ⟨wr.heap.size, 0, none⟩) 1 1 [(p' : Int)] rfl (RdG.new (enc := encZ) wr 3 [(p' : Int)]) rfl (fun h => by cases h) (by have := HP3.out; omega) (by rw [World.size_alloc]; omega) ?_; intro v4 w4 hown4 hgr4; have HO4 := Lib.hid hown4; have HB4 : Hid (Below w.heap.size w w4) := Lib.hid ((HBW.out.alloc (by omega) _).grown hgr4 (by rw [World.size_alloc]; omega) (fun g hg => (HO.out.lt g hg).1)); clear hown4 hgr4)
        | (go_at_call 47; (with_reducible refine (HC.out _ HB4.out).mono ?_); rintro e2 w2 ⟨rfl, hb2⟩)
        | fail)
      have hb9 := stp HB4.out hb2
      have HO9 := own_below HO4.out hb2 (Nat.le_refl _)
      go_roundg (gk - 1)
      case measure => omega
      case rel =>
        refine ⟨j + 1, _, p3, l ++ [p'], by omega, by go_num, rfl, ?_, HNX.out, by rw [List.length_append, HLJ.out]; rfl, H2.out, HP3.out.1, hb9⟩
        rw [List.length_append, zs_append, List.map_append]
        exact HO9
    · obtain rfl : j = m := by omega
      have hjj : ¬ ((j : Int) < (j : Int)) := by omega
      obtain ⟨A', c', rfl⟩ := own_form hown
      have HRD := Lib.hid (RdG.of_own hown).1
      have HZN := Lib.hid (own_nil0 hown)
      have HOW := Lib.hid hown
      have HPL := Lib.hid hpl
      clear hkd hown hbw hpl hlj
      go_wp2_with fail
      go_ret
      rw [HU.out, ← HPL.out]
      exact IntsTo.mk HBW.out rfl HZN.out HRD.out HOW.out
end Hx
end Go.Proofs.YtbjgfaflikgobaaGreatDoor
namespace Go.Proofs.YtbjgfaflikgobaaGreatDoor
open Go.RowKit
namespace Hx
open Lx Tr Tx Nmb Es
set_option linter.unusedVariables false
/-- What Kids answers. -/
def kidsR (v : List Nd) (i : Int) : List Nat := if askedR v i = 0 then under v i.toNat else []
def KidsTo (l : List Nat) (q : Int) (w : World) (e : Ending) (w' : World) : Prop := Below w.heap.size w w' ∧ ∃ A c, e = .returned (.tuple #[.slice A l.length c, .int .i64 q]) ∧ (A = none → c = 0) ∧ RdZ w' w'.heap.size A (zs l)
theorem asked_zero {v : List Nd} {i : Int} (h : askedR v i = 0) : mayV v = true ∧ 0 ≤ i ∧ i < (v.length : Int) := by
  unfold askedR at h
  by_cases hm : mayV v = true
  · rw [if_pos hm] at h
    by_cases hi : i < 0 ∨ (v.length : Int) ≤ i
    · rw [if_pos hi] at h; cases h
    · exact ⟨hm, by omega, by omega⟩
  · rw [if_neg hm] at h; cases h
theorem asked_vals (v : List Nd) (i : Int) : askedR v i = 0 ∨ askedR v i = 2 ∨ askedR v i = 8 := by
  unfold askedR
  by_cases hm : mayV v = true
  · rw [if_pos hm]
    by_cases hi : i < 0 ∨ (v.length : Int) ≤ i
    · rw [if_pos hi]; exact .inr (.inl rfl)
    · rw [if_neg hi]; exact .inl rfl
  · rw [if_neg hm]; exact .inr (.inr rfl)
theorem int_nat {i : Int} (h : 0 ≤ i) : ∃ p : Nat, i = (p : Int) := ⟨i.toNat, by omega⟩
set_option maxHeartbeats 8000000 in
set_option maxRecDepth 100000 in
theorem kids10 (A : Option Addr) (n c : Nat) (v : List Nd) (i : Int) (w : World) (hr : RdB NdS w A v) (hn : v.length = n) (hmax : n ≤ 9223372036854775807) (hsm : n ≤ 512 → ∀ m ∈ v, SmallN m) (q : Int) (hq : askedR v i = q) (l : List Nat) (hl : kidsR v i = l) :
    Calls Tryz.prog 14 #[.slice A n c, .int .i64 i] w (KidsTo l q w) := by
  have HC := Lib.hid (place10 A n c v i w hr hn hmax hsm q hq)
  by_cases h0 : q = 0
  · subst h0
    obtain ⟨hm, h1, h2⟩ := asked_zero hq
    have h5 := (mayV_iff.1 hm).1
    obtain ⟨p, rfl⟩ := int_nat h1
    obtain ⟨r, hrr⟩ := mayV_at hm (i := p) (by omega)
    have hu : under v p = l := by rw [← hl]; unfold kidsR; rw [if_pos hq, Int.toNat_natCast]
    have HW : Hid (∀ W, Below w.heap.size w W → Calls Tryz.prog 43 #[.slice A n c, .int .i64 p] W (IntsTo l W)) := Lib.hid fun W hW => by
      rw [← hu]
      exact within10 A n c v p r W (hr.on hW) hn (by omega) (by omega) hrr
    clear hr hn hmax hsm hq hl hm h1 h2 h5 hrr hu
    go_enter Tryz.func14, Tryz.ntmps14
    go_wp2_with (first
      | (go_at_call 42; (with_reducible refine (HC.out).mono ?_); rintro e1 w1 ⟨rfl, hb1⟩; have HB1 := Lib.hid hb1; clear hb1)
      | (go_at_call 43; (with_reducible refine (HW.out _ HB1.out).mono ?_); rintro e2 w2 ⟨hb2, A2, c2, rfl, hz2, hr2, -⟩; have HB2 := Lib.hid hb2; have HZ2 := Lib.hid hz2; have HR2 := Lib.hid hr2; clear hb2 hz2 hr2)
      | fail)
    go_ret2
    exact ⟨stp HB1.out HB2.out, A2, c2, rfl, HZ2.out, HR2.out⟩
  · obtain rfl : l = [] := by rw [← hl]; unfold kidsR; rw [if_neg (by omega)]
    have hv := asked_vals v i
    have hq2 : q = 2 ∨ q = 8 := by omega
    clear hr hn hmax hsm hq hl hv
    rcases hq2 with rfl | rfl
    all_goals
      go_enter Tryz.func14, Tryz.ntmps14
      go_wp2_with (first
        | (go_at_call 42; (with_reducible refine (HC.out).mono ?_); rintro e1 w1 ⟨rfl, hb1⟩; have HB1 := Lib.hid hb1; clear hb1)
        | fail)
      go_ret2
      exact ⟨HB1.out, none, 0, rfl, fun _ => rfl, RdG.nil _ _ _⟩
end Hx
end Go.Proofs.YtbjgfaflikgobaaGreatDoor
