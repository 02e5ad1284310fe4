/-
  Texts of one seat, put together: TreD, TreI, TrhB, TrhA, TrhC, TrhD.
-/
import Derived.Test.YteobcohjikjalaaGreatDoorSp22
import Derived.Test.YteobcohjikjalaaGreatDoorSp17
import Derived.Test.YteobcohjikjalaaGreatDoorSp06
set_option linter.unusedSimpArgs false
namespace Go.Proofs.YteobcohjikjalaaGreatDoor
open Go.RowKit
namespace Hx
open Lx Tr Tx Nmb Es
set_option maxRecDepth 100000
set_option maxHeartbeats 16000000
set_option linter.unusedVariables false
theorem nx_made {w : World} {A : Option Addr} {c : Nat} {v : List Nd} (hr : RdB NdS w A v) :
    Nx w.heap.size (w.heap.size + 1) w.heap.size (w.heap.size + 1 + 1) A c v 0 (((w.alloc (.cells #[.slice A v.length c] 22)).alloc (.cells #[.int .i64 0] 3)).alloc (.cells #[mayF (w.heap.size + 1) w.heap.size (w.heap.size + 1 + 1)] 81)) := by
  have h0 := heap_alloc_new w (.cells #[.slice A v.length c] 22)
  have h1 := heap_alloc_new (w.alloc (.cells #[.slice A v.length c] 22)) (.cells #[.int .i64 0] 3)
  rw [World.size_alloc] at h1
  have h2 := heap_alloc_new ((w.alloc (.cells #[.slice A v.length c] 22)).alloc (.cells #[.int .i64 0] 3)) (.cells #[mayF (w.heap.size + 1) w.heap.size (w.heap.size + 1 + 1)] 81)
  rw [World.size_alloc, World.size_alloc] at h2
  refine ⟨kept_heap h1 (stpA (Below.refl _ _) _), kept_heap (kept_heap h0 (stpA (Below.refl _ _) _)) (stpA (Below.refl _ _) _), h2, ?_, by omega, by omega, by omega⟩
  exact hr.keep (fun _ hb => hb) fun b o hb => (stpA (stpA (stpA (Below.refl w.heap.size w) _) _) _).cell (p := ⟨b, o, none⟩) hb
theorem may_none (A : Option Addr) (c : Nat) (w : World) : Calls Tryz.prog 33 #[.slice A 0 c] w fun e w' => e = .returned (.bool false) ∧ Below w.heap.size w w' := by
  go_enter Tryz.func33, Tryz.ntmps33
  go_wp2_with fail
  go_ret
  exact ⟨rfl, (Below.refl _ _).alloc (Nat.le_refl _) _⟩
theorem may_many (A : Option Addr) (n c : Nat) (w : World) (hn : 512 < n) : Calls Tryz.prog 33 #[.slice A n c] w fun e w' => e = .returned (.bool false) ∧ Below w.heap.size w w' := by
  have f0 : ((n : Int) == 0) = false := by simp; omega
  have f1 : decide ((512 : Int) < (n : Int)) = true := decide_eq_true (by omega)
  go_enter Tryz.func33, Tryz.ntmps33
  go_wp2_with fail
  go_ret
  exact ⟨rfl, (Below.refl _ _).alloc (Nat.le_refl _) _⟩
theorem may_text (A : Option Addr) (n c : Nat) (v : List Nd) (w : World) (hr : RdB NdS w A v) (hn : v.length = n) (h0 : 0 < n) (h5 : n ≤ 512) (hk : (v[0]'(by omega)).kind ≠ 1) : Calls Tryz.prog 33 #[.slice A n c] w fun e w' => e = .returned (.bool false) ∧ Below w.heap.size w w' := by
  obtain ⟨b0, off, x, y, t, A1, c1, hA, hbB, hin, q0, -⟩ := nd_at hr (k := 0) (by omega)
  have f0 : ((n : Int) == 0) = false := by simp; omega
  have f1 : decide ((512 : Int) < (n : Int)) = false := decide_eq_false (by omega)
  have bn : (0 : Int) < (n : Int) ∧ (n : Int) ≤ 512 := by omega
  rw [Nat.zero_mul, Nat.add_zero] at q0
  obtain ⟨kd, hkd⟩ : ∃ kd, (v[0]'(by omega)).kind = kd := ⟨_, rfl⟩
  rw [hkd] at q0
  have f2 : ((kd : Int) != 1) = true := by simp; omega
  have f3 : ((kd : Int) == 1) = false := by simp; omega
  subst hA
  clear hr hn hin hk hkd
  go_enter Tryz.func33, Tryz.ntmps33
  go_wp2_with fail
  go_ret
  exact ⟨rfl, (Below.refl _ _).alloc (Nat.le_refl _) _⟩
theorem may_yes (A : Option Addr) (n c : Nat) (v : List Nd) (w : World) (hr : RdB NdS w A v) (hn : v.length = n) (hsm : ∀ n ∈ v, SmallN n) (h0 : 0 < n) (h5 : n ≤ 512) (hk : (v[0]'(by omega)).kind = 1) (r : List Nd) (hrr : restD 12 v = some r) (q : Bool) (hq : mayV v = q) : Calls Tryz.prog 33 #[.slice A n c] w fun e w' => e = .returned (.bool q) ∧ Below w.heap.size w w' := by
  have hmf : ∀ (fn : Fn) (first cap : Array Value) (w : World), (Instr.makeFunc fn first cap).run Tryz.prog w = .ok (.func fn first cap) w := fun _ _ _ _ => rfl
  obtain ⟨b0, off, x, y, t, A1, c1, hA, hbB, hin, q0, -⟩ := nd_at hr (k := 0) (by omega)
  have f0 : ((n : Int) == 0) = false := by simp; omega
  have f1 : decide ((512 : Int) < (n : Int)) = false := decide_eq_false (by omega)
  have bn : (0 : Int) < (n : Int) ∧ (n : Int) ≤ 512 := by omega
  rw [Nat.zero_mul, Nat.add_zero] at q0
  rw [hk] at q0
  rw [show ((1 : Nat) : Int) = 1 from rfl] at q0
  have hnx := nx_made (c := c) hr
  have hcall := may_all w.heap.size (w.heap.size + 1) w.heap.size (w.heap.size + 1 + 1) A c v (by omega) hsm 12 (by omega) 1 0 _ (by omega) (by omega) hnx
  have HBB : Hid (Below w.heap.size w (((w.alloc (.cells #[.slice A v.length c] 22)).alloc (.cells #[.int .i64 0] 3)).alloc (.cells #[mayF (w.heap.size + 1) w.heap.size (w.heap.size + 1 + 1)] 81))) := Lib.hid (stpA (stpA (stpA (Below.refl _ _) _) _) _)
  have hans := hcall.mono fun e w' h => (h.some (r := r) (by rw [List.drop_zero]; exact hrr))
  have hrl := restD_len hrr
  have HQ : Hid ((((v.length - r.length : Nat) : Int) == (n : Int)) = q) := Lib.hid (by
    rw [← hq, mayV_one (by omega) ⟨v[0]'(by omega), v.drop 1, by rw [← List.drop_eq_getElem_cons (by omega), List.drop_zero], hk⟩, hrr, ← hn, Bool.eq_iff_iff]
    simp
    constructor
    · intro h; exact List.eq_nil_of_length_eq_zero (by omega)
    · intro h; rw [h]; simp)
  have HV : Hid (∀ w', ((((w.alloc (.cells #[.slice A v.length c] 22)).alloc (.cells #[.int .i64 0] 3)).alloc (.cells #[mayF (w.heap.size + 1) w.heap.size (w.heap.size + 1 + 1)] 81))).grownBy w' (some (w.heap.size + 1)) → w'.heap[w.heap.size]? = some (.cells #[.slice A v.length c] 22 (0, 0))) := Lib.hid fun w' hg => (hg.block w.heap.size (lt_of_block hnx.hv) (fun e => by injection e with e; omega)).trans hnx.hv
  obtain ⟨p9, hp9⟩ : ∃ p9, v.length - r.length = p9 := ⟨_, rfl⟩
  rw [hp9] at hans HQ
  rw [hn] at hans HBB HV
  unfold mayF at hans HBB HV
  have HA := Lib.hid hans
  subst hA
  obtain ⟨q2, hq2⟩ : ∃ q2, ((p9 : Int) == (n : Int)) = q2 := ⟨_, rfl⟩
  rw [hq2] at HQ
  clear hr hn hsm hin hnx hcall hk hrr hq hans hrl hp9
  go_enter Tryz.func33, Tryz.ntmps33
  go_wp2_with (first
    | (go_at_call 56; (with_reducible refine (HA.out).mono ?_); rintro e2 w2 ⟨rfl, hg2, hn2⟩; have kn := cell_of_one hn2; have kv := cell_of_one (HV.out w2 hg2))
    | fail)
  go_ret
  exact ⟨ret_b HQ.out, HBB.out.trans (below_grown hg2 (by omega) (by simp))⟩
theorem may_none2 (A : Option Addr) (n c : Nat) (v : List Nd) (w : World) (hr : RdB NdS w A v) (hn : v.length = n) (hsm : ∀ n ∈ v, SmallN n) (h0 : 0 < n) (h5 : n ≤ 512) (hk : (v[0]'(by omega)).kind = 1) (hrr : restD 12 v = none) (q : Bool) (hq : mayV v = q) : Calls Tryz.prog 33 #[.slice A n c] w fun e w' => e = .returned (.bool q) ∧ Below w.heap.size w w' := by
  have hmf : ∀ (fn : Fn) (first cap : Array Value) (w : World), (Instr.makeFunc fn first cap).run Tryz.prog w = .ok (.func fn first cap) w := fun _ _ _ _ => rfl
  obtain ⟨b0, off, x, y, t, A1, c1, hA, hbB, hin, q0, -⟩ := nd_at hr (k := 0) (by omega)
  have f0 : ((n : Int) == 0) = false := by simp; omega
  have f1 : decide ((512 : Int) < (n : Int)) = false := decide_eq_false (by omega)
  have bn : (0 : Int) < (n : Int) ∧ (n : Int) ≤ 512 := by omega
  rw [Nat.zero_mul, Nat.add_zero] at q0
  rw [hk] at q0
  rw [show ((1 : Nat) : Int) = 1 from rfl] at q0
  have hnx := nx_made (c := c) hr
  have hcall := may_all w.heap.size (w.heap.size + 1) w.heap.size (w.heap.size + 1 + 1) A c v (by omega) hsm 12 (by omega) 1 0 _ (by omega) (by omega) hnx
  have HBB : Hid (Below w.heap.size w (((w.alloc (.cells #[.slice A v.length c] 22)).alloc (.cells #[.int .i64 0] 3)).alloc (.cells #[mayF (w.heap.size + 1) w.heap.size (w.heap.size + 1 + 1)] 81))) := Lib.hid (stpA (stpA (stpA (Below.refl _ _) _) _) _)
  have hans := hcall.mono fun e w' h => (h.none (by rw [List.drop_zero]; exact hrr))
  obtain rfl : false = q := by
    rw [← hq, mayV_one (by omega) ⟨v[0]'(by omega), v.drop 1, by rw [← List.drop_eq_getElem_cons (by omega), List.drop_zero], hk⟩, hrr]
    rfl
  rw [hn] at hans HBB
  unfold mayF at hans HBB
  have HA := Lib.hid hans
  subst hA
  clear hr hn hsm hin hnx hcall hk hrr hq hans
  go_enter Tryz.func33, Tryz.ntmps33
  go_wp2_with (first
    | (go_at_call 56; (with_reducible refine (HA.out).mono ?_); rintro e2 w2 ⟨rfl, hg2, p2, hn2⟩)
    | fail)
  go_ret
  exact ⟨rfl, HBB.out.trans (below_grown hg2 (by omega) (by simp))⟩
theorem may10 (A : Option Addr) (n c : Nat) (v : List Nd) (w : World) (hr : RdB NdS w A v) (hn : v.length = n) (hmax : n ≤ 9223372036854775807) (hsm : n ≤ 512 → ∀ m ∈ v, SmallN m) (q : Bool) (hq : mayV v = q) : Calls Tryz.prog 33 #[.slice A n c] w fun e w' => e = .returned (.bool q) ∧ Below w.heap.size w w' := by
  by_cases h0 : n = 0
  · subst h0
    have : v = [] := List.eq_nil_of_length_eq_zero hn
    subst this
    obtain rfl : false = q := by rw [← hq]; rfl
    exact may_none A c w
  · by_cases h5 : n ≤ 512
    · by_cases hk : (v[0]'(by omega)).kind = 1
      · cases hrr : restD 12 v with
        | none => exact may_none2 A n c v w hr hn (hsm h5) (by omega) h5 hk hrr q hq
        | some r => exact may_yes A n c v w hr hn (hsm h5) (by omega) h5 hk r hrr q hq
      · obtain rfl : false = q := by
          rw [← hq]
          refine (mayV_no ?_).symm
          rintro ⟨_, m, l, rfl, k⟩
          exact hk k
        exact may_text A n c v w hr hn (by omega) h5 hk
    · obtain rfl : false = q := by
        rw [← hq]
        exact (mayV_no fun h => h5 (by omega)).symm
      exact may_many A n c w (by omega)
theorem checkv (A : Option Addr) (n c : Nat) (v : List Nd) (w : World) (hr : RdB NdS w A v) (hn : v.length = n) (hmax : n ≤ 9223372036854775807) (hsm : n ≤ 512 → ∀ m ∈ v, SmallN m) (q : Int) (hq : checkV v = q) : Calls Tryz.prog 14 #[.slice A n c] w fun e w' => e = .returned (.int .i64 q) ∧ Below w.heap.size w w' := by
  unfold checkV at hq
  cases hm : mayV v with
  | true =>
    rw [hm, if_pos rfl] at hq
    subst hq
    have HC := Lib.hid (may10 A n c v w hr hn hmax hsm true hm)
    clear hr hn hmax hsm hm
    go_enter Tryz.func14, Tryz.ntmps14
    go_wp2_with (first
      | (go_at_call 33; (with_reducible refine (HC.out).mono ?_); rintro e1 w1 ⟨rfl, hb1⟩)
      | fail)
    go_ret
    exact ⟨rfl, hb1⟩
  | false =>
    rw [hm, if_neg (by decide)] at hq
    subst hq
    have HC := Lib.hid (may10 A n c v w hr hn hmax hsm false hm)
    clear hr hn hmax hsm hm
    go_enter Tryz.func14, Tryz.ntmps14
    go_wp2_with (first
      | (go_at_call 33; (with_reducible refine (HC.out).mono ?_); rintro e1 w1 ⟨rfl, hb1⟩)
      | fail)
    go_ret
    exact ⟨rfl, hb1⟩
def bhQ (v : List Nd) : Bool := bhZ v 12 0 == (v.length : Int)
theorem bhQ_eq {v : List Nd} (h : 0 < v.length) : bhQ v = decide (restD 12 v = some []) := by
  unfold bhQ bhZ
  rw [List.drop_zero]
  cases hr : restD 12 v with
  | none => rw [Bool.eq_iff_iff]; simp <;> omega
  | some r =>
    have hl := restD_len hr
    rw [Bool.eq_iff_iff]
    simp
    constructor
    · intro h; exact List.eq_nil_of_length_eq_zero (by omega)
    · intro h; rw [h]; simp
theorem rmay_none (A : Option Addr) (c : Nat) (w : World) : Calls Tryz.prog 22 #[.slice A 0 c] w fun e w' => e = .returned (.bool false) ∧ Below w.heap.size w w' := by
  go_enter Tryz.func22, Tryz.ntmps22
  go_wp2_with fail
  go_ret
  exact ⟨rfl, Below.refl _ _⟩
theorem rmay_many (A : Option Addr) (n c : Nat) (w : World) (hn : 512 < n) : Calls Tryz.prog 22 #[.slice A n c] w fun e w' => e = .returned (.bool false) ∧ Below w.heap.size w w' := by
  have f0 : decide ((0 : Int) < (n : Int)) = true := decide_eq_true (by omega)
  have f2 : decide (0 < n) = true := decide_eq_true (by omega)
  have f1 : decide ((n : Int) ≤ (512 : Int)) = false := decide_eq_false (by omega)
  go_enter Tryz.func22, Tryz.ntmps22
  go_wp2_with fail
  go_ret
  exact ⟨rfl, Below.refl _ _⟩
theorem rmay_text (A : Option Addr) (n c : Nat) (v : List Nd) (w : World) (hr : RdB NdS w A v) (hn : v.length = n) (h0 : 0 < n) (h5 : n ≤ 512) (hk : (v[0]'(by omega)).kind ≠ 1) : Calls Tryz.prog 22 #[.slice A n c] w fun e w' => e = .returned (.bool false) ∧ Below w.heap.size w w' := by
  obtain ⟨b0, off, x, y, t, A1, c1, hA, hbB, hin, q0, -⟩ := nd_at hr (k := 0) (by omega)
  have f0 : decide ((0 : Int) < (n : Int)) = true := decide_eq_true (by omega)
  have f2 : decide (0 < n) = true := decide_eq_true (by omega)
  have f1 : decide ((n : Int) ≤ (512 : Int)) = true := decide_eq_true (by omega)
  have bn : (0 : Int) < (n : Int) ∧ (n : Int) ≤ 512 := by omega
  rw [Nat.zero_mul, Nat.add_zero] at q0
  obtain ⟨kd, hkd⟩ : ∃ kd, (v[0]'(by omega)).kind = kd := ⟨_, rfl⟩
  rw [hkd] at q0
  have f3 : ((kd : Int) == 1) = false := by simp; omega
  subst hA
  clear hr hn hin hk hkd
  go_enter Tryz.func22, Tryz.ntmps22
  go_wp2_with fail
  go_ret
  exact ⟨rfl, Below.refl _ _⟩
theorem rmay_go (A : Option Addr) (n c : Nat) (v : List Nd) (w : World) (hr : RdB NdS w A v) (hn : v.length = n) (hsm : ∀ n ∈ v, SmallN n) (h0 : 0 < n) (h5 : n ≤ 512) (hk : (v[0]'(by omega)).kind = 1) (q : Bool) (hq : mayV v = q) : Calls Tryz.prog 22 #[.slice A n c] w fun e w' => e = .returned (.bool q) ∧ Below w.heap.size w w' := by
  obtain ⟨b0, off, x, y, t, A1, c1, hA, hbB, hin, q0, -⟩ := nd_at hr (k := 0) (by omega)
  have f0 : decide ((0 : Int) < (n : Int)) = true := decide_eq_true (by omega)
  have f2 : decide (0 < n) = true := decide_eq_true (by omega)
  have f1 : decide ((n : Int) ≤ (512 : Int)) = true := decide_eq_true (by omega)
  have bn : (0 : Int) < (n : Int) ∧ (n : Int) ≤ 512 := by omega
  rw [Nat.zero_mul, Nat.add_zero] at q0
  rw [hk] at q0
  rw [show ((1 : Nat) : Int) = 1 from rfl] at q0
  have hcall := rb_all A n c v hn h5 hsm 12 (by omega) 1 0 w (by omega) (by omega) hr
  obtain ⟨z, hz⟩ : ∃ z, bhZ v 12 0 = z := ⟨_, rfl⟩
  have HQ : Hid ((z == (n : Int)) = q) := Lib.hid (by
    rw [← hq, mayV_one (by omega) ⟨v[0]'(by omega), v.drop 1, by rw [← List.drop_eq_getElem_cons (by omega), List.drop_zero], hk⟩, ← bhQ_eq (by omega)]
    unfold bhQ
    rw [hz, hn])
  rw [hz, show ((0 : Nat) : Int) = 0 from rfl] at hcall
  have HC := Lib.hid hcall
  obtain ⟨q2, hq2⟩ : ∃ q2, (z == (n : Int)) = q2 := ⟨_, rfl⟩
  rw [hq2] at HQ
  subst hA
  clear hr hn hin hk hcall hz hq hsm
  go_enter Tryz.func22, Tryz.ntmps22
  go_wp2_with (first
    | (go_at_call 45; (with_reducible refine (HC.out).mono ?_); rintro e1 w1 ⟨rfl, hb1⟩)
    | fail)
  go_ret
  exact ⟨ret_b HQ.out, hb1⟩
theorem rmay10 (A : Option Addr) (n c : Nat) (v : List Nd) (w : World) (hr : RdB NdS w A v) (hn : v.length = n) (hmax : n ≤ 9223372036854775807) (hsm : n ≤ 512 → ∀ m ∈ v, SmallN m) (q : Bool) (hq : mayV v = q) : Calls Tryz.prog 22 #[.slice A n c] w fun e w' => e = .returned (.bool q) ∧ Below w.heap.size w w' := by
  by_cases h0 : n = 0
  · subst h0
    have : v = [] := List.eq_nil_of_length_eq_zero hn
    subst this
    obtain rfl : false = q := by rw [← hq]; rfl
    exact rmay_none A c w
  · by_cases h5 : n ≤ 512
    · by_cases hk : (v[0]'(by omega)).kind = 1
      · exact rmay_go A n c v w hr hn (hsm h5) (by omega) h5 hk q hq
      · obtain rfl : false = q := by
          rw [← hq]
          refine (mayV_no ?_).symm
          rintro ⟨_, m, l, rfl, k⟩
          exact hk k
        exact rmay_text A n c v w hr hn (by omega) h5 hk
    · obtain rfl : false = q := by
        rw [← hq]
        exact (mayV_no fun h => h5 (by omega)).symm
      exact rmay_many A n c w (by omega)
end Hx
end Go.Proofs.YteobcohjikjalaaGreatDoor
set_option linter.unusedSimpArgs false
namespace Go.Proofs.YteobcohjikjalaaGreatDoor
open Go.RowKit
namespace Hx
open Lx Tr Tx Nmb Es
set_option linter.unusedVariables false
theorem checkV_yes {v : List Nd} (h : mayV v = true) : checkV v = 0 := by unfold checkV; rw [if_pos h]
theorem checkV_no {v : List Nd} (h : mayV v = false) : checkV v = 8 := by unfold checkV; rw [h]; rfl
theorem kids_more {d j m : Nat} {b b0 : Bool} {l r0 : List Nd} {v : List Nd} {p' : Nat} (hall : kidsD (restD d) m false l = some (b0, r0)) (h : kidsD (restD d) j false l = some (b, v.drop p')) (hj : j < m) :
    ∃ (hp : p' < v.length) (r : List Nd), restD d (v.drop p') = some r ∧ kidsD (restD d) (j + 1) false l = some (decide ((v[p']'hp).kind = 2), v.drop (v.length - r.length)) ∧ r.length + p' < v.length := by
  obtain ⟨h1, h2⟩ := kids_next h hj
  by_cases hp : p' < v.length
  · obtain ⟨h3, h4, h5⟩ := h2 hp
    have hb : ¬ (b = true ∧ (v[p']'hp).kind = 2) := fun hb => by rw [h3 hb] at hall; cases hall
    cases hr : restD d (v.drop p') with
    | none => rw [h4 hr] at hall; cases hall
    | some r =>
      have hk := h5 r hb hr
      have hsuf := restD_drop hr
      have hlr := restD_len hr
      rw [List.length_drop] at hsuf hlr
      rw [List.drop_drop, show p' + (v.length - p' - r.length) = v.length - r.length by omega] at hsuf
      exact ⟨hp, r, rfl, by rw [hk, ← hsuf], by omega⟩
  · rw [h1 (by omega)] at hall; cases hall
end Hx
end Go.Proofs.YteobcohjikjalaaGreatDoor
set_option linter.unusedSimpArgs false
namespace Go.Proofs.YteobcohjikjalaaGreatDoor
open Go.RowKit
namespace Hx
open Lx Tr Tx Nmb Es
set_option maxRecDepth 100000
set_option maxHeartbeats 16000000
set_option linter.unusedVariables false
theorem places_next {g : List Nd → Option (List Nd)} (hg : Tr.Loc g) : ∀ (j p0 : Nat) (b0 b : Bool) (l m : List Nd), kidsD g j b0 l = some (b, m) → places g (j + 1) p0 l = places g j p0 l ++ [p0 + (l.length - m.length)] := by
  intro j
  induction j with
  | zero =>
    intro p0 b0 b l m h
    rw [kidsD] at h
    obtain ⟨rfl, rfl⟩ := (Prod.mk.injEq _ _ _ _).mp (Option.some.inj h)
    rw [places, places, Nat.sub_self]
    cases g l <;> rfl
  | succ j ih =>
    intro p0 b0 b l m h
    cases l with
    | nil => rw [kidsD] at h; cases h
    | cons n l =>
      rw [kidsD] at h
      by_cases hb : b0 = true ∧ n.kind = 2
      · rw [if_pos hb] at h; cases h
      · rw [if_neg hb] at h
        cases hn : g (n :: l) with
        | none => rw [hn] at h; cases h
        | some y =>
          rw [hn] at h
          obtain ⟨q, _, e1, _⟩ := hg _ _ hn
          obtain ⟨q2, e2, _, _⟩ := kidsD_loc hg _ _ _ _ _ h
          have l1 : y.length ≤ (n :: l).length := by rw [e1, List.length_append]; omega
          have l2 : m.length ≤ y.length := by rw [e2, List.length_append]; omega
          have h3 := ih (p0 + ((n :: l).length - y.length)) _ _ _ _ h
          rw [places, hn, places, hn]
          show p0 :: places g (j + 1) (p0 + ((n :: l).length - y.length)) y = p0 :: places g j (p0 + ((n :: l).length - y.length)) y ++ [p0 + ((n :: l).length - m.length)]
          rw [h3, List.cons_append, show p0 + ((n :: l).length - y.length) + (y.length - m.length) = p0 + ((n :: l).length - m.length) by omega]
def IntsTo (l : List Nat) (w : World) (e : Ending) (w' : World) : Prop := Below w.heap.size w w' ∧ ∃ A c, e = .returned (.slice A l.length c) ∧ (A = none → c = 0) ∧ RdZ w' w'.heap.size A (zs l) ∧ w'.ownsRow w.heap.size 3 1 (.slice A l.length c) l.length ((zs l).map encZ)
theorem IntsTo.mk {l : List Nat} {w w' : World} {A : Option Addr} {n c : Nat} (hb : Below w.heap.size w w') (hn : l.length = n) (h0 : A = none → c = 0) (hr : RdZ w' w'.heap.size A (zs l)) (ho : w'.ownsRow w.heap.size 3 1 (.slice A n c) l.length ((zs l).map encZ)) : IntsTo l w (.returned (.slice A n c)) w' := ⟨hb, A, c, by rw [hn], h0, hr, by rw [hn]; rw [hn] at ho; exact ho⟩
theorem own_nil0 {w : World} {b : Nat} {t : TypeId} {A : Option Addr} {n c : Nat} {l : List Value} (h : w.ownsRow b t 1 (.slice A n c) n l) : A = none → c = 0 := by
  intro hA
  subst hA
  rcases h.2 with ⟨e, _⟩ | ⟨g, cap, cur, e, _⟩
  · injection e with _ _ h3
  · injection e with h3 _ _
    cases h3
theorem runder10 (A : Option Addr) (n c : Nat) (v : List Nd) (p : Nat) (r : List Nd) (w : World) (hr : RdB NdS w A v) (hn : v.length = n) (hl : n ≤ 512) (hsm : ∀ n ∈ v, SmallN n) (hp : p < n) (hrr : restD 12 (v.drop p) = some r) :
    Calls Tryz.prog 47 #[.slice A n c, .int .i64 p] w (IntsTo (under v p) w) := by
  have hpv : p < v.length := by omega
  obtain ⟨i0, hi, hz0, hz1, hz2⟩ := info_parts infoZ
  have QI := Lib.hid hi
  have QZ0 := Lib.hid hz0
  have QZ1 := Lib.hid hz1
  have QZ2 := Lib.hid hz2
  obtain ⟨b0, off, x, y, t, A1, c1, hA, hbB, hin, q0, q1, q2, q3, q4, q5⟩ := nd_at hr hpv
  have hr' := hrr
  rw [List.drop_eq_getElem_cons hpv] at hr'
  obtain ⟨hok, hm0, bb, hk0⟩ := restD_ok hr'
  have hk := kidsD_le (e := 12) (by omega) hk0
  clear hk0
  have hlen := kidsD_len hk
  rw [List.length_drop] at hlen
  have hU : under v p = places (restD 12) (v[p]'hpv).many.toNat (p + 1) (v.drop (p + 1)) := by unfold under; rw [List.getElem?_eq_getElem hpv]
  obtain ⟨mm, hmm⟩ : ∃ mm, (v[p]'hpv).many = mm := ⟨_, rfl⟩
  rw [hmm] at q5 hm0 hk hlen hU
  have HRB := Lib.hid hr
  have HBB := Lib.hid hbB
  obtain ⟨m, hm⟩ : ∃ m : Nat, mm = (m : Int) := ⟨mm.toNat, by omega⟩
  subst hm
  rw [Int.toNat_natCast] at hk hU
  have HK := Lib.hid hk
  have HU := Lib.hid hU
  have bm : (m : Int) ≤ 1000000 := by omega
  have bp : (0 : Int) ≤ (p : Int) ∧ (p : Int) < (n : Int) := by omega
  have bv : (n : Int) ≤ 1000000 := by omega
  have HLN := Lib.hid hn
  have HL := Lib.hid hl
  have HSM := Lib.hid hsm
  have HMN : Hid (m ≤ n ∧ p < v.length) := Lib.hid (by omega)
  subst hA
  clear q0 q1 q2 q3 q4 hl hin hr hr' hok hk hlen hmm hp hn hm0 hU hrr hi hz0 hz1 hz2 hpv hbB hsm
  go_enter Tryz.func47, Tryz.ntmps47
  go_wp2_with fail
  go_loopg [5, 6, 7] m (fun gg x5 x6 i wr => ∃ (j : Nat) (b : Bool) (p' : Nat) (l : List Nat), j + gg = m ∧ i = .int .i64 j ∧ x6 = .int .i64 p' ∧ wr.ownsRow w.heap.size 3 1 x5 l.length ((zs l).map encZ) ∧ l = places (restD 12) j (p + 1) (v.drop (p + 1)) ∧ l.length = j ∧ kidsD (restD 12) j false (v.drop (p + 1)) = some (b, v.drop p') ∧ p' ≤ n ∧ Below w.heap.size w wr)
  case atStart => exact ⟨0, false, p + 1, [], by omega, rfl, by go_num, World.ownsRow_nil _ _ _ _, by rw [places], rfl, by rw [kidsD], by have := HMN.out; have := HLN.out; omega, Below.refl _ _⟩
  case round =>
    obtain ⟨j, b, p', l, hjg, rfl, rfl, hown, hpl, hlj, hkd, hpn, hbw⟩ := hrel
    have bp2 : (0 : Int) ≤ (p' : Int) ∧ (p' : Int) ≤ (n : Int) := by omega
    have HO := Lib.hid hown
    have HBW := Lib.hid hbw
    have r5 := (hbw.cell (p := ⟨b0, _, none⟩) HBB.out).trans q5
    by_cases hlt : j < m
    · have hlt2 : (j : Int) < (m : Int) := by omega
      obtain ⟨hp2, r2, h1, h2, h3⟩ := kids_more HK.out hkd hlt
      obtain ⟨p3, hp3⟩ : ∃ p3, v.length - r2.length = p3 := ⟨_, rfl⟩
      have hnx := places_next (restD_loc 12) j (p + 1) false b _ _ hkd
      rw [← hpl, List.length_drop, List.length_drop, show p + 1 + (v.length - (p + 1) - (v.length - p')) = p' by
        have := kidsD_len hkd
        rw [List.length_drop, List.length_drop] at this
        have := HMN.out
        omega] at hnx
      have HNX := Lib.hid hnx.symm
      have HLJ := Lib.hid hlj
      have hsw := hbw.size
      have hbh : bhZ v 12 p' = (p3 : Int) := by rw [bhZ_some h1, hp3]
      have HC : Hid (∀ W, Below w.heap.size w W → Calls Tryz.prog 45 #[.slice (some ⟨b0, off, none⟩) n c, .int .i64 p', .int .i64 1] W fun e w' => e = .returned (.int .i64 p3) ∧ Below W.heap.size W w') := Lib.hid fun W hW => by
        have := rb_all (some ⟨b0, off, none⟩) n c v HLN.out HL.out HSM.out 12 (by omega) 1 p' W (by omega) (by omega) (HRB.out.on hW)
        rw [hbh] at this
        exact this
      rw [hp3] at h2
      have H2 := Lib.hid h2
      have HP3 : Hid (p3 ≤ n ∧ l.length ≤ 1000000) := Lib.hid (by have := HLN.out; omega)
      clear hkd h1 h2 h3 hp3 hbh hown hbw hnx hpl hlj
      go_wp2_with (first
        | (at_builtin; refine wpList_append_rdg encZ_one rfl (.tmp 19) (.tmp 21) 73 rfl w.heap.size 3 i0 (.int .i64 0) 8 Tryz.underlying73 QI.out QZ0.out QZ1.out QZ2.out (by decide) rfl _ l.length _ rfl (own_below HO.out (stpA (Below.refl wr.heap.size wr) (.cells #[.int .i64 p'] 3)) (Nat.le_refl _)) (wr.heap.size + 1) (some ⟨wr.heap.size, 0, none⟩) 1 1 [(p' : Int)] rfl (RdG.new (enc := encZ) wr 3 [(p' : Int)]) rfl (fun h => by cases h) (by have := HP3.out; omega) (by rw [World.size_alloc]; omega) ?_; intro v4 w4 hown4 hgr4; have HO4 := Lib.hid hown4; have HB4 : Hid (Below w.heap.size w w4) := Lib.hid ((HBW.out.alloc (by omega) _).grown hgr4 (by rw [World.size_alloc]; omega) (fun g hg => (HO.out.lt g hg).1)); clear hown4 hgr4)
        | (go_at_call 45; (with_reducible refine (HC.out _ HB4.out).mono ?_); rintro e2 w2 ⟨rfl, hb2⟩)
        | fail)
      have hb9 := stp HB4.out hb2
      have HO9 := own_below HO4.out hb2 (Nat.le_refl _)
      go_roundg (gk - 1)
      case measure => omega
      case rel =>
        refine ⟨j + 1, _, p3, l ++ [p'], by omega, by go_num, rfl, ?_, HNX.out, by rw [List.length_append, HLJ.out]; rfl, H2.out, HP3.out.1, hb9⟩
        rw [List.length_append, zs_append, List.map_append]
        exact HO9
    · obtain rfl : j = m := by omega
      have hjj : ¬ ((j : Int) < (j : Int)) := by omega
      obtain ⟨A', c', rfl⟩ := own_form hown
      have HRD := Lib.hid (RdG.of_own hown).1
      have HZN := Lib.hid (own_nil0 hown)
      have HOW := Lib.hid hown
      have HPL := Lib.hid hpl
      clear hkd hown hbw hpl hlj
      go_wp2_with fail
      go_ret
      rw [HU.out, ← HPL.out]
      exact IntsTo.mk HBW.out rfl HZN.out HRD.out HOW.out
end Hx
end Go.Proofs.YteobcohjikjalaaGreatDoor
set_option linter.unusedSimpArgs false
namespace Go.Proofs.YteobcohjikjalaaGreatDoor
open Go.RowKit
namespace Hx
open Lx Tr Tx Nmb Es
set_option linter.unusedVariables false
end Hx
end Go.Proofs.YteobcohjikjalaaGreatDoor
