/-
  Texts of one seat, put together: TreD.
-/
import Derived.Test.YtbjgfaflikgobaaGreatDoorH28
namespace Go.Proofs.YtbjgfaflikgobaaGreatDoor
open Go.RowKit
namespace Hx
open Lx Tr Tx Nmb Es
set_option linter.unusedVariables false
/-- The boxes of may. -/
theorem nx_made {w : World} {A : Option Addr} {c : Nat} {v : List Nd} (hr : RdB NdS w A v) :
    Nx w.heap.size (w.heap.size + 1) w.heap.size (w.heap.size + 1 + 1) A c v 0 (((w.alloc (.cells #[.slice A v.length c] 24)).alloc (.cells #[.int .i64 0] 3)).alloc (.cells #[mayF (w.heap.size + 1) w.heap.size (w.heap.size + 1 + 1)] 117)) := by
  have h0 := heap_alloc_new w (.cells #[.slice A v.length c] 24)
  have h1 := heap_alloc_new (w.alloc (.cells #[.slice A v.length c] 24)) (.cells #[.int .i64 0] 3)
  rw [World.size_alloc] at h1
  have h2 := heap_alloc_new ((w.alloc (.cells #[.slice A v.length c] 24)).alloc (.cells #[.int .i64 0] 3)) (.cells #[mayF (w.heap.size + 1) w.heap.size (w.heap.size + 1 + 1)] 117)
  rw [World.size_alloc, World.size_alloc] at h2
  refine ⟨kept_heap h1 (stpA (Below.refl _ _) _), kept_heap (kept_heap h0 (stpA (Below.refl _ _) _)) (stpA (Below.refl _ _) _), h2, ?_, by omega, by omega, by omega⟩
  exact hr.keep (fun _ hb => hb) fun b o hb => (stpA (stpA (stpA (Below.refl w.heap.size w) _) _) _).cell (p := ⟨b, o, none⟩) hb
set_option maxHeartbeats 8000000 in
set_option maxRecDepth 100000 in
theorem may_none (A : Option Addr) (c : Nat) (w : World) : Calls Tryz.prog 48 #[.slice A 0 c] w fun e w' => e = .returned (.bool false) ∧ Below w.heap.size w w' := by
  go_enter Tryz.func48, Tryz.ntmps48
  go_wp2_with fail
  go_ret
  exact ⟨rfl, (Below.refl _ _).alloc (Nat.le_refl _) _⟩
set_option maxHeartbeats 8000000 in
set_option maxRecDepth 100000 in
theorem may_many (A : Option Addr) (n c : Nat) (w : World) (hn : 512 < n) : Calls Tryz.prog 48 #[.slice A n c] w fun e w' => e = .returned (.bool false) ∧ Below w.heap.size w w' := by
  have f0 : ((n : Int) == 0) = false := by simp; omega
  have f1 : decide ((512 : Int) < (n : Int)) = true := decide_eq_true (by omega)
  go_enter Tryz.func48, Tryz.ntmps48
  go_wp2_with fail
  go_ret
  exact ⟨rfl, (Below.refl _ _).alloc (Nat.le_refl _) _⟩
set_option maxHeartbeats 8000000 in
set_option maxRecDepth 100000 in
theorem may_text (A : Option Addr) (n c : Nat) (v : List Nd) (w : World) (hr : RdB NdS w A v) (hn : v.length = n) (h0 : 0 < n) (h5 : n ≤ 512) (hk : (v[0]'(by omega)).kind ≠ 1) : Calls Tryz.prog 48 #[.slice A n c] w fun e w' => e = .returned (.bool false) ∧ Below w.heap.size w w' := by
  obtain ⟨b0, off, x, y, t, A1, c1, hA, hbB, hin, q0, -⟩ := nd_at hr (k := 0) (by omega)
  have f0 : ((n : Int) == 0) = false := by simp; omega
  have f1 : decide ((512 : Int) < (n : Int)) = false := decide_eq_false (by omega)
  have bn : (0 : Int) < (n : Int) ∧ (n : Int) ≤ 512 := by omega
  rw [Nat.zero_mul, Nat.add_zero] at q0
  obtain ⟨kd, hkd⟩ : ∃ kd, (v[0]'(by omega)).kind = kd := ⟨_, rfl⟩
  rw [hkd] at q0
  have f2 : ((kd : Int) != 1) = true := by simp; omega
  have f3 : ((kd : Int) == 1) = false := by simp; omega
  subst hA
  clear hr hn hin hk hkd
  go_enter Tryz.func48, Tryz.ntmps48
  go_wp2_with fail
  go_ret
  exact ⟨rfl, (Below.refl _ _).alloc (Nat.le_refl _) _⟩
set_option maxHeartbeats 8000000 in
set_option maxRecDepth 100000 in
theorem may_yes (A : Option Addr) (n c : Nat) (v : List Nd) (w : World) (hr : RdB NdS w A v) (hn : v.length = n) (hsm : ∀ n ∈ v, SmallN n) (h0 : 0 < n) (h5 : n ≤ 512) (hk : (v[0]'(by omega)).kind = 1) (r : List Nd) (hrr : restD 12 v = some r) (q : Bool) (hq : mayV v = q) : Calls Tryz.prog 48 #[.slice A n c] w fun e w' => e = .returned (.bool q) ∧ Below w.heap.size w w' := by
  have hmf : ∀ (fn : Fn) (first cap : Array Value) (w : World), (Instr.makeFunc fn first cap).run Tryz.prog w = .ok (.func fn first cap) w := fun _ _ _ _ => rfl
  obtain ⟨b0, off, x, y, t, A1, c1, hA, hbB, hin, q0, -⟩ := nd_at hr (k := 0) (by omega)
  have f0 : ((n : Int) == 0) = false := by simp; omega
  have f1 : decide ((512 : Int) < (n : Int)) = false := decide_eq_false (by omega)
  have bn : (0 : Int) < (n : Int) ∧ (n : Int) ≤ 512 := by omega
  rw [Nat.zero_mul, Nat.add_zero] at q0
  rw [hk] at q0
  rw [show ((1 : Nat) : Int) = 1 from rfl] at q0
  have hnx := nx_made (c := c) hr
  have hcall := may_all w.heap.size (w.heap.size + 1) w.heap.size (w.heap.size + 1 + 1) A c v (by omega) hsm 12 (by omega) 1 0 _ (by omega) (by omega) hnx
  have HBB : Hid (Below w.heap.size w (((w.alloc (.cells #[.slice A v.length c] 24)).alloc (.cells #[.int .i64 0] 3)).alloc (.cells #[mayF (w.heap.size + 1) w.heap.size (w.heap.size + 1 + 1)] 117))) := Lib.hid (stpA (stpA (stpA (Below.refl _ _) _) _) _)
  have hans := hcall.mono fun e w' h => (h.some (r := r) (by rw [List.drop_zero]; exact hrr))
  have hrl := restD_len hrr
  have HQ : Hid ((((v.length - r.length : Nat) : Int) == (n : Int)) = q) := Lib.hid (by
    rw [← hq, mayV_one (by omega) ⟨v[0]'(by omega), v.drop 1, by rw [← List.drop_eq_getElem_cons (by omega), List.drop_zero], hk⟩, hrr, ← hn, Bool.eq_iff_iff]
    simp
    constructor
    · intro h; exact List.eq_nil_of_length_eq_zero (by omega)
    · intro h; rw [h]; simp)
  have HV : Hid (∀ w', ((((w.alloc (.cells #[.slice A v.length c] 24)).alloc (.cells #[.int .i64 0] 3)).alloc (.cells #[mayF (w.heap.size + 1) w.heap.size (w.heap.size + 1 + 1)] 117))).grownBy w' (some (w.heap.size + 1)) → w'.heap[w.heap.size]? = some (.cells #[.slice A v.length c] 24 (0, 0))) := Lib.hid fun w' hg => (hg.block w.heap.size (lt_of_block hnx.hv) (fun e => by injection e with e; omega)).trans hnx.hv
  obtain ⟨p9, hp9⟩ : ∃ p9, v.length - r.length = p9 := ⟨_, rfl⟩
  rw [hp9] at hans HQ
  rw [hn] at hans HBB HV
  unfold mayF at hans HBB HV
  have HA := Lib.hid hans
  subst hA
  obtain ⟨q2, hq2⟩ : ∃ q2, ((p9 : Int) == (n : Int)) = q2 := ⟨_, rfl⟩
  rw [hq2] at HQ
  clear hr hn hsm hin hnx hcall hk hrr hq hans hrl hp9
  go_enter Tryz.func48, Tryz.ntmps48
  go_wp2_with (first
    | (go_at_call 85; (with_reducible refine (HA.out).mono ?_); rintro e2 w2 ⟨rfl, hg2, hn2⟩; have kn := cell_of_one hn2; have kv := cell_of_one (HV.out w2 hg2))
    | fail)
  go_ret
  exact ⟨ret_b HQ.out, HBB.out.trans (below_grown hg2 (by omega) (by simp))⟩
set_option maxHeartbeats 8000000 in
set_option maxRecDepth 100000 in
theorem may_none2 (A : Option Addr) (n c : Nat) (v : List Nd) (w : World) (hr : RdB NdS w A v) (hn : v.length = n) (hsm : ∀ n ∈ v, SmallN n) (h0 : 0 < n) (h5 : n ≤ 512) (hk : (v[0]'(by omega)).kind = 1) (hrr : restD 12 v = none) (q : Bool) (hq : mayV v = q) : Calls Tryz.prog 48 #[.slice A n c] w fun e w' => e = .returned (.bool q) ∧ Below w.heap.size w w' := by
  have hmf : ∀ (fn : Fn) (first cap : Array Value) (w : World), (Instr.makeFunc fn first cap).run Tryz.prog w = .ok (.func fn first cap) w := fun _ _ _ _ => rfl
  obtain ⟨b0, off, x, y, t, A1, c1, hA, hbB, hin, q0, -⟩ := nd_at hr (k := 0) (by omega)
  have f0 : ((n : Int) == 0) = false := by simp; omega
  have f1 : decide ((512 : Int) < (n : Int)) = false := decide_eq_false (by omega)
  have bn : (0 : Int) < (n : Int) ∧ (n : Int) ≤ 512 := by omega
  rw [Nat.zero_mul, Nat.add_zero] at q0
  rw [hk] at q0
  rw [show ((1 : Nat) : Int) = 1 from rfl] at q0
  have hnx := nx_made (c := c) hr
  have hcall := may_all w.heap.size (w.heap.size + 1) w.heap.size (w.heap.size + 1 + 1) A c v (by omega) hsm 12 (by omega) 1 0 _ (by omega) (by omega) hnx
  have HBB : Hid (Below w.heap.size w (((w.alloc (.cells #[.slice A v.length c] 24)).alloc (.cells #[.int .i64 0] 3)).alloc (.cells #[mayF (w.heap.size + 1) w.heap.size (w.heap.size + 1 + 1)] 117))) := Lib.hid (stpA (stpA (stpA (Below.refl _ _) _) _) _)
  have hans := hcall.mono fun e w' h => (h.none (by rw [List.drop_zero]; exact hrr))
  obtain rfl : false = q := by
    rw [← hq, mayV_one (by omega) ⟨v[0]'(by omega), v.drop 1, by rw [← List.drop_eq_getElem_cons (by omega), List.drop_zero], hk⟩, hrr]
    rfl
  rw [hn] at hans HBB
  unfold mayF at hans HBB
  have HA := Lib.hid hans
  subst hA
  clear hr hn hsm hin hnx hcall hk hrr hq hans
  go_enter Tryz.func48, Tryz.ntmps48
  go_wp2_with (first
    | (go_at_call 85; (with_reducible refine (HA.out).mono ?_); rintro e2 w2 ⟨rfl, hg2, p2, hn2⟩)
    | fail)
  go_ret
  exact ⟨rfl, HBB.out.trans (below_grown hg2 (by omega) (by simp))⟩
/-- May a tree be? -/
theorem may10 (A : Option Addr) (n c : Nat) (v : List Nd) (w : World) (hr : RdB NdS w A v) (hn : v.length = n) (hmax : n ≤ 9223372036854775807) (hsm : n ≤ 512 → ∀ m ∈ v, SmallN m) (q : Bool) (hq : mayV v = q) : Calls Tryz.prog 48 #[.slice A n c] w fun e w' => e = .returned (.bool q) ∧ Below w.heap.size w w' := by
  by_cases h0 : n = 0
  · subst h0
    have : v = [] := List.eq_nil_of_length_eq_zero hn
    subst this
    obtain rfl : false = q := by rw [← hq]; rfl
    exact may_none A c w
  · by_cases h5 : n ≤ 512
    · by_cases hk : (v[0]'(by omega)).kind = 1
      · cases hrr : restD 12 v with
        | none => exact may_none2 A n c v w hr hn (hsm h5) (by omega) h5 hk hrr q hq
        | some r => exact may_yes A n c v w hr hn (hsm h5) (by omega) h5 hk r hrr q hq
      · obtain rfl : false = q := by
          rw [← hq]
          refine (mayV_no ?_).symm
          rintro ⟨_, m, l, rfl, k⟩
          exact hk k
        exact may_text A n c v w hr hn (by omega) h5 hk
    · obtain rfl : false = q := by
        rw [← hq]
        exact (mayV_no fun h => h5 (by omega)).symm
      exact may_many A n c w (by omega)
set_option maxRecDepth 100000 in
theorem checkv (A : Option Addr) (n c : Nat) (v : List Nd) (w : World) (hr : RdB NdS w A v) (hn : v.length = n) (hmax : n ≤ 9223372036854775807) (hsm : n ≤ 512 → ∀ m ∈ v, SmallN m) (q : Int) (hq : checkV v = q) : Calls Tryz.prog 20 #[.slice A n c] w fun e w' => e = .returned (.int .i64 q) ∧ Below w.heap.size w w' := by
  unfold checkV at hq
  cases hm : mayV v with
  | true =>
    rw [hm, if_pos rfl] at hq
    subst hq
    have HC := Lib.hid (may10 A n c v w hr hn hmax hsm true hm)
    clear hr hn hmax hsm hm
    go_enter Tryz.func20, Tryz.ntmps20
    go_wp2_with (first
      | (go_at_call 48; (with_reducible refine (HC.out).mono ?_); rintro e1 w1 ⟨rfl, hb1⟩)
      | fail)
    go_ret
    exact ⟨rfl, hb1⟩
  | false =>
    rw [hm, if_neg (by decide)] at hq
    subst hq
    have HC := Lib.hid (may10 A n c v w hr hn hmax hsm false hm)
    clear hr hn hmax hsm hm
    go_enter Tryz.func20, Tryz.ntmps20
    go_wp2_with (first
      | (go_at_call 48; (with_reducible refine (HC.out).mono ?_); rintro e1 w1 ⟨rfl, hb1⟩)
      | fail)
    go_ret
    exact ⟨rfl, hb1⟩
end Hx
end Go.Proofs.YtbjgfaflikgobaaGreatDoor
