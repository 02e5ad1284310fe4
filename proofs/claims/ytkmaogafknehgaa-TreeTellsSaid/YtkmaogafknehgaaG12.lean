/-
  Texts of one seat, put together: TreD, TreE.
-/
import Derived.Test.YtkmaogafknehgaaG11
import Derived.Test.YtkmaogafknehgaaG02
import Derived.Test.YtkmaogafknehgaaG06
import Derived.Test.YtkmaogafknehgaaG07
import Derived.Deep.QuietTactic
import Derived.BigQuiet
namespace Go.Proofs.Ytkmaogafknehgaa
open Go.RowKit
namespace Hx
open Lx Tr Tx Nmb Es
set_option linter.unusedVariables false
/-- The boxes of may. -/
theorem nx_made {w : World} {A : Option Addr} {c : Nat} {v : List Nd} (hr : RdB NdS w A v) :
    Nx w.heap.size (w.heap.size + 1) w.heap.size (w.heap.size + 1 + 1) A c v 0 (((w.alloc (.cells #[.slice A v.length c] 22)).alloc (.cells #[.int .i64 0] 3)).alloc (.cells #[mayF (w.heap.size + 1) w.heap.size (w.heap.size + 1 + 1)] 89)) := by
  have h0 := heap_alloc_new w (.cells #[.slice A v.length c] 22)
  have h1 := heap_alloc_new (w.alloc (.cells #[.slice A v.length c] 22)) (.cells #[.int .i64 0] 3)
  rw [World.size_alloc] at h1
  have h2 := heap_alloc_new ((w.alloc (.cells #[.slice A v.length c] 22)).alloc (.cells #[.int .i64 0] 3)) (.cells #[mayF (w.heap.size + 1) w.heap.size (w.heap.size + 1 + 1)] 89)
  rw [World.size_alloc, World.size_alloc] at h2
  refine ⟨kept_heap h1 (stpA (Below.refl _ _) _), kept_heap (kept_heap h0 (stpA (Below.refl _ _) _)) (stpA (Below.refl _ _) _), h2, ?_, by omega, by omega, by omega⟩
  exact hr.keep (fun _ hb => hb) fun b o hb => (stpA (stpA (stpA (Below.refl w.heap.size w) _) _) _).cell (p := ⟨b, o, none⟩) hb
set_option maxHeartbeats 8000000 in
set_option maxRecDepth 100000 in
theorem may_none (A : Option Addr) (c : Nat) (w : World) : Calls Try.prog 41 #[.slice A 0 c] w fun e w' => e = .returned (.bool false) ∧ Below w.heap.size w w' := by
  go_enter Try.func41, Try.ntmps41
  go_wp2_with fail
  go_ret
  exact ⟨rfl, (Below.refl _ _).alloc (Nat.le_refl _) _⟩
set_option maxHeartbeats 8000000 in
set_option maxRecDepth 100000 in
theorem may_many (A : Option Addr) (n c : Nat) (w : World) (hn : 512 < n) : Calls Try.prog 41 #[.slice A n c] w fun e w' => e = .returned (.bool false) ∧ Below w.heap.size w w' := by
  have f0 : ((n : Int) == 0) = false := by simp; omega
  have f1 : decide ((512 : Int) < (n : Int)) = true := decide_eq_true (by omega)
  go_enter Try.func41, Try.ntmps41
  go_wp2_with fail
  go_ret
  exact ⟨rfl, (Below.refl _ _).alloc (Nat.le_refl _) _⟩
set_option maxHeartbeats 8000000 in
set_option maxRecDepth 100000 in
theorem may_text (A : Option Addr) (n c : Nat) (v : List Nd) (w : World) (hr : RdB NdS w A v) (hn : v.length = n) (h0 : 0 < n) (h5 : n ≤ 512) (hk : (v[0]'(by omega)).kind ≠ 1) : Calls Try.prog 41 #[.slice A n c] w fun e w' => e = .returned (.bool false) ∧ Below w.heap.size w w' := by
  obtain ⟨b0, off, x, y, t, A1, c1, hA, hbB, hin, q0, -⟩ := nd_at hr (k := 0) (by omega)
  have f0 : ((n : Int) == 0) = false := by simp; omega
  have f1 : decide ((512 : Int) < (n : Int)) = false := decide_eq_false (by omega)
  have bn : (0 : Int) < (n : Int) ∧ (n : Int) ≤ 512 := by omega
  rw [Nat.zero_mul, Nat.add_zero] at q0
  obtain ⟨kd, hkd⟩ : ∃ kd, (v[0]'(by omega)).kind = kd := ⟨_, rfl⟩
  rw [hkd] at q0
  have f2 : ((kd : Int) != 1) = true := by simp; omega
  have f3 : ((kd : Int) == 1) = false := by simp; omega
  subst hA
  clear hr hn hin hk hkd
  go_enter Try.func41, Try.ntmps41
  go_wp2_with fail
  go_ret
  exact ⟨rfl, (Below.refl _ _).alloc (Nat.le_refl _) _⟩
set_option maxHeartbeats 8000000 in
set_option maxRecDepth 100000 in
theorem may_yes (A : Option Addr) (n c : Nat) (v : List Nd) (w : World) (hr : RdB NdS w A v) (hn : v.length = n) (hsm : ∀ n ∈ v, SmallN n) (h0 : 0 < n) (h5 : n ≤ 512) (hk : (v[0]'(by omega)).kind = 1) (r : List Nd) (hrr : restD 12 v = some r) (q : Bool) (hq : mayV v = q) : Calls Try.prog 41 #[.slice A n c] w fun e w' => e = .returned (.bool q) ∧ Below w.heap.size w w' := by
  have hmf : ∀ (fn : Fn) (first cap : Array Value) (w : World), (Instr.makeFunc fn first cap).run Try.prog w = .ok (.func fn first cap) w := fun _ _ _ _ => rfl
  obtain ⟨b0, off, x, y, t, A1, c1, hA, hbB, hin, q0, -⟩ := nd_at hr (k := 0) (by omega)
  have f0 : ((n : Int) == 0) = false := by simp; omega
  have f1 : decide ((512 : Int) < (n : Int)) = false := decide_eq_false (by omega)
  have bn : (0 : Int) < (n : Int) ∧ (n : Int) ≤ 512 := by omega
  rw [Nat.zero_mul, Nat.add_zero] at q0
  rw [hk] at q0
  rw [show ((1 : Nat) : Int) = 1 from rfl] at q0
  have hnx := nx_made (c := c) hr
  have hcall := may_all w.heap.size (w.heap.size + 1) w.heap.size (w.heap.size + 1 + 1) A c v (by omega) hsm 12 (by omega) 1 0 _ (by omega) (by omega) hnx
  have HBB : Hid (Below w.heap.size w (((w.alloc (.cells #[.slice A v.length c] 22)).alloc (.cells #[.int .i64 0] 3)).alloc (.cells #[mayF (w.heap.size + 1) w.heap.size (w.heap.size + 1 + 1)] 89))) := Lib.hid (stpA (stpA (stpA (Below.refl _ _) _) _) _)
  have hans := hcall.mono fun e w' h => (h.some (r := r) (by rw [List.drop_zero]; exact hrr))
  have hrl := restD_len hrr
  have HQ : Hid ((((v.length - r.length : Nat) : Int) == (n : Int)) = q) := Lib.hid (by
    rw [← hq, mayV_one (by omega) ⟨v[0]'(by omega), v.drop 1, by rw [← List.drop_eq_getElem_cons (by omega), List.drop_zero], hk⟩, hrr, ← hn, Bool.eq_iff_iff]
    simp
    constructor
    · intro h; exact List.eq_nil_of_length_eq_zero (by omega)
    · intro h; rw [h]; simp)
  have HV : Hid (∀ w', ((((w.alloc (.cells #[.slice A v.length c] 22)).alloc (.cells #[.int .i64 0] 3)).alloc (.cells #[mayF (w.heap.size + 1) w.heap.size (w.heap.size + 1 + 1)] 89))).grownBy w' (some (w.heap.size + 1)) → w'.heap[w.heap.size]? = some (.cells #[.slice A v.length c] 22 (0, 0))) := Lib.hid fun w' hg => (hg.block w.heap.size (lt_of_block hnx.hv) (fun e => by injection e with e; omega)).trans hnx.hv
  obtain ⟨p9, hp9⟩ : ∃ p9, v.length - r.length = p9 := ⟨_, rfl⟩
  rw [hp9] at hans HQ
  rw [hn] at hans HBB HV
  unfold mayF at hans HBB HV
  have HA := Lib.hid hans
  subst hA
  obtain ⟨q2, hq2⟩ : ∃ q2, ((p9 : Int) == (n : Int)) = q2 := ⟨_, rfl⟩
  rw [hq2] at HQ
  clear hr hn hsm hin hnx hcall hk hrr hq hans hrl hp9
  go_enter Try.func41, Try.ntmps41
  go_wp2_with (first
    | (go_at_call 51; (with_reducible refine (HA.out).mono ?_); rintro e2 w2 ⟨rfl, hg2, hn2⟩; have kn := cell_of_one hn2; have kv := cell_of_one (HV.out w2 hg2))
    | fail)
  go_ret
  exact ⟨ret_b HQ.out, HBB.out.trans (below_grown hg2 (by omega) (by simp))⟩
set_option maxHeartbeats 8000000 in
set_option maxRecDepth 100000 in
theorem may_none2 (A : Option Addr) (n c : Nat) (v : List Nd) (w : World) (hr : RdB NdS w A v) (hn : v.length = n) (hsm : ∀ n ∈ v, SmallN n) (h0 : 0 < n) (h5 : n ≤ 512) (hk : (v[0]'(by omega)).kind = 1) (hrr : restD 12 v = none) (q : Bool) (hq : mayV v = q) : Calls Try.prog 41 #[.slice A n c] w fun e w' => e = .returned (.bool q) ∧ Below w.heap.size w w' := by
  have hmf : ∀ (fn : Fn) (first cap : Array Value) (w : World), (Instr.makeFunc fn first cap).run Try.prog w = .ok (.func fn first cap) w := fun _ _ _ _ => rfl
  obtain ⟨b0, off, x, y, t, A1, c1, hA, hbB, hin, q0, -⟩ := nd_at hr (k := 0) (by omega)
  have f0 : ((n : Int) == 0) = false := by simp; omega
  have f1 : decide ((512 : Int) < (n : Int)) = false := decide_eq_false (by omega)
  have bn : (0 : Int) < (n : Int) ∧ (n : Int) ≤ 512 := by omega
  rw [Nat.zero_mul, Nat.add_zero] at q0
  rw [hk] at q0
  rw [show ((1 : Nat) : Int) = 1 from rfl] at q0
  have hnx := nx_made (c := c) hr
  have hcall := may_all w.heap.size (w.heap.size + 1) w.heap.size (w.heap.size + 1 + 1) A c v (by omega) hsm 12 (by omega) 1 0 _ (by omega) (by omega) hnx
  have HBB : Hid (Below w.heap.size w (((w.alloc (.cells #[.slice A v.length c] 22)).alloc (.cells #[.int .i64 0] 3)).alloc (.cells #[mayF (w.heap.size + 1) w.heap.size (w.heap.size + 1 + 1)] 89))) := Lib.hid (stpA (stpA (stpA (Below.refl _ _) _) _) _)
  have hans := hcall.mono fun e w' h => (h.none (by rw [List.drop_zero]; exact hrr))
  obtain rfl : false = q := by
    rw [← hq, mayV_one (by omega) ⟨v[0]'(by omega), v.drop 1, by rw [← List.drop_eq_getElem_cons (by omega), List.drop_zero], hk⟩, hrr]
    rfl
  rw [hn] at hans HBB
  unfold mayF at hans HBB
  have HA := Lib.hid hans
  subst hA
  clear hr hn hsm hin hnx hcall hk hrr hq hans
  go_enter Try.func41, Try.ntmps41
  go_wp2_with (first
    | (go_at_call 51; (with_reducible refine (HA.out).mono ?_); rintro e2 w2 ⟨rfl, hg2, p2, hn2⟩)
    | fail)
  go_ret
  exact ⟨rfl, HBB.out.trans (below_grown hg2 (by omega) (by simp))⟩
/-- May a tree be? -/
theorem may10 (A : Option Addr) (n c : Nat) (v : List Nd) (w : World) (hr : RdB NdS w A v) (hn : v.length = n) (hmax : n ≤ 9223372036854775807) (hsm : n ≤ 512 → ∀ m ∈ v, SmallN m) (q : Bool) (hq : mayV v = q) : Calls Try.prog 41 #[.slice A n c] w fun e w' => e = .returned (.bool q) ∧ Below w.heap.size w w' := by
  by_cases h0 : n = 0
  · subst h0
    have : v = [] := List.eq_nil_of_length_eq_zero hn
    subst this
    obtain rfl : false = q := by rw [← hq]; rfl
    exact may_none A c w
  · by_cases h5 : n ≤ 512
    · by_cases hk : (v[0]'(by omega)).kind = 1
      · cases hrr : restD 12 v with
        | none => exact may_none2 A n c v w hr hn (hsm h5) (by omega) h5 hk hrr q hq
        | some r => exact may_yes A n c v w hr hn (hsm h5) (by omega) h5 hk r hrr q hq
      · obtain rfl : false = q := by
          rw [← hq]
          refine (mayV_no ?_).symm
          rintro ⟨_, m, l, rfl, k⟩
          exact hk k
        exact may_text A n c v w hr hn (by omega) h5 hk
    · obtain rfl : false = q := by
        rw [← hq]
        exact (mayV_no fun h => h5 (by omega)).symm
      exact may_many A n c w (by omega)
set_option maxRecDepth 100000 in
theorem checkv (A : Option Addr) (n c : Nat) (v : List Nd) (w : World) (hr : RdB NdS w A v) (hn : v.length = n) (hmax : n ≤ 9223372036854775807) (hsm : n ≤ 512 → ∀ m ∈ v, SmallN m) (q : Int) (hq : checkV v = q) : Calls Try.prog 18 #[.slice A n c] w fun e w' => e = .returned (.int .i64 q) ∧ Below w.heap.size w w' := by
  unfold checkV at hq
  cases hm : mayV v with
  | true =>
    rw [hm, if_pos rfl] at hq
    subst hq
    have HC := Lib.hid (may10 A n c v w hr hn hmax hsm true hm)
    clear hr hn hmax hsm hm
    go_enter Try.func18, Try.ntmps18
    go_wp2_with (first
      | (go_at_call 41; (with_reducible refine (HC.out).mono ?_); rintro e1 w1 ⟨rfl, hb1⟩)
      | fail)
    go_ret
    exact ⟨rfl, hb1⟩
  | false =>
    rw [hm, if_neg (by decide)] at hq
    subst hq
    have HC := Lib.hid (may10 A n c v w hr hn hmax hsm false hm)
    clear hr hn hmax hsm hm
    go_enter Try.func18, Try.ntmps18
    go_wp2_with (first
      | (go_at_call 41; (with_reducible refine (HC.out).mono ?_); rintro e1 w1 ⟨rfl, hb1⟩)
      | fail)
    go_ret
    exact ⟨rfl, hb1⟩
end Hx
end Go.Proofs.Ytkmaogafknehgaa
namespace Go.Proofs.Ytkmaogafknehgaa
open Go.RowKit
namespace Hx
open Lx Tr Tx Nmb Es
set_option linter.unusedVariables false
theorem em_lR (s : ByteArray) : s.toList.isEmpty = s.data.toList.isEmpty := by rw [ByteArray.toList_eq]
theorem nodup_next {l : List At} {i : Nat} (hi : i < l.length) (h : ((l.take i).map key).Nodup) (h2 : ∀ k (hk : k < i), key (l[k]'(by omega)) ≠ key (l[i]'hi)) : ((l.take (i + 1)).map key).Nodup := by
  rw [List.take_succ_eq_append_getElem hi, List.map_append]
  refine List.nodup_append.2 ⟨h, by simp, fun a ha b hb e => ?_⟩
  simp only [List.map_cons, List.map_nil, List.mem_singleton] at hb
  obtain ⟨x, hx, rfl⟩ := List.mem_map.1 ha
  obtain ⟨k, hk, rfl⟩ := List.getElem_of_mem hx
  rw [List.length_take] at hk
  rw [List.getElem_take, hb] at e
  exact h2 k (by omega) e
theorem nodup_no {l : List At} {i k : Nat} (hi : i < l.length) (hk : k < i) (h : key (l[k]'(by omega)) = key (l[i]'hi)) : atsOk l = false := by
  unfold atsOk
  have : ¬ (l.map key).Nodup := by
    intro hn
    have := (List.getElem_inj (h₀ := by rw [List.length_map]; omega) (h₁ := by rw [List.length_map]; exact hi) hn (i := k) (j := i)).1 (by rw [List.getElem_map, List.getElem_map, h])
    omega
  rw [decide_eq_false this, Bool.and_false, Bool.false_and]
theorem bel_drewN {B : Nat} {a w : World} (h : Below B a w) (n : Nat) : Below B a (w.drewN n) := ⟨h.os, h.tape, h.output, h.size, h.block⟩
set_option maxHeartbeats 16000000 in
set_option maxRecDepth 100000 in
theorem rmayats (A : Option Addr) (n cp : Nat) (l : List At) (w : World) (hr : RdB AtS w A l) (hn : l.length = n) (hm : n ≤ 1000000) (hsz : ∀ a ∈ l, a.space.length ≤ 1000000 ∧ a.name.length ≤ 1000000 ∧ a.value.length ≤ 1000000) (q : Bool) (h : atsOk l = q) :
    Calls Try.prog 60 #[.slice A n cp] w fun e w' => e = .returned (.bool q) ∧ Below w.heap.size w w' := by
  have HR := Lib.hid hr
  have HN := Lib.hid hn
  have HM := Lib.hid hm
  have HH := Lib.hid h
  have HSZ := Lib.hid hsz
  clear hr hn h hsz
  go_enter Try.func60, Try.ntmps60
  go_wp2_with fail
  go_loopg [3] n (fun gg i wr => ∃ k : Nat, k + gg = n ∧ i = .int .i64 k ∧ (l.take k).all atOk = true ∧ ((l.take k).map key).Nodup ∧ Below w.heap.size w wr)
  case atStart => exact ⟨0, by omega, rfl, rfl, List.nodup_nil, Below.refl _ _⟩
  case round =>
    obtain ⟨i, hig, rfl, hall, hnd, hbw⟩ := hrel
    obtain ⟨wo, rfl⟩ : ∃ wo : World, wo = wr := ⟨_, rfl⟩
    obtain ⟨g0, rfl⟩ : ∃ g0 : Nat, g0 = gk := ⟨_, rfl⟩
    have hm := HM.out
    have HALL := Lib.hid hall
    have HND := Lib.hid hnd
    have HBW := Lib.hid hbw
    have HG := Lib.hid hig
    clear hall hnd hbw hig
    by_cases hlt : i < n
    · have hi1 : i < l.length := by rw [HN.out]; exact hlt
      have bi : (0 : Int) ≤ (i : Int) ∧ (i : Int) < (n : Int) := by omega
      go_wp2_with fail
      go_loopg [4] i (fun gg k wr => ∃ j : Nat, j + gg = i ∧ k = .int .i64 j ∧ (∀ k (hk : k < j), k < i → ∀ h2 : k < l.length, key (l[k]'h2) ≠ key (l[i]'hi1)) ∧ Below w.heap.size w wr)
      case atStart => exact ⟨0, by omega, rfl, fun k hk => by omega, HBW.out⟩
      case round =>
        obtain ⟨j, hjg, rfl, hno, hb2⟩ := hrel
        have HNO := Lib.hid hno
        have HB2 := Lib.hid hb2
        have HJG := Lib.hid hjg
        clear hno hjg
        by_cases hlj : j < i
        · have hj1 : j < l.length := by omega
          obtain ⟨b0, off, x, y, z, rfl, hbB, hx, hy, hz, c0, c1, c2⟩ := at_at (HR.out.on hb2) hi1
          obtain ⟨b9, of9, x2, y2, z2, e9, _, hx2, hy2, hz2, d0, d1, d2⟩ := at_at (HR.out.on hb2) hj1
          injection e9 with e9
          injection e9 with e1 e2 _
          subst e1 e2
          have bj : (0 : Int) ≤ (j : Int) ∧ (j : Int) < (n : Int) := by omega
          have HKE : Hid (key (l[j]'hj1) = key (l[i]'hi1) ↔ x2 = x ∧ y2 = y) := Lib.hid (by
            unfold key
            rw [Prod.mk.injEq, ← hx, ← hy, ← hx2, ← hy2]
            exact ⟨fun h => ⟨ba_x h.1, ba_x h.2⟩, fun h => by rw [h.1, h.2]; exact ⟨rfl, rfl⟩⟩)
          have HI1 := Lib.hid hi1
          have HLJ := Lib.hid hlj
          have HJ1 := Lib.hid hj1
          clear hx hy hz hx2 hy2 hz2 hb2
          by_cases hs : x2 = x
          · subst hs
            by_cases ht : y2 = y
            · subst ht
              obtain rfl : false = q := by rw [← HH.out]; exact (nodup_no HI1.out HLJ.out (HKE.out.2 ⟨rfl, rfl⟩)).symm
              have t1 : (x2.toList == x2.toList) = true := by simp
              have t2 : (y2.toList == y2.toList) = true := by simp
              go_wp2_with fail
              go_quiet (fail)
              go_wp2_with fail
              go_ret
              exact ⟨rfl, bel_drewN HB2.out _⟩
            · have t1 : (x2.toList == x2.toList) = true := by simp
              have t2 : (y2.toList == y.toList) = false := by rw [beq_eq_false_iff_ne, ByteArray.toList_eq, ByteArray.toList_eq]; exact fun h => ht (ba_x h)
              have HNE : Hid (key (l[j]'hj1) ≠ key (l[i]'HI1.out)) := Lib.hid fun h => ht (HKE.out.1 h).2
              clear ht
              go_wp2_with fail
              go_quiet (fail)
              go_wp2_with fail
              go_roundg (gk - 1)
              case rel => exact ⟨j + 1, by have := HJG.out; omega, by go_num, fun k hk hk2 h2 => by
                rcases Nat.lt_succ_iff_lt_or_eq.1 hk with h | h
                · exact HNO.out k h hk2 h2
                · subst h; exact HNE.out, bel_drewN HB2.out _⟩
              case measure => have := HJG.out; omega
          · have t1 : (x2.toList == x.toList) = false := by rw [beq_eq_false_iff_ne, ByteArray.toList_eq, ByteArray.toList_eq]; exact fun h => hs (ba_x h)
            have HNE : Hid (key (l[j]'hj1) ≠ key (l[i]'HI1.out)) := Lib.hid fun h => hs (HKE.out.1 h).1
            clear hs
            go_wp2_with fail
            go_quiet (fail)
            go_wp2_with fail
            go_roundg (gk - 1)
            case rel => exact ⟨j + 1, by have := HJG.out; omega, by go_num, fun k hk hk2 h2 => by
              rcases Nat.lt_succ_iff_lt_or_eq.1 hk with h | h
              · exact HNO.out k h hk2 h2
              · subst h; exact HNE.out, bel_drewN HB2.out _⟩
            case measure => have := HJG.out; omega
        · obtain rfl : j = i := by have := HJG.out; omega
          have HBW2 := HB2
          clear HB2
          obtain ⟨b0, off, x, y, z, rfl, hbB, hx, hy, hz, c0, c1, c2⟩ := at_at (HR.out.on hb2) hi1
          have hs := HSZ.out _ (List.getElem_mem hi1)
          rw [← hx, ← hy, ← hz, ba_l, ba_l, ba_l] at hs
          have HXS := Lib.hid hs.1
          have HYS := Lib.hid hs.2.1
          have HZS := Lib.hid hs.2.2
          have HND2 : Hid (((l.take (j + 1)).map key).Nodup) := Lib.hid (nodup_next hi1 HND.out fun k hk => HNO.out k hk hk (by omega))
          have HAT : Hid ((l.take (j + 1)).all atOk = (fullL y.data.toList && okT z.data.toList && okT x.data.toList)) := Lib.hid (by
            rw [List.take_succ_eq_append_getElem hi1, List.all_append, HALL.out, hx, hy, hz]
            simp [atOk])
          have HQ0 : Hid ((fullL y.data.toList && okT z.data.toList && okT x.data.toList) = false → false = q) := Lib.hid fun hf => by
            rw [← HH.out]
            unfold atsOk
            have : l.all atOk = false := by
              rw [List.all_eq_false]
              refine ⟨_, List.getElem_mem hi1, ?_⟩
              unfold atOk
              rw [← hx, ← hy, ← hz, hf]
              decide
            rw [this]
            rfl
          obtain ⟨a1, h1⟩ : ∃ a, fullL y.data.toList = a := ⟨_, rfl⟩
          obtain ⟨a2, h2⟩ : ∃ a, okT z.data.toList = a := ⟨_, rfl⟩
          obtain ⟨a3, h3⟩ : ∃ a, okT x.data.toList = a := ⟨_, rfl⟩
          obtain ⟨q2, hq2⟩ : ∃ q, chkE z = q := ⟨_, rfl⟩
          obtain ⟨q3, hq3⟩ : ∃ q, chkE x = q := ⟨_, rfl⟩
          have HK2 : Hid (a2 = true → q2 = 0) := Lib.hid fun h => by rw [← hq2]; exact chk9_ok (h2.trans h)
          have HK3 : Hid (a3 = true → q3 = 0) := Lib.hid fun h => by rw [← hq3]; exact chk9_ok (h3.trans h)
          have HL2 : Hid (a2 = false → q2 ≠ 0) := Lib.hid fun h => by rw [← hq2]; exact chk9_bad (h2.trans h)
          have HL3 : Hid (a3 = false → q3 ≠ 0) := Lib.hid fun h => by rw [← hq3]; exact chk9_bad (h3.trans h)
          rw [h1, h2, h3] at HAT HQ0
          have H1 := Lib.hid h1
          have HQ2 := Lib.hid hq2
          have HQ3 := Lib.hid hq3
          have HJG2 := Lib.hid hlt
          have hbs := hb2
          have HRB : Hid (b0 < wr.heap.size) := Lib.hid hbB
          clear hx hy hz hs hb2 h1 h2 h3 hq2 hq3 hlt hbs
          cases a1 with
          | false =>
            obtain rfl : false = q := HQ0.out rfl
            go_wp2_with (first
              | (go_at_call 58; (with_reducible refine (rfull9 y _ HYS.out false H1.out).mono ?_); rintro e1 w1 ⟨rfl, hb1⟩; have HB1 : Hid (Below wr.heap.size wr w1) := Lib.hid (hb1); have d10 := (hb1.cell (p := ⟨b0, _, none⟩) HRB.out).trans c0; have d11 := (hb1.cell (p := ⟨b0, _, none⟩) HRB.out).trans c1; have d12 := (hb1.cell (p := ⟨b0, _, none⟩) HRB.out).trans c2; clear hb1)
              | fail)
            go_ret
            exact ⟨rfl, HBW2.out.trans (HB1.out.mono HBW2.out.size)⟩
          | true =>
            cases a2 with
            | false =>
              obtain rfl : false = q := HQ0.out rfl
              have f2 : (q2 != 0) = true := by simpa using HL2.out rfl
              go_wp2_with (first
                | (go_at_call 58; (with_reducible refine (rfull9 y _ HYS.out true H1.out).mono ?_); rintro e1 w1 ⟨rfl, hb1⟩; have HB1 : Hid (Below wr.heap.size wr w1) := Lib.hid (hb1); have d10 := (hb1.cell (p := ⟨b0, _, none⟩) HRB.out).trans c0; have d11 := (hb1.cell (p := ⟨b0, _, none⟩) HRB.out).trans c1; have d12 := (hb1.cell (p := ⟨b0, _, none⟩) HRB.out).trans c2; clear hb1)
                | (go_at_call 59; (with_reducible refine (rcheck_any z _ HZS.out q2 HQ2.out).mono ?_); rintro e2 w2 ⟨rfl, hb2⟩; have HB2 : Hid (Below wr.heap.size wr w2) := Lib.hid (stp HB1.out hb2); have d20 := (hb2.cell (p := ⟨b0, _, none⟩) (Nat.lt_of_lt_of_le HRB.out HB1.out.size)).trans d10; have d21 := (hb2.cell (p := ⟨b0, _, none⟩) (Nat.lt_of_lt_of_le HRB.out HB1.out.size)).trans d11; have d22 := (hb2.cell (p := ⟨b0, _, none⟩) (Nat.lt_of_lt_of_le HRB.out HB1.out.size)).trans d12; clear hb2)
                | fail)
              go_ret
              exact ⟨rfl, HBW2.out.trans (HB2.out.mono HBW2.out.size)⟩
            | true =>
              obtain rfl : q2 = 0 := HK2.out rfl
              cases a3 with
              | false =>
                obtain rfl : false = q := HQ0.out rfl
                have f3 : (q3 != 0) = true := by simpa using HL3.out rfl
                go_wp2_with (first
                  | (go_at_call 58; (with_reducible refine (rfull9 y _ HYS.out true H1.out).mono ?_); rintro e1 w1 ⟨rfl, hb1⟩; have HB1 : Hid (Below wr.heap.size wr w1) := Lib.hid (hb1); have d10 := (hb1.cell (p := ⟨b0, _, none⟩) HRB.out).trans c0; have d11 := (hb1.cell (p := ⟨b0, _, none⟩) HRB.out).trans c1; have d12 := (hb1.cell (p := ⟨b0, _, none⟩) HRB.out).trans c2; clear hb1)
                  | (go_at_call 59; (with_reducible refine (rcheck_any z _ HZS.out 0 HQ2.out).mono ?_); rintro e2 w2 ⟨rfl, hb2⟩; have HB2 : Hid (Below wr.heap.size wr w2) := Lib.hid (stp HB1.out hb2); have d20 := (hb2.cell (p := ⟨b0, _, none⟩) (Nat.lt_of_lt_of_le HRB.out HB1.out.size)).trans d10; have d21 := (hb2.cell (p := ⟨b0, _, none⟩) (Nat.lt_of_lt_of_le HRB.out HB1.out.size)).trans d11; have d22 := (hb2.cell (p := ⟨b0, _, none⟩) (Nat.lt_of_lt_of_le HRB.out HB1.out.size)).trans d12; clear hb2)
                  | (go_at_call 59; (with_reducible refine (rcheck_any x _ HXS.out q3 HQ3.out).mono ?_); rintro e3 w3 ⟨rfl, hb3⟩; have HB3 : Hid (Below wr.heap.size wr w3) := Lib.hid (stp HB2.out hb3); have d30 := (hb3.cell (p := ⟨b0, _, none⟩) (Nat.lt_of_lt_of_le HRB.out HB2.out.size)).trans d20; have d31 := (hb3.cell (p := ⟨b0, _, none⟩) (Nat.lt_of_lt_of_le HRB.out HB2.out.size)).trans d21; have d32 := (hb3.cell (p := ⟨b0, _, none⟩) (Nat.lt_of_lt_of_le HRB.out HB2.out.size)).trans d22; clear hb3)
                  | fail)
                go_ret
                exact ⟨rfl, HBW2.out.trans (HB3.out.mono HBW2.out.size)⟩
              | true =>
                obtain rfl : q3 = 0 := HK3.out rfl
                have HAT2 : Hid ((l.take (j + 1)).all atOk = true) := Lib.hid (by rw [HAT.out]; rfl)
                go_wp2_with (first
                  | (go_at_call 58; (with_reducible refine (rfull9 y _ HYS.out true H1.out).mono ?_); rintro e1 w1 ⟨rfl, hb1⟩; have HB1 : Hid (Below wr.heap.size wr w1) := Lib.hid (hb1); have d10 := (hb1.cell (p := ⟨b0, _, none⟩) HRB.out).trans c0; have d11 := (hb1.cell (p := ⟨b0, _, none⟩) HRB.out).trans c1; have d12 := (hb1.cell (p := ⟨b0, _, none⟩) HRB.out).trans c2; clear hb1)
                  | (go_at_call 59; (with_reducible refine (rcheck_any z _ HZS.out 0 HQ2.out).mono ?_); rintro e2 w2 ⟨rfl, hb2⟩; have HB2 : Hid (Below wr.heap.size wr w2) := Lib.hid (stp HB1.out hb2); have d20 := (hb2.cell (p := ⟨b0, _, none⟩) (Nat.lt_of_lt_of_le HRB.out HB1.out.size)).trans d10; have d21 := (hb2.cell (p := ⟨b0, _, none⟩) (Nat.lt_of_lt_of_le HRB.out HB1.out.size)).trans d11; have d22 := (hb2.cell (p := ⟨b0, _, none⟩) (Nat.lt_of_lt_of_le HRB.out HB1.out.size)).trans d12; clear hb2)
                  | (go_at_call 59; (with_reducible refine (rcheck_any x _ HXS.out 0 HQ3.out).mono ?_); rintro e3 w3 ⟨rfl, hb3⟩; have HB3 : Hid (Below wr.heap.size wr w3) := Lib.hid (stp HB2.out hb3); have d30 := (hb3.cell (p := ⟨b0, _, none⟩) (Nat.lt_of_lt_of_le HRB.out HB2.out.size)).trans d20; have d31 := (hb3.cell (p := ⟨b0, _, none⟩) (Nat.lt_of_lt_of_le HRB.out HB2.out.size)).trans d21; have d32 := (hb3.cell (p := ⟨b0, _, none⟩) (Nat.lt_of_lt_of_le HRB.out HB2.out.size)).trans d22; clear hb3)
                  | fail)
                go_roundg (g0 - 1)
                case rel => exact ⟨j + 1, by have := HG.out; have := HJG2.out; omega, by go_num, HAT2.out, HND2.out, HBW2.out.trans (HB3.out.mono HBW2.out.size)⟩
                case measure => have := HG.out; have := HJG2.out; omega
    · obtain rfl : i = n := by have := HG.out; omega
      have htk : l.take i = l := by rw [← HN.out]; exact List.take_length
      obtain ⟨r, hr⟩ : ∃ r, decide ((i : Int) ≤ 16) = r := ⟨_, rfl⟩
      have HQ : Hid (r = q) := Lib.hid (by
        have h1 := HALL.out
        have h2 := HND.out
        rw [htk] at h1 h2
        rw [← hr, ← HH.out]
        unfold atsOk
        rw [h1, decide_eq_true h2, HN.out, Bool.true_and, Bool.true_and, decide_eq_decide]
        omega)
      clear htk
      go_wp2_with fail
      go_ret
      exact ⟨ret_b HQ.out, HBW.out⟩
set_option maxHeartbeats 8000000 in
set_option maxRecDepth 100000 in
theorem rnode_1 (n : Nd) (x y z : ByteArray) (A : Option Addr) (c : Nat) (w : World) (h : NdAt n x y z A c w) (hs : SmallN n) (hk : n.kind = 1) (q : Bool) (hq : ndOk n = q) :
    Calls Try.prog 53 #[NdV n x y z A c] w fun e w' => e = .returned (.bool q) ∧ Below w.heap.size w w' := by
  have HBO : Hid (∀ o, Below w.heap.size w (w.alloc o)) := Lib.hid fun o => (Below.refl _ _).alloc (Nat.le_refl _) o
  have HND : Hid (∀ W, Below w.heap.size w W → NdAt n x y z A c W) := Lib.hid fun W hW => h.on hW
  have HXS : Hid (x.size ≤ 1000000) := Lib.hid (by rw [← ba_l, h.space]; exact hs.space)
  have HYS : Hid (y.size ≤ 1000000) := Lib.hid (by rw [← ba_l, h.name]; exact hs.name)
  have HZS : Hid (z.size ≤ 1000000) := Lib.hid (by rw [← ba_l, h.text]; exact hs.text)
  have HLN : Hid (n.attrs.length ≤ 1000000) := Lib.hid hs.attrs
  have HEA := Lib.hid hs.each
  have ba := h.lo
  have bb := h.hi
  obtain ⟨m, hm⟩ : ∃ m, n.attrs.length = m := ⟨_, rfl⟩
  have HNL := Lib.hid hm
  obtain ⟨y9, hmy⟩ : ∃ y9, n.many = y9 := ⟨_, rfl⟩
  obtain ⟨a1, h1⟩ : ∃ a, fullL y.data.toList = a := ⟨_, rfl⟩
  obtain ⟨a2, h2⟩ : ∃ a, z.toList.isEmpty = a := ⟨_, rfl⟩
  obtain ⟨a3, h3⟩ : ∃ a, okT x.data.toList = a := ⟨_, rfl⟩
  obtain ⟨a4, h4⟩ : ∃ a, atsOk n.attrs = a := ⟨_, rfl⟩
  obtain ⟨q3, hq3⟩ : ∃ q, chkE x = q := ⟨_, rfl⟩
  have HQ : Hid (q = (a1 && (a2 && (a3 && a4)))) := Lib.hid (by
    rw [← hq, ← h1, ← h2, ← h3, ← h4, em_lR, h.space, h.name, h.text]
    unfold ndOk
    rw [if_pos hk]
    cases fullL n.name <;> cases n.text.isEmpty <;> cases okT n.space <;> cases atsOk n.attrs <;> rfl)
  have HK3 : Hid (a3 = true → q3 = 0) := Lib.hid fun h => by rw [← hq3]; exact chk9_ok (h3.trans h)
  have HL3 : Hid (a3 = false → q3 ≠ 0) := Lib.hid fun h => by rw [← hq3]; exact chk9_bad (h3.trans h)
  have H1 := Lib.hid h1
  have H4 := Lib.hid h4
  have HQ3 := Lib.hid hq3
  unfold NdV
  rw [hk, hm, hmy]
  rw [hmy] at ba bb
  clear h hs hk hq h1 h3 h4 hq3 hm hmy
  cases a1 with
  | false =>
    obtain rfl : q = false := HQ.out
    go_enter Try.func53, Try.ntmps53
    go_wp2_with (first
      | (go_at_call 58; (with_reducible refine (rfull9 y _ HYS.out false H1.out).mono ?_); rintro e1 w1 ⟨rfl, hb1⟩; have HB1 : Hid (Below w.heap.size w w1) := Lib.hid (bel_in9 (HBO.out _) hb1); have HX1 := Lib.hid (kept_heap (heap_alloc_new w (.cells #[.int .u8 ((1 : Nat) : Int), .string x, .string y, .slice A m c, .string z, .int .i64 y9] 53)) hb1); have d10 := cellV w1 _ 0 _ _ _ HX1.out; have d11 := cellV w1 _ 1 _ _ _ HX1.out; have d12 := cellV w1 _ 2 _ _ _ HX1.out; have d13 := cellV w1 _ 3 _ _ _ HX1.out; have d14 := cellV w1 _ 4 _ _ _ HX1.out; have d15 := cellV w1 _ 5 _ _ _ HX1.out; clear hb1)
      | fail)
    go_ret
    exact ⟨rfl, HB1.out⟩
  | true =>
    cases a2 with
    | false =>
      obtain rfl : q = false := HQ.out
      go_enter Try.func53, Try.ntmps53
      go_wp2_with (first
        | (go_at_call 58; (with_reducible refine (rfull9 y _ HYS.out true H1.out).mono ?_); rintro e1 w1 ⟨rfl, hb1⟩; have HB1 : Hid (Below w.heap.size w w1) := Lib.hid (bel_in9 (HBO.out _) hb1); have HX1 := Lib.hid (kept_heap (heap_alloc_new w (.cells #[.int .u8 ((1 : Nat) : Int), .string x, .string y, .slice A m c, .string z, .int .i64 y9] 53)) hb1); have d10 := cellV w1 _ 0 _ _ _ HX1.out; have d11 := cellV w1 _ 1 _ _ _ HX1.out; have d12 := cellV w1 _ 2 _ _ _ HX1.out; have d13 := cellV w1 _ 3 _ _ _ HX1.out; have d14 := cellV w1 _ 4 _ _ _ HX1.out; have d15 := cellV w1 _ 5 _ _ _ HX1.out; clear hb1)
        | fail)
      go_ret
      exact ⟨rfl, HB1.out⟩
    | true =>
      cases a3 with
      | false =>
        have f3 : (q3 == 0) = false := by simpa using HL3.out rfl
        obtain rfl : q = false := HQ.out
        go_enter Try.func53, Try.ntmps53
        go_wp2_with (first
          | (go_at_call 58; (with_reducible refine (rfull9 y _ HYS.out true H1.out).mono ?_); rintro e1 w1 ⟨rfl, hb1⟩; have HB1 : Hid (Below w.heap.size w w1) := Lib.hid (bel_in9 (HBO.out _) hb1); have HX1 := Lib.hid (kept_heap (heap_alloc_new w (.cells #[.int .u8 ((1 : Nat) : Int), .string x, .string y, .slice A m c, .string z, .int .i64 y9] 53)) hb1); have d10 := cellV w1 _ 0 _ _ _ HX1.out; have d11 := cellV w1 _ 1 _ _ _ HX1.out; have d12 := cellV w1 _ 2 _ _ _ HX1.out; have d13 := cellV w1 _ 3 _ _ _ HX1.out; have d14 := cellV w1 _ 4 _ _ _ HX1.out; have d15 := cellV w1 _ 5 _ _ _ HX1.out; clear hb1)
          | (go_at_call 59; (with_reducible refine (rcheck_any x _ HXS.out q3 HQ3.out).mono ?_); rintro e2 w2 ⟨rfl, hb2⟩; have HB2 : Hid (Below w.heap.size w w2) := Lib.hid (stp HB1.out hb2); have HX2 := Lib.hid (kept_heap HX1.out hb2); have d20 := cellV w2 _ 0 _ _ _ HX2.out; have d21 := cellV w2 _ 1 _ _ _ HX2.out; have d22 := cellV w2 _ 2 _ _ _ HX2.out; have d23 := cellV w2 _ 3 _ _ _ HX2.out; have d24 := cellV w2 _ 4 _ _ _ HX2.out; have d25 := cellV w2 _ 5 _ _ _ HX2.out; clear hb2)
          | fail)
        go_ret
        exact ⟨rfl, HB2.out⟩
      | true =>
        obtain rfl : q3 = 0 := HK3.out rfl
        obtain rfl : q = a4 := HQ.out
        go_enter Try.func53, Try.ntmps53
        go_wp2_with (first
          | (go_at_call 58; (with_reducible refine (rfull9 y _ HYS.out true H1.out).mono ?_); rintro e1 w1 ⟨rfl, hb1⟩; have HB1 : Hid (Below w.heap.size w w1) := Lib.hid (bel_in9 (HBO.out _) hb1); have HX1 := Lib.hid (kept_heap (heap_alloc_new w (.cells #[.int .u8 ((1 : Nat) : Int), .string x, .string y, .slice A m c, .string z, .int .i64 y9] 53)) hb1); have d10 := cellV w1 _ 0 _ _ _ HX1.out; have d11 := cellV w1 _ 1 _ _ _ HX1.out; have d12 := cellV w1 _ 2 _ _ _ HX1.out; have d13 := cellV w1 _ 3 _ _ _ HX1.out; have d14 := cellV w1 _ 4 _ _ _ HX1.out; have d15 := cellV w1 _ 5 _ _ _ HX1.out; clear hb1)
          | (go_at_call 59; (with_reducible refine (rcheck_any x _ HXS.out 0 HQ3.out).mono ?_); rintro e2 w2 ⟨rfl, hb2⟩; have HB2 : Hid (Below w.heap.size w w2) := Lib.hid (stp HB1.out hb2); have HX2 := Lib.hid (kept_heap HX1.out hb2); have d20 := cellV w2 _ 0 _ _ _ HX2.out; have d21 := cellV w2 _ 1 _ _ _ HX2.out; have d22 := cellV w2 _ 2 _ _ _ HX2.out; have d23 := cellV w2 _ 3 _ _ _ HX2.out; have d24 := cellV w2 _ 4 _ _ _ HX2.out; have d25 := cellV w2 _ 5 _ _ _ HX2.out; clear hb2)
          | (go_at_call 60; (with_reducible refine (rmayats A m c n.attrs _ (HND.out _ HB2.out).rd HNL.out (HNL.out ▸ HLN.out) HEA.out _ H4.out).mono ?_); rintro e3 w3 ⟨rfl, hb3⟩; have HB3 : Hid (Below w.heap.size w w3) := Lib.hid (stp HB2.out hb3))
          | fail)
        go_ret
        exact ⟨rfl, HB3.out⟩
set_option maxHeartbeats 8000000 in
set_option maxRecDepth 100000 in
theorem rnode_2 (n : Nd) (x y z : ByteArray) (A : Option Addr) (c : Nat) (w : World) (h : NdAt n x y z A c w) (hs : SmallN n) (hk : n.kind = 2) (q : Bool) (hq : ndOk n = q) :
    Calls Try.prog 53 #[NdV n x y z A c] w fun e w' => e = .returned (.bool q) ∧ Below w.heap.size w w' := by
  have HBO : Hid (∀ o, Below w.heap.size w (w.alloc o)) := Lib.hid fun o => (Below.refl _ _).alloc (Nat.le_refl _) o
  have HND : Hid (∀ W, Below w.heap.size w W → NdAt n x y z A c W) := Lib.hid fun W hW => h.on hW
  have HXS : Hid (x.size ≤ 1000000) := Lib.hid (by rw [← ba_l, h.space]; exact hs.space)
  have HYS : Hid (y.size ≤ 1000000) := Lib.hid (by rw [← ba_l, h.name]; exact hs.name)
  have HZS : Hid (z.size ≤ 1000000) := Lib.hid (by rw [← ba_l, h.text]; exact hs.text)
  have HLN : Hid (n.attrs.length ≤ 1000000) := Lib.hid hs.attrs
  have HEA := Lib.hid hs.each
  have ba := h.lo
  have bb := h.hi
  obtain ⟨m, hm⟩ : ∃ m, n.attrs.length = m := ⟨_, rfl⟩
  have HNL := Lib.hid hm
  obtain ⟨y9, hmy⟩ : ∃ y9, n.many = y9 := ⟨_, rfl⟩
  obtain ⟨a1, h1⟩ : ∃ a, y.toList.isEmpty = a := ⟨_, rfl⟩
  obtain ⟨a2, h2⟩ : ∃ a, x.toList.isEmpty = a := ⟨_, rfl⟩
  obtain ⟨a3, h3⟩ : ∃ a, ((m : Int) == 0) = a := ⟨_, rfl⟩
  obtain ⟨a4, h4⟩ : ∃ a, (y9 == 0) = a := ⟨_, rfl⟩
  obtain ⟨a5, h5⟩ : ∃ a, (!z.toList.isEmpty) = a := ⟨_, rfl⟩
  obtain ⟨a6, h6⟩ : ∃ a, okT z.data.toList = a := ⟨_, rfl⟩
  obtain ⟨q3, hq3⟩ : ∃ q, chkE z = q := ⟨_, rfl⟩
  have HQ : Hid (q = (a1 && (a2 && (a3 && (a4 && (a5 && a6)))))) := Lib.hid (by
    have e3 : ((m : Int) == 0) = n.attrs.isEmpty := by rw [← hm]; cases n.attrs <;> simp <;> omega
    have e6 : (y9 == 0) = decide (n.many = 0) := by rw [hmy, Bool.eq_iff_iff]; simp
    rw [← hq, ← h1, ← h2, ← h3, ← h4, ← h5, ← h6, e3, e6, em_lR, em_lR, em_lR, h.space, h.name, h.text]
    unfold ndOk
    rw [if_neg (by omega), if_pos hk]
    cases n.name.isEmpty <;> cases n.space.isEmpty <;> cases n.attrs.isEmpty <;> cases decide (n.many = 0) <;> cases n.text.isEmpty <;> cases okT n.text <;> rfl)
  have HK3 : Hid (a6 = true → q3 = 0) := Lib.hid fun h => by rw [← hq3]; exact chk9_ok (h6.trans h)
  have HL3 : Hid (a6 = false → q3 ≠ 0) := Lib.hid fun h => by rw [← hq3]; exact chk9_bad (h6.trans h)
  have HQ3 := Lib.hid hq3
  have HF3 : Hid ((q3 == 0) = a6) := Lib.hid (by cases a6 with | true => rw [HK3.out rfl]; rfl | false => simpa using HL3.out rfl)
  unfold NdV
  rw [hk, hm, hmy]
  rw [hmy] at ba bb
  clear h hs hk hq h6 hq3 hm hmy
  cases a1 with
  | false =>
    obtain rfl : q = false := HQ.out
    go_enter Try.func53, Try.ntmps53
    go_wp2_with fail
    go_ret
    exact ⟨rfl, HBO.out _⟩
  | true =>
    cases a2 with
    | false =>
      obtain rfl : q = false := HQ.out
      go_enter Try.func53, Try.ntmps53
      go_wp2_with fail
      go_ret
      exact ⟨rfl, HBO.out _⟩
    | true =>
      cases a3 with
      | false =>
        obtain rfl : q = false := HQ.out
        go_enter Try.func53, Try.ntmps53
        go_wp2_with fail
        go_ret
        exact ⟨rfl, HBO.out _⟩
      | true =>
        cases a4 with
        | false =>
          obtain rfl : q = false := HQ.out
          go_enter Try.func53, Try.ntmps53
          go_wp2_with fail
          go_ret
          exact ⟨rfl, HBO.out _⟩
        | true =>
          cases a5 with
          | false =>
            obtain rfl : q = false := HQ.out
            go_enter Try.func53, Try.ntmps53
            go_wp2_with fail
            go_ret
            exact ⟨rfl, HBO.out _⟩
          | true =>
            obtain rfl : q = a6 := HQ.out
            have f3 := HF3.out
            go_enter Try.func53, Try.ntmps53
            go_wp2_with (first
              | (go_at_call 59; (with_reducible refine (rcheck_any z _ HZS.out q3 HQ3.out).mono ?_); rintro e1 w1 ⟨rfl, hb1⟩; have HB1 : Hid (Below w.heap.size w w1) := Lib.hid (bel_in9 (HBO.out _) hb1))
              | fail)
            go_ret
            exact ⟨rfl, HB1.out⟩
set_option maxHeartbeats 8000000 in
set_option maxRecDepth 100000 in
theorem rnode_no (n : Nd) (x y z : ByteArray) (A : Option Addr) (c : Nat) (w : World) (h : NdAt n x y z A c w) (hs : SmallN n) (hk1 : n.kind ≠ 1) (hk2 : n.kind ≠ 2) (q : Bool) (hq : ndOk n = q) :
    Calls Try.prog 53 #[NdV n x y z A c] w fun e w' => e = .returned (.bool q) ∧ Below w.heap.size w w' := by
  have HBO : Hid (∀ o, Below w.heap.size w (w.alloc o)) := Lib.hid fun o => (Below.refl _ _).alloc (Nat.le_refl _) o
  obtain rfl : q = false := by rw [← hq]; unfold ndOk; rw [if_neg hk1, if_neg hk2]
  have f1 : ((n.kind : Int) == 1) = false := by simp; omega
  have f2 : ((n.kind : Int) == 2) = false := by simp; omega
  unfold NdV
  clear h hs hk1 hk2 hq
  go_enter Try.func53, Try.ntmps53
  go_wp2_with fail
  go_ret
  exact ⟨rfl, HBO.out _⟩
theorem rnode (n : Nd) (x y z : ByteArray) (A : Option Addr) (c : Nat) (w : World) (h : NdAt n x y z A c w) (hs : SmallN n) (q : Bool) (hq : ndOk n = q) :
    Calls Try.prog 53 #[NdV n x y z A c] w fun e w' => e = .returned (.bool q) ∧ Below w.heap.size w w' := by
  by_cases h1 : n.kind = 1
  · exact rnode_1 n x y z A c w h hs h1 q hq
  · by_cases h2 : n.kind = 2
    · exact rnode_2 n x y z A c w h hs h2 q hq
    · exact rnode_no n x y z A c w h hs h1 h2 q hq
end Hx
end Go.Proofs.Ytkmaogafknehgaa
