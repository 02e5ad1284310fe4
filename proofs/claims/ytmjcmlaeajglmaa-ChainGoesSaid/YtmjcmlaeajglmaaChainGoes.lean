/-
  For every seed and number the law of a seed's keys, taken the last one first, answers true, and what came in reads as before; no conditions.
-/
import Derived.Test.YtmjcmlaeajglmaaChnH
import Derived.Deep.RegionHeld3
import Derived.BigQuiet
import Derived.WalkKit
import Derived.ProofKit
import Derived.OpenShut
import Derived.ShutString
import Derived.ChangeOld
import Derived.Below
namespace Go.Proofs.Ytmjcmlaeajglmaa.chainGoes
open Go.ChangeShapes Go.WideShapes Go.ChangeAt Go.RowKit
open Go.ChangeMaps (open_string shut_string)
open Hx Wd Sh
set_option linter.unusedVariables false

theorem own : ownKnob Try.prog.godebug = none := by kernel_rfl
theorem laidOut : laidOutB Try.prog = true := by kernel_rfl

set_option linter.unusedVariables false
set_option maxHeartbeats 2000000 in
set_option maxRecDepth 100000 in
theorem walkOut (a0 : ByteArray) (n : Int) (w : World) (h : 300 < a0.size ∨ n < 1 ∨ 6 < n) :
    Calls Try.prog 7 #[.string a0, .int .i64 n] w fun e w' => e = .returned (.bool true) ∧ Below w.heap.size w w' := by
  by_cases h0 : 300 < a0.size
  · have t0 : decide ((300 : Int) < (a0.size : Int)) = true := by simp; omega
    clear h
    go_enter Try.func7, Try.ntmps7
    go_wp2_with (first | (go_at_call 18; (with_reducible refine (alive_any4 w).mono ?_); rintro e w1 ⟨rfl, hb1⟩) | fail)
    go_ret
    exact ⟨rfl, hb1⟩
  · skip
    by_cases h1 : n < 1
    · have t0 : decide ((300 : Int) < (a0.size : Int)) = false := by simp; omega
      have t1 : decide (n < 1) = true := by simp; omega
      clear h
      go_enter Try.func7, Try.ntmps7
      go_wp2_with (first | (go_at_call 18; (with_reducible refine (alive_any4 w).mono ?_); rintro e w1 ⟨rfl, hb1⟩) | fail)
      go_ret
      exact ⟨rfl, hb1⟩
    · skip
      have t0 : decide ((300 : Int) < (a0.size : Int)) = false := by simp; omega
      have t1 : decide (n < 1) = false := by simp; omega
      have t2 : decide (6 < n) = true := by simp; omega
      clear h
      go_enter Try.func7, Try.ntmps7
      go_wp2_with (first | (go_at_call 18; (with_reducible refine (alive_any4 w).mono ?_); rintro e w1 ⟨rfl, hb1⟩) | fail)
      go_ret
      exact ⟨rfl, hb1⟩

theorem below_of_drewN {W w : World} {q : Nat} (h : Below (W.drewN q).heap.size (W.drewN q) w) : Below W.heap.size W w := ⟨h.os, h.tape, h.output, h.size, h.block⟩
set_option maxHeartbeats 8000000 in
set_option maxRecDepth 100000 in
theorem walkIn (a0 : ByteArray) (n n1 : Nat) (z0 : Int) (w : World) (s0 : a0.size ≤ 300) (q0 : 1 ≤ n) (q1 : n ≤ 6) (e1 : n1 + 1 = n) (e2 : z0 + 1 = n1) :
    Calls Try.prog 7 #[.string a0, .int .i64 n] w fun e w' => e = .returned (.bool true) ∧ Below w.heap.size w w' := by
  obtain ⟨y, hy⟩ : ∃ y, kN a0 (n1 + 1) = y := ⟨_, rfl⟩
  have t0 : decide ((300 : Int) < (a0.size : Int)) = false := by simp; omega
  have t1 : decide ((n : Int) < 1) = false := by simp; omega
  have t2 : decide ((6 : Int) < (n : Int)) = false := by simp; omega
  have i1 : IntKind.i64.wrap ((n : Int) - 1) = (n1 : Int) := by rw [IntWalk.i64_in _ (by omega)]; omega
  have i2 : IntKind.i64.wrap ((n : Int) - 2) = z0 := by rw [IntWalk.i64_in _ (by omega)]; omega
  have b1 : (0 : Int) ≤ (n1 : Int) ∧ (n1 : Int) < (n : Int) := by omega
  have S0 : Hid (a0.size ≤ 16384 ∧ n ≤ 256 ∧ 0 < n) := by constructor <;> omega
  have Y := Lib.hid hy
  have N1 : Hid (n1 < n ∧ n1 + 1 = n ∧ z0 + 1 = n1 ∧ n ≤ 6) := Lib.hid (by omega)
  clear s0 q0 q1 e1 e2 hy
  go_enter Try.func7, Try.ntmps7
  go_wp2_with (first
    | (go_at_call 18; (with_reducible refine (alive_any4 w).mono ?_); rintro e w1 ⟨rfl, hb1⟩)
    | (go_at_call 19; (with_reducible refine (make_cells a0 n w1 S0.out.1 S0.out.2.1 S0.out.2.2).mono ?_); rintro e w2 ⟨hb2, g, o, c, rfl, hg, hc⟩; have c0 := (hc n1 N1.out.1).trans (by rw [Y.out]); have HC := Lib.hid hc; clear hc)
    | fail)
  clear c0
  go_loopw [8, 9] (fun v i wr => ∃ t : Nat, ∃ z : Int, z + 1 = t ∧ t + 1 ≤ n ∧ i = .int .i64 z ∧ v = .string (kN a0 (t + 1)) ∧ Below w2.heap.size w2 wr) (fun v i wr => (intOf i + 1).toNat)
  case atStart => exact ⟨n1, z0, N1.out.2.2.1, by have := N1.out; omega, rfl, by rw [Y.out], Below.refl _ _⟩
  case round =>
    obtain ⟨t, z, hz, ht, rfl, rfl, hbw⟩ := hrel
    have HB2 := Lib.hid (stp hb1 hb2)
    clear hb1 hb2 i1 i2 b1
    cases t with
    | zero =>
      as_aux_lemma =>
      obtain rfl : z = -1 := by omega
      obtain ⟨x, hx⟩ : ∃ x, kN a0 1 = x := ⟨_, rfl⟩
      have hx' : kN a0 (0 + 1) = x := hx
      rw [hx']
      have HX : Hid (keyB a0 = x) := hx
      have HBW := Lib.hid hbw
      clear hx hx' hbw hz ht
      go_wp2_with (first
        | (go_at_call 21; (with_reducible refine (next_ok a0 wr S0.out.1 x HX.out).mono ?_); rintro e w5 ⟨rfl, hb5⟩)
        | fail)
      go_ret
      exact ⟨rfl, stp (stp HB2.out HBW.out) hb5⟩
    | succ j =>
      have hzj : z = (j : Int) := by omega
      obtain ⟨v, hv⟩ : ∃ v, kN a0 (j + 1 + 1) = v := ⟨_, rfl⟩
      obtain ⟨x1, hx1⟩ : ∃ x1, kN a0 (j + 1) = x1 := ⟨_, rfl⟩
      rw [hv]
      have hfa : fitB v x1 = true := by rw [← hv, ← hx1]; exact fit_kN a0 j
      have hgw : g < wr.heap.size := Nat.lt_of_lt_of_le hg hbw.size
      have kj := (hbw.cell (p := ⟨g, o + j, none⟩) hg).trans ((HC.out j (by omega)).trans (by rw [hx1]))
      have bj : (0 : Int) ≤ (j : Int) ∧ (j : Int) < (n : Int) := by omega
      have wj : IntKind.i64.wrap ((j : Int) - 1) = (j : Int) - 1 := by have := N1.out; rw [IntWalk.i64_in _ (by omega)]
      have HFA := Lib.hid hfa
      have HX1 := Lib.hid hx1
      have HV := Lib.hid hv
      have HT := Lib.hid ht
      have HBW := Lib.hid hbw
      have HGW := Lib.hid hgw
      have HKJ := Lib.hid kj
      clear hfa hx1 hv ht hbw hz hgw
      cases j with
      | zero =>
        as_aux_lemma =>
        obtain rfl : z = 0 := hzj
        clear wj
        have k0 : wr.cell? ⟨g, o, none⟩ = some (.string x1) := HKJ.out
        have bn : (0 : Int) < (n : Int) := by omega
        have bn' : 0 < n := by omega
        go_wp2_with fail
        go_quiet (fail)
        go_wp2_with (first
          | (go_at_call 20; (with_reducible refine (take_old v x1 ⟨#[]⟩ (wr.drewN nq) HFA.out).mono ?_); rintro e w5 ⟨rfl, hb5⟩; have k5 := (hb5.cell (p := ⟨g, o, none⟩) HGW.out).trans k0)
          | fail)
        have HB5 := Lib.hid hb5
        go_roundw
        case rel => exact ⟨0, -1, by omega, by have := HT.out; omega, rfl, by rw [HX1.out], stp HBW.out (below_of_drewN HB5.out)⟩
        case measure => simp [intOf]
      | succ j' =>
        subst hzj
        obtain ⟨x0, hx0⟩ : ∃ x0, kN a0 (j' + 1) = x0 := ⟨_, rfl⟩
        have k0 := (HBW.out.cell (p := ⟨g, o + j', none⟩) hg).trans ((HC.out j' (by have := HT.out; omega)).trans (by rw [hx0]))
        obtain ⟨j, hj⟩ : ∃ j, j' + 1 = j := ⟨_, rfl⟩
        rw [hj] at kj HX1 HV HT HKJ bj wj ⊢
        have hw2 : IntKind.i64.wrap ((j : Int) - 1) = (j' : Int) := by rw [wj]; omega
        have bj2 : (0 : Int) ≤ (j' : Int) ∧ (j' : Int) < (n : Int) := by have := HT.out; omega
        have bp : (0 : Int) < (j : Int) := by omega
        have bp' : 0 < j := by omega
        have hk1 : keyB x0 = x1 := by rw [← hx0, ← HX1.out, ← hj]; rfl
        have hi1 : isK x0 = true := by
          rw [← hx0]
          exact isK_keyB _
        have hi2 : isK v = true := by
          rw [← HV.out]
          exact isK_keyB _
        have HK0 := Lib.hid k0
        have HJ := Lib.hid hj
        clear wj hx0
        by_cases hq : x0 = x1
        · subst hq
          as_aux_lemma =>
          clear hk1 hi1 hi2 hj
          go_wp2_with fail
          go_quiet (fail)
          go_wp2_with (first
            | (go_at_call 20; (with_reducible refine (take_old v x0 ⟨#[]⟩ (wr.drewN nq) HFA.out).mono ?_); rintro e w5 ⟨rfl, hb5⟩; have k5 := (hb5.cell (p := ⟨g, o + j, none⟩) HGW.out).trans HKJ.out)
            | fail)
          have HB5 := Lib.hid hb5
          go_roundw
          case rel => exact ⟨j, (j' : Int), by have := HJ.out; omega, by have := HT.out; omega, rfl, by rw [HX1.out], stp HBW.out (below_of_drewN HB5.out)⟩
          case measure => have := HJ.out; simp [intOf]; omega
        · as_aux_lemma =>
          have hne : (x0.toList == x1.toList) = false := by rw [seq_b]; simpa using hq
          obtain ⟨b, hb⟩ : ∃ b, decide (v = x1) = b := ⟨_, rfl⟩
          have heq : (v.toList == x1.toList) = b := by rw [seq_b]; exact hb
          have hfb : fitB v x0 = b := by
            unfold fitB
            rw [hi1, hi2, hk1, ← hb, Bool.true_and, Bool.true_and]
            exact decide_eq_decide.2 ⟨Eq.symm, Eq.symm⟩
          have HFB := Lib.hid hfb
          clear hk1 hi1 hi2 hj hq hb hfb
          go_wp2_with fail
          go_region_held3 (fun w' => w'.cell? ⟨g, o + j', none⟩ = some (.string x0) ∧ w'.cell? ⟨g, o + j, none⟩ = some (.string x1))
            (first | (exact ⟨(hb4'.cell (p := ⟨g, o + j', none⟩) HGW.out).trans HK0.out, (hb4'.cell (p := ⟨g, o + j, none⟩) HGW.out).trans HKJ.out⟩) | (go_keep; done))
            ((go_at_call 26; (with_reducible refine (fits_b v x0 wr.drew b HFB.out).mono ?_); rintro e w4 ⟨rfl, hb4⟩; have hb4' := below_of_drew hb4))
          have g4 := (hb4'.cell (p := ⟨g, o + j, none⟩) HGW.out).trans HKJ.out
          go_wp2_with (first
            | (go_at_call 20; (with_reducible refine (take_old v x1 ⟨#[]⟩ w4 HFA.out).mono ?_); rintro e w5 ⟨rfl, hb5⟩; have k5 := (hb5.cell (p := ⟨g, o + j, none⟩) (Nat.lt_of_lt_of_le HGW.out hb4'.size)).trans g4)
            | fail)
          have HB5 := Lib.hid hb5
          go_roundw
          case rel => exact ⟨j, (j' : Int), by have := HJ.out; omega, by have := HT.out; omega, rfl, by rw [HX1.out], stp HBW.out (stp hb4' HB5.out)⟩
          case measure => have := HJ.out; simp [intOf]; omega
theorem walk (a0 : ByteArray) (a1 : Int) (w : World) (w0 : a0.size ≤ maxLen) (w1 : (Lit.int .i64 a1).wf = true) :
    Calls Try.prog 7 #[.string a0, .int .i64 a1] w fun e w' => e = .returned (.bool true) ∧ Below w.heap.size w w' := by
  by_cases h : 300 < a0.size ∨ a1 < 1 ∨ 6 < a1
  · exact walkOut a0 a1 w h
  · obtain ⟨n, rfl⟩ : ∃ n : Nat, a1 = n := ⟨a1.toNat, by omega⟩
    exact walkIn a0 n (n - 1) ((n : Int) - 2) w (by omega) (by omega) (by omega) (by omega) (by omega)

set_option maxRecDepth 100000 in
theorem lifted (os : Os) (started : os.Started) (H : Type) (enc : TypeId × Value → H) :
    ReturnsInHanded {} Try.checked os 7 .any (Rows.chainGoesSpec.pre6 enc Try.prog Try.f7 Rows.chainGoesRow.domain false) (Rows.chainGoesSpec.post enc Try.prog Try.f7 false true false false) := by
  refine returnsInHanded_of_change (C := Try.checked) own started (by kernel_rfl) Try.func7
    (ChangeSpec.witness6 (enc := enc) (C := Try.checked) false ⟨#[], #[.string ByteArray.empty, .int .i64 0], []⟩ 8 (by kernel_rfl) (by kernel_rfl) (by kernel_rfl) (by kernel_rfl)) ?_
  intro W base args ds gs before hval0 hW hcnd _
  have hval : ∀ (j : Nat) t v, Try.f7.params[j]? = some t → args[j]? = some v → Value.okWide Try.prog W .any base t v := hval0
  have hW' := hW
  obtain ⟨p, q, hA0, hV, rfl, hfz, hnd⟩ := hW
  have hA : DataW.TrodAll enc Try.prog W 0 (fun _ => true) true Try.f7.params.toList args.toList ds p := hA0
  rw [Try.params7] at hA hval
  obtain ⟨v0, vs0, d0, ds0, p0, q0, hargs, rfl, rfl, h0, r0⟩ := trodAll_cons hA
  obtain ⟨v1, vs1, d1, ds1, p1, q1, rfl, rfl, rfl, h1, r1⟩ := trodAll_cons r0
  obtain ⟨rfl, rfl, rfl⟩ := trodAll_nil r1
  obtain rfl : args = #[v0, v1] := by cases args; simp_all
  obtain ⟨rfl, rfl⟩ := trodVars_none hV
  obtain ⟨a0, rfl, rfl, rfl, w0⟩ := open_string Try.underlying9 (hval 0 9 v0 rfl rfl) h0
  obtain ⟨a1, rfl, rfl, rfl, w1⟩ := open_int Try.underlying3 (hval 1 3 v1 rfl rfl) h1
  clear hA0 hval0
  refine (walk a0 a1 W w0 w1).mono fun e W' ⟨he, bel⟩ => ?_
  subst he
  exact ⟨_, rfl, _, _, _, [], _, [], hW', trodAll_mk1 (shut_bool Try.underlying4 _), (trodAll_cons_mk (shut_string Try.underlying9 w0) (trodAll_cons_mk (shut_int Try.underlying3 w1) trodAll_mk0)), rfl, bel.frame _, fun h => by cases h⟩

theorem over : Rows.chainGoesRow.holds Try.pinned (OpenSpec.ofChange Rows.chainGoesSpec) :=
  OpenClaim.holds_of_wide 7 Try.f7 rfl rfl rfl rfl rfl rfl rfl ⟨rfl, rfl, rfl, rfl, rfl⟩ rfl rfl rfl rfl rfl (by kernel_rfl) Try.func7 (by kernel_rfl)
    (of_decide_eq_true (by kernel_rfl)) (by unfold Func.isWrapper; first | (rw [if_pos (by decide +kernel)]; kernel_rfl) | (rw [if_neg (by decide +kernel)]; exact ⟨rfl, rfl⟩))
    (fun os started H enc _ => lifted os started H enc)

theorem proved : Rows.ChainGoesSaid := over
end Go.Proofs.Ytmjcmlaeajglmaa.chainGoes
