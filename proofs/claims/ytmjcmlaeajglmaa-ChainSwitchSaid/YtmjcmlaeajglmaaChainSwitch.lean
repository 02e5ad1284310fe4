/-
  For every two seeds and numbers the law of one chain that follows another one answers true, and what came in reads as before; no conditions.
-/
import Derived.Test.YtmjcmlaeajglmaaChnH
import Derived.Deep.RegionHeld3
import Derived.WalkKit
import Derived.ProofKit
import Derived.OpenShut
import Derived.ShutString
import Derived.ChangeOld
import Derived.Below
namespace Go.Proofs.Ytmjcmlaeajglmaa.chainSwitch
open Go.ChangeShapes Go.WideShapes Go.ChangeAt Go.RowKit
open Go.ChangeMaps (open_string shut_string)
open Hx Wd Sh
set_option linter.unusedVariables false

theorem own : ownKnob Try.prog.godebug = none := by kernel_rfl
theorem laidOut : laidOutB Try.prog = true := by kernel_rfl

set_option linter.unusedVariables false
set_option maxHeartbeats 2000000 in
set_option maxRecDepth 100000 in
theorem walkOut (a0 a1 : ByteArray) (n m : Int) (w : World) (h : 100 < a0.size ∨ 100 < a1.size ∨ n < 2 ∨ 4 < n ∨ m < 2 ∨ 4 < m) :
    Calls Try.prog 9 #[.string a0, .string a1, .int .i64 n, .int .i64 m] w fun e w' => e = .returned (.bool true) ∧ Below w.heap.size w w' := by
  by_cases h0 : 100 < a0.size
  · have t0 : decide ((100 : Int) < (a0.size : Int)) = true := by simp; omega
    clear h
    go_enter Try.func9, Try.ntmps9
    go_wp2_with (first | (go_at_call 18; (with_reducible refine (alive_any4 w).mono ?_); rintro e w1 ⟨rfl, hb1⟩) | fail)
    go_ret
    exact ⟨rfl, hb1⟩
  · skip
    by_cases h1 : 100 < a1.size
    · have t0 : decide ((100 : Int) < (a0.size : Int)) = false := by simp; omega
      have t1 : decide ((100 : Int) < (a1.size : Int)) = true := by simp; omega
      clear h
      go_enter Try.func9, Try.ntmps9
      go_wp2_with (first | (go_at_call 18; (with_reducible refine (alive_any4 w).mono ?_); rintro e w1 ⟨rfl, hb1⟩) | fail)
      go_ret
      exact ⟨rfl, hb1⟩
    · skip
      by_cases h2 : n < 2
      · have t0 : decide ((100 : Int) < (a0.size : Int)) = false := by simp; omega
        have t1 : decide ((100 : Int) < (a1.size : Int)) = false := by simp; omega
        have t2 : decide (n < 2) = true := by simp; omega
        clear h
        go_enter Try.func9, Try.ntmps9
        go_wp2_with (first | (go_at_call 18; (with_reducible refine (alive_any4 w).mono ?_); rintro e w1 ⟨rfl, hb1⟩) | fail)
        go_ret
        exact ⟨rfl, hb1⟩
      · skip
        by_cases h3 : 4 < n
        · have t0 : decide ((100 : Int) < (a0.size : Int)) = false := by simp; omega
          have t1 : decide ((100 : Int) < (a1.size : Int)) = false := by simp; omega
          have t2 : decide (n < 2) = false := by simp; omega
          have t3 : decide (4 < n) = true := by simp; omega
          clear h
          go_enter Try.func9, Try.ntmps9
          go_wp2_with (first | (go_at_call 18; (with_reducible refine (alive_any4 w).mono ?_); rintro e w1 ⟨rfl, hb1⟩) | fail)
          go_ret
          exact ⟨rfl, hb1⟩
        · skip
          by_cases h4 : m < 2
          · have t0 : decide ((100 : Int) < (a0.size : Int)) = false := by simp; omega
            have t1 : decide ((100 : Int) < (a1.size : Int)) = false := by simp; omega
            have t2 : decide (n < 2) = false := by simp; omega
            have t3 : decide (4 < n) = false := by simp; omega
            have t4 : decide (m < 2) = true := by simp; omega
            clear h
            go_enter Try.func9, Try.ntmps9
            go_wp2_with (first | (go_at_call 18; (with_reducible refine (alive_any4 w).mono ?_); rintro e w1 ⟨rfl, hb1⟩) | fail)
            go_ret
            exact ⟨rfl, hb1⟩
          · skip
            have t0 : decide ((100 : Int) < (a0.size : Int)) = false := by simp; omega
            have t1 : decide ((100 : Int) < (a1.size : Int)) = false := by simp; omega
            have t2 : decide (n < 2) = false := by simp; omega
            have t3 : decide (4 < n) = false := by simp; omega
            have t4 : decide (m < 2) = false := by simp; omega
            have t5 : decide (4 < m) = true := by simp; omega
            clear h
            go_enter Try.func9, Try.ntmps9
            go_wp2_with (first | (go_at_call 18; (with_reducible refine (alive_any4 w).mono ?_); rintro e w1 ⟨rfl, hb1⟩) | fail)
            go_ret
            exact ⟨rfl, hb1⟩

set_option maxHeartbeats 4000000 in
set_option maxRecDepth 100000 in
theorem walkIn (a0 a1 : ByteArray) (n m m1 m2 : Nat) (w : World) (s0 : a0.size ≤ 100) (s1 : a1.size ≤ 100) (n0 : 2 ≤ n) (n1 : n ≤ 4) (q0 : 2 ≤ m) (q1 : m ≤ 4) (e1 : m1 + 1 = m) (e2 : m2 + 1 = m1) (x1 x2 y1 y2 : ByteArray)
    (hx1 : kN a0 1 = x1) (hx2 : kN a0 2 = x2) (hy1 : kN a1 (m1 + 1) = y1) (hy2 : kN a1 (m2 + 1) = y2) :
    Calls Try.prog 9 #[.string a0, .string a1, .int .i64 n, .int .i64 m] w fun e w' => e = .returned (.bool true) ∧ Below w.heap.size w w' := by
  have t0 : decide ((100 : Int) < (a0.size : Int)) = false := by simp; omega
  have t1 : decide ((100 : Int) < (a1.size : Int)) = false := by simp; omega
  have t2 : decide ((n : Int) < 2) = false := by simp; omega
  have t3 : decide ((4 : Int) < (n : Int)) = false := by simp; omega
  have t4 : decide ((m : Int) < 2) = false := by simp; omega
  have t5 : decide ((4 : Int) < (m : Int)) = false := by simp; omega
  have i1 : IntKind.i64.wrap ((m : Int) - 1) = (m1 : Int) := by rw [IntWalk.i64_in _ (by omega)]; omega
  have i2 : IntKind.i64.wrap ((m : Int) - 2) = (m2 : Int) := by rw [IntWalk.i64_in _ (by omega)]; omega
  have b1 : (0 : Int) ≤ (m1 : Int) ∧ (m1 : Int) < (m : Int) := by omega
  have b2 : (0 : Int) ≤ (m2 : Int) ∧ (m2 : Int) < (m : Int) := by omega
  have b3 : (0 : Int) < (n : Int) ∧ (1 : Int) < (n : Int) := by omega
  have b4 : 0 < n := by omega
  have f1 : fitB x2 x1 = true := by rw [← hx1, ← hx2]; exact fit_kN a0 0
  have f2 : isK y1 = true := by rw [← hy1]; exact isK_keyB _
  have f3 : fitB y1 y2 = true := by rw [← hy1, ← hy2, ← e2]; exact fit_kN a1 m2
  have S0 : Hid (a0.size ≤ 16384 ∧ n ≤ 256 ∧ 0 < n) := by constructor <;> omega
  have S1 : Hid (a1.size ≤ 16384 ∧ m ≤ 256 ∧ 0 < m) := by constructor <;> omega
  have X1 := Lib.hid hx1
  have X2 := Lib.hid hx2
  have Y1 := Lib.hid hy1
  have Y2 := Lib.hid hy2
  have FA := Lib.hid f1
  have FB := Lib.hid f2
  have FC := Lib.hid f3
  have L0 : Hid (0 < n ∧ 1 < n ∧ m1 < m ∧ m2 < m) := Lib.hid (by omega)
  clear s0 s1 n0 n1 q0 q1 e1 e2 hx1 hx2 hy1 hy2 f1 f2 f3
  go_enter Try.func9, Try.ntmps9
  go_wp2_with (first
    | (go_at_call 18; (with_reducible refine (alive_any4 w).mono ?_); rintro e w1 ⟨rfl, hb1⟩)
    | (go_at_call 19; (with_reducible refine (make_cells a0 n w1 S0.out.1 S0.out.2.1 S0.out.2.2).mono ?_); rintro e w2 ⟨hb2, ga, oa, ca, rfl, hga, hca⟩; have c0 := (hca 0 L0.out.1).trans (by rw [X1.out]); have c1 := (hca 1 L0.out.2.1).trans (by rw [X2.out]); have CA := Lib.hid hca; clear hca)
    | (go_at_call 19; (with_reducible refine (make_cells a1 m w2 S1.out.1 S1.out.2.1 S1.out.2.2).mono ?_); rintro e w3 ⟨hb3, gb, ob, cb, rfl, hgb, hcb⟩; have d0 := (hb3.cell (p := ⟨ga, oa, none⟩) hga).trans c0; have d1 := (hb3.cell (p := ⟨ga, oa + 1, none⟩) hga).trans c1; have d2 := (hcb m1 L0.out.2.2.1).trans (by rw [Y1.out]); have d3 := (hcb m2 L0.out.2.2.2).trans (by rw [Y2.out]); have CB := Lib.hid hcb; clear hcb)
    | fail)
  have hga3 : ga < w3.heap.size := Nat.lt_of_lt_of_le hga hb3.size
  have HD := Lib.hid (And.intro d0 (And.intro d1 (And.intro d2 d3)))
  clear c0 c1 hga
  go_region_held3 (fun w' => w'.cell? ⟨ga, oa, none⟩ = some (.string x1) ∧ w'.cell? ⟨ga, oa + 1, none⟩ = some (.string x2) ∧ w'.cell? ⟨gb, ob + m1, none⟩ = some (.string y1))
    (first | (exact ⟨(hb4'.cell (p := ⟨ga, oa, none⟩) hga3).trans HD.out.1, (hb4'.cell (p := ⟨ga, oa + 1, none⟩) hga3).trans HD.out.2.1, (hb4'.cell (p := ⟨gb, ob + m1, none⟩) hgb).trans HD.out.2.2.1⟩) | (go_keep; done))
    ((go_at_call 20; (with_reducible refine (take_new x2 x1 y1 w3.drew FA.out FB.out).mono ?_); rintro e w4 ⟨rfl, hb4⟩; have hb4' := below_of_drew hb4))
  have g2 := (hb4'.cell (p := ⟨gb, ob + m1, none⟩) hgb).trans HD.out.2.2.1
  have g3 := (hb4'.cell (p := ⟨gb, ob + m2, none⟩) hgb).trans HD.out.2.2.2
  clear d0 d1 d2 d3
  go_wp2_with (first
    | (go_at_call 20; (with_reducible refine (take_old y1 y2 ⟨#[]⟩ w4 FC.out).mono ?_); rintro e w5 ⟨rfl, hb5⟩; have g4 := (hb5.cell (p := ⟨gb, ob + m2, none⟩) (Nat.lt_of_lt_of_le hgb hb4'.size)).trans g3)
    | fail)
  go_ret
  exact ⟨rfl, stp (stp (stp (stp hb1 hb2) hb3) hb4') hb5⟩
theorem walk (a0 a1 : ByteArray) (a2 a3 : Int) (w : World) (w0 : a0.size ≤ maxLen) (w1 : a1.size ≤ maxLen) (w2 : (Lit.int .i64 a2).wf = true) (w3 : (Lit.int .i64 a3).wf = true) :
    Calls Try.prog 9 #[.string a0, .string a1, .int .i64 a2, .int .i64 a3] w fun e w' => e = .returned (.bool true) ∧ Below w.heap.size w w' := by
  by_cases h : 100 < a0.size ∨ 100 < a1.size ∨ a2 < 2 ∨ 4 < a2 ∨ a3 < 2 ∨ 4 < a3
  · exact walkOut a0 a1 a2 a3 w h
  · obtain ⟨n, rfl⟩ : ∃ n : Nat, a2 = n := ⟨a2.toNat, by omega⟩
    obtain ⟨m, rfl⟩ : ∃ m : Nat, a3 = m := ⟨a3.toNat, by omega⟩
    exact walkIn a0 a1 n m (m - 1) (m - 2) w (by omega) (by omega) (by omega) (by omega) (by omega) (by omega) (by omega) (by omega) _ _ _ _ rfl rfl rfl rfl

set_option maxRecDepth 100000 in
theorem lifted (os : Os) (started : os.Started) (H : Type) (enc : TypeId × Value → H) :
    ReturnsInHanded {} Try.checked os 9 .any (Rows.chainSwitchSpec.pre6 enc Try.prog Try.f9 Rows.chainSwitchRow.domain false) (Rows.chainSwitchSpec.post enc Try.prog Try.f9 false true false false) := by
  refine returnsInHanded_of_change (C := Try.checked) own started (by kernel_rfl) Try.func9
    (ChangeSpec.witness6 (enc := enc) (C := Try.checked) false ⟨#[], #[.string ByteArray.empty, .string ByteArray.empty, .int .i64 0, .int .i64 0], []⟩ 8 (by kernel_rfl) (by kernel_rfl) (by kernel_rfl) (by kernel_rfl)) ?_
  intro W base args ds gs before hval0 hW hcnd _
  have hval : ∀ (j : Nat) t v, Try.f9.params[j]? = some t → args[j]? = some v → Value.okWide Try.prog W .any base t v := hval0
  have hW' := hW
  obtain ⟨p, q, hA0, hV, rfl, hfz, hnd⟩ := hW
  have hA : DataW.TrodAll enc Try.prog W 0 (fun _ => true) true Try.f9.params.toList args.toList ds p := hA0
  rw [Try.params9] at hA hval
  obtain ⟨v0, vs0, d0, ds0, p0, q0, hargs, rfl, rfl, h0, r0⟩ := trodAll_cons hA
  obtain ⟨v1, vs1, d1, ds1, p1, q1, rfl, rfl, rfl, h1, r1⟩ := trodAll_cons r0
  obtain ⟨v2, vs2, d2, ds2, p2, q2, rfl, rfl, rfl, h2, r2⟩ := trodAll_cons r1
  obtain ⟨v3, vs3, d3, ds3, p3, q3, rfl, rfl, rfl, h3, r3⟩ := trodAll_cons r2
  obtain ⟨rfl, rfl, rfl⟩ := trodAll_nil r3
  obtain rfl : args = #[v0, v1, v2, v3] := by cases args; simp_all
  obtain ⟨rfl, rfl⟩ := trodVars_none hV
  obtain ⟨a0, rfl, rfl, rfl, w0⟩ := open_string Try.underlying9 (hval 0 9 v0 rfl rfl) h0
  obtain ⟨a1, rfl, rfl, rfl, w1⟩ := open_string Try.underlying9 (hval 1 9 v1 rfl rfl) h1
  obtain ⟨a2, rfl, rfl, rfl, w2⟩ := open_int Try.underlying3 (hval 2 3 v2 rfl rfl) h2
  obtain ⟨a3, rfl, rfl, rfl, w3⟩ := open_int Try.underlying3 (hval 3 3 v3 rfl rfl) h3
  clear hA0 hval0
  refine (walk a0 a1 a2 a3 W w0 w1 w2 w3).mono fun e W' ⟨he, bel⟩ => ?_
  subst he
  exact ⟨_, rfl, _, _, _, [], _, [], hW', trodAll_mk1 (shut_bool Try.underlying4 _), (trodAll_cons_mk (shut_string Try.underlying9 w0) (trodAll_cons_mk (shut_string Try.underlying9 w1) (trodAll_cons_mk (shut_int Try.underlying3 w2) (trodAll_cons_mk (shut_int Try.underlying3 w3) trodAll_mk0)))), rfl, bel.frame _, fun h => by cases h⟩

theorem over : Rows.chainSwitchRow.holds Try.pinned (OpenSpec.ofChange Rows.chainSwitchSpec) :=
  OpenClaim.holds_of_wide 9 Try.f9 rfl rfl rfl rfl rfl rfl rfl ⟨rfl, rfl, rfl, rfl, rfl⟩ rfl rfl rfl rfl rfl (by kernel_rfl) Try.func9 (by kernel_rfl)
    (of_decide_eq_true (by kernel_rfl)) (by unfold Func.isWrapper; first | (rw [if_pos (by decide +kernel)]; kernel_rfl) | (rw [if_neg (by decide +kernel)]; exact ⟨rfl, rfl⟩))
    (fun os started H enc _ => lifted os started H enc)

theorem proved : Rows.ChainSwitchSaid := over
end Go.Proofs.Ytmjcmlaeajglmaa.chainSwitch
