/-
  For every three words and two numbers: turns by n and by m are one turn by both, taken through 32 each; a turn there and back is nothing; 32 turns are none; a turn goes through what is chosen, odd and most. No condition.
-/
import Derived.Test.YtfdffmfochdacaaWordD
import Derived.WalkKit
import Derived.ProofKit
import Derived.OpenShut
import Derived.ShutString
import Derived.ChangeOld
import Derived.Below
namespace Go.Proofs.Ytfdffmfochdacaa.wordTurns
open Go.ChangeShapes Go.WideShapes Go.ChangeAt Go.RowKit
open Go.ChangeMaps (open_string shut_string)
open Hx Wd
set_option linter.unusedVariables false

theorem own : ownKnob Try.prog.godebug = none := by kernel_rfl
theorem laidOut : laidOutB Try.prog = true := by kernel_rfl

set_option maxHeartbeats 4000000 in
set_option maxRecDepth 100000 in
theorem walkT (x y z p q r s c d f c' d' f' : W32) (n m a b : Int) (w : World) (hn : n.tmod 32 = a) (hm : m.tmod 32 = b) (ha0 : -31 ≤ a) (ha1 : a ≤ 31) (hb0 : -31 ≤ b) (hb1 : b ≤ 31)
    (tp : Hid (trn x n = p)) (tq : Hid (trn y n = q)) (tr : Hid (trn z n = r)) (ts : Hid (trn p m = s)) (t1 : Hid (trn x (a + b) = s)) (t2 : Hid (trn p (-a) = x)) (t3 : Hid (trn x a = p)) (t4 : Hid (trn x 32 = x))
    (u1 : Hid (chs p q r = c)) (u2 : Hid (chs x y z = c')) (u3 : Hid (trn c' n = c)) (v1 : Hid (odd p q r = d)) (v2 : Hid (odd x y z = d')) (v3 : Hid (trn d' n = d)) (q1 : Hid (mst p q r = f)) (q2 : Hid (mst x y z = f')) (q3 : Hid (trn f' n = f)) :
    Calls Try.prog 7 #[.int .u32 x.toNat, .int .u32 y.toNat, .int .u32 z.toNat, .int .i64 n, .int .i64 m] w fun e w' => e = .returned (.bool true) ∧ Below w.heap.size w w' := by
  go_enter Try.func7, Try.ntmps7
  go_wp2_with (first
    | (go_at_call 14; (with_reducible refine (alive_any w).mono ?_); rintro e w1 ⟨rfl, hb1⟩)
    | (go_at_call 19; (with_reducible refine (turn_v x n p _ tp.out).mono ?_); rintro e w' ⟨rfl, rfl⟩)
    | (go_at_call 19; (with_reducible refine (turn_v p m s _ ts.out).mono ?_); rintro e w' ⟨rfl, rfl⟩)
    | (go_at_call 19; (with_reducible refine (turn_v y n q _ tq.out).mono ?_); rintro e w' ⟨rfl, rfl⟩)
    | (go_at_call 19; (with_reducible refine (turn_v z n r _ tr.out).mono ?_); rintro e w' ⟨rfl, rfl⟩)
    | (go_at_call 19; (with_reducible refine (turn_v x (a + b) s _ t1.out).mono ?_); rintro e w' ⟨rfl, rfl⟩)
    | (go_at_call 19; (with_reducible refine (turn_v p (-a) x _ t2.out).mono ?_); rintro e w' ⟨rfl, rfl⟩)
    | (go_at_call 19; (with_reducible refine (turn_v x a p _ t3.out).mono ?_); rintro e w' ⟨rfl, rfl⟩)
    | (go_at_call 19; (with_reducible refine (turn_v x 32 x _ t4.out).mono ?_); rintro e w' ⟨rfl, rfl⟩)
    | (go_at_call 19; (with_reducible refine (turn_v c' n c _ u3.out).mono ?_); rintro e w' ⟨rfl, rfl⟩)
    | (go_at_call 19; (with_reducible refine (turn_v d' n d _ v3.out).mono ?_); rintro e w' ⟨rfl, rfl⟩)
    | (go_at_call 19; (with_reducible refine (turn_v f' n f _ q3.out).mono ?_); rintro e w' ⟨rfl, rfl⟩)
    | (go_at_call 11; (with_reducible refine (chs_v p q r c w1 u1.out).mono ?_); rintro e w2 ⟨rfl, hb2⟩; have hb2' := stp hb1 hb2)
    | (go_at_call 11; (with_reducible refine (chs_v x y z c' w2 u2.out).mono ?_); rintro e w3 ⟨rfl, hb3⟩; have hb3' := stp hb2' hb3)
    | (go_at_call 12; (with_reducible refine (odd_v p q r d w3 v1.out).mono ?_); rintro e w4 ⟨rfl, hb4⟩; have hb4' := stp hb3' hb4)
    | (go_at_call 12; (with_reducible refine (odd_v x y z d' w4 v2.out).mono ?_); rintro e w5 ⟨rfl, hb5⟩; have hb5' := stp hb4' hb5)
    | (go_at_call 13; (with_reducible refine (mst_v p q r f w5 q1.out).mono ?_); rintro e w6 ⟨rfl, hb6⟩; have hb6' := stp hb5' hb6)
    | (go_at_call 13; (with_reducible refine (mst_v x y z f' w6 q2.out).mono ?_); rintro e w7 ⟨rfl, hb7⟩; have hb7' := stp hb6' hb7)
    | fail)
  go_ret
  exact ⟨rfl, hb7'⟩

theorem walk (a0 a1 a2 a3 a4 : Int) (w : World) (w0 : (Lit.int .u32 a0).wf = true) (w1 : (Lit.int .u32 a1).wf = true) (w2 : (Lit.int .u32 a2).wf = true) (w3 : (Lit.int .i64 a3).wf = true) (w4 : (Lit.int .i64 a4).wf = true) :
    Calls Try.prog 7 #[.int .u32 a0, .int .u32 a1, .int .u32 a2, .int .i64 a3, .int .i64 a4] w fun e w' => e = .returned (.bool true) ∧ Below w.heap.size w w' := by
  obtain ⟨x, rfl⟩ := word_of w0
  obtain ⟨y, rfl⟩ := word_of w1
  obtain ⟨z, rfl⟩ := word_of w2
  obtain ⟨h1, h2, h3⟩ := tmod32 a3
  obtain ⟨h4, h5, h6⟩ := tmod32 a4
  exact walkT x y z _ _ _ _ _ _ _ _ _ _ a3 a4 _ _ w rfl rfl h1 h2 h4 h5 rfl rfl rfl rfl (trn_trn x a3 a4 _ (by omega)).symm (by
    refine (trn_trn x a3 (-(a3.tmod 32)) 0 (by omega)).trans (trn_zero _ _ rfl)) (trn_mod x _ _ h3) (trn_zero x 32 rfl)
    rfl rfl (chs_trn x y z a3).symm rfl rfl (odd_trn x y z a3).symm rfl rfl (mst_trn x y z a3).symm

set_option maxRecDepth 100000 in
theorem lifted (os : Os) (started : os.Started) (H : Type) (enc : TypeId × Value → H) :
    ReturnsInHanded {} Try.checked os 7 .any (Rows.wordTurnsSpec.pre6 enc Try.prog Try.f7 Rows.wordTurnsRow.domain false) (Rows.wordTurnsSpec.post enc Try.prog Try.f7 false true false false) := by
  refine returnsInHanded_of_change (C := Try.checked) own started (by kernel_rfl) Try.func7
    (ChangeSpec.witness6 (enc := enc) (C := Try.checked) false ⟨#[], #[.int .u32 0, .int .u32 0, .int .u32 0, .int .i64 0, .int .i64 0], []⟩ 8 (by kernel_rfl) (by kernel_rfl) (by kernel_rfl) (by kernel_rfl)) ?_
  intro W base args ds gs before hval0 hW hcnd _
  have hval : ∀ (j : Nat) t v, Try.f7.params[j]? = some t → args[j]? = some v → Value.okWide Try.prog W .any base t v := hval0
  have hW' := hW
  obtain ⟨p, q, hA0, hV, rfl, hfz, hnd⟩ := hW
  have hA : DataW.TrodAll enc Try.prog W 0 (fun _ => true) true Try.f7.params.toList args.toList ds p := hA0
  rw [Try.params7] at hA hval
  obtain ⟨v0, vs0, d0, ds0, p0, q0, hargs, rfl, rfl, h0, r0⟩ := trodAll_cons hA
  obtain ⟨v1, vs1, d1, ds1, p1, q1, rfl, rfl, rfl, h1, r1⟩ := trodAll_cons r0
  obtain ⟨v2, vs2, d2, ds2, p2, q2, rfl, rfl, rfl, h2, r2⟩ := trodAll_cons r1
  obtain ⟨v3, vs3, d3, ds3, p3, q3, rfl, rfl, rfl, h3, r3⟩ := trodAll_cons r2
  obtain ⟨v4, vs4, d4, ds4, p4, q4, rfl, rfl, rfl, h4, r4⟩ := trodAll_cons r3
  obtain ⟨rfl, rfl, rfl⟩ := trodAll_nil r4
  obtain rfl : args = #[v0, v1, v2, v3, v4] := by cases args; simp_all
  obtain ⟨rfl, rfl⟩ := trodVars_none hV
  obtain ⟨a0, rfl, rfl, rfl, w0⟩ := open_int Try.underlying28 (hval 0 28 v0 rfl rfl) h0
  obtain ⟨a1, rfl, rfl, rfl, w1⟩ := open_int Try.underlying28 (hval 1 28 v1 rfl rfl) h1
  obtain ⟨a2, rfl, rfl, rfl, w2⟩ := open_int Try.underlying28 (hval 2 28 v2 rfl rfl) h2
  obtain ⟨a3, rfl, rfl, rfl, w3⟩ := open_int Try.underlying3 (hval 3 3 v3 rfl rfl) h3
  obtain ⟨a4, rfl, rfl, rfl, w4⟩ := open_int Try.underlying3 (hval 4 3 v4 rfl rfl) h4
  clear hA0 hval0
  refine (walk a0 a1 a2 a3 a4 W w0 w1 w2 w3 w4).mono fun e W' ⟨he, bel⟩ => ?_
  subst he
  exact ⟨_, rfl, _, _, _, [], _, [], hW', trodAll_mk1 (shut_bool Try.underlying4 _), (trodAll_cons_mk (shut_int Try.underlying28 w0) (trodAll_cons_mk (shut_int Try.underlying28 w1) (trodAll_cons_mk (shut_int Try.underlying28 w2) (trodAll_cons_mk (shut_int Try.underlying3 w3) (trodAll_cons_mk (shut_int Try.underlying3 w4) trodAll_mk0))))), rfl, bel.frame _, fun h => by cases h⟩

theorem over : Rows.wordTurnsRow.holds Try.pinned (OpenSpec.ofChange Rows.wordTurnsSpec) :=
  OpenClaim.holds_of_wide 7 Try.f7 rfl rfl rfl rfl rfl rfl rfl ⟨rfl, rfl, rfl, rfl, rfl⟩ rfl rfl rfl rfl rfl (by kernel_rfl) Try.func7 (by kernel_rfl)
    (of_decide_eq_true (by kernel_rfl)) (by unfold Func.isWrapper; first | (rw [if_pos (by decide +kernel)]; kernel_rfl) | (rw [if_neg (by decide +kernel)]; exact ⟨rfl, rfl⟩))
    (fun os started H enc _ => lifted os started H enc)

theorem proved : Rows.WordTurnsSaid := over
end Go.Proofs.Ytfdffmfochdacaa.wordTurns
