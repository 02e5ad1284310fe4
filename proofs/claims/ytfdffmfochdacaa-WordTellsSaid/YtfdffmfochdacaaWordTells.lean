/-
  For every three words, a number and a slice of words: a word turned, a sum, and three words put together are the document's answers, and the slice stays as it was. No condition.
-/
import Derived.Test.YtfdffmfochdacaaWordS
import Derived.WalkKit
import Derived.ProofKit
import Derived.OpenShut
import Derived.ShutString
import Derived.ChangeOld
import Derived.Below
namespace Go.Proofs.Ytfdffmfochdacaa.wordTells
open Go.ChangeShapes Go.WideShapes Go.ChangeAt Go.RowKit
open Go.ChangeMaps (open_string shut_string)
open Hx Wd
set_option linter.unusedVariables false

theorem own : ownKnob Try.prog.godebug = none := by kernel_rfl
theorem laidOut : laidOutB Try.prog = true := by kernel_rfl

theorem own_zeroG {α : Type} {enc : α → Value} {w : World} {base : Nat} {e : TypeId} {v : Value} {n : Nat} {l : List α} (h : w.ownsRow base e 1 v (0 + n) ([] ++ l.map enc)) : w.ownsRow base e 1 v n (l.map enc) := by simpa using h
theorem own_emptyW (w : World) (base : Nat) (e : TypeId) (hb : base ≤ w.heap.size) : (w.alloc (.cells #[] e)).ownsRow base e 1 (.slice (some ⟨w.heap.size, 0, none⟩) 0 0) 0 [] := World.ownsRow_lit w #[] 0 hb (Nat.zero_le _) rfl

set_option maxHeartbeats 1000000 in
set_option maxRecDepth 100000 in
theorem walkBig (x y z : W32) (n : Int) (a4 : Option Addr) (len4 cap4 : Nat) (w : World) (h : 500 < len4) :
    Calls Try.prog 5 #[.int .u32 x.toNat, .int .u32 y.toNat, .int .u32 z.toNat, .int .i64 n, .slice a4 len4 cap4] w fun e w' => e = .returned (.bool true) ∧ Below w.heap.size w w' := by
  have t0 : decide ((500 : Int) < (len4 : Int)) = true := by simp; omega
  go_enter Try.func5, Try.ntmps5
  go_wp2_with fail
  go_ret
  exact ⟨rfl, Below.refl _ _⟩

set_option maxHeartbeats 4000000 in
set_option maxRecDepth 100000 in
theorem walkSmall (x y z t c d f : W32) (n : Int) (a4 : Option Addr) (len4 cap4 : Nat) (l4 : List W32) (s : Nat) (w : World) (w4 : RdW w w.heap.size a4 l4) (n4 : l4.length = len4) (z4 : a4 = none → cap4 = 0) (h : len4 ≤ 500)
    (ht : Hid (trn x n = t)) (hc : Hid (chs x y z = c)) (hd : Hid (odd x y z = d)) (hf : Hid (mst x y z = f)) (hs : Hid (sm l4 = s)) :
    Calls Try.prog 5 #[.int .u32 x.toNat, .int .u32 y.toNat, .int .u32 z.toNat, .int .i64 n, .slice a4 len4 cap4] w fun e w' => e = .returned (.bool true) ∧ Below w.heap.size w w' := by
  have t0 : decide ((500 : Int) < (len4 : Int)) = false := by simp; omega
  obtain ⟨i0, hi, hz0, hz1, hz2⟩ := info_parts infoW
  have HI := Lib.hid hi
  have HZ0 := Lib.hid hz0
  have HZ1 := Lib.hid hz1
  have HZ2 := Lib.hid hz2
  have HN := Lib.hid n4
  have HR := Lib.hid w4
  have HC := Lib.hid z4
  have HE := Lib.hid (own_emptyW w w.heap.size 28 (Nat.le_refl _))
  have hb1 := stpA (Below.refl w.heap.size w) (.cells #[] 28)
  clear hi hz0 hz1 hz2 n4 w4 z4
  go_enter Try.func5, Try.ntmps5
  go_wp2_with (first
    | (at_builtin; refine wpList_append_rdg encW_one rfl (.tmp 16) (.tmp 17) 22 rfl w.heap.size 28 i0 (.int .u32 0) 4 Try.underlying22 HI.out HZ0.out HZ1.out HZ2.out (by decide) rfl _ _ _ rfl HE.out w.heap.size a4 len4 cap4 l4 rfl (HR.out.below hb1) HN.out HC.out (by omega) hb1.size ?_; intro v2 w2 hown2 hgr2; have hb2 := hb1.grown hgr2 hb1.size (fun g hg => (HE.out.lt g hg).1); have hown3 := own_zeroG hown2; clear hown2 hgr2; obtain ⟨A2, c2, hv2⟩ := own_form hown3; subst hv2; have HR2 := Lib.hid (RdG.of_own hown3); have HR0 := Lib.hid (HR.out.on hb2); clear hown3)
    | (go_at_call 19; (with_reducible refine (turn_v x n t w2 ht.out).mono ?_); rintro e w' ⟨rfl, rfl⟩)
    | (go_at_call 20; (with_reducible refine (rturn_v x n t w2 ht.out).mono ?_); rintro e w' ⟨rfl, rfl⟩)
    | (go_at_call 15; (with_reducible refine (sum_v A2 len4 c2 l4 s w2 HR2.out.1 HN.out (by omega) hs.out).mono ?_); rintro e w' ⟨rfl, rfl⟩)
    | (go_at_call 21; (with_reducible refine (rsum_v a4 len4 cap4 l4 s w2 HR0.out HN.out (by omega) hs.out).mono ?_); rintro e w' ⟨rfl, rfl⟩)
    | (go_at_call 17; (with_reducible refine (rsame_any A2 a4 len4 c2 cap4 l4 w2 HR2.out.1 HR0.out HN.out (by omega)).mono ?_); rintro e w3 ⟨rfl, hb3⟩; have hb3' := stp hb2 hb3)
    | (go_at_call 11; (with_reducible refine (chs_v x y z c w3 hc.out).mono ?_); rintro e w4 ⟨rfl, hb4⟩; have hb4' := stp hb3' hb4)
    | (go_at_call 22; (with_reducible refine (rchs_v x y z c w4 hc.out).mono ?_); rintro e w' ⟨rfl, rfl⟩)
    | (go_at_call 12; (with_reducible refine (odd_v x y z d w4 hd.out).mono ?_); rintro e w5 ⟨rfl, hb5⟩; have hb5' := stp hb4' hb5)
    | (go_at_call 23; (with_reducible refine (rodd_v x y z d w5 hd.out).mono ?_); rintro e w' ⟨rfl, rfl⟩)
    | (go_at_call 13; (with_reducible refine (mst_v x y z f w5 hf.out).mono ?_); rintro e w6 ⟨rfl, hb6⟩; have hb6' := stp hb5' hb6)
    | (go_at_call 24; (with_reducible refine (rmst_v x y z f w6 hf.out).mono ?_); rintro e w' ⟨rfl, rfl⟩)
    | fail)
  go_ret
  exact ⟨rfl, hb6'⟩

theorem walk (a0 a1 a2 a3 : Int) (a4 : Option Addr) (len4 cap4 : Nat) (l4 : List W32) (w : World) (w0 : (Lit.int .u32 a0).wf = true) (w1 : (Lit.int .u32 a1).wf = true) (w2 : (Lit.int .u32 a2).wf = true) (w3 : (Lit.int .i64 a3).wf = true)
    (w4 : RdW w w.heap.size a4 l4) (n4 : l4.length = len4) (c4 : len4 ≤ cap4) (m4 : cap4 ≤ maxLen) (z4 : a4 = none → cap4 = 0) :
    Calls Try.prog 5 #[.int .u32 a0, .int .u32 a1, .int .u32 a2, .int .i64 a3, .slice a4 len4 cap4] w fun e w' => e = .returned (.bool true) ∧ Below w.heap.size w w' := by
  obtain ⟨x, rfl⟩ := word_of w0
  obtain ⟨y, rfl⟩ := word_of w1
  obtain ⟨z, rfl⟩ := word_of w2
  by_cases h : 500 < len4
  · exact walkBig x y z a3 a4 len4 cap4 w h
  · exact walkSmall x y z _ _ _ _ a3 a4 len4 cap4 l4 _ w w4 n4 z4 (by omega) rfl rfl rfl rfl rfl

set_option maxRecDepth 100000 in
theorem lifted (os : Os) (started : os.Started) (H : Type) (enc : TypeId × Value → H) :
    ReturnsInHanded {} Try.checked os 5 .any (Rows.wordTellsSpec.pre6 enc Try.prog Try.f5 Rows.wordTellsRow.domain false) (Rows.wordTellsSpec.post enc Try.prog Try.f5 false true false false) := by
  refine returnsInHanded_of_change (C := Try.checked) own started (by kernel_rfl) Try.func5
    (ChangeSpec.witness6 (enc := enc) (C := Try.checked) false ⟨#[], #[.int .u32 0, .int .u32 0, .int .u32 0, .int .i64 0, .slice none 0 0], []⟩ 8 (by kernel_rfl) (by kernel_rfl) (by kernel_rfl) (by kernel_rfl)) ?_
  intro W base args ds gs before hval0 hW hcnd _
  have hval : ∀ (j : Nat) t v, Try.f5.params[j]? = some t → args[j]? = some v → Value.okWide Try.prog W .any base t v := hval0
  have hW' := hW
  obtain ⟨p, q, hA0, hV, rfl, hfz, hnd⟩ := hW
  have hA : DataW.TrodAll enc Try.prog W 0 (fun _ => true) true Try.f5.params.toList args.toList ds p := hA0
  rw [Try.params5] at hA hval
  obtain ⟨v0, vs0, d0, ds0, p0, q0, hargs, rfl, rfl, h0, r0⟩ := trodAll_cons hA
  obtain ⟨v1, vs1, d1, ds1, p1, q1, rfl, rfl, rfl, h1, r1⟩ := trodAll_cons r0
  obtain ⟨v2, vs2, d2, ds2, p2, q2, rfl, rfl, rfl, h2, r2⟩ := trodAll_cons r1
  obtain ⟨v3, vs3, d3, ds3, p3, q3, rfl, rfl, rfl, h3, r3⟩ := trodAll_cons r2
  obtain ⟨v4, vs4, d4, ds4, p4, q4, rfl, rfl, rfl, h4, r4⟩ := trodAll_cons r3
  obtain ⟨rfl, rfl, rfl⟩ := trodAll_nil r4
  obtain rfl : args = #[v0, v1, v2, v3, v4] := by cases args; simp_all
  obtain ⟨rfl, rfl⟩ := trodVars_none hV
  obtain ⟨a0, rfl, rfl, rfl, w0⟩ := open_int Try.underlying28 (hval 0 28 v0 rfl rfl) h0
  obtain ⟨a1, rfl, rfl, rfl, w1⟩ := open_int Try.underlying28 (hval 1 28 v1 rfl rfl) h1
  obtain ⟨a2, rfl, rfl, rfl, w2⟩ := open_int Try.underlying28 (hval 2 28 v2 rfl rfl) h2
  obtain ⟨a3, rfl, rfl, rfl, w3⟩ := open_int Try.underlying3 (hval 3 3 v3 rfl rfl) h3
  obtain ⟨a4, len4, cap4, rfl⟩ := okWide_slice Try.underlying22 (hval 4 22 v4 rfl rfl)
  have k4 := h4
  have lt4 : ∀ x ∈ p4, x.block < W.heap.size := by obtain ⟨m, hm⟩ := k4; exact DataW.trod_lt m _ _ _ hm
  obtain ⟨l4, w4, n4, c4, m4, z4⟩ : ∃ l : List Wd.W32, RdW W W.heap.size a4 l ∧ l.length = len4 ∧ len4 ≤ cap4 ∧ cap4 ≤ maxLen ∧ (a4 = none → cap4 = 0) := by
    obtain ⟨fuel, hf⟩ := h4
    rcases open_ints Try.underlying22 Try.underlying28 (by kernel_rfl) hf with ⟨hcs, _⟩ | ⟨x, l, c, zs, hcs, _, hl, hm, hz, _, hcell, hwz⟩
    · simp [Value.cells] at hcs
      obtain ⟨rfl, rfl, rfl⟩ := hcs
      exact ⟨[], RdG.nil _ _ _, rfl, Nat.le_refl _, Nat.zero_le _, fun _ => rfl⟩
    · simp [Value.cells] at hcs
      obtain ⟨rfl, rfl, rfl⟩ := hcs
      have hz' : zs.length = cap4 := by simpa using hz
      obtain ⟨l, hr, hn⟩ := rdW_of_row hl hz' hcell hwz
      exact ⟨l, hr, hn, hl, hm, fun h => by cases h⟩
  clear hA0 hval0
  refine (walk a0 a1 a2 a3 a4 len4 cap4 l4 W w0 w1 w2 w3 w4 n4 c4 m4 z4).mono fun e W' ⟨he, bel⟩ => ?_
  subst he
  exact ⟨_, rfl, _, _, _, [], _, [], hW', trodAll_mk1 (shut_bool Try.underlying4 _), (trodAll_cons_mk (shut_int Try.underlying28 w0) (trodAll_cons_mk (shut_int Try.underlying28 w1) (trodAll_cons_mk (shut_int Try.underlying28 w2) (trodAll_cons_mk (shut_int Try.underlying3 w3) (trodAll_cons_mk (Below.trod laidOut (by kernel_rfl) (of_decide_eq_true (by kernel_rfl)) k4 bel lt4) trodAll_mk0))))), rfl, bel.frame _, fun h => by cases h⟩

theorem over : Rows.wordTellsRow.holds Try.pinned (OpenSpec.ofChange Rows.wordTellsSpec) :=
  OpenClaim.holds_of_wide 5 Try.f5 rfl rfl rfl rfl rfl rfl rfl ⟨rfl, rfl, rfl, rfl, rfl⟩ rfl rfl rfl rfl rfl (by kernel_rfl) Try.func5 (by kernel_rfl)
    (of_decide_eq_true (by kernel_rfl)) (by unfold Func.isWrapper; first | (rw [if_pos (by decide +kernel)]; kernel_rfl) | (rw [if_neg (by decide +kernel)]; exact ⟨rfl, rfl⟩))
    (fun os started H enc _ => lifted os started H enc)

theorem proved : Rows.WordTellsSaid := over
end Go.Proofs.Ytfdffmfochdacaa.wordTells
