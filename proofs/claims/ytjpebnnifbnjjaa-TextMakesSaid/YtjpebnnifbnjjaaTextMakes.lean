/-
  For every numbers the law of the text of code points answers true, and what came in reads as before; no conditions.
-/
import Derived.Test.YtjpebnnifbnjjaaTextV
import Derived.WalkKit
import Derived.ProofKit
import Derived.OpenShut
import Derived.ShutString
import Derived.ChangeOld
import Derived.Below
namespace Go.Proofs.Ytjpebnnifbnjjaa.textMakes
open Go.ChangeShapes Go.WideShapes Go.ChangeAt Go.RowKit
open Go.ChangeMaps (open_string shut_string)
open Hx Tx
set_option linter.unusedVariables false

theorem own : ownKnob Try.prog.godebug = none := by kernel_rfl
theorem laidOut : laidOutB Try.prog = true := by kernel_rfl

set_option linter.unusedVariables false
theorem own_any5 {w : World} {base : Nat} {e : TypeId} {v : Value} {n : Nat} {l : List Int} (h : w.ownsRow base e 1 v n (l.map encZ)) : ∃ A c, v = .slice A n c ∧ (A = none → c = 0) ∧ RdZ w w.heap.size A l := by
  obtain ⟨A, c, rfl⟩ := own_form h
  refine ⟨A, c, rfl, ?_, (RdG.of_own h).1⟩
  intro hA
  subst hA
  rcases h.2 with ⟨e, _⟩ | ⟨g, cap, cur, e, _⟩
  · injection e with _ _ h3
  · injection e with h3 _ _
    cases h3
set_option maxRecDepth 100000 in
theorem walkOut (a0 : Option Addr) (len0 cap0 : Nat) (w : World) (h : 2000 < len0 ∧ len0 ≤ 16384 ∨ 17000 < len0) :
    Calls Try.prog 5 #[.slice a0 len0 cap0] w fun e w' => e = .returned (.bool true) ∧ Below w.heap.size w w' := by
  by_cases h1 : len0 ≤ 16384
  · have t0 : decide ((2000 : Int) < (len0 : Int)) = true := by simp; omega
    have t1 : decide ((len0 : Int) ≤ 16384) = true := by simp; omega
    clear h h1
    go_enter Try.func5, Try.ntmps5
    go_wp2
    go_ret
    exact ⟨rfl, Below.refl _ _⟩
  · have t0 : decide ((2000 : Int) < (len0 : Int)) = true := by simp; omega
    have t1 : decide ((len0 : Int) ≤ 16384) = false := by simp; omega
    have t2 : decide ((17000 : Int) < (len0 : Int)) = true := by simp; omega
    clear h h1
    go_enter Try.func5, Try.ntmps5
    go_wp2
    go_ret
    exact ⟨rfl, Below.refl _ _⟩
set_option maxHeartbeats 4000000 in
set_option maxRecDepth 100000 in
theorem walkIn (a0 : Option Addr) (len0 cap0 : Nat) (l : List Int) (w : World) (hr : RdZ w w.heap.size a0 l) (hn : l.length = len0) (hz : a0 = none → cap0 = 0) (h : ¬ (2000 < len0 ∧ len0 ≤ 16384)) (h2 : len0 ≤ 17000) (t : ByteArray) (q : Int) (hq : ofR l = (t, q)) :
    Calls Try.prog 5 #[.slice a0 len0 cap0] w fun e w' => e = .returned (.bool true) ∧ Below w.heap.size w w' := by
  obtain ⟨i0, hi, hz0, hz1, hz2⟩ := info_parts infoZ
  have HI := Lib.hid hi
  have HZ0 := Lib.hid hz0
  have HZ1 := Lib.hid hz1
  have HZ2 := Lib.hid hz2
  obtain ⟨x, hx⟩ : ∃ x, decide ((2000 : Int) < (len0 : Int)) = x := ⟨_, rfl⟩
  have t2 : decide ((17000 : Int) < (len0 : Int)) = false := by simp; omega
  have hx1 : x = true → decide ((len0 : Int) ≤ 16384) = false := by
    intro e
    rw [e] at hx
    simp at hx
    simp
    omega
  have HR := Lib.hid hr
  have HN := Lib.hid hn
  have HZ := Lib.hid hz
  have HQ := Lib.hid hq
  have HM : Hid (len0 ≤ 100000) := Lib.hid (by omega)
  have HE : Hid ((w.alloc (.cells #[] 3)).ownsRow w.heap.size 3 1 (.slice (some ⟨w.heap.size, 0, none⟩) 0 0) 0 []) := Lib.hid (World.ownsRow_made w #[] 0 (Nat.le_refl _) (by decide) rfl)
  have hb5 := stpA (Below.refl w.heap.size w) (.cells #[] 3)
  clear hi hz0 hz1 hz2 hr hn hz hq h h2
  cases x
  · clear hx1
    go_enter Try.func5, Try.ntmps5
    go_wp2_with (first
      | (at_builtin; refine wpList_append_rdg encZ_one rfl (.tmp 21) (.tmp 22) 28 rfl w.heap.size 3 i0 (.int .i64 0) 8 Try.underlying28 HI.out HZ0.out HZ1.out HZ2.out (by decide) rfl _ 0 _ rfl HE.out w.heap.size a0 len0 cap0 l rfl (HR.out.below hb5) HN.out HZ.out (by have := HM.out; omega) hb5.size ?_; intro v6 w6 hown6 hgr6; have hb6 := hb5.grown hgr6 hb5.size (fun g hg => (HE.out.lt g hg).1); rw [List.nil_append, Nat.zero_add] at hown6; obtain ⟨A6, c6, hv6, hz6, hr6⟩ := own_any5 hown6; subst hv6; have HR6 := Lib.hid hr6; clear hown6 hgr6 hr6 hz6)
      | (go_at_call 11; (with_reducible refine (of5 A6 len0 c6 l w6 HR6.out HN.out HM.out t q HQ.out).mono ?_); rintro e w7 ⟨rfl, hb7⟩; have hb67 := stp hb6 hb7)
      | (go_at_call 20; (with_reducible refine (rof5_any a0 len0 cap0 l w7 ((HR.out.below hb67).mono hb67.size) HN.out HM.out t q HQ.out).mono ?_); rintro e w8 ⟨rfl, hb8⟩; have hb78 := stp hb7 hb8; have hb68 := stp hb6 hb78)
      | (go_at_call 16; (with_reducible refine (rsame5_yes A6 a0 len0 c6 cap0 l w8 ((HR6.out.below hb78).mono hb78.size) ((HR.out.below hb68).mono hb68.size) HN.out (by have := HM.out; omega)).mono ?_); rintro e w9 ⟨rfl, hb9⟩)
      | fail)
    go_ret
    exact ⟨rfl, stp (stp (stp hb6 hb7) hb8) hb9⟩
  · have t1 := hx1 rfl
    clear hx1
    go_enter Try.func5, Try.ntmps5
    go_wp2_with (first
      | (at_builtin; refine wpList_append_rdg encZ_one rfl (.tmp 21) (.tmp 22) 28 rfl w.heap.size 3 i0 (.int .i64 0) 8 Try.underlying28 HI.out HZ0.out HZ1.out HZ2.out (by decide) rfl _ 0 _ rfl HE.out w.heap.size a0 len0 cap0 l rfl (HR.out.below hb5) HN.out HZ.out (by have := HM.out; omega) hb5.size ?_; intro v6 w6 hown6 hgr6; have hb6 := hb5.grown hgr6 hb5.size (fun g hg => (HE.out.lt g hg).1); rw [List.nil_append, Nat.zero_add] at hown6; obtain ⟨A6, c6, hv6, hz6, hr6⟩ := own_any5 hown6; subst hv6; have HR6 := Lib.hid hr6; clear hown6 hgr6 hr6 hz6)
      | (go_at_call 11; (with_reducible refine (of5 A6 len0 c6 l w6 HR6.out HN.out HM.out t q HQ.out).mono ?_); rintro e w7 ⟨rfl, hb7⟩; have hb67 := stp hb6 hb7)
      | (go_at_call 20; (with_reducible refine (rof5_any a0 len0 cap0 l w7 ((HR.out.below hb67).mono hb67.size) HN.out HM.out t q HQ.out).mono ?_); rintro e w8 ⟨rfl, hb8⟩; have hb78 := stp hb7 hb8; have hb68 := stp hb6 hb78)
      | (go_at_call 16; (with_reducible refine (rsame5_yes A6 a0 len0 c6 cap0 l w8 ((HR6.out.below hb78).mono hb78.size) ((HR.out.below hb68).mono hb68.size) HN.out (by have := HM.out; omega)).mono ?_); rintro e w9 ⟨rfl, hb9⟩)
      | fail)
    go_ret
    exact ⟨rfl, stp (stp (stp hb6 hb7) hb8) hb9⟩
theorem walk (a0 : Option Addr) (len0 cap0 : Nat) (l0 : List Int) (w : World) (w0 : RdZ w w.heap.size a0 l0) (n0 : l0.length = len0) (c0 : len0 ≤ cap0) (m0 : cap0 ≤ maxLen) (z0 : a0 = none → cap0 = 0) :
    Calls Try.prog 5 #[.slice a0 len0 cap0] w fun e w' => e = .returned (.bool true) ∧ Below w.heap.size w w' := by
  by_cases h : 2000 < len0 ∧ len0 ≤ 16384 ∨ 17000 < len0
  · exact walkOut a0 len0 cap0 w h
  · exact walkIn a0 len0 cap0 l0 w w0 n0 z0 (fun q => h (.inl q)) (by omega) _ _ rfl

set_option maxRecDepth 100000 in
theorem lifted (os : Os) (started : os.Started) (H : Type) (enc : TypeId × Value → H) :
    ReturnsInHanded {} Try.checked os 5 .any (Rows.textMakesSpec.pre6 enc Try.prog Try.f5 Rows.textMakesRow.domain false) (Rows.textMakesSpec.post enc Try.prog Try.f5 false true false false) := by
  refine returnsInHanded_of_change (C := Try.checked) own started (by kernel_rfl) Try.func5
    (ChangeSpec.witness6 (enc := enc) (C := Try.checked) false ⟨#[], #[.slice none 0 0], []⟩ 8 (by kernel_rfl) (by kernel_rfl) (by kernel_rfl) (by kernel_rfl)) ?_
  intro W base args ds gs before hval0 hW hcnd _
  have hval : ∀ (j : Nat) t v, Try.f5.params[j]? = some t → args[j]? = some v → Value.okWide Try.prog W .any base t v := hval0
  have hW' := hW
  obtain ⟨p, q, hA0, hV, rfl, hfz, hnd⟩ := hW
  have hA : DataW.TrodAll enc Try.prog W 0 (fun _ => true) true Try.f5.params.toList args.toList ds p := hA0
  rw [Try.params5] at hA hval
  obtain ⟨v0, vs0, d0, ds0, p0, q0, hargs, rfl, rfl, h0, r0⟩ := trodAll_cons hA
  obtain ⟨rfl, rfl, rfl⟩ := trodAll_nil r0
  obtain rfl : args = #[v0] := by cases args; simp_all
  obtain ⟨rfl, rfl⟩ := trodVars_none hV
  obtain ⟨a0, len0, cap0, rfl⟩ := okWide_slice Try.underlying28 (hval 0 28 v0 rfl rfl)
  have k0 := h0
  have lt0 : ∀ x ∈ p0, x.block < W.heap.size := by obtain ⟨m, hm⟩ := k0; exact DataW.trod_lt m _ _ _ hm
  obtain ⟨l0, w0, n0, c0, m0, z0⟩ : ∃ l : List Int, RdZ W W.heap.size a0 l ∧ l.length = len0 ∧ len0 ≤ cap0 ∧ cap0 ≤ maxLen ∧ (a0 = none → cap0 = 0) := by
    obtain ⟨fuel, hf⟩ := h0
    rcases open_ints Try.underlying28 Try.underlying3 (by kernel_rfl) hf with ⟨hcs, _⟩ | ⟨x, l, c, zs, hcs, _, hl, hm, hz, _, hcell, hwz⟩
    · simp [Value.cells] at hcs
      obtain ⟨rfl, rfl, rfl⟩ := hcs
      exact ⟨[], RdG.nil _ _ _, rfl, Nat.le_refl _, Nat.zero_le _, fun _ => rfl⟩
    · simp [Value.cells] at hcs
      obtain ⟨rfl, rfl, rfl⟩ := hcs
      have hz' : zs.length = cap0 := by simpa using hz
      obtain ⟨l, hr, hn⟩ := rdZ_of_row hl hz' hcell hwz
      exact ⟨l, hr, hn, hl, hm, fun h => by cases h⟩
  clear hA0 hval0
  refine (walk a0 len0 cap0 l0 W w0 n0 c0 m0 z0).mono fun e W' ⟨he, bel⟩ => ?_
  subst he
  exact ⟨_, rfl, _, _, _, [], _, [], hW', trodAll_mk1 (shut_bool Try.underlying4 _), (trodAll_cons_mk (Below.trod laidOut (by kernel_rfl) (of_decide_eq_true (by kernel_rfl)) k0 bel lt0) trodAll_mk0), rfl, bel.frame _, fun h => by cases h⟩

theorem over : Rows.textMakesRow.holds Try.pinned (OpenSpec.ofChange Rows.textMakesSpec) :=
  OpenClaim.holds_of_wide 5 Try.f5 rfl rfl rfl rfl rfl rfl rfl ⟨rfl, rfl, rfl, rfl, rfl⟩ rfl rfl rfl rfl rfl (by kernel_rfl) Try.func5 (by kernel_rfl)
    (of_decide_eq_true (by kernel_rfl)) (by unfold Func.isWrapper; first | (rw [if_pos (by decide +kernel)]; kernel_rfl) | (rw [if_neg (by decide +kernel)]; exact ⟨rfl, rfl⟩))
    (fun os started H enc _ => lifted os started H enc)

theorem proved : Rows.TextMakesSaid := over
end Go.Proofs.Ytjpebnnifbnjjaa.textMakes
