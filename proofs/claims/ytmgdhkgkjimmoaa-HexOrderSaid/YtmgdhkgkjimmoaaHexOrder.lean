/-
  HexOrder: for any two slices of bytes the law returns true, and they read as they did. No condition.
-/
import Derived.Test.YtmgdhkgkjimmoaaHexF
import Derived.WalkKit
import Derived.ProofKit
import Derived.OpenShut
import Derived.ShutString
import Derived.ChangeOld
import Derived.Below
namespace Go.Proofs.Ytmgdhkgkjimmoaa.hexOrder
open Go.ChangeShapes Go.WideShapes Go.ChangeAt Go.RowKit
open Go.ChangeMaps (open_string shut_string)
open Hx
set_option linter.unusedVariables false

theorem own : ownKnob Try.prog.godebug = none := by kernel_rfl
theorem laidOut : laidOutB Try.prog = true := by kernel_rfl

set_option maxHeartbeats 2000000 in
set_option maxRecDepth 100000 in
theorem walkBig (a0 : Option Addr) (len0 cap0 : Nat) (a1 : Option Addr) (len1 cap1 : Nat) (w : World) (hbig : 2000 < len0 ∨ 2000 < len1) :
    Calls Try.prog 6 #[.slice a0 len0 cap0, .slice a1 len1 cap1] w fun e w' => e = .returned (.bool true) ∧ Below w.heap.size w w' := by
  by_cases h0 : 2000 < len0
  · have t0 : decide ((2000 : Int) < (len0 : Int)) = true := by simp; omega
    go_enter Try.func6, Try.ntmps6
    go_wp2_with (first
      | (go_at_call 10; refine (alive_any _).mono ?_; rintro e w1 ⟨rfl, hb1⟩)
      | fail)
    go_ret
    exact ⟨rfl, hb1⟩
  · have h1 : 2000 < len1 := by omega
    have t0 : decide ((2000 : Int) < (len0 : Int)) = false := by simp; omega
    have t1 : decide ((2000 : Int) < (len1 : Int)) = true := by simp; omega
    go_enter Try.func6, Try.ntmps6
    go_wp2_with (first
      | (go_at_call 10; refine (alive_any _).mono ?_; rintro e w1 ⟨rfl, hb1⟩)
      | fail)
    go_ret
    exact ⟨rfl, hb1⟩

set_option maxHeartbeats 2000000 in
set_option maxRecDepth 100000 in
theorem walkSmall (a0 : Option Addr) (len0 cap0 : Nat) (l0 : List UInt8) (a1 : Option Addr) (len1 cap1 : Nat) (l1 : List UInt8) (w : World) (w0 : RdA w w.heap.size a0 l0) (n0 : l0.length = len0) (z0 : a0 = none → cap0 = 0) (w1 : RdA w w.heap.size a1 l1) (n1 : l1.length = len1) (z1 : a1 = none → cap1 = 0)
    (h0 : len0 ≤ 2000) (h1 : len1 ≤ 2000) :
    Calls Try.prog 6 #[.slice a0 len0 cap0, .slice a1 len1 cap1] w fun e w' => e = .returned (.bool true) ∧ Below w.heap.size w w' := by
  have t0 : decide ((2000 : Int) < (len0 : Int)) = false := by simp; omega
  have t1 : decide ((2000 : Int) < (len1 : Int)) = false := by simp; omega
  obtain ⟨i0, hi, hz0, hz1, hz2⟩ := info_parts info5
  have HI := Lib.hid hi
  have HZ0 := Lib.hid hz0
  have HZ1 := Lib.hid hz1
  have HZ2 := Lib.hid hz2
  clear hi hz0 hz1 hz2
  have HN0 := Lib.hid n0
  have HN1 := Lib.hid n1
  have HR0 := Lib.hid w0
  have HR1 := Lib.hid w1
  have HC0 := Lib.hid z0
  have HC1 := Lib.hid z1
  have hl := putL_less l0 l1
  have hcat := fun W => run_string_add_lists (P := Try.prog) W (putL l0) (putL l1) (by rw [putL_length]; omega) (by rw [putL_length]; omega)
  have hap := Lib.hid (putL_append l0 l1)
  clear n0 n1 w0 w1 z0 z1
  go_enter Try.func6, Try.ntmps6
  go_wp2_with (first
    | (go_at_call 10; refine (alive_any _).mono ?_; rintro e w1 ⟨rfl, hb1⟩)
    | (go_at_call 11; (with_reducible refine (put_any a0 len0 cap0 l0 w1 ((HR0.out.below hb1).mono hb1.size) HN0.out (by omega)).mono ?_); rintro e w2 ⟨rfl, hb2⟩; have hb2' := stp hb1 hb2)
    | (go_at_call 11; (with_reducible refine (put_any a1 len1 cap1 l1 w2 ((HR1.out.below hb2').mono hb2'.size) HN1.out (by omega)).mono ?_); rintro e w3 ⟨rfl, hb3⟩; have hb3' := stp hb2' hb3; have HE := Lib.hid (own_empty w3 w.heap.size 5 hb3'.size); have hb4 := stpA hb3' (.cells #[] 5))
    | (at_builtin; refine wpList_append_rd rfl (.tmp 27) (.tmp 28) 22 rfl w.heap.size 5 i0 (.int .u8 0) Try.underlying22 HI.out HZ0.out HZ1.out HZ2.out rfl _ _ _ rfl HE.out w.heap.size a0 len0 cap0 l0 rfl (HR0.out.below hb4) HN0.out HC0.out (by omega) hb4.size ?_; intro v5 w5 hown5 hgr5; have HO5 := Lib.hid hown5; have hb5 := hb4.grown hgr5 hb4.size (fun g hg => (HE.out.lt g hg).1); clear hown5 hgr5)
    | (at_builtin; refine wpList_append_rd rfl (.tmp 29) (.tmp 30) 22 rfl w.heap.size 5 i0 (.int .u8 0) Try.underlying22 HI.out HZ0.out HZ1.out HZ2.out rfl _ _ _ rfl HO5.out w.heap.size a1 len1 cap1 l1 rfl (HR1.out.below hb5) HN1.out HC1.out (by omega) hb5.size ?_; intro v6 w6 hown6 hgr6; have HO6 := Lib.hid hown6; have hb6 := hb5.grown hgr6 hb5.size (fun g hg => (HO5.out.lt g hg).1); have hown7 := own_two hown6; clear hown6 hgr6; obtain ⟨A6, c6, hv6⟩ := own_form hown7; subst hv6; have HR6 := Lib.hid (RdA.of_own hown7); clear hown7; have cv0 := conv_str (P := Try.prog) (c := cap0) (HR0.out.below hb6) HN0.out Try.underlying22 Try.underlying5 Try.underlying9; have cv1 := conv_str (P := Try.prog) (c := cap1) (HR1.out.below hb6) HN1.out Try.underlying22 Try.underlying5 Try.underlying9)
    | (go_at_call 11; (with_reducible refine (put_any A6 (len0 + len1) c6 (l0 ++ l1) w6 HR6.out.1 HR6.out.2 (by omega)).mono ?_); rintro e w7 ⟨rfl, hb7⟩)
    | fail)
  go_ret
  exact ⟨ret_b (by rw [hap.out]; simp), stp hb6 hb7⟩

theorem walk (a0 : Option Addr) (len0 cap0 : Nat) (l0 : List UInt8) (a1 : Option Addr) (len1 cap1 : Nat) (l1 : List UInt8) (w : World) (w0 : RdA w w.heap.size a0 l0) (n0 : l0.length = len0) (m0 : len0 ≤ maxLen) (z0 : a0 = none → cap0 = 0) (w1 : RdA w w.heap.size a1 l1) (n1 : l1.length = len1) (m1 : len1 ≤ maxLen) (z1 : a1 = none → cap1 = 0) :
    Calls Try.prog 6 #[.slice a0 len0 cap0, .slice a1 len1 cap1] w fun e w' => e = .returned (.bool true) ∧ Below w.heap.size w w' := by
  by_cases h : 2000 < len0 ∨ 2000 < len1
  · exact walkBig a0 len0 cap0 a1 len1 cap1 w h
  · exact walkSmall a0 len0 cap0 l0 a1 len1 cap1 l1 w w0 n0 z0 w1 n1 z1 (by omega) (by omega)

set_option maxRecDepth 100000 in
theorem lifted (os : Os) (started : os.Started) (H : Type) (enc : TypeId × Value → H) :
    ReturnsInHanded {} Try.checked os 6 .any (Rows.hexOrderSpec.pre6 enc Try.prog Try.f6 Rows.hexOrderRow.domain false) (Rows.hexOrderSpec.post enc Try.prog Try.f6 false true false false) := by
  refine returnsInHanded_of_change (C := Try.checked) own started (by kernel_rfl) Try.func6
    (ChangeSpec.witness6 (enc := enc) (C := Try.checked) false ⟨#[], #[.slice none 0 0, .slice none 0 0], []⟩ 8 (by kernel_rfl) (by kernel_rfl) (by kernel_rfl) (by kernel_rfl)) ?_
  intro W base args ds gs before hval0 hW hcnd _
  have hval : ∀ (j : Nat) t v, Try.f6.params[j]? = some t → args[j]? = some v → Value.okWide Try.prog W .any base t v := hval0
  have hW' := hW
  obtain ⟨p, q, hA0, hV, rfl, hfz, hnd⟩ := hW
  have hA : DataW.TrodAll enc Try.prog W 0 (fun _ => true) true Try.f6.params.toList args.toList ds p := hA0
  rw [Try.params6] at hA hval
  obtain ⟨v0, vs0, d0, ds0, p0, q0, hargs, rfl, rfl, h0, r0⟩ := trodAll_cons hA
  obtain ⟨v1, vs1, d1, ds1, p1, q1, rfl, rfl, rfl, h1, r1⟩ := trodAll_cons r0
  obtain ⟨rfl, rfl, rfl⟩ := trodAll_nil r1
  obtain rfl : args = #[v0, v1] := by cases args; simp_all
  obtain ⟨rfl, rfl⟩ := trodVars_none hV
  obtain ⟨a0, len0, cap0, rfl⟩ := okWide_slice Try.underlying22 (hval 0 22 v0 rfl rfl)
  have k0 := h0
  have lt0 : ∀ x ∈ p0, x.block < W.heap.size := by obtain ⟨m, hm⟩ := k0; exact DataW.trod_lt m _ _ _ hm
  obtain ⟨l0, w0, n0, m0, z0⟩ : ∃ l : List UInt8, RdA W W.heap.size a0 l ∧ l.length = len0 ∧ len0 ≤ maxLen ∧ (a0 = none → cap0 = 0) := by
    obtain ⟨fuel, hf⟩ := h0
    rcases open_ints Try.underlying22 Try.underlying5 (by kernel_rfl) hf with ⟨hcs, _⟩ | ⟨x, l, c, zs, hcs, _, hl, hm, hz, _, hcell, hwz⟩
    · simp [Value.cells] at hcs
      obtain ⟨rfl, rfl, rfl⟩ := hcs
      exact ⟨[], RdA.nil _ _ _, rfl, Nat.zero_le _, fun _ => rfl⟩
    · simp [Value.cells] at hcs
      obtain ⟨rfl, rfl, rfl⟩ := hcs
      have hz' : zs.length = cap0 := by simpa using hz
      obtain ⟨l, hr, hn⟩ := rdA_of_row hl hz' hcell hwz
      exact ⟨l, hr, hn, by omega, fun h => by cases h⟩
  obtain ⟨a1, len1, cap1, rfl⟩ := okWide_slice Try.underlying22 (hval 1 22 v1 rfl rfl)
  have k1 := h1
  have lt1 : ∀ x ∈ p1, x.block < W.heap.size := by obtain ⟨m, hm⟩ := k1; exact DataW.trod_lt m _ _ _ hm
  obtain ⟨l1, w1, n1, m1, z1⟩ : ∃ l : List UInt8, RdA W W.heap.size a1 l ∧ l.length = len1 ∧ len1 ≤ maxLen ∧ (a1 = none → cap1 = 0) := by
    obtain ⟨fuel, hf⟩ := h1
    rcases open_ints Try.underlying22 Try.underlying5 (by kernel_rfl) hf with ⟨hcs, _⟩ | ⟨x, l, c, zs, hcs, _, hl, hm, hz, _, hcell, hwz⟩
    · simp [Value.cells] at hcs
      obtain ⟨rfl, rfl, rfl⟩ := hcs
      exact ⟨[], RdA.nil _ _ _, rfl, Nat.zero_le _, fun _ => rfl⟩
    · simp [Value.cells] at hcs
      obtain ⟨rfl, rfl, rfl⟩ := hcs
      have hz' : zs.length = cap1 := by simpa using hz
      obtain ⟨l, hr, hn⟩ := rdA_of_row hl hz' hcell hwz
      exact ⟨l, hr, hn, by omega, fun h => by cases h⟩
  clear hA0 hval0
  refine (walk a0 len0 cap0 l0 a1 len1 cap1 l1 W w0 n0 m0 z0 w1 n1 m1 z1).mono fun e W' ⟨he, bel⟩ => ?_
  subst he
  exact ⟨_, rfl, _, _, _, [], _, [], hW', trodAll_mk1 (shut_bool Try.underlying4 _), (trodAll_cons_mk (Below.trod laidOut (by kernel_rfl) (of_decide_eq_true (by kernel_rfl)) k0 bel lt0) (trodAll_cons_mk (Below.trod laidOut (by kernel_rfl) (of_decide_eq_true (by kernel_rfl)) k1 bel lt1) trodAll_mk0)), rfl, bel.frame _, fun h => by cases h⟩

theorem over : Rows.hexOrderRow.holds Try.pinned (OpenSpec.ofChange Rows.hexOrderSpec) :=
  OpenClaim.holds_of_wide 6 Try.f6 rfl rfl rfl rfl rfl rfl rfl ⟨rfl, rfl, rfl, rfl, rfl⟩ rfl rfl rfl rfl rfl (by kernel_rfl) Try.func6 (by kernel_rfl)
    (of_decide_eq_true (by kernel_rfl)) (by unfold Func.isWrapper; first | (rw [if_pos (by decide +kernel)]; kernel_rfl) | (rw [if_neg (by decide +kernel)]; exact ⟨rfl, rfl⟩))
    (fun os started H enc _ => lifted os started H enc)

theorem proved : Rows.HexOrderSaid := over
end Go.Proofs.Ytmgdhkgkjimmoaa.hexOrder
