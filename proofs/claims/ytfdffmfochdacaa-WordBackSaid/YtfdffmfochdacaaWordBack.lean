/-
  For every slice of words and every slice of bytes: what is put is got, and what is got is put as just these bytes. No condition.
-/
import Derived.Test.YtfdffmfochdacaaWordS
import Derived.WalkKit
import Derived.ProofKit
import Derived.OpenShut
import Derived.ShutString
import Derived.ChangeOld
import Derived.Below
namespace Go.Proofs.Ytfdffmfochdacaa.wordBack
open Go.ChangeShapes Go.WideShapes Go.ChangeAt Go.RowKit
open Go.ChangeMaps (open_string shut_string)
open Hx Wd
set_option linter.unusedVariables false

theorem own : ownKnob Try.prog.godebug = none := by kernel_rfl
theorem laidOut : laidOutB Try.prog = true := by kernel_rfl

theorem RdA.drew {w : World} {B : Nat} {A : Option Addr} {l : List UInt8} (h : RdA w B A l) : RdA w.drew B A l := h
set_option maxHeartbeats 2000000 in
set_option maxRecDepth 100000 in
theorem walkBig (a0 : Option Addr) (len0 cap0 : Nat) (a1 : Option Addr) (len1 cap1 : Nat) (w : World) (hbig : 500 < len0 ∨ 2000 < len1) :
    Calls Try.prog 6 #[.slice a0 len0 cap0, .slice a1 len1 cap1] w fun e w' => e = .returned (.bool true) ∧ Below w.heap.size w w' := by
  by_cases h0 : 500 < len0
  · have t0 : decide ((500 : Int) < (len0 : Int)) = true := by simp; omega
    go_enter Try.func6, Try.ntmps6
    go_wp2_with (first
      | (go_at_call 14; refine (alive_any _).mono ?_; rintro e w1 ⟨rfl, hb1⟩)
      | fail)
    go_ret
    exact ⟨rfl, hb1⟩
  · have h1 : 2000 < len1 := by omega
    have t0 : decide ((500 : Int) < (len0 : Int)) = false := by simp; omega
    have t1 : decide ((2000 : Int) < (len1 : Int)) = true := by simp; omega
    go_enter Try.func6, Try.ntmps6
    go_wp2_with (first
      | (go_at_call 14; refine (alive_any _).mono ?_; rintro e w1 ⟨rfl, hb1⟩)
      | fail)
    go_ret
    exact ⟨rfl, hb1⟩

def ByN (l : List W32) (n : Nat) (W : World) (e : Ending) (w' : World) : Prop := Below W.heap.size W w' ∧ ∃ A c, e = .returned (.slice A (4 * n) c) ∧ RdA w' w'.heap.size A (bytesL l)
theorem bytes_n (A : Option Addr) (n cp : Nat) (l : List W32) (w : World) (hr : RdW w w.heap.size A l) (hn : l.length = n) (hm : n ≤ 100000) : Calls Try.prog 10 #[.slice A n cp] w (ByN l n w) := bytes_any A n cp l w hr hn hm
def OfN (l : List W32) (n : Nat) (W : World) (e : Ending) (w' : World) : Prop := Below W.heap.size W w' ∧ ∃ A c, e = .returned (.tuple #[.slice A n c, .int .i64 0]) ∧ RdW w' w'.heap.size A l
theorem of_n (A : Option Addr) (n cp : Nat) (b : List UInt8) (l : List W32) (m : Nat) (w : World) (hr : RdA w w.heap.size A b) (hn : b.length = n) (hm : n ≤ 16384) (h4 : n % 4 = 0) (hl : wordL b = l) (hm' : l.length = m) : Calls Try.prog 9 #[.slice A n cp] w (OfN l m w) :=
  (of_ok A n cp b w hr hn hm h4).mono fun e w' ⟨hb, A', c, he, hr'⟩ => by
    subst hl hm'
    exact ⟨hb, A', c, he, hr'⟩

set_option maxHeartbeats 4000000 in
set_option maxRecDepth 100000 in
theorem walkSmall (a0 : Option Addr) (len0 cap0 : Nat) (l0 : List W32) (a1 : Option Addr) (len1 cap1 : Nat) (l1 : List UInt8) (w : World) (w0 : RdW w w.heap.size a0 l0) (n0 : l0.length = len0) (w1 : RdA w w.heap.size a1 l1) (n1 : l1.length = len1)
    (h0 : len0 ≤ 500) (h1 : len1 ≤ 2000) :
    Calls Try.prog 6 #[.slice a0 len0 cap0, .slice a1 len1 cap1] w fun e w' => e = .returned (.bool true) ∧ Below w.heap.size w w' := by
  have t0 : decide ((500 : Int) < (len0 : Int)) = false := by simp; omega
  have t1 : decide ((2000 : Int) < (len1 : Int)) = false := by simp; omega
  have HN0 := Lib.hid n0
  have HN1 := Lib.hid n1
  have HR0 := Lib.hid w0
  have HR1 := Lib.hid w1
  have HL := Lib.hid (show (bytesL l0).length = 4 * len0 by rw [bytesL_length, n0])
  have HWB := Lib.hid (wordL_bytesL l0)
  clear n0 n1 w0 w1
  by_cases h4 : len1 % 4 = 0
  · have HQ := Lib.hid (show (wordL l1).length = len1 / 4 by rw [wordL_length, HN1.out])
    have HBW := Lib.hid (bytesL_wordL l1 (by rw [HN1.out]; exact h4))
    have HLB := Lib.hid (show l1.length = 4 * (len1 / 4) by rw [HN1.out]; omega)
    have H4 := Lib.hid h4
    clear h4
    go_enter Try.func6, Try.ntmps6
    go_wp2_with (first
      | (go_at_call 14; (with_reducible refine (alive_any w).mono ?_); rintro e w1 ⟨rfl, hb1⟩)
      | (go_at_call 10; (with_reducible refine (bytes_n a0 len0 cap0 l0 w1 (HR0.out.on hb1) HN0.out (by omega)).mono ?_); rintro e w2 ⟨hb2, A2, c2, rfl, hr2⟩; have hb2' := stp hb1 hb2; have HR2 := Lib.hid hr2; clear hr2)
      | (go_at_call 9; (with_reducible refine (of_n A2 (4 * len0) c2 (bytesL l0) l0 len0 w2 HR2.out HL.out (by omega) (by omega) HWB.out HN0.out).mono ?_); rintro e w3 ⟨hb3, A3, c3, rfl, hr3⟩; have hb3' := stp hb2' hb3; have HR3 := Lib.hid hr3; clear hr3)
      | (go_at_call 17; (with_reducible refine (rsame_any A3 a0 len0 c3 cap0 l0 w3 HR3.out (HR0.out.on hb3') HN0.out (by omega)).mono ?_); rintro e w4 ⟨rfl, hb4⟩; have hb4' := stp hb3' hb4)
      | (go_at_call 9; (with_reducible refine (of_n a1 len1 cap1 l1 (wordL l1) (len1 / 4) w4 ((HR1.out.below hb4').mono hb4'.size) HN1.out (by omega) H4.out rfl HQ.out).mono ?_); rintro e w5 ⟨hb5, A5, c5, rfl, hr5⟩; have hb5' := stp hb4' hb5; have HR5 := Lib.hid hr5; clear hr5)
      | fail)
    have cvb : (convert 26 9 (.slice a1 len1 cap1)).run Try.prog w5.drew = .ok (.string ⟨l1.toArray⟩) w5.drew := conv_str (RdA.drew (HR1.out.below hb5')) HN1.out Try.underlying26 Try.underlying5 Try.underlying9
    have HR5d : Hid (RdW w5.drew w5.drew.heap.size A5 (wordL l1)) := HR5.out
    go_region_with (go_at_call 10; (with_reducible refine (bytes_n A5 (len1 / 4) c5 (wordL l1) w5.drew HR5d.out HQ.out (by omega)).mono ?_); rintro e w6 ⟨hb6, A6, c6, rfl, hr6⟩; have hb6' := stp hb5'.drew hb6; have cvb6 : (convert 26 9 (.slice a1 len1 cap1)).run Try.prog w6 = .ok (.string ⟨l1.toArray⟩) w6 := conv_str (HR1.out.below hb6') HN1.out Try.underlying26 Try.underlying5 Try.underlying9; rw [HBW.out] at hr6; have cvk : (convert 26 9 (.slice A6 (4 * (len1 / 4)) c6)).run Try.prog w6 = .ok (.string ⟨l1.toArray⟩) w6 := conv_str (P := Try.prog) (c := c6) hr6 HLB.out Try.underlying26 Try.underlying5 Try.underlying9; clear hr6)
    all_goals
      go_wp2
      go_ret
      exact ⟨rfl, hb6'⟩
  · have h4a : ((len1 : Int) % 4 == 0) = false := by simp; omega
    have h4b : ((len1 : Int) % 4 != 0) = true := by simp; omega
    have H4 := Lib.hid h4
    clear h4
    go_enter Try.func6, Try.ntmps6
    go_wp2_with (first
      | (go_at_call 14; (with_reducible refine (alive_any w).mono ?_); rintro e w1 ⟨rfl, hb1⟩)
      | (go_at_call 10; (with_reducible refine (bytes_n a0 len0 cap0 l0 w1 (HR0.out.on hb1) HN0.out (by omega)).mono ?_); rintro e w2 ⟨hb2, A2, c2, rfl, hr2⟩; have hb2' := stp hb1 hb2; have HR2 := Lib.hid hr2; clear hr2)
      | (go_at_call 9; (with_reducible refine (of_n A2 (4 * len0) c2 (bytesL l0) l0 len0 w2 HR2.out HL.out (by omega) (by omega) HWB.out HN0.out).mono ?_); rintro e w3 ⟨hb3, A3, c3, rfl, hr3⟩; have hb3' := stp hb2' hb3; have HR3 := Lib.hid hr3; clear hr3)
      | (go_at_call 17; (with_reducible refine (rsame_any A3 a0 len0 c3 cap0 l0 w3 HR3.out (HR0.out.on hb3') HN0.out (by omega)).mono ?_); rintro e w4 ⟨rfl, hb4⟩; have hb4' := stp hb3' hb4)
      | (go_at_call 9; (with_reducible refine (of_arg a1 len1 cap1 w4 (by omega) H4.out).mono ?_); rintro e w5 ⟨rfl, hb5⟩; have hb5' := stp hb4' hb5)
      | fail)
    go_ret
    exact ⟨rfl, hb5'⟩

theorem walk (a0 : Option Addr) (len0 cap0 : Nat) (l0 : List W32) (a1 : Option Addr) (len1 cap1 : Nat) (l1 : List UInt8) (w : World) (w0 : RdW w w.heap.size a0 l0) (n0 : l0.length = len0) (c0 : len0 ≤ cap0) (m0 : cap0 ≤ maxLen) (z0 : a0 = none → cap0 = 0) (w1 : RdA w w.heap.size a1 l1) (n1 : l1.length = len1) (m1 : len1 ≤ maxLen) (z1 : a1 = none → cap1 = 0) :
    Calls Try.prog 6 #[.slice a0 len0 cap0, .slice a1 len1 cap1] w fun e w' => e = .returned (.bool true) ∧ Below w.heap.size w w' := by
  by_cases h : 500 < len0 ∨ 2000 < len1
  · exact walkBig a0 len0 cap0 a1 len1 cap1 w h
  · exact walkSmall a0 len0 cap0 l0 a1 len1 cap1 l1 w w0 n0 w1 n1 (by omega) (by omega)

set_option maxRecDepth 100000 in
theorem lifted (os : Os) (started : os.Started) (H : Type) (enc : TypeId × Value → H) :
    ReturnsInHanded {} Try.checked os 6 .any (Rows.wordBackSpec.pre6 enc Try.prog Try.f6 Rows.wordBackRow.domain false) (Rows.wordBackSpec.post enc Try.prog Try.f6 false true false false) := by
  refine returnsInHanded_of_change (C := Try.checked) own started (by kernel_rfl) Try.func6
    (ChangeSpec.witness6 (enc := enc) (C := Try.checked) false ⟨#[], #[.slice none 0 0, .slice none 0 0], []⟩ 8 (by kernel_rfl) (by kernel_rfl) (by kernel_rfl) (by kernel_rfl)) ?_
  intro W base args ds gs before hval0 hW hcnd _
  have hval : ∀ (j : Nat) t v, Try.f6.params[j]? = some t → args[j]? = some v → Value.okWide Try.prog W .any base t v := hval0
  have hW' := hW
  obtain ⟨p, q, hA0, hV, rfl, hfz, hnd⟩ := hW
  have hA : DataW.TrodAll enc Try.prog W 0 (fun _ => true) true Try.f6.params.toList args.toList ds p := hA0
  rw [Try.params6] at hA hval
  obtain ⟨v0, vs0, d0, ds0, p0, q0, hargs, rfl, rfl, h0, r0⟩ := trodAll_cons hA
  obtain ⟨v1, vs1, d1, ds1, p1, q1, rfl, rfl, rfl, h1, r1⟩ := trodAll_cons r0
  obtain ⟨rfl, rfl, rfl⟩ := trodAll_nil r1
  obtain rfl : args = #[v0, v1] := by cases args; simp_all
  obtain ⟨rfl, rfl⟩ := trodVars_none hV
  obtain ⟨a0, len0, cap0, rfl⟩ := okWide_slice Try.underlying22 (hval 0 22 v0 rfl rfl)
  have k0 := h0
  have lt0 : ∀ x ∈ p0, x.block < W.heap.size := by obtain ⟨m, hm⟩ := k0; exact DataW.trod_lt m _ _ _ hm
  obtain ⟨l0, w0, n0, c0, m0, z0⟩ : ∃ l : List Wd.W32, RdW W W.heap.size a0 l ∧ l.length = len0 ∧ len0 ≤ cap0 ∧ cap0 ≤ maxLen ∧ (a0 = none → cap0 = 0) := by
    obtain ⟨fuel, hf⟩ := h0
    rcases open_ints Try.underlying22 Try.underlying28 (by kernel_rfl) hf with ⟨hcs, _⟩ | ⟨x, l, c, zs, hcs, _, hl, hm, hz, _, hcell, hwz⟩
    · simp [Value.cells] at hcs
      obtain ⟨rfl, rfl, rfl⟩ := hcs
      exact ⟨[], RdG.nil _ _ _, rfl, Nat.le_refl _, Nat.zero_le _, fun _ => rfl⟩
    · simp [Value.cells] at hcs
      obtain ⟨rfl, rfl, rfl⟩ := hcs
      have hz' : zs.length = cap0 := by simpa using hz
      obtain ⟨l, hr, hn⟩ := rdW_of_row hl hz' hcell hwz
      exact ⟨l, hr, hn, hl, hm, fun h => by cases h⟩
  obtain ⟨a1, len1, cap1, rfl⟩ := okWide_slice Try.underlying26 (hval 1 26 v1 rfl rfl)
  have k1 := h1
  have lt1 : ∀ x ∈ p1, x.block < W.heap.size := by obtain ⟨m, hm⟩ := k1; exact DataW.trod_lt m _ _ _ hm
  obtain ⟨l1, w1, n1, c1, m1, z1⟩ : ∃ l : List UInt8, RdA W W.heap.size a1 l ∧ l.length = len1 ∧ len1 ≤ cap1 ∧ cap1 ≤ maxLen ∧ (a1 = none → cap1 = 0) := by
    obtain ⟨fuel, hf⟩ := h1
    rcases open_ints Try.underlying26 Try.underlying5 (by kernel_rfl) hf with ⟨hcs, _⟩ | ⟨x, l, c, zs, hcs, _, hl, hm, hz, _, hcell, hwz⟩
    · simp [Value.cells] at hcs
      obtain ⟨rfl, rfl, rfl⟩ := hcs
      exact ⟨[], RdA.nil _ _ _, rfl, Nat.le_refl _, Nat.zero_le _, fun _ => rfl⟩
    · simp [Value.cells] at hcs
      obtain ⟨rfl, rfl, rfl⟩ := hcs
      have hz' : zs.length = cap1 := by simpa using hz
      obtain ⟨l, hr, hn⟩ := rdA_of_row hl hz' hcell hwz
      exact ⟨l, hr, hn, hl, hm, fun h => by cases h⟩
  clear hA0 hval0
  refine (walk a0 len0 cap0 l0 a1 len1 cap1 l1 W w0 n0 c0 m0 z0 w1 n1 (Nat.le_trans c1 m1) z1).mono fun e W' ⟨he, bel⟩ => ?_
  subst he
  exact ⟨_, rfl, _, _, _, [], _, [], hW', trodAll_mk1 (shut_bool Try.underlying4 _), (trodAll_cons_mk (Below.trod laidOut (by kernel_rfl) (of_decide_eq_true (by kernel_rfl)) k0 bel lt0) (trodAll_cons_mk (Below.trod laidOut (by kernel_rfl) (of_decide_eq_true (by kernel_rfl)) k1 bel lt1) trodAll_mk0)), rfl, bel.frame _, fun h => by cases h⟩

theorem over : Rows.wordBackRow.holds Try.pinned (OpenSpec.ofChange Rows.wordBackSpec) :=
  OpenClaim.holds_of_wide 6 Try.f6 rfl rfl rfl rfl rfl rfl rfl ⟨rfl, rfl, rfl, rfl, rfl⟩ rfl rfl rfl rfl rfl (by kernel_rfl) Try.func6 (by kernel_rfl)
    (of_decide_eq_true (by kernel_rfl)) (by unfold Func.isWrapper; first | (rw [if_pos (by decide +kernel)]; kernel_rfl) | (rw [if_neg (by decide +kernel)]; exact ⟨rfl, rfl⟩))
    (fun os started H enc _ => lifted os started H enc)

theorem proved : Rows.WordBackSaid := over
end Go.Proofs.Ytfdffmfochdacaa.wordBack
