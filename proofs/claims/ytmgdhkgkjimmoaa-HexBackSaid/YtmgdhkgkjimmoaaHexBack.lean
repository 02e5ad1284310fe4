/-
  HexBack: for any slice of bytes and any text the law returns true, and they read as they did. No condition.
-/
import Derived.Test.YtmgdhkgkjimmoaaHexG
import Derived.WalkKit
import Derived.ProofKit
import Derived.OpenShut
import Derived.ShutString
import Derived.ChangeOld
import Derived.Below
namespace Go.Proofs.Ytmgdhkgkjimmoaa.hexBack
open Go.ChangeShapes Go.WideShapes Go.ChangeAt Go.RowKit
open Go.ChangeMaps (open_string shut_string)
open Hx
set_option linter.unusedVariables false

theorem own : ownKnob Try.prog.godebug = none := by kernel_rfl
theorem laidOut : laidOutB Try.prog = true := by kernel_rfl

set_option maxHeartbeats 2000000 in
set_option maxRecDepth 100000 in
theorem walkBig (a0 : Option Addr) (len0 cap0 : Nat) (s : ByteArray) (w : World) (hbig : 2000 < len0 ∨ 2000 < s.size) :
    Calls Try.prog 5 #[.slice a0 len0 cap0, .string s] w fun e w' => e = .returned (.bool true) ∧ Below w.heap.size w w' := by
  by_cases h0 : 2000 < len0
  · have t0 : decide ((2000 : Int) < (len0 : Int)) = true := by simp; omega
    go_enter Try.func5, Try.ntmps5
    go_wp2_with (first
      | (go_at_call 10; refine (alive_any _).mono ?_; rintro e w1 ⟨rfl, hb1⟩)
      | fail)
    go_ret
    exact ⟨rfl, hb1⟩
  · have h1 : 2000 < s.size := by omega
    have t0 : decide ((2000 : Int) < (len0 : Int)) = false := by simp; omega
    have t1 : decide ((2000 : Int) < (s.size : Int)) = true := by simp; omega
    go_enter Try.func5, Try.ntmps5
    go_wp2_with (first
      | (go_at_call 10; refine (alive_any _).mono ?_; rintro e w1 ⟨rfl, hb1⟩)
      | fail)
    go_ret
    exact ⟨rfl, hb1⟩

set_option maxHeartbeats 4000000 in
set_option maxRecDepth 100000 in
theorem walkSmall (a0 : Option Addr) (len0 cap0 : Nat) (l0 : List UInt8) (s : ByteArray) (w : World) (w0 : RdA w w.heap.size a0 l0) (n0 : l0.length = len0) (h0 : len0 ≤ 2000) (h1 : s.size ≤ 2000) :
    Calls Try.prog 5 #[.slice a0 len0 cap0, .string s] w fun e w' => e = .returned (.bool true) ∧ Below w.heap.size w w' := by
  have t0 : decide ((2000 : Int) < (len0 : Int)) = false := by simp; omega
  have t1 : decide ((2000 : Int) < (s.size : Int)) = false := by simp; omega
  have HN0 := Lib.hid n0
  have HR0 := Lib.hid w0
  have hlen : (putL l0).length = 2 * len0 := by rw [putL_length, n0]
  have HA := Lib.hid (all_put l0)
  have his : ∀ n : Int, n = 2 * (len0 : Int) → (decide (((⟨(putL l0).toArray⟩ : ByteArray).size : Int) = n) && allD (⟨(putL l0).toArray⟩ : ByteArray).data.toList) = true := by
    intro n hn
    rw [size_mk, hlen, hn]
    simpa using HA.out
  have HI := Lib.hid his
  clear n0 w0 his
  by_cases hok : okS s = true
  · have HP := Lib.hid (putL_get s hok)
    have HO := Lib.hid hok
    clear hok
    go_enter Try.func5, Try.ntmps5
    go_wp2_with (first
      | (go_at_call 10; refine (alive_any _).mono ?_; rintro e w1 ⟨rfl, hb1⟩)
      | (go_at_call 11; (with_reducible refine (put_any a0 len0 cap0 l0 w1 ((HR0.out.below hb1).mono hb1.size) HN0.out (by omega)).mono ?_); rintro e w2 ⟨rfl, hb2⟩; have hb2' := stp hb1 hb2)
      | (go_at_call 8; (with_reducible refine (get_put l0 len0 w2 HN0.out (by omega)).mono ?_); rintro e w3 ⟨hb3, A3, c3, rfl, hr3⟩; have hb3' := stp hb2' hb3; have HR3 := Lib.hid hr3; clear hr3; have cv3 := conv_str (P := Try.prog) (c := c3) HR3.out HN0.out Try.underlying22 Try.underlying5 Try.underlying9; have cv0 := conv_str (P := Try.prog) (c := cap0) (HR0.out.below hb3') HN0.out Try.underlying22 Try.underlying5 Try.underlying9)
      | (go_at_call 12; (with_reducible refine (is_b ⟨(putL l0).toArray⟩ _ true w3 (HI.out _ (by omega))).mono ?_); rintro e w4 ⟨rfl, hb4⟩; have hb4' := stp hb3' hb4)
      | (go_at_call 8; (with_reducible refine (get_ok s w4 (by omega) HO.out).mono ?_); rintro e w5 ⟨hb5, A5, c5, rfl, hr5⟩; have hb5' := stp hb4' hb5; have HR5 := Lib.hid hr5; clear hr5)
      | (go_at_call 11; (with_reducible refine (put_any A5 (s.size / 2) c5 _ w5 HR5.out (getL_length _ _) (by omega)).mono ?_); rintro e w6 ⟨rfl, hb6⟩; rw [HP.out, mk_list]; have hb6' := stp hb5' hb6)
      | fail)
    go_ret
    exact ⟨rfl, hb6'⟩
  · have hok' : okS s = false := by simpa using hok
    have HO := Lib.hid hok'
    rcases not_ok s hok' with hodd | ⟨hev, hna⟩
    · have to : ((s.size : Int) % 2 == 1) = true := by simp; omega
      clear hok hok'
      go_enter Try.func5, Try.ntmps5
      go_wp2_with (first
        | (go_at_call 10; refine (alive_any _).mono ?_; rintro e w1 ⟨rfl, hb1⟩)
        | (go_at_call 11; (with_reducible refine (put_any a0 len0 cap0 l0 w1 ((HR0.out.below hb1).mono hb1.size) HN0.out (by omega)).mono ?_); rintro e w2 ⟨rfl, hb2⟩; have hb2' := stp hb1 hb2)
        | (go_at_call 8; (with_reducible refine (get_put l0 len0 w2 HN0.out (by omega)).mono ?_); rintro e w3 ⟨hb3, A3, c3, rfl, hr3⟩; have hb3' := stp hb2' hb3; have HR3 := Lib.hid hr3; clear hr3; have cv3 := conv_str (P := Try.prog) (c := c3) HR3.out HN0.out Try.underlying22 Try.underlying5 Try.underlying9; have cv0 := conv_str (P := Try.prog) (c := cap0) (HR0.out.below hb3') HN0.out Try.underlying22 Try.underlying5 Try.underlying9)
        | (go_at_call 12; (with_reducible refine (is_b ⟨(putL l0).toArray⟩ _ true w3 (HI.out _ (by omega))).mono ?_); rintro e w4 ⟨rfl, hb4⟩; have hb4' := stp hb3' hb4)
        | (go_at_call 8; (with_reducible refine (get_bad s w4 (by omega) HO.out).mono ?_); rintro e w5 ⟨rfl, hb5⟩; have hb5' := stp hb4' hb5)
        | fail)
      go_ret
      exact ⟨rfl, hb5'⟩
    · have to : ((s.size : Int) % 2 == 1) = false := by simp; omega
      have HJ : Hid (∀ n : Int, (decide ((s.size : Int) = n) && allD s.data.toList) = false) := by
        intro n
        rw [hna, Bool.and_false]
      clear hok hok' hna
      go_enter Try.func5, Try.ntmps5
      go_wp2_with (first
        | (go_at_call 10; refine (alive_any _).mono ?_; rintro e w1 ⟨rfl, hb1⟩)
        | (go_at_call 11; (with_reducible refine (put_any a0 len0 cap0 l0 w1 ((HR0.out.below hb1).mono hb1.size) HN0.out (by omega)).mono ?_); rintro e w2 ⟨rfl, hb2⟩; have hb2' := stp hb1 hb2)
        | (go_at_call 8; (with_reducible refine (get_put l0 len0 w2 HN0.out (by omega)).mono ?_); rintro e w3 ⟨hb3, A3, c3, rfl, hr3⟩; have hb3' := stp hb2' hb3; have HR3 := Lib.hid hr3; clear hr3; have cv3 := conv_str (P := Try.prog) (c := c3) HR3.out HN0.out Try.underlying22 Try.underlying5 Try.underlying9; have cv0 := conv_str (P := Try.prog) (c := cap0) (HR0.out.below hb3') HN0.out Try.underlying22 Try.underlying5 Try.underlying9)
        | (go_at_call 12; (with_reducible refine (is_b ⟨(putL l0).toArray⟩ _ true w3 (HI.out _ (by omega))).mono ?_); rintro e w4 ⟨rfl, hb4⟩; have hb4' := stp hb3' hb4)
        | (go_at_call 8; (with_reducible refine (get_bad s w4 (by omega) HO.out).mono ?_); rintro e w5 ⟨rfl, hb5⟩; have hb5' := stp hb4' hb5)
        | (go_at_call 12; (with_reducible refine (is_b s _ false w5 (HJ.out _)).mono ?_); rintro e w6 ⟨rfl, hb6⟩; have hb6' := stp hb5' hb6)
        | fail)
      go_ret
      exact ⟨rfl, hb6'⟩

theorem walk (a0 : Option Addr) (len0 cap0 : Nat) (l0 : List UInt8) (s : ByteArray) (w : World) (w0 : RdA w w.heap.size a0 l0) (n0 : l0.length = len0) (m0 : len0 ≤ maxLen) (z0 : a0 = none → cap0 = 0) (w1 : s.size ≤ maxLen) :
    Calls Try.prog 5 #[.slice a0 len0 cap0, .string s] w fun e w' => e = .returned (.bool true) ∧ Below w.heap.size w w' := by
  by_cases h : 2000 < len0 ∨ 2000 < s.size
  · exact walkBig a0 len0 cap0 s w h
  · exact walkSmall a0 len0 cap0 l0 s w w0 n0 (by omega) (by omega)

set_option maxRecDepth 100000 in
theorem lifted (os : Os) (started : os.Started) (H : Type) (enc : TypeId × Value → H) :
    ReturnsInHanded {} Try.checked os 5 .any (Rows.hexBackSpec.pre6 enc Try.prog Try.f5 Rows.hexBackRow.domain false) (Rows.hexBackSpec.post enc Try.prog Try.f5 false true false false) := by
  refine returnsInHanded_of_change (C := Try.checked) own started (by kernel_rfl) Try.func5
    (ChangeSpec.witness6 (enc := enc) (C := Try.checked) false ⟨#[], #[.slice none 0 0, .string ByteArray.empty], []⟩ 8 (by kernel_rfl) (by kernel_rfl) (by kernel_rfl) (by kernel_rfl)) ?_
  intro W base args ds gs before hval0 hW hcnd _
  have hval : ∀ (j : Nat) t v, Try.f5.params[j]? = some t → args[j]? = some v → Value.okWide Try.prog W .any base t v := hval0
  have hW' := hW
  obtain ⟨p, q, hA0, hV, rfl, hfz, hnd⟩ := hW
  have hA : DataW.TrodAll enc Try.prog W 0 (fun _ => true) true Try.f5.params.toList args.toList ds p := hA0
  rw [Try.params5] at hA hval
  obtain ⟨v0, vs0, d0, ds0, p0, q0, hargs, rfl, rfl, h0, r0⟩ := trodAll_cons hA
  obtain ⟨v1, vs1, d1, ds1, p1, q1, rfl, rfl, rfl, h1, r1⟩ := trodAll_cons r0
  obtain ⟨rfl, rfl, rfl⟩ := trodAll_nil r1
  obtain rfl : args = #[v0, v1] := by cases args; simp_all
  obtain ⟨rfl, rfl⟩ := trodVars_none hV
  obtain ⟨a0, len0, cap0, rfl⟩ := okWide_slice Try.underlying22 (hval 0 22 v0 rfl rfl)
  have k0 := h0
  have lt0 : ∀ x ∈ p0, x.block < W.heap.size := by obtain ⟨m, hm⟩ := k0; exact DataW.trod_lt m _ _ _ hm
  obtain ⟨l0, w0, n0, m0, z0⟩ : ∃ l : List UInt8, RdA W W.heap.size a0 l ∧ l.length = len0 ∧ len0 ≤ maxLen ∧ (a0 = none → cap0 = 0) := by
    obtain ⟨fuel, hf⟩ := h0
    rcases open_ints Try.underlying22 Try.underlying5 (by kernel_rfl) hf with ⟨hcs, _⟩ | ⟨x, l, c, zs, hcs, _, hl, hm, hz, _, hcell, hwz⟩
    · simp [Value.cells] at hcs
      obtain ⟨rfl, rfl, rfl⟩ := hcs
      exact ⟨[], RdA.nil _ _ _, rfl, Nat.zero_le _, fun _ => rfl⟩
    · simp [Value.cells] at hcs
      obtain ⟨rfl, rfl, rfl⟩ := hcs
      have hz' : zs.length = cap0 := by simpa using hz
      obtain ⟨l, hr, hn⟩ := rdA_of_row hl hz' hcell hwz
      exact ⟨l, hr, hn, by omega, fun h => by cases h⟩
  obtain ⟨a1, rfl, rfl, rfl, w1⟩ := open_string Try.underlying9 (hval 1 9 v1 rfl rfl) h1
  clear hA0 hval0
  refine (walk a0 len0 cap0 l0 a1 W w0 n0 m0 z0 w1).mono fun e W' ⟨he, bel⟩ => ?_
  subst he
  exact ⟨_, rfl, _, _, _, [], _, [], hW', trodAll_mk1 (shut_bool Try.underlying4 _), (trodAll_cons_mk (Below.trod laidOut (by kernel_rfl) (of_decide_eq_true (by kernel_rfl)) k0 bel lt0) (trodAll_cons_mk (shut_string Try.underlying9 w1) trodAll_mk0)), rfl, bel.frame _, fun h => by cases h⟩

theorem over : Rows.hexBackRow.holds Try.pinned (OpenSpec.ofChange Rows.hexBackSpec) :=
  OpenClaim.holds_of_wide 5 Try.f5 rfl rfl rfl rfl rfl rfl rfl ⟨rfl, rfl, rfl, rfl, rfl⟩ rfl rfl rfl rfl rfl (by kernel_rfl) Try.func5 (by kernel_rfl)
    (of_decide_eq_true (by kernel_rfl)) (by unfold Func.isWrapper; first | (rw [if_pos (by decide +kernel)]; kernel_rfl) | (rw [if_neg (by decide +kernel)]; exact ⟨rfl, rfl⟩))
    (fun os started H enc _ => lifted os started H enc)

theorem proved : Rows.HexBackSaid := over
end Go.Proofs.Ytmgdhkgkjimmoaa.hexBack
