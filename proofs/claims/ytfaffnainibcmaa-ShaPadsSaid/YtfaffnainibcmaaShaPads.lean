/-
  With what sha.Pad answers for a number up to 16,384 a text is whole blocks, one or two more than it fills; it begins with 128, its last eight bytes tell how long the text is; and no two numbers have one answer. No condition (numbers out of bounds are passed by, as the statement says).
-/
import Derived.Test.YtfaffnainibcmaaShaE
import Derived.WalkKit
import Derived.ProofKit
import Derived.OpenShut
import Derived.ShutString
import Derived.ChangeOld
import Derived.Below
namespace Go.Proofs.Ytfaffnainibcmaa.shaPads
open Go.ChangeShapes Go.WideShapes Go.ChangeAt Go.RowKit
open Go.ChangeMaps (open_string shut_string)
open Hx Wd Sh
set_option linter.unusedVariables false

theorem own : ownKnob Try.prog.godebug = none := by kernel_rfl
theorem laidOut : laidOutB Try.prog = true := by kernel_rfl

/-- sha.Pad of whatever number. -/
def PadSome (w : World) (e : Ending) (w' : World) : Prop := Below w.heap.size w w' ∧ ∃ A k c er, e = .returned (.tuple #[.slice A k c, .int .i64 er])
theorem pad_some (n : Int) (w : World) : Calls Try.prog 9 #[.int .i64 n] w (PadSome w) := by
  by_cases h : n < 0 ∨ 16384 < n
  · refine (pad_many n w h).mono fun e w' ⟨he, hw⟩ => ?_
    subst hw
    exact ⟨Below.refl _ _, none, 0, 0, 4, he⟩
  · obtain ⟨k, rfl⟩ : ∃ k : Nat, n = k := ⟨n.toNat, by omega⟩
    exact (pad_ok k w (by omega) _ _ rfl rfl).mono fun e w' ⟨hb, g, c, he, _⟩ => ⟨hb, _, _, _, _, he⟩
set_option maxHeartbeats 1000000 in
set_option maxRecDepth 100000 in
theorem walkOne (n m : Int) (w : World) (h : n < 0 ∨ 16384 < n) :
    Calls Try.prog 7 #[.int .i64 n, .int .i64 m] w fun e w' => e = .returned (.bool true) ∧ Below w.heap.size w w' := by
  have H := Lib.hid h
  clear h
  go_enter Try.func7, Try.ntmps7
  go_wp2_with (first
    | (go_at_call 11; (with_reducible refine (alive_any w).mono ?_); rintro e w1 ⟨rfl, hb1⟩)
    | (go_at_call 9; (with_reducible refine (pad_many n w1 H.out).mono ?_); rintro e w2 ⟨rfl, rfl⟩; have tok := Lib.hid trivial)
    | (go_at_call 9; (with_reducible refine (pad_some m w1).mono ?_); rintro e w3 ⟨hb3, A3, k3, c3, er, rfl⟩)
    | fail)
  go_ret
  exact ⟨rfl, stp hb1 hb3⟩
set_option maxHeartbeats 1000000 in
set_option maxRecDepth 100000 in
theorem walkTwo (n : Nat) (m : Int) (w : World) (hn : n ≤ 16384) (h : m < 0 ∨ 16384 < m) :
    Calls Try.prog 7 #[.int .i64 n, .int .i64 m] w fun e w' => e = .returned (.bool true) ∧ Below w.heap.size w w' := by
  have H := Lib.hid h
  clear h
  go_enter Try.func7, Try.ntmps7
  go_wp2_with (first
    | (go_at_call 11; (with_reducible refine (alive_any w).mono ?_); rintro e w1 ⟨rfl, hb1⟩)
    | (go_at_call 9; (with_reducible refine (pad_ok n w1 hn _ _ rfl rfl).mono ?_); rintro e w2 ⟨hb2, g2, c2, rfl, hc2, hm2, hr2⟩; clear hr2)
    | (go_at_call 9; (with_reducible refine (pad_many m w2 H.out).mono ?_); rintro e w3 ⟨rfl, rfl⟩)
    | fail)
  go_ret
  exact ⟨rfl, stp hb1 hb2⟩
/-- word.Of of the last eight bytes. -/
def Of8 (u : W32) (W : World) (e : Ending) (w' : World) : Prop := Below W.heap.size W w' ∧ ∃ g o c, e = .returned (.tuple #[.slice (some ⟨g, o, none⟩) 2 c, .int .i64 0]) ∧ w'.cell? ⟨g, o, none⟩ = some (.int .u32 0) ∧ w'.cell? ⟨g, o + 1, none⟩ = some (.int .u32 u.toNat)
theorem of_8 (A : Option Addr) (cp : Nat) (b : List UInt8) (u : W32) (w : World) (hr : RdA w w.heap.size A b) (hb : b.length = 8) (hu : wordL b = [0#32, u]) :
    Calls Try.prog 20 #[.slice A 8 cp] w (Of8 u w) := by
  refine (of_ok A 8 cp b w hr hb (by decide) (by decide)).mono fun e w' ⟨hb', A', c, he, hr'⟩ => ?_
  rw [hu] at he hr'
  obtain ⟨g, o, rfl, hg, hc⟩ := hr' (by simp)
  exact ⟨hb', g, o, c, he, hc 0 (by simp), hc 1 (by simp)⟩
theorem same_test {P Q : List UInt8} {n m : Nat} (h : P = Q ↔ n = m) : ((P == Q) == ((n : Int) == (m : Int))) = true := by
  by_cases e : n = m
  · subst e
    rw [h.2 rfl]
    simp
  · have h1 : ¬ P = Q := fun e' => e (h.1 e')
    have h2 : ((n : Int) == (m : Int)) = false := by simp; omega
    rw [h2]
    simp [h1]
theorem rd_drop {w : World} {B g k : Nat} {l : List UInt8} (h : RdA w B (some ⟨g, 0, none⟩) l) : RdA w B (some ⟨g, k, none⟩) (l.drop k) := by
  intro hp
  obtain ⟨b, off, e, hlt, hc⟩ := h (by rw [List.length_drop] at hp; omega)
  cases e
  refine ⟨_, _, rfl, hlt, fun j hj => ?_⟩
  rw [List.length_drop] at hj
  have := hc (k + j) (by omega)
  rw [Nat.zero_add] at this
  rw [this]
  simp
theorem cell_128 {w : World} {B g k : Nat} {l : List UInt8} (h : RdA w B (some ⟨g, 0, none⟩) l) (h0 : l.getD 0 0 = 128) (hl : l.length = k + 8) : w.cell? ⟨g, 0, none⟩ = some (.int .u8 128) := by
  obtain ⟨b, off, e, hlt, hc⟩ := h (by omega)
  cases e
  have := hc 0 (by omega)
  rw [List.getD_eq_getElem?_getD, List.getElem?_eq_getElem (by omega)] at h0
  simp at h0
  rw [h0] at this
  exact this
set_option maxHeartbeats 4000000 in
set_option maxRecDepth 100000 in
theorem walkIn (n m : Nat) (P Q : List UInt8) (k kq : Nat) (u : W32) (w : World) (hn : n ≤ 16384) (hm : m ≤ 16384) (hP : padL n = P) (hQ : padL m = Q) (hk : P.length = k + 8) (hkq : Q.length = kq) (hu : BitVec.ofNat 32 (8 * n) = u) :
    Calls Try.prog 7 #[.int .i64 n, .int .i64 m] w fun e w' => e = .returned (.bool true) ∧ Below w.heap.size w w' := by
  have hb9 := padL_bd n
  have hw64 := padL_whole n
  have hwd := padL_words n hn
  have hd0 : P.getD 0 0 = 128 := by rw [← hP]; exact padL_head n
  rw [hP, hk] at hb9 hw64
  rw [hP, hk, hu, show k + 8 - 8 = k by omega] at hwd
  have hu8 : ((u.toNat : Nat) : Int) = 8 * (n : Int) := by rw [← hu, BitVec.toNat_ofNat, Nat.mod_eq_of_lt (by omega)]; omega
  have HPE := Lib.hid hP
  have HQE := Lib.hid hQ
  have HK := Lib.hid hk
  have HKQ := Lib.hid hkq
  have HWD := Lib.hid hwd
  have HD0 := Lib.hid hd0
  have HNM : Hid (P = Q ↔ n = m) := ⟨fun h => padL_inj n m hn hm (by rw [hP, hQ, h]), fun h => by subst h; rw [← hP, ← hQ]⟩
  clear hP hQ hk hkq hwd hd0 hu
  have t1 : (k : Int) + 8 ≤ 72 ∧ (9 : Int) ≤ (k : Int) + 8 := by omega
  have t2 : ((n : Int) + ((k : Int) + 8)) % 64 = 0 := by omega
  have t3 : min ((k : Int) + 8) 8 = 8 := by omega
  have hlt8 : (P.drop k).length = 8 := by rw [List.length_drop, HK.out]; omega
  have HL8 := Lib.hid hlt8
  clear hlt8
  go_enter Try.func7, Try.ntmps7
  go_wp2_with (first
    | (go_at_call 11; (with_reducible refine (alive_any w).mono ?_); rintro e w1 ⟨rfl, hb1⟩)
    | (go_at_call 9; (with_reducible refine (pad_ok n w1 hn P (k + 8) HPE.out HK.out).mono ?_); rintro e w2 ⟨hb2, g2, c2, rfl, hc2, hm2, hr2⟩; have HR2 := Lib.hid hr2; clear hr2)
    | (go_at_call 9; (with_reducible refine (pad_ok m w2 hm Q kq HQE.out HKQ.out).mono ?_); rintro e w3 ⟨hb3, g3, c3, rfl, hc3, hm3, hr3⟩; have HR3 := Lib.hid hr3; clear hr3)
    | (go_at_call 20; (with_reducible refine (of_8 (some ⟨g2, k, none⟩) (c2 - k) (P.drop k) u w3 (rd_drop ((HR2.out.below hb3).mono hb3.size)) HL8.out HWD.out).mono ?_); rintro e w4 ⟨hb4, g4, o4, c4, rfl, y0, y1⟩; have hb34 := stp hb3 hb4; have hc128 := cell_128 (HR2.out.below hb34) HD0.out HK.out; have cvP := conv_str (P := Try.prog) (c := c2) (HR2.out.below hb34) HK.out Try.underlying26 Try.underlying5 Try.underlying9; have cvQ := conv_str (P := Try.prog) (c := c3) (HR3.out.below hb4) HKQ.out Try.underlying26 Try.underlying5 Try.underlying9)
    | fail)
  go_ret
  exact ⟨ret_b (same_test HNM.out), stp (stp (stp hb1 hb2) hb3) hb4⟩
theorem walk (a0 a1 : Int) (w : World) (w0 : (Lit.int .i64 a0).wf = true) (w1 : (Lit.int .i64 a1).wf = true) :
    Calls Try.prog 7 #[.int .i64 a0, .int .i64 a1] w fun e w' => e = .returned (.bool true) ∧ Below w.heap.size w w' := by
  by_cases h0 : a0 < 0 ∨ 16384 < a0
  · exact walkOne a0 a1 w h0
  · obtain ⟨n, rfl⟩ : ∃ n : Nat, a0 = n := ⟨a0.toNat, by omega⟩
    by_cases h1 : a1 < 0 ∨ 16384 < a1
    · exact walkTwo n a1 w (by omega) h1
    · obtain ⟨m, rfl⟩ : ∃ m : Nat, a1 = m := ⟨a1.toNat, by omega⟩
      exact walkIn n m _ _ ((padL n).length - 8) _ _ w (by omega) (by omega) rfl rfl (by have := padL_bd n; omega) rfl rfl

set_option maxRecDepth 100000 in
theorem lifted (os : Os) (started : os.Started) (H : Type) (enc : TypeId × Value → H) :
    ReturnsInHanded {} Try.checked os 7 .any (Rows.shaPadsSpec.pre6 enc Try.prog Try.f7 Rows.shaPadsRow.domain false) (Rows.shaPadsSpec.post enc Try.prog Try.f7 false true false false) := by
  refine returnsInHanded_of_change (C := Try.checked) own started (by kernel_rfl) Try.func7
    (ChangeSpec.witness6 (enc := enc) (C := Try.checked) false ⟨#[], #[.int .i64 0, .int .i64 0], []⟩ 8 (by kernel_rfl) (by kernel_rfl) (by kernel_rfl) (by kernel_rfl)) ?_
  intro W base args ds gs before hval0 hW hcnd _
  have hval : ∀ (j : Nat) t v, Try.f7.params[j]? = some t → args[j]? = some v → Value.okWide Try.prog W .any base t v := hval0
  have hW' := hW
  obtain ⟨p, q, hA0, hV, rfl, hfz, hnd⟩ := hW
  have hA : DataW.TrodAll enc Try.prog W 0 (fun _ => true) true Try.f7.params.toList args.toList ds p := hA0
  rw [Try.params7] at hA hval
  obtain ⟨v0, vs0, d0, ds0, p0, q0, hargs, rfl, rfl, h0, r0⟩ := trodAll_cons hA
  obtain ⟨v1, vs1, d1, ds1, p1, q1, rfl, rfl, rfl, h1, r1⟩ := trodAll_cons r0
  obtain ⟨rfl, rfl, rfl⟩ := trodAll_nil r1
  obtain rfl : args = #[v0, v1] := by cases args; simp_all
  obtain ⟨rfl, rfl⟩ := trodVars_none hV
  obtain ⟨a0, rfl, rfl, rfl, w0⟩ := open_int Try.underlying3 (hval 0 3 v0 rfl rfl) h0
  obtain ⟨a1, rfl, rfl, rfl, w1⟩ := open_int Try.underlying3 (hval 1 3 v1 rfl rfl) h1
  clear hA0 hval0
  refine (walk a0 a1 W w0 w1).mono fun e W' ⟨he, bel⟩ => ?_
  subst he
  exact ⟨_, rfl, _, _, _, [], _, [], hW', trodAll_mk1 (shut_bool Try.underlying4 _), (trodAll_cons_mk (shut_int Try.underlying3 w0) (trodAll_cons_mk (shut_int Try.underlying3 w1) trodAll_mk0)), rfl, bel.frame _, fun h => by cases h⟩

theorem over : Rows.shaPadsRow.holds Try.pinned (OpenSpec.ofChange Rows.shaPadsSpec) :=
  OpenClaim.holds_of_wide 7 Try.f7 rfl rfl rfl rfl rfl rfl rfl ⟨rfl, rfl, rfl, rfl, rfl⟩ rfl rfl rfl rfl rfl (by kernel_rfl) Try.func7 (by kernel_rfl)
    (of_decide_eq_true (by kernel_rfl)) (by unfold Func.isWrapper; first | (rw [if_pos (by decide +kernel)]; kernel_rfl) | (rw [if_neg (by decide +kernel)]; exact ⟨rfl, rfl⟩))
    (fun os started H enc _ => lifted os started H enc)

theorem proved : Rows.ShaPadsSaid := over
end Go.Proofs.Ytfaffnainibcmaa.shaPads
