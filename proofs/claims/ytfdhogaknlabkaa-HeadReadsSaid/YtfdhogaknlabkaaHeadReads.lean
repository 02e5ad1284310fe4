/-
  HeadReads: lines as fields, or the error, are as the document's own code says, for every text of at most 3,000 bytes or of 16,385 to 17,000.
-/
import Derived.Test.YtfdhogaknlabkaaG14
import Derived.HandedShaped
import Derived.Shelf.Vars
import Derived.WalkKit
import Derived.ProofKit
import Derived.OpenShut
import Derived.ShutString
import Derived.ChangeOld
import Derived.Below
namespace Go.Proofs.Ytfdhogaknlabkaa.headReads
open Go.ChangeShapes Go.WideShapes Go.ChangeAt Go.RowKit
open Go.ChangeMaps (open_string shut_string)
open Hx Lx Hd
set_option linter.unusedVariables false

theorem own : ownKnob Try.prog.godebug = none := by kernel_rfl
theorem laidOut : laidOutB Try.prog = true := by kernel_rfl

set_option maxHeartbeats 2000000 in
set_option maxRecDepth 100000 in
theorem walkOut (s : ByteArray) (w : World) (h : (3000 < s.size ∧ s.size ≤ 16384) ∨ 17000 < s.size) :
    Calls Try.prog 4 #[.string s] w fun e w' => e = .returned (.bool true) ∧ Below w.heap.size w w' := by
  by_cases h1 : 17000 < s.size
  · have d1 : decide ((3000 : Int) < (s.size : Int)) = true := by simp; omega
    have d2 : decide ((s.size : Int) ≤ 16384) = false := by simp; omega
    have d3 : decide ((17000 : Int) < (s.size : Int)) = true := by simp; omega
    clear h h1
    go_enter Try.func4, Try.ntmps4
    go_wp2_with fail
    go_ret
    exact ⟨rfl, Below.refl _ _⟩
  · have d1 : decide ((3000 : Int) < (s.size : Int)) = true := by simp; omega
    have d2 : decide ((s.size : Int) ≤ 16384) = true := by simp; omega
    clear h h1
    go_enter Try.func4, Try.ntmps4
    go_wp2_with fail
    go_ret
    exact ⟨rfl, Below.refl _ _⟩
set_option maxHeartbeats 4000000 in
set_option maxRecDepth 100000 in
theorem walkIn (s : ByteArray) (w : World) (h : s.size ≤ 3000 ∨ (16384 < s.size ∧ s.size ≤ 17000)) (hX : Mx w) :
    Calls Try.prog 4 #[.string s] w fun e w' => e = .returned (.bool true) ∧ Below w.heap.size w w' := by
  obtain ⟨ps, q, hp⟩ : ∃ ps q, parseH s.data.toList = (ps, q) := ⟨_, _, rfl⟩
  obtain ⟨n, hn⟩ : ∃ n, ps.length = n := ⟨_, rfl⟩
  obtain ⟨hw, hle⟩ := parse_wrap hp
  have hm : s.size ≤ 1000000 := by omega
  have HA : Hid (Calls Try.prog 13 #[.string s] w (HParseTo ps q w)) := Lib.hid (parse14 s ps q w hX hm hp)
  have HB : Hid (∀ W, Calls Try.prog 18 #[.string s] W (HParseTo ps q W)) := Lib.hid fun W => rparse14 s ps q W hm hp
  have HS : Hid (∀ A1 c1 A2 c2 W, RdC PrC W W.heap.size A1 ps → RdC PrC W W.heap.size A2 ps → Calls Try.prog 19 #[.slice A1 n c1, .slice A2 n c2] W fun e w' => e = .returned (.bool true) ∧ Below W.heap.size W w') := Lib.hid fun A1 c1 A2 c2 W k1 k2 =>
    rpairs9 A1 A2 n c1 n c2 ps ps W k1 hn k2 hn (by omega) (by omega) true (decide_eq_true rfl)
  have w3 : (q == q) = true := by simp
  unfold HParseTo at HA HB
  rw [hn] at HA HB
  rcases h with h | h
  · have d1 : decide ((3000 : Int) < (s.size : Int)) = false := by simp; omega
    have d3 : decide ((17000 : Int) < (s.size : Int)) = false := by simp; omega
    clear h hp hn hle hm hX
    go_enter Try.func4, Try.ntmps4
    go_wp2_with (first
      | (go_at_call 13; (with_reducible refine (HA.out).mono ?_); rintro e1 w1 ⟨hb1, A1, c1, rfl, _, _, _, hr1⟩; have HR1 := Lib.hid hr1; have HB1 := Lib.hid hb1; clear hb1 hr1)
      | (go_at_call 18; (with_reducible refine (HB.out w1).mono ?_); rintro e2 w2 ⟨hb2, A2, c2, rfl, _, _, _, hr2⟩; have HR2 := Lib.hid hr2; have HR1b := Lib.hid (HR1.out.on hb2); have HB2 := Lib.hid (stp HB1.out hb2); clear hb2 hr2)
      | (go_at_call 19; (with_reducible refine (HS.out A1 c1 A2 c2 w2 HR1b.out HR2.out).mono ?_); rintro e3 w3 ⟨rfl, hb3⟩; have HB3 := Lib.hid (stp HB2.out hb3); clear hb3)
      | fail)
    go_ret
    exact ⟨rfl, HB3.out⟩
  · have d1 : decide ((3000 : Int) < (s.size : Int)) = true := by simp; omega
    have d2 : decide ((s.size : Int) ≤ 16384) = false := by simp; omega
    have d3 : decide ((17000 : Int) < (s.size : Int)) = false := by simp; omega
    clear h hp hn hle hm hX
    go_enter Try.func4, Try.ntmps4
    go_wp2_with (first
      | (go_at_call 13; (with_reducible refine (HA.out).mono ?_); rintro e1 w1 ⟨hb1, A1, c1, rfl, _, _, _, hr1⟩; have HR1 := Lib.hid hr1; have HB1 := Lib.hid hb1; clear hb1 hr1)
      | (go_at_call 18; (with_reducible refine (HB.out w1).mono ?_); rintro e2 w2 ⟨hb2, A2, c2, rfl, _, _, _, hr2⟩; have HR2 := Lib.hid hr2; have HR1b := Lib.hid (HR1.out.on hb2); have HB2 := Lib.hid (stp HB1.out hb2); clear hb2 hr2)
      | (go_at_call 19; (with_reducible refine (HS.out A1 c1 A2 c2 w2 HR1b.out HR2.out).mono ?_); rintro e3 w3 ⟨rfl, hb3⟩; have HB3 := Lib.hid (stp HB2.out hb3); clear hb3)
      | fail)
    go_ret
    exact ⟨rfl, HB3.out⟩
theorem walk (s : ByteArray) (W : World) (ws : s.size ≤ maxLen) (hX : Mx W) : Calls Try.prog 4 #[.string s] W fun e W' => e = .returned (.bool true) ∧ Below W.heap.size W W' := by
  by_cases h : (3000 < s.size ∧ s.size ≤ 16384) ∨ 17000 < s.size
  · exact walkOut s W h
  · exact walkIn s W (by omega) hX

theorem mx {W : World} (h : W.ShapedOpen Try.prog) : Mx W := Go.Proofs.cell_of_shapedOpen_int (zero := #[.int .i64 0]) (t := 3) h (of_decide_eq_true (by kernel_rfl)) (by kernel_rfl) rfl (by kernel_rfl) (by kernel_rfl) Try.underlying3
set_option maxRecDepth 100000 in
theorem lifted (os : Os) (started : os.Started) (H : Type) (enc : TypeId × Value → H) :
    ReturnsInHanded {} Try.checked os 4 .any (Rows.headReadsSpec.pre6 enc Try.prog Try.f4 Rows.headReadsRow.domain false) (Rows.headReadsSpec.post enc Try.prog Try.f4 false true false false) := by
  refine returnsInHanded_of_change_shaped (C := Try.checked) own started (by kernel_rfl) Try.func4
    (ChangeSpec.witness6 (enc := enc) (C := Try.checked) false ⟨#[], #[.string ByteArray.empty], []⟩ 8 (by kernel_rfl) (by kernel_rfl) (by kernel_rfl) (by kernel_rfl)) ?_
  intro W base args ds gs before hval0 hW hcnd _ hsh _
  have hval : ∀ (j : Nat) t v, Try.f4.params[j]? = some t → args[j]? = some v → Value.okWide Try.prog W .any base t v := hval0
  have hW' := hW
  obtain ⟨p, q, hA0, hV, rfl, hfz, hnd⟩ := hW
  have hA : DataW.TrodAll enc Try.prog W 0 (fun _ => true) true Try.f4.params.toList args.toList ds p := hA0
  rw [Try.params4] at hA hval
  obtain ⟨v0, vs0, d0, ds0, p0, q0, hargs, rfl, rfl, h0, r0⟩ := trodAll_cons hA
  obtain ⟨rfl, rfl, rfl⟩ := trodAll_nil r0
  obtain rfl : args = #[v0] := by cases args; simp_all
  obtain ⟨rfl, rfl⟩ := trodVars_none hV
  obtain ⟨a0, rfl, rfl, rfl, w0⟩ := open_string Try.underlying9 (hval 0 9 v0 rfl rfl) h0
  clear hA0 hval0
  refine (walk a0 W w0 (mx hsh)).mono fun e W' ⟨he, bel⟩ => ?_
  subst he
  exact ⟨_, rfl, _, _, _, [], _, [], hW', trodAll_mk1 (shut_bool Try.underlying4 _), (trodAll_cons_mk (shut_string Try.underlying9 w0) trodAll_mk0), rfl, bel.frame _, fun h => by cases h⟩

theorem over : Rows.headReadsRow.holds Try.pinned (OpenSpec.ofChange Rows.headReadsSpec) :=
  OpenClaim.holds_of_wide 4 Try.f4 rfl rfl rfl rfl rfl rfl rfl ⟨rfl, rfl, rfl, rfl, rfl⟩ rfl rfl rfl rfl rfl (by kernel_rfl) Try.func4 (by kernel_rfl)
    (of_decide_eq_true (by kernel_rfl)) (by unfold Func.isWrapper; first | (rw [if_pos (by decide +kernel)]; kernel_rfl) | (rw [if_neg (by decide +kernel)]; exact ⟨rfl, rfl⟩))
    (fun os started H enc _ => lifted os started H enc)

theorem proved : Rows.HeadReadsSaid := over
end Go.Proofs.Ytfdhogaknlabkaa.headReads
