/-
  A version's text is just two numbers' of at most 99, with a point.
-/
import Derived.Test.YtllcmfohfnidpaaDoorNumW
import Derived.Test.YtllcmfohfnidpaaDoorCards
import Derived.Test.YtllcmfohfnidpaaDoorTie
import Derived.LaidMore
import Derived.LaidSub
import Derived.MakeChecks
import Derived.Stop.Joined
import Derived.Lib.LaidTab
import Derived.SevenTiedAt
import Derived.WalkKit
import Derived.ProofKit
import Derived.OpenShut
import Derived.ShutString
import Derived.ChangeOld
import Derived.Below
namespace Go.Proofs.YtllcmfohfnidpaaDoor.numVersions
open Go.ChangeShapes Go.WideShapes Go.ChangeAt Go.RowKit
open Go.ChangeMaps (open_string shut_string)
open Hx Nmb
set_option linter.unusedVariables false

theorem own : ownKnob Tryd.prog.godebug = none := by kernel_rfl
theorem laidOut : laidOutB Tryd.prog = true := by kernel_rfl

set_option linter.unusedVariables false
theorem write_bad {n : Int} {t : ByteArray} {b : Int} (h : writeR n = (t, b)) : b = 0 ∨ b = 2 := by
  unfold writeR at h
  split at h <;> (injection h with h1 h2; omega)
/-- The text of two numbers with a point between. -/
theorem point_text {n m : Int} {a b : ByteArray} (ha : writeR n = (a, 0)) (hb : writeR m = (b, 0)) : ∃ x t : ByteArray, (∀ (P : Program) W, (Op.stringOp .add a ⟨#[46]⟩).run P W = .ok (.string x) W) ∧ (∀ (P : Program) W, (Op.stringOp .add x b).run P W = .ok (.string t) W) ∧ t.data.toList = ver n.toNat m.toNat ∧ t.size ≤ 1000000 := by
  obtain ⟨_, _, a3, a4, _⟩ := read_dg ha
  obtain ⟨_, _, b3, b4, _⟩ := read_dg hb
  refine ⟨a ++ ⟨#[46]⟩, a ++ ⟨#[46]⟩ ++ b, fun P W => ?_, fun P W => ?_, ?_, ?_⟩
  · exact run_string_add W a ⟨#[46]⟩ (by omega) (by show ((1 : Nat) : Int) ≤ _; decide)
  · refine run_string_add W _ b ?_ (by omega)
    rw [ByteArray.size_append]
    show (((a.size + 1 : Nat)) : Int) ≤ _
    omega
  · unfold ver
    rw [← a3, ← b3]
    simp
  · rw [ByteArray.size_append, ByteArray.size_append]
    show a.size + 1 + b.size ≤ _
    omega
theorem ver_small {n m : Int} (h0 : 0 ≤ n) (h1 : 0 ≤ m) (h2 : n ≤ 99) (h3 : m ≤ 99) : verR (ver n.toNat m.toNat) = (n, m, 0) := by
  obtain ⟨a, b, c, h⟩ : ∃ a b c, verR (ver n.toNat m.toNat) = (a, b, c) := ⟨_, _, _, rfl⟩
  rcases verR_spec h with ⟨n', m', p1, p2, p3, rfl, rfl, rfl⟩ | ⟨p1, _⟩
  · obtain ⟨rfl, rfl⟩ := ver_inj p3
    rw [h, Int.toNat_of_nonneg h0, Int.toNat_of_nonneg h1]
  · exact absurd rfl (p1 n.toNat m.toNat (by omega) (by omega))
theorem ver_great {n m : Int} (h0 : 0 ≤ n) (h1 : 0 ≤ m) (h2 : 99 < n ∨ 99 < m) : verR (ver n.toNat m.toNat) = (0, 0, 60) := by
  obtain ⟨a, b, c, h⟩ : ∃ a b c, verR (ver n.toNat m.toNat) = (a, b, c) := ⟨_, _, _, rfl⟩
  rcases verR_spec h with ⟨n', m', p1, p2, p3, rfl, rfl, rfl⟩ | ⟨_, rfl, rfl, rfl⟩
  · obtain ⟨e1, e2⟩ := ver_inj p3
    omega
  · exact h
set_option maxHeartbeats 1000000 in
set_option maxRecDepth 100000 in
theorem walkBad20 (n m : Int) (w : World) (hn : -9223372036854775808 ≤ n ∧ n ≤ 9223372036854775807) (hm : -9223372036854775808 ≤ m ∧ m ≤ 9223372036854775807) (a b : ByteArray) (ha : writeR n = (a, 2)) (hb : writeR m = (b, 0)) (hT : Tb w := by first | assumption | exact Tb.to (by assumption) (by assumption)) :
    Calls Tryd.prog 8 #[.int .i64 n, .int .i64 m] w fun e w' => e = .returned (.bool true) ∧ Below w.heap.size w w' := by
  have HN := Lib.hid hn
  have HM := Lib.hid hm
  have HA := Lib.hid ha
  have HB := Lib.hid hb
  clear hn hm ha hb
  go_enter Tryd.func8, Tryd.ntmps8
  go_wp2_with (first
    | (go_at_call 13; (with_reducible refine (alive6 w).mono ?_); rintro e w1 ⟨rfl, hb1⟩)
    | (go_at_call 11; (with_reducible refine (write6 n w1 HN.out a 2 HA.out).mono ?_); rintro e w2 ⟨rfl, hb2⟩; have hB2 := stp hb1 hb2)
    | (go_at_call 11; (with_reducible refine (write6 m w2 HM.out b 0 HB.out).mono ?_); rintro e w3 ⟨rfl, hb3⟩; have hB3 := stp hB2 hb3)
    | fail)
  go_ret
  exact ⟨rfl, hB3⟩
set_option maxHeartbeats 1000000 in
set_option maxRecDepth 100000 in
theorem walkBad22 (n m : Int) (w : World) (hn : -9223372036854775808 ≤ n ∧ n ≤ 9223372036854775807) (hm : -9223372036854775808 ≤ m ∧ m ≤ 9223372036854775807) (a b : ByteArray) (ha : writeR n = (a, 2)) (hb : writeR m = (b, 2)) (hT : Tb w := by first | assumption | exact Tb.to (by assumption) (by assumption)) :
    Calls Tryd.prog 8 #[.int .i64 n, .int .i64 m] w fun e w' => e = .returned (.bool true) ∧ Below w.heap.size w w' := by
  have HN := Lib.hid hn
  have HM := Lib.hid hm
  have HA := Lib.hid ha
  have HB := Lib.hid hb
  clear hn hm ha hb
  go_enter Tryd.func8, Tryd.ntmps8
  go_wp2_with (first
    | (go_at_call 13; (with_reducible refine (alive6 w).mono ?_); rintro e w1 ⟨rfl, hb1⟩)
    | (go_at_call 11; (with_reducible refine (write6 n w1 HN.out a 2 HA.out).mono ?_); rintro e w2 ⟨rfl, hb2⟩; have hB2 := stp hb1 hb2)
    | (go_at_call 11; (with_reducible refine (write6 m w2 HM.out b 2 HB.out).mono ?_); rintro e w3 ⟨rfl, hb3⟩; have hB3 := stp hB2 hb3)
    | fail)
  go_ret
  exact ⟨rfl, hB3⟩
set_option maxHeartbeats 1000000 in
set_option maxRecDepth 100000 in
theorem walkBad02 (n m : Int) (w : World) (hn : -9223372036854775808 ≤ n ∧ n ≤ 9223372036854775807) (hm : -9223372036854775808 ≤ m ∧ m ≤ 9223372036854775807) (a b : ByteArray) (ha : writeR n = (a, 0)) (hb : writeR m = (b, 2)) (hT : Tb w := by first | assumption | exact Tb.to (by assumption) (by assumption)) :
    Calls Tryd.prog 8 #[.int .i64 n, .int .i64 m] w fun e w' => e = .returned (.bool true) ∧ Below w.heap.size w w' := by
  have HN := Lib.hid hn
  have HM := Lib.hid hm
  have HA := Lib.hid ha
  have HB := Lib.hid hb
  clear hn hm ha hb
  go_enter Tryd.func8, Tryd.ntmps8
  go_wp2_with (first
    | (go_at_call 13; (with_reducible refine (alive6 w).mono ?_); rintro e w1 ⟨rfl, hb1⟩)
    | (go_at_call 11; (with_reducible refine (write6 n w1 HN.out a 0 HA.out).mono ?_); rintro e w2 ⟨rfl, hb2⟩; have hB2 := stp hb1 hb2)
    | (go_at_call 11; (with_reducible refine (write6 m w2 HM.out b 2 HB.out).mono ?_); rintro e w3 ⟨rfl, hb3⟩; have hB3 := stp hB2 hb3)
    | fail)
  go_ret
  exact ⟨rfl, hB3⟩
set_option maxHeartbeats 4000000 in
set_option maxRecDepth 100000 in
theorem walk_s (n m : Int) (w : World) (hn : -9223372036854775808 ≤ n ∧ n ≤ 9223372036854775807) (hm : -9223372036854775808 ≤ m ∧ m ≤ 9223372036854775807) (a b x t : ByteArray) (ha : writeR n = (a, 0)) (hb : writeR m = (b, 0)) (hc1 : ∀ W, (Op.stringOp .add a ⟨#[46]⟩).run Tryd.prog W = .ok (.string x) W) (hc2 : ∀ W, (Op.stringOp .add x b).run Tryd.prog W = .ok (.string t) W) (hts : t.size ≤ 1000000) (hv : verR t.data.toList = (n, m, 0)) (h1 : n ≤ 99) (h2 : m ≤ 99) (hT : Tb w := by first | assumption | exact Tb.to (by assumption) (by assumption)) :
    Calls Tryd.prog 8 #[.int .i64 n, .int .i64 m] w fun e w' => e = .returned (.bool true) ∧ Below w.heap.size w w' := by
  have d0 : decide ((99 : Int) < n) = false := by simp; omega
  have d1 : decide ((99 : Int) < m) = false := by simp; omega
  have HN := Lib.hid hn
  have HM := Lib.hid hm
  have HA := Lib.hid ha
  have HB := Lib.hid hb
  have HTS := Lib.hid hts
  have HV := Lib.hid hv
  clear hn hm ha hb hts hv h1 h2
  go_enter Tryd.func8, Tryd.ntmps8
  go_wp2_with (first
    | (go_at_call 13; (with_reducible refine (alive6 w).mono ?_); rintro e w1 ⟨rfl, hb1⟩)
    | (go_at_call 11; (with_reducible refine (write6 n w1 HN.out a 0 HA.out).mono ?_); rintro e w2 ⟨rfl, hb2⟩; have hB2 := stp hb1 hb2)
    | (go_at_call 11; (with_reducible refine (write6 m w2 HM.out b 0 HB.out).mono ?_); rintro e w3 ⟨rfl, hb3⟩; have hB3 := stp hB2 hb3)
    | (go_at_call 10; (with_reducible refine (version6 t w3 HTS.out n m 0 HV.out).mono ?_); rintro e w4 ⟨rfl, hb4⟩; have hB4 := stp hB3 hb4)
    | fail)
  go_ret
  exact ⟨rfl, hB4⟩
set_option maxHeartbeats 4000000 in
set_option maxRecDepth 100000 in
theorem walk_n (n m : Int) (w : World) (hn : -9223372036854775808 ≤ n ∧ n ≤ 9223372036854775807) (hm : -9223372036854775808 ≤ m ∧ m ≤ 9223372036854775807) (a b x t : ByteArray) (ha : writeR n = (a, 0)) (hb : writeR m = (b, 0)) (hc1 : ∀ W, (Op.stringOp .add a ⟨#[46]⟩).run Tryd.prog W = .ok (.string x) W) (hc2 : ∀ W, (Op.stringOp .add x b).run Tryd.prog W = .ok (.string t) W) (hts : t.size ≤ 1000000) (hv : verR t.data.toList = (0, 0, 60)) (h1 : 99 < n) (hT : Tb w := by first | assumption | exact Tb.to (by assumption) (by assumption)) :
    Calls Tryd.prog 8 #[.int .i64 n, .int .i64 m] w fun e w' => e = .returned (.bool true) ∧ Below w.heap.size w w' := by
  have d0 : decide ((99 : Int) < n) = true := by simp; omega
  have HN := Lib.hid hn
  have HM := Lib.hid hm
  have HA := Lib.hid ha
  have HB := Lib.hid hb
  have HTS := Lib.hid hts
  have HV := Lib.hid hv
  clear hn hm ha hb hts hv h1
  go_enter Tryd.func8, Tryd.ntmps8
  go_wp2_with (first
    | (go_at_call 13; (with_reducible refine (alive6 w).mono ?_); rintro e w1 ⟨rfl, hb1⟩)
    | (go_at_call 11; (with_reducible refine (write6 n w1 HN.out a 0 HA.out).mono ?_); rintro e w2 ⟨rfl, hb2⟩; have hB2 := stp hb1 hb2)
    | (go_at_call 11; (with_reducible refine (write6 m w2 HM.out b 0 HB.out).mono ?_); rintro e w3 ⟨rfl, hb3⟩; have hB3 := stp hB2 hb3)
    | (go_at_call 10; (with_reducible refine (version6 t w3 HTS.out 0 0 60 HV.out).mono ?_); rintro e w4 ⟨rfl, hb4⟩; have hB4 := stp hB3 hb4)
    | fail)
  go_ret
  exact ⟨rfl, hB4⟩
set_option maxHeartbeats 4000000 in
set_option maxRecDepth 100000 in
theorem walk_m (n m : Int) (w : World) (hn : -9223372036854775808 ≤ n ∧ n ≤ 9223372036854775807) (hm : -9223372036854775808 ≤ m ∧ m ≤ 9223372036854775807) (a b x t : ByteArray) (ha : writeR n = (a, 0)) (hb : writeR m = (b, 0)) (hc1 : ∀ W, (Op.stringOp .add a ⟨#[46]⟩).run Tryd.prog W = .ok (.string x) W) (hc2 : ∀ W, (Op.stringOp .add x b).run Tryd.prog W = .ok (.string t) W) (hts : t.size ≤ 1000000) (hv : verR t.data.toList = (0, 0, 60)) (h1 : n ≤ 99) (h2 : 99 < m) (hT : Tb w := by first | assumption | exact Tb.to (by assumption) (by assumption)) :
    Calls Tryd.prog 8 #[.int .i64 n, .int .i64 m] w fun e w' => e = .returned (.bool true) ∧ Below w.heap.size w w' := by
  have d0 : decide ((99 : Int) < n) = false := by simp; omega
  have d1 : decide ((99 : Int) < m) = true := by simp; omega
  have HN := Lib.hid hn
  have HM := Lib.hid hm
  have HA := Lib.hid ha
  have HB := Lib.hid hb
  have HTS := Lib.hid hts
  have HV := Lib.hid hv
  clear hn hm ha hb hts hv h1 h2
  go_enter Tryd.func8, Tryd.ntmps8
  go_wp2_with (first
    | (go_at_call 13; (with_reducible refine (alive6 w).mono ?_); rintro e w1 ⟨rfl, hb1⟩)
    | (go_at_call 11; (with_reducible refine (write6 n w1 HN.out a 0 HA.out).mono ?_); rintro e w2 ⟨rfl, hb2⟩; have hB2 := stp hb1 hb2)
    | (go_at_call 11; (with_reducible refine (write6 m w2 HM.out b 0 HB.out).mono ?_); rintro e w3 ⟨rfl, hb3⟩; have hB3 := stp hB2 hb3)
    | (go_at_call 10; (with_reducible refine (version6 t w3 HTS.out 0 0 60 HV.out).mono ?_); rintro e w4 ⟨rfl, hb4⟩; have hB4 := stp hB3 hb4)
    | fail)
  go_ret
  exact ⟨rfl, hB4⟩
theorem walk (n m : Int) (w : World) (w0 : (Lit.int .i64 n).wf = true) (w1 : (Lit.int .i64 m).wf = true) (hT : Tb w := by first | assumption | exact Tb.to (by assumption) (by assumption)) :
    Calls Tryd.prog 8 #[.int .i64 n, .int .i64 m] w fun e w' => e = .returned (.bool true) ∧ Below w.heap.size w w' := by
  have hn := int_wf w0
  have hm := int_wf w1
  obtain ⟨a, p, ha⟩ : ∃ a p, writeR n = (a, p) := ⟨_, _, rfl⟩
  obtain ⟨b, q, hb⟩ : ∃ b q, writeR m = (b, q) := ⟨_, _, rfl⟩
  rcases write_bad ha with rfl | rfl <;> rcases write_bad hb with rfl | rfl
  · obtain ⟨x, t, c1, c2, c3, c4⟩ := point_text ha hb
    obtain ⟨a1, _⟩ := read_dg ha
    obtain ⟨b1, _⟩ := read_dg hb
    by_cases h1 : 99 < n
    · exact walk_n n m w hn hm a b x t ha hb (c1 _) (c2 _) c4 (by rw [c3]; exact ver_great a1 b1 (.inl h1)) h1
    · by_cases h2 : 99 < m
      · exact walk_m n m w hn hm a b x t ha hb (c1 _) (c2 _) c4 (by rw [c3]; exact ver_great a1 b1 (.inr h2)) (by omega) h2
      · exact walk_s n m w hn hm a b x t ha hb (c1 _) (c2 _) c4 (by rw [c3]; exact ver_small a1 b1 (by omega) (by omega)) (by omega) (by omega)
  · exact walkBad02 n m w hn hm a b ha hb
  · exact walkBad20 n m w hn hm a b ha hb
  · exact walkBad22 n m w hn hm a b ha hb

theorem gTab : Tryd.prog.globalNamed "internal/strconv.uint64pow10" = some 0 := by kernel_rfl
theorem gTabType : (Tryd.prog.globals[0]?).map (·.type) = some 58 := by kernel_rfl
/-- What the row's list gives. -/
theorem table {W : World} (h : laidMetH Tryd.prog Rows.numVersionsRow.laid W) : Tb W := by
  rw [MakeChecks.laidMetH_plain _ _ _ (by kernel_rfl)] at h
  have h2 := laidMet.filter (fun x => x.1 == "internal/strconv.uint64pow10") h
  have e : Rows.numVersionsRow.laid.filter (fun x => x.1 == "internal/strconv.uint64pow10") = [("internal/strconv.uint64pow10", Lib.tabData .u64 Lib.pow10Tab)] := by kernel_rfl
  rw [e] at h2
  exact Lib.tabIs_of_head (rest := []) gTab gTabType Tryd.underlying58 Tryd.underlying51 (by kernel_rfl) (by kernel_rfl) h2
theorem door_met (os : Os) (args : Array Value) : laidMetH Tryd.prog Rows.numVersionsRow.laid ((World.doorLaid Tryd.prog 400 os).forCall (fun _ _ => 0) ⟨#[], args, []⟩).memory :=
  laidMetH_of_parts3 (fuel := 8) (laidMet_of_run' 8 (by kernel_rfl) (by kernel_rfl)) (by kernel_rfl) (by kernel_rfl)
set_option maxRecDepth 100000 in
theorem lifted (os : Os) (started : os.Started) (H : Type) (enc : TypeId × Value → H) :
    ReturnsInHanded {} Tryd.checked os 8 .any (fun w args => (Rows.numVersionsSpec.pre enc Tryd.prog Tryd.f8 [] false w args ∧ laidMetH Tryd.prog Rows.numVersionsRow.laid w) ∧ sizedMet enc Tryd.prog Tryd.f8 (OpenSpec.ofChange Rows.numVersionsSpec) false w args) (Rows.numVersionsSpec.post enc Tryd.prog Tryd.f8 false true false false) := by
  refine returnsInHanded_of_change_and (C := Tryd.checked) (X := fun w _ => laidMetH Tryd.prog Rows.numVersionsRow.laid w) (fun _ _ _ hh h => h.of_heap hh) own started (by kernel_rfl) Tryd.func8
    (ChangeSpec.witness_shaped (enc := enc) (C := Tryd.checked) (os := os) (X := fun w _ => laidMetH Tryd.prog Rows.numVersionsRow.laid w) false (World.doorLaid Tryd.prog 400 os) #[.int .i64 0, .int .i64 0] 8 rfl (World.shaped_of_RefB (by kernel_rfl) (by kernel_rfl)) (by kernel_rfl) (by kernel_rfl) (by kernel_rfl) (door_met os _)) ?_
  intro W base args ds gs before hval0 hW _ _ hL _
  have hval : ∀ (j : Nat) t v, Tryd.f8.params[j]? = some t → args[j]? = some v → Value.okWide Tryd.prog W .any base t v := hval0
  have hW' := hW
  obtain ⟨p, q, hA0, hV, rfl, hfz, hnd⟩ := hW
  have hA : DataW.TrodAll enc Tryd.prog W 0 (fun _ => true) true Tryd.f8.params.toList args.toList ds p := hA0
  rw [Tryd.params8] at hA hval
  obtain ⟨v0, vs0, d0, ds0, p0, q0, hargs, rfl, rfl, h0, r0⟩ := trodAll_cons hA
  obtain ⟨v1, vs1, d1, ds1, p1, q1, rfl, rfl, rfl, h1, r1⟩ := trodAll_cons r0
  obtain ⟨rfl, rfl, rfl⟩ := trodAll_nil r1
  obtain rfl : args = #[v0, v1] := by cases args; simp_all
  obtain ⟨rfl, rfl⟩ := trodVars_none hV
  obtain ⟨a0, rfl, rfl, rfl, w0⟩ := open_int Tryd.underlying3 (hval 0 3 v0 rfl rfl) h0
  obtain ⟨a1, rfl, rfl, rfl, w1⟩ := open_int Tryd.underlying3 (hval 1 3 v1 rfl rfl) h1
  clear hA0 hval0
  refine (walk a0 a1 W w0 w1 (table hL)).mono fun e W' ⟨he, bel⟩ => ?_
  subst he
  exact ⟨_, rfl, _, _, _, [], _, [], hW', trodAll_mk1 (shut_bool Tryd.underlying4 _), (trodAll_cons_mk (shut_int Tryd.underlying3 w0) (trodAll_cons_mk (shut_int Tryd.underlying3 w1) trodAll_mk0)), rfl, bel.frame _, fun h => by cases h⟩

theorem over : Rows.numVersionsRow.holds Tryd.pinned (OpenSpec.ofChange Rows.numVersionsSpec) :=
  OpenClaim.holds_of_wide 8 Tryd.f8 rfl rfl rfl rfl rfl rfl rfl ⟨rfl, rfl, rfl, rfl, rfl⟩ rfl rfl rfl rfl rfl (by kernel_rfl) Tryd.func8 (by kernel_rfl)
    (of_decide_eq_true (by kernel_rfl)) (by unfold Func.isWrapper; first | (rw [if_pos (by decide +kernel)]; kernel_rfl) | (rw [if_neg (by decide +kernel)]; exact ⟨rfl, rfl⟩))
    (fun os started H enc _ => lifted os started H enc)

theorem said : Rows.NumVersionsSaid := over
theorem plain (f : FuncId) (fn : Func) (hf : Tryd.pinned.checked.prog.funcNamed "tidewaiter/tidewaiterlaw06.NumVersions" = some f) (hfn : Tryd.pinned.checked.prog.funcs[f]? = some fn) :
    false = Tryd.pinned.checked.prog.looks [] ∧ ∀ (j : Nat) t, fn.params[j]? = some t → Tryd.pinned.checked.prog.wantsStandIn t = false := by
  obtain rfl : f = 8 := Option.some.inj ((show Tryd.prog.funcNamed "tidewaiter/tidewaiterlaw06.NumVersions" = some 8 by kernel_rfl).symm.trans hf) |>.symm
  obtain rfl : fn = Tryd.f8 := (Option.some.inj (Tryd.func8.symm.trans hfn)).symm
  refine ⟨by kernel_rfl, fun j t ht => ?_⟩
  rw [Tryd.params8] at ht
  have hm : t ∈ [3, 3] := by simpa using Array.mem_of_getElem? ht
  have hall : ([3, 3].all fun u => !Tryd.prog.wantsStandIn u) = true := by kernel_rfl
  exact (show Tryd.prog.wantsStandIn t = false by simpa using List.all_eq_true.1 hall t hm)
theorem proved : Rows.NumVersionsCardSaid :=
  Claim7.holds_tied_plain_at .later [] _ _ _ _ said (fun _ h => by cases h) (by kernel_rfl) (fun _ h => by cases h) numVersions_row_tie rfl ⟨rfl, rfl⟩ (by kernel_rfl) rfl plain (by kernel_rfl)
end Go.Proofs.YtllcmfohfnidpaaDoor.numVersions
