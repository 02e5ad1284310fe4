/-
  What is written is read, and the other way round.
-/
import Derived.Test.YtllcmfohfnidpaaDoorNumW
import Derived.Test.YtllcmfohfnidpaaDoorCards
import Derived.Test.YtllcmfohfnidpaaDoorTie
import Derived.LaidMore
import Derived.LaidSub
import Derived.MakeChecks
import Derived.Stop.Joined
import Derived.Lib.LaidTab
import Derived.SevenTiedAt
import Derived.WalkKit
import Derived.ProofKit
import Derived.OpenShut
import Derived.ShutString
import Derived.ChangeOld
import Derived.Below
namespace Go.Proofs.YtllcmfohfnidpaaDoor.numBack
open Go.ChangeShapes Go.WideShapes Go.ChangeAt Go.RowKit
open Go.ChangeMaps (open_string shut_string)
open Hx Nmb
set_option linter.unusedVariables false

theorem own : ownKnob Tryd.prog.godebug = none := by kernel_rfl
theorem laidOut : laidOutB Tryd.prog = true := by kernel_rfl

set_option linter.unusedVariables false
theorem write_read {s : ByteArray} {m : Int} (h : readR s.data.toList = (m, 0)) : writeR m = (s, 0) ∧ -9223372036854775808 ≤ m ∧ m ≤ 9223372036854775807 := by
  unfold readR at h
  cases hr : readN s.data.toList with
  | none => rw [hr] at h; cases h
  | some n =>
    rw [hr] at h
    obtain rfl : (n : Int) = m := congrArg Prod.fst h
    obtain ⟨h1, h2⟩ := (readN_iff _ _).1 hr
    unfold most at h2
    refine ⟨?_, by omega, by omega⟩
    unfold writeR
    rw [if_pos (by omega), Int.toNat_natCast, ← h1]
theorem read_bad {l : List UInt8} {m b : Int} (h : readR l = (m, b)) : b = 0 ∨ (b = 60 ∧ m = 0) := by
  unfold readR at h
  split at h <;> (injection h with h1 h2; omega)
theorem write_bad {n : Int} {t : ByteArray} {b : Int} (h : writeR n = (t, b)) : b = 0 ∨ b = 2 := by
  unfold writeR at h
  split at h <;> (injection h with h1 h2; omega)
set_option maxHeartbeats 1000000 in
set_option maxRecDepth 100000 in
theorem walkOut (n : Int) (s : ByteArray) (w : World) (h : 1000 < s.size) (hT : Tb w := by first | assumption | exact Tb.to (by assumption) (by assumption)) :
    Calls Tryd.prog 5 #[.int .i64 n, .string s] w fun e w' => e = .returned (.bool true) ∧ Below w.heap.size w w' := by
  have t0 : decide ((1000 : Int) < (s.size : Int)) = true := by simp; omega
  clear h
  go_enter Tryd.func5, Tryd.ntmps5
  go_wp2_with (first
    | (go_at_call 13; (with_reducible refine (alive6 w).mono ?_); rintro e w1 ⟨rfl, hb1⟩)
    | fail)
  go_ret
  exact ⟨rfl, hb1⟩
set_option maxHeartbeats 4000000 in
set_option maxRecDepth 100000 in
theorem walk0_0 (n : Int) (s : ByteArray) (w : World) (hs : s.size ≤ 1000) (hn : -9223372036854775808 ≤ n ∧ n ≤ 9223372036854775807) (t : ByteArray) (ht : writeR n = (t, 0)) (m : Int) (hr : readR s.data.toList = (m, 0)) (hT : Tb w := by first | assumption | exact Tb.to (by assumption) (by assumption)) :
    Calls Tryd.prog 5 #[.int .i64 n, .string s] w fun e w' => e = .returned (.bool true) ∧ Below w.heap.size w w' := by
  have t0 : decide ((1000 : Int) < (s.size : Int)) = false := by simp; omega
  have HM : Hid (s.size ≤ 1000000) := Lib.hid (by omega)
  have HN := Lib.hid hn
  have HT := Lib.hid ht
  have HR := Lib.hid hr
  obtain ⟨_, _, _, ts, tr⟩ := read_dg ht
  have HTS : Hid (t.size ≤ 1000000) := Lib.hid (by omega)
  have HTR := Lib.hid tr
  clear ts tr
  obtain ⟨wr, wb⟩ := write_read hr
  have HWR := Lib.hid wr
  have HWB := Lib.hid wb
  clear wr wb
  clear hs hn ht hr
  go_enter Tryd.func5, Tryd.ntmps5
  go_wp2_with (first
    | (go_at_call 13; (with_reducible refine (alive6 w).mono ?_); rintro e w1 ⟨rfl, hb1⟩)
    | (go_at_call 11; (with_reducible refine (write6 n w1 HN.out t 0 HT.out).mono ?_); rintro e w2 ⟨rfl, hb2⟩; have hB2 := stp hb1 hb2)
    | (go_at_call 17; (with_reducible refine (is6 t n w2 HTS.out HTR.out).mono ?_); rintro e w3 ⟨rfl, hb3⟩; have hB3 := stp hB2 hb3)
    | (go_at_call 18; (with_reducible refine (read6 s w3 HM.out m 0 HR.out).mono ?_); rintro e w4 ⟨rfl, hb4⟩; have hB4 := stp hB3 hb4)
    | (go_at_call 11; (with_reducible refine (write6 m w4 HWB.out s 0 HWR.out).mono ?_); rintro e w5 ⟨rfl, hb5⟩; have hB5 := stp hB4 hb5)
    | fail)
  go_ret
  exact ⟨rfl, hB5⟩
set_option maxHeartbeats 4000000 in
set_option maxRecDepth 100000 in
theorem walk0_60 (n : Int) (s : ByteArray) (w : World) (hs : s.size ≤ 1000) (hn : -9223372036854775808 ≤ n ∧ n ≤ 9223372036854775807) (t : ByteArray) (ht : writeR n = (t, 0)) (hr : readR s.data.toList = (0, 60)) (hT : Tb w := by first | assumption | exact Tb.to (by assumption) (by assumption)) :
    Calls Tryd.prog 5 #[.int .i64 n, .string s] w fun e w' => e = .returned (.bool true) ∧ Below w.heap.size w w' := by
  have t0 : decide ((1000 : Int) < (s.size : Int)) = false := by simp; omega
  have HM : Hid (s.size ≤ 1000000) := Lib.hid (by omega)
  have HN := Lib.hid hn
  have HT := Lib.hid ht
  have HR := Lib.hid hr
  obtain ⟨_, _, _, ts, tr⟩ := read_dg ht
  have HTS : Hid (t.size ≤ 1000000) := Lib.hid (by omega)
  have HTR := Lib.hid tr
  clear ts tr
  clear hs hn ht hr
  go_enter Tryd.func5, Tryd.ntmps5
  go_wp2_with (first
    | (go_at_call 13; (with_reducible refine (alive6 w).mono ?_); rintro e w1 ⟨rfl, hb1⟩)
    | (go_at_call 11; (with_reducible refine (write6 n w1 HN.out t 0 HT.out).mono ?_); rintro e w2 ⟨rfl, hb2⟩; have hB2 := stp hb1 hb2)
    | (go_at_call 17; (with_reducible refine (is6 t n w2 HTS.out HTR.out).mono ?_); rintro e w3 ⟨rfl, hb3⟩; have hB3 := stp hB2 hb3)
    | (go_at_call 18; (with_reducible refine (read6 s w3 HM.out 0 60 HR.out).mono ?_); rintro e w4 ⟨rfl, hb4⟩; have hB4 := stp hB3 hb4)
    | fail)
  go_ret
  exact ⟨rfl, hB4⟩
set_option maxHeartbeats 4000000 in
set_option maxRecDepth 100000 in
theorem walk2_0 (n : Int) (s : ByteArray) (w : World) (hs : s.size ≤ 1000) (hn : -9223372036854775808 ≤ n ∧ n ≤ 9223372036854775807) (t : ByteArray) (ht : writeR n = (t, 2)) (m : Int) (hr : readR s.data.toList = (m, 0)) (hT : Tb w := by first | assumption | exact Tb.to (by assumption) (by assumption)) :
    Calls Tryd.prog 5 #[.int .i64 n, .string s] w fun e w' => e = .returned (.bool true) ∧ Below w.heap.size w w' := by
  have t0 : decide ((1000 : Int) < (s.size : Int)) = false := by simp; omega
  have HM : Hid (s.size ≤ 1000000) := Lib.hid (by omega)
  have HN := Lib.hid hn
  have HT := Lib.hid ht
  have HR := Lib.hid hr
  obtain ⟨wr, wb⟩ := write_read hr
  have HWR := Lib.hid wr
  have HWB := Lib.hid wb
  clear wr wb
  clear hs hn ht hr
  go_enter Tryd.func5, Tryd.ntmps5
  go_wp2_with (first
    | (go_at_call 13; (with_reducible refine (alive6 w).mono ?_); rintro e w1 ⟨rfl, hb1⟩)
    | (go_at_call 11; (with_reducible refine (write6 n w1 HN.out t 2 HT.out).mono ?_); rintro e w2 ⟨rfl, hb2⟩; have hB2 := stp hb1 hb2)
    | (go_at_call 18; (with_reducible refine (read6 s w2 HM.out m 0 HR.out).mono ?_); rintro e w4 ⟨rfl, hb4⟩; have hB4 := stp hB2 hb4)
    | (go_at_call 11; (with_reducible refine (write6 m w4 HWB.out s 0 HWR.out).mono ?_); rintro e w5 ⟨rfl, hb5⟩; have hB5 := stp hB4 hb5)
    | fail)
  go_ret
  exact ⟨rfl, hB5⟩
set_option maxHeartbeats 4000000 in
set_option maxRecDepth 100000 in
theorem walk2_60 (n : Int) (s : ByteArray) (w : World) (hs : s.size ≤ 1000) (hn : -9223372036854775808 ≤ n ∧ n ≤ 9223372036854775807) (t : ByteArray) (ht : writeR n = (t, 2)) (hr : readR s.data.toList = (0, 60)) (hT : Tb w := by first | assumption | exact Tb.to (by assumption) (by assumption)) :
    Calls Tryd.prog 5 #[.int .i64 n, .string s] w fun e w' => e = .returned (.bool true) ∧ Below w.heap.size w w' := by
  have t0 : decide ((1000 : Int) < (s.size : Int)) = false := by simp; omega
  have HM : Hid (s.size ≤ 1000000) := Lib.hid (by omega)
  have HN := Lib.hid hn
  have HT := Lib.hid ht
  have HR := Lib.hid hr
  clear hs hn ht hr
  go_enter Tryd.func5, Tryd.ntmps5
  go_wp2_with (first
    | (go_at_call 13; (with_reducible refine (alive6 w).mono ?_); rintro e w1 ⟨rfl, hb1⟩)
    | (go_at_call 11; (with_reducible refine (write6 n w1 HN.out t 2 HT.out).mono ?_); rintro e w2 ⟨rfl, hb2⟩; have hB2 := stp hb1 hb2)
    | (go_at_call 18; (with_reducible refine (read6 s w2 HM.out 0 60 HR.out).mono ?_); rintro e w4 ⟨rfl, hb4⟩; have hB4 := stp hB2 hb4)
    | fail)
  go_ret
  exact ⟨rfl, hB4⟩
theorem walk (n : Int) (s : ByteArray) (w : World) (w0 : (Lit.int .i64 n).wf = true) (w1 : s.size ≤ maxLen) (hT : Tb w := by first | assumption | exact Tb.to (by assumption) (by assumption)) :
    Calls Tryd.prog 5 #[.int .i64 n, .string s] w fun e w' => e = .returned (.bool true) ∧ Below w.heap.size w w' := by
  by_cases h : 1000 < s.size
  · exact walkOut n s w h
  · obtain ⟨t, b, ht⟩ : ∃ t b, writeR n = (t, b) := ⟨_, _, rfl⟩
    obtain ⟨m, f, hr⟩ : ∃ m f, readR s.data.toList = (m, f) := ⟨_, _, rfl⟩
    have hn := int_wf w0
    rcases write_bad ht with rfl | rfl <;> rcases read_bad hr with rfl | ⟨rfl, rfl⟩
    · exact walk0_0 n s w (by omega) hn t ht m hr
    · exact walk0_60 n s w (by omega) hn t ht hr
    · exact walk2_0 n s w (by omega) hn t ht m hr
    · exact walk2_60 n s w (by omega) hn t ht hr

theorem gTab : Tryd.prog.globalNamed "internal/strconv.uint64pow10" = some 0 := by kernel_rfl
theorem gTabType : (Tryd.prog.globals[0]?).map (·.type) = some 58 := by kernel_rfl
/-- What the row's list gives. -/
theorem table {W : World} (h : laidMetH Tryd.prog Rows.numBackRow.laid W) : Tb W := by
  rw [MakeChecks.laidMetH_plain _ _ _ (by kernel_rfl)] at h
  have h2 := laidMet.filter (fun x => x.1 == "internal/strconv.uint64pow10") h
  have e : Rows.numBackRow.laid.filter (fun x => x.1 == "internal/strconv.uint64pow10") = [("internal/strconv.uint64pow10", Lib.tabData .u64 Lib.pow10Tab)] := by kernel_rfl
  rw [e] at h2
  exact Lib.tabIs_of_head (rest := []) gTab gTabType Tryd.underlying58 Tryd.underlying51 (by kernel_rfl) (by kernel_rfl) h2
theorem door_met (os : Os) (args : Array Value) : laidMetH Tryd.prog Rows.numBackRow.laid ((World.doorLaid Tryd.prog 400 os).forCall (fun _ _ => 0) ⟨#[], args, []⟩).memory :=
  laidMetH_of_parts3 (fuel := 8) (laidMet_of_run' 8 (by kernel_rfl) (by kernel_rfl)) (by kernel_rfl) (by kernel_rfl)
set_option maxRecDepth 100000 in
theorem lifted (os : Os) (started : os.Started) (H : Type) (enc : TypeId × Value → H) :
    ReturnsInHanded {} Tryd.checked os 5 .any (fun w args => (Rows.numBackSpec.pre enc Tryd.prog Tryd.f5 [] false w args ∧ laidMetH Tryd.prog Rows.numBackRow.laid w) ∧ sizedMet enc Tryd.prog Tryd.f5 (OpenSpec.ofChange Rows.numBackSpec) false w args) (Rows.numBackSpec.post enc Tryd.prog Tryd.f5 false true false false) := by
  refine returnsInHanded_of_change_and (C := Tryd.checked) (X := fun w _ => laidMetH Tryd.prog Rows.numBackRow.laid w) (fun _ _ _ hh h => h.of_heap hh) own started (by kernel_rfl) Tryd.func5
    (ChangeSpec.witness_shaped (enc := enc) (C := Tryd.checked) (os := os) (X := fun w _ => laidMetH Tryd.prog Rows.numBackRow.laid w) false (World.doorLaid Tryd.prog 400 os) #[.int .i64 0, .string ByteArray.empty] 8 rfl (World.shaped_of_RefB (by kernel_rfl) (by kernel_rfl)) (by kernel_rfl) (by kernel_rfl) (by kernel_rfl) (door_met os _)) ?_
  intro W base args ds gs before hval0 hW _ _ hL _
  have hval : ∀ (j : Nat) t v, Tryd.f5.params[j]? = some t → args[j]? = some v → Value.okWide Tryd.prog W .any base t v := hval0
  have hW' := hW
  obtain ⟨p, q, hA0, hV, rfl, hfz, hnd⟩ := hW
  have hA : DataW.TrodAll enc Tryd.prog W 0 (fun _ => true) true Tryd.f5.params.toList args.toList ds p := hA0
  rw [Tryd.params5] at hA hval
  obtain ⟨v0, vs0, d0, ds0, p0, q0, hargs, rfl, rfl, h0, r0⟩ := trodAll_cons hA
  obtain ⟨v1, vs1, d1, ds1, p1, q1, rfl, rfl, rfl, h1, r1⟩ := trodAll_cons r0
  obtain ⟨rfl, rfl, rfl⟩ := trodAll_nil r1
  obtain rfl : args = #[v0, v1] := by cases args; simp_all
  obtain ⟨rfl, rfl⟩ := trodVars_none hV
  obtain ⟨a0, rfl, rfl, rfl, w0⟩ := open_int Tryd.underlying3 (hval 0 3 v0 rfl rfl) h0
  obtain ⟨a1, rfl, rfl, rfl, w1⟩ := open_string Tryd.underlying9 (hval 1 9 v1 rfl rfl) h1
  clear hA0 hval0
  refine (walk a0 a1 W w0 w1 (table hL)).mono fun e W' ⟨he, bel⟩ => ?_
  subst he
  exact ⟨_, rfl, _, _, _, [], _, [], hW', trodAll_mk1 (shut_bool Tryd.underlying4 _), (trodAll_cons_mk (shut_int Tryd.underlying3 w0) (trodAll_cons_mk (shut_string Tryd.underlying9 w1) trodAll_mk0)), rfl, bel.frame _, fun h => by cases h⟩

theorem over : Rows.numBackRow.holds Tryd.pinned (OpenSpec.ofChange Rows.numBackSpec) :=
  OpenClaim.holds_of_wide 5 Tryd.f5 rfl rfl rfl rfl rfl rfl rfl ⟨rfl, rfl, rfl, rfl, rfl⟩ rfl rfl rfl rfl rfl (by kernel_rfl) Tryd.func5 (by kernel_rfl)
    (of_decide_eq_true (by kernel_rfl)) (by unfold Func.isWrapper; first | (rw [if_pos (by decide +kernel)]; kernel_rfl) | (rw [if_neg (by decide +kernel)]; exact ⟨rfl, rfl⟩))
    (fun os started H enc _ => lifted os started H enc)

theorem said : Rows.NumBackSaid := over
theorem plain (f : FuncId) (fn : Func) (hf : Tryd.pinned.checked.prog.funcNamed "tidewaiter/tidewaiterlaw06.NumBack" = some f) (hfn : Tryd.pinned.checked.prog.funcs[f]? = some fn) :
    false = Tryd.pinned.checked.prog.looks [] ∧ ∀ (j : Nat) t, fn.params[j]? = some t → Tryd.pinned.checked.prog.wantsStandIn t = false := by
  obtain rfl : f = 5 := Option.some.inj ((show Tryd.prog.funcNamed "tidewaiter/tidewaiterlaw06.NumBack" = some 5 by kernel_rfl).symm.trans hf) |>.symm
  obtain rfl : fn = Tryd.f5 := (Option.some.inj (Tryd.func5.symm.trans hfn)).symm
  refine ⟨by kernel_rfl, fun j t ht => ?_⟩
  rw [Tryd.params5] at ht
  have hm : t ∈ [3, 9] := by simpa using Array.mem_of_getElem? ht
  have hall : ([3, 9].all fun u => !Tryd.prog.wantsStandIn u) = true := by kernel_rfl
  exact (show Tryd.prog.wantsStandIn t = false by simpa using List.all_eq_true.1 hall t hm)
theorem proved : Rows.NumBackCardSaid :=
  Claim7.holds_tied_plain_at .later [] _ _ _ _ said (fun _ h => by cases h) (by kernel_rfl) (fun _ h => by cases h) numBack_row_tie rfl ⟨rfl, rfl⟩ (by kernel_rfl) rfl plain (by kernel_rfl)
end Go.Proofs.YtllcmfohfnidpaaDoor.numBack
