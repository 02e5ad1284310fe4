/-
  LineTells: for every text, line and number (as a program can hold them) what lines tell, their texts, how they are judged, and statuses' lines, are the document's answers: the law returns true, and what was handed in stays as it was; no condition but that the library's listed tables hold what its text lays (the card ties them).
-/
import Derived.Test.YtagngohemlkkoaaDoorLinJ
import Derived.Test.YtagngohemlkkoaaDoorCards
import Derived.Test.YtagngohemlkkoaaDoorTie
import Derived.LaidMore
import Derived.LaidSub
import Derived.MakeChecks
import Derived.Stop.Joined
import Derived.Lib.LaidTab
import Derived.SevenTiedAt
import Derived.WalkKit
import Derived.ProofKit
import Derived.OpenShut
import Derived.ShutString
import Derived.ChangeOld
import Derived.Below
namespace Go.Proofs.YtagngohemlkkoaaDoor.lineTells
open Go.ChangeShapes Go.WideShapes Go.ChangeAt Go.RowKit
open Go.ChangeMaps (open_string shut_string)
open Hx Ln As Nmb
set_option linter.unusedVariables false

theorem own : ownKnob Tryd.prog.godebug = none := by kernel_rfl
theorem laidOut : laidOutB Tryd.prog = true := by kernel_rfl

set_option linter.unusedVariables false
set_option linter.unusedSimpArgs false
set_option maxHeartbeats 8000000 in
set_option maxRecDepth 100000 in
theorem big1 (s m t : ByteArray) (g k c : Int) (w : World) (h : 2000 < s.size) : Calls Tryd.prog 4 #[.string s, .agg #[.string m, .string t, .int .i64 g, .int .i64 k], .int .i64 c] w fun e w' => e = .returned (.bool true) ∧ Below w.heap.size w w' := by
  have d1 : decide ((2000 : Int) < (s.size : Int)) = true := decide_eq_true (by omega)
  clear h
  go_enter Tryd.func4, Tryd.ntmps4
  go_wp2_with fail
  go_ret
  exact ⟨rfl, (stpA (Below.refl w.heap.size w) (.cells #[.string m, .string t, .int .i64 g, .int .i64 k] 30))⟩
set_option maxHeartbeats 8000000 in
set_option maxRecDepth 100000 in
theorem big2 (s m t : ByteArray) (g k c : Int) (w : World) (h : ¬ 2000 < s.size) (h2 : 2000 < m.size + t.size) (hm : m.size ≤ 4611686018427387903) (ht : t.size ≤ 4611686018427387903) : Calls Tryd.prog 4 #[.string s, .agg #[.string m, .string t, .int .i64 g, .int .i64 k], .int .i64 c] w fun e w' => e = .returned (.bool true) ∧ Below w.heap.size w w' := by
  have d1 : decide ((2000 : Int) < (s.size : Int)) = false := decide_eq_false (by omega)
  have d2 : decide ((2000 : Int) < (m.size : Int) + (t.size : Int)) = true := decide_eq_true (by omega)
  have u1 : IntKind.i64.wrap ((m.size : Int) + (t.size : Int)) = (m.size : Int) + (t.size : Int) := IntWalk.i64_in _ (by omega)
  clear h h2 hm ht
  go_enter Tryd.func4, Tryd.ntmps4
  go_wp2_with fail
  go_ret
  exact ⟨rfl, (stpA (Below.refl w.heap.size w) (.cells #[.string m, .string t, .int .i64 g, .int .i64 k] 30))⟩
set_option maxHeartbeats 8000000 in
set_option maxRecDepth 100000 in
theorem small (s m t : ByteArray) (g k c : Int) (w : World) (hs : s.size ≤ 2000) (h2 : m.size + t.size ≤ 2000) (hT : Tb w) : Calls Tryd.prog 4 #[.string s, .agg #[.string m, .string t, .int .i64 g, .int .i64 k], .int .i64 c] w fun e w' => e = .returned (.bool true) ∧ Below w.heap.size w w' := by
  obtain ⟨pm, pt, pg, pk, pq, hp⟩ : ∃ (pm pt : ByteArray) (pg pk : Nat) (pq : Int), parR s.data.toList = (pm.data.toList, pt.data.toList, pg, pk, pq) := by
    cases hp : parseL s.data.toList with
    | none => exact ⟨_, _, _, _, _, par_none hp⟩
    | some x =>
      obtain ⟨a, b, c, d, rfl, _⟩ := some_mk hp
      exact ⟨a, b, c, d, 0, par_some hp⟩
  obtain ⟨wl, wq, hw⟩ : ∃ l q, writeR15 (mkL m t g k) = (l, q) := ⟨_, _, rfl⟩
  obtain ⟨wu, rfl⟩ := ba_ex wl
  obtain ⟨jn, jq, hj⟩ : ∃ n q, judgeR (mkL m t g k) = (n, q) := ⟨_, _, rfl⟩
  obtain ⟨sl, sq, hst⟩ : ∃ l q, statR c = (l, q) := ⟨_, _, rfl⟩
  obtain ⟨su, rfl⟩ := ba_ex sl
  have d1 : decide ((2000 : Int) < (s.size : Int)) = false := decide_eq_false (by omega)
  have d2 : decide ((2000 : Int) < (m.size : Int) + (t.size : Int)) = false := decide_eq_false (by omega)
  have u1 : IntKind.i64.wrap ((m.size : Int) + (t.size : Int)) = (m.size : Int) + (t.size : Int) := IntWalk.i64_in _ (by omega)
  have HP := Lib.hid fun W => par15 s pm pt pg pk pq (by omega) hp W
  have HRP := Lib.hid fun W => rpar15 s pm pt pg pk pq W (by omega) hp
  have HW : Hid (∀ W, Below w.heap.size w W → Calls Tryd.prog 14 #[.agg #[.string m, .string t, .int .i64 g, .int .i64 k]] W fun e w' => e = .returned (.tuple #[.string wu, .int .i64 wq]) ∧ Below W.heap.size W w') := Lib.hid fun W hW => write15 m t wu g k wq W (by omega) (by omega) hw (hT.to hW)
  have HRW := Lib.hid fun W => rwrite15 m t wu g k wq W (by omega) (by omega) hw
  have HJ := Lib.hid fun W => judge15 m t g k jn jq W (by omega) (by omega) hj
  have HRJ := Lib.hid fun W => rjudge15 m t g k jn jq W (by omega) (by omega) hj
  have HS : Hid (∀ W, Below w.heap.size w W → Calls Tryd.prog 9 #[.int .i64 c] W fun e w' => e = .returned (.tuple #[.string su, .int .i64 sq]) ∧ Below W.heap.size W w') := Lib.hid fun W hW => status15 c su sq W hst (hT.to hW)
  have HRS := Lib.hid fun W => rstatus15 c su sq W hst
  clear hs h2 hT hp hw hj hst
  go_enter Tryd.func4, Tryd.ntmps4
  go_wp2_with (first
    | (go_at_call 12; (with_reducible refine (HP.out _).mono ?_); rintro e w1 ⟨rfl, hb1⟩; have HB1 := Lib.hid (stp (stpA (Below.refl w.heap.size w) (.cells #[.string m, .string t, .int .i64 g, .int .i64 k] 30)) hb1); have HR1 := Lib.hid (kept_heap (heap_alloc_new w (.cells #[.string m, .string t, .int .i64 g, .int .i64 k] 30)) hb1); clear hb1)
    | (refine wpList_store_row rfl _ _ _ rfl w1.heap.size #[.string pm, .string pt, .int .i64 (pg : Int), .int .i64 (pk : Int)] rfl rfl 30 zLn (heap_alloc_new w1 _) sizeLn rfl (oneLn _ _ _ _) ?_; rw [World.setRow_alloc_new]; obtain ⟨W2, hW2, hrW2, hbW2⟩ := opnV w1 (.cells #[.string pm, .string pt, .int .i64 (pg : Int), .int .i64 (pk : Int)] 30); rw [hW2]; have HB2 := Lib.hid (stp HB1.out hbW2); have HRW2 := Lib.hid hrW2; obtain ⟨p0, p1, p2, p3⟩ := ln_at hrW2; have HR2 := Lib.hid (kept_heap HR1.out hbW2); clear hW2 hrW2 hbW2)
    | (go_at_call 13; (with_reducible refine (HRP.out _).mono ?_); rintro e w3 ⟨rfl, hb3⟩; have HB3 := Lib.hid (stp HB2.out hb3); have HR3 := Lib.hid (kept_heap HR2.out hb3); have HP3 := Lib.hid (kept_heap HRW2.out hb3); clear hb3)
    | (refine wpList_store_row rfl _ _ _ rfl w3.heap.size #[.string pm, .string pt, .int .i64 (pg : Int), .int .i64 (pk : Int)] rfl rfl 30 zLn (heap_alloc_new w3 _) sizeLn rfl (oneLn _ _ _ _) ?_; rw [World.setRow_alloc_new]; obtain ⟨W4, hW4, hrW4, hbW4⟩ := opnV w3 (.cells #[.string pm, .string pt, .int .i64 (pg : Int), .int .i64 (pk : Int)] 30); rw [hW4]; have HB4 := Lib.hid (stp HB3.out hbW4); have HRW4 := Lib.hid hrW4; obtain ⟨q0, q1, q2, q3⟩ := ln_at hrW4; have HR4 := Lib.hid (kept_heap HR3.out hbW4); have HP4 := Lib.hid (kept_heap HP3.out hbW4); clear hW4 hrW4 hbW4)
    | (refine wpList_load_row rfl _ _ rfl w.heap.size rfl 30 #[.string m, .string t, .int .i64 g, .int .i64 k] (0, 0) _ HR4.out Tryd.underlying30 rfl sizeLn ?_)
    | (go_at_call 14; (with_reducible refine (HW.out _ HB4.out).mono ?_); rintro e w5 ⟨rfl, hb5⟩; have HB5 := Lib.hid (stp HB4.out hb5); have HR5 := Lib.hid (kept_heap HR4.out hb5); have HP5 := Lib.hid (kept_heap HP4.out hb5); have HQ5 := Lib.hid (kept_heap HRW4.out hb5); clear hb5)
    | (refine wpList_load_row rfl _ _ rfl w.heap.size rfl 30 #[.string m, .string t, .int .i64 g, .int .i64 k] (0, 0) _ HR5.out Tryd.underlying30 rfl sizeLn ?_)
    | (go_at_call 15; (with_reducible refine (HRW.out _).mono ?_); rintro e w6 ⟨rfl, hb6⟩; have HB6 := Lib.hid (stp HB5.out hb6); have HR6 := Lib.hid (kept_heap HR5.out hb6); have HP6 := Lib.hid (kept_heap HP5.out hb6); have HQ6 := Lib.hid (kept_heap HQ5.out hb6); clear hb6)
    | (refine wpList_load_row rfl _ _ rfl w.heap.size rfl 30 #[.string m, .string t, .int .i64 g, .int .i64 k] (0, 0) _ HR6.out Tryd.underlying30 rfl sizeLn ?_)
    | (go_at_call 10; (with_reducible refine (HJ.out _).mono ?_); rintro e w7 ⟨rfl, hb7⟩; have HB7 := Lib.hid (stp HB6.out hb7); have HR7 := Lib.hid (kept_heap HR6.out hb7); have HP7 := Lib.hid (kept_heap HP6.out hb7); have HQ7 := Lib.hid (kept_heap HQ6.out hb7); clear hb7)
    | (refine wpList_load_row rfl _ _ rfl w.heap.size rfl 30 #[.string m, .string t, .int .i64 g, .int .i64 k] (0, 0) _ HR7.out Tryd.underlying30 rfl sizeLn ?_)
    | (go_at_call 16; (with_reducible refine (HRJ.out _).mono ?_); rintro e w8 ⟨rfl, hb8⟩; have HB8 := Lib.hid (stp HB7.out hb8); have HR8 := Lib.hid (kept_heap HR7.out hb8); have HP8 := Lib.hid (kept_heap HP7.out hb8); have HQ8 := Lib.hid (kept_heap HQ7.out hb8); clear hb8)
    | (go_at_call 9; (with_reducible refine (HS.out _ HB8.out).mono ?_); rintro e w9 ⟨rfl, hb9⟩; have HB9 := Lib.hid (stp HB8.out hb9); have HR9 := Lib.hid (kept_heap HR8.out hb9); have HP9 := Lib.hid (kept_heap HP8.out hb9); have HQ9 := Lib.hid (kept_heap HQ8.out hb9); clear hb9)
    | (go_at_call 17; (with_reducible refine (HRS.out _).mono ?_); rintro e w10 ⟨rfl, hb10⟩; have HB10 := Lib.hid (stp HB9.out hb10); have HR10 := Lib.hid (kept_heap HR9.out hb10); have HP10 := Lib.hid (kept_heap HP9.out hb10); have HQ10 := Lib.hid (kept_heap HQ9.out hb10); clear hb10)
    | (refine wpList_load_row rfl _ _ rfl w1.heap.size rfl 30 #[.string pm, .string pt, .int .i64 (pg : Int), .int .i64 (pk : Int)] (0, 0) _ HP10.out Tryd.underlying30 rfl sizeLn ?_)
    | (refine wpList_load_row rfl _ _ rfl w3.heap.size rfl 30 #[.string pm, .string pt, .int .i64 (pg : Int), .int .i64 (pk : Int)] (0, 0) _ HQ10.out Tryd.underlying30 rfl sizeLn ?_)
    | fail)
  go_ret
  exact ⟨rfl, HB10.out⟩
theorem walk (s m t : ByteArray) (g k c : Int) (w : World) (w0 : s.size ≤ maxLen) (w1 : m.size ≤ reachBytes) (z1 : t.size ≤ reachBytes) (w2 : (Lit.int .i64 c).wf = true) (hT : Tb w) :
    Calls Tryd.prog 4 #[.string s, .agg #[.string m, .string t, .int .i64 g, .int .i64 k], .int .i64 c] w fun e w' => e = .returned (.bool true) ∧ Below w.heap.size w w' := by
  unfold maxLen at w0
  unfold reachBytes at w1 z1
  by_cases h1 : 2000 < s.size
  · exact big1 s m t g k c w h1
  · by_cases h2 : 2000 < m.size + t.size
    · exact big2 s m t g k c w h1 h2 (by omega) (by omega)
    · exact small s m t g k c w (by omega) (by omega) hT

theorem gTab : Tryd.prog.globalNamed "internal/strconv.uint64pow10" = some 0 := by kernel_rfl
theorem gTabType : (Tryd.prog.globals[0]?).map (·.type) = some 94 := by kernel_rfl
/-- What the row's list gives. -/
theorem table {W : World} (h : laidMetH Tryd.prog Rows.lineTellsRow.laid W) : Tb W := by
  rw [MakeChecks.laidMetH_plain _ _ _ (by kernel_rfl)] at h
  have h2 := laidMet.filter (fun x => x.1 == "internal/strconv.uint64pow10") h
  have e : Rows.lineTellsRow.laid.filter (fun x => x.1 == "internal/strconv.uint64pow10") = [("internal/strconv.uint64pow10", Lib.tabData .u64 Lib.pow10Tab)] := by kernel_rfl
  rw [e] at h2
  exact Lib.tabIs_of_head (rest := []) gTab gTabType Tryd.underlying94 Tryd.underlying84 (by kernel_rfl) (by kernel_rfl) h2
theorem door_met (os : Os) (args : Array Value) : laidMetH Tryd.prog Rows.lineTellsRow.laid ((World.doorLaid Tryd.prog 400 os).forCall (fun _ _ => 0) ⟨#[], args, []⟩).memory :=
  laidMetH_of_parts3 (fuel := 8) (laidMet_of_run' 8 (by kernel_rfl) (by kernel_rfl)) (by kernel_rfl) (by kernel_rfl)
set_option maxRecDepth 100000 in
theorem lifted (os : Os) (started : os.Started) (H : Type) (enc : TypeId × Value → H) :
    ReturnsInHanded {} Tryd.checked os 4 .any (fun w args => (Rows.lineTellsSpec.pre enc Tryd.prog Tryd.f4 [] false w args ∧ laidMetH Tryd.prog Rows.lineTellsRow.laid w) ∧ sizedMet enc Tryd.prog Tryd.f4 (OpenSpec.ofChange Rows.lineTellsSpec) false w args) (Rows.lineTellsSpec.post enc Tryd.prog Tryd.f4 false true false false) := by
  refine returnsInHanded_of_change_and (C := Tryd.checked) (X := fun w _ => laidMetH Tryd.prog Rows.lineTellsRow.laid w) (fun _ _ _ hh h => h.of_heap hh) own started (by kernel_rfl) Tryd.func4
    (ChangeSpec.witness_shaped (enc := enc) (C := Tryd.checked) (os := os) (X := fun w _ => laidMetH Tryd.prog Rows.lineTellsRow.laid w) false (World.doorLaid Tryd.prog 400 os) #[.string ByteArray.empty, .agg #[.string ByteArray.empty, .string ByteArray.empty, .int .i64 0, .int .i64 0], .int .i64 0] 8 rfl (World.shaped_of_RefB (by kernel_rfl) (by kernel_rfl)) (by kernel_rfl) (by kernel_rfl) (by kernel_rfl) (door_met os _)) ?_
  intro W base args ds gs before hval0 hW _ hwt hL _
  have hval : ∀ (j : Nat) t v, Tryd.f4.params[j]? = some t → args[j]? = some v → Value.okWide Tryd.prog W .any base t v := hval0
  have hW' := hW
  obtain ⟨p, q, hA0, hV, rfl, hfz, hnd⟩ := hW
  have hA : DataW.TrodAll enc Tryd.prog W 0 (fun _ => true) true Tryd.f4.params.toList args.toList ds p := hA0
  rw [Tryd.params4] at hA hval
  obtain ⟨v0, vs0, d0, ds0, p0, q0, hargs, rfl, rfl, h0, r0⟩ := trodAll_cons hA
  obtain ⟨v1, vs1, d1, ds1, p1, q1, rfl, rfl, rfl, h1, r1⟩ := trodAll_cons r0
  obtain ⟨v2, vs2, d2, ds2, p2, q2, rfl, rfl, rfl, h2, r2⟩ := trodAll_cons r1
  obtain ⟨rfl, rfl, rfl⟩ := trodAll_nil r2
  obtain rfl : args = #[v0, v1, v2] := by cases args; simp_all
  obtain ⟨rfl, rfl⟩ := trodVars_none hV
  obtain ⟨a0, rfl, rfl, rfl, w0⟩ := open_string Tryd.underlying9 (hval 0 9 v0 rfl rfl) h0
  obtain ⟨cs1, rfl, _⟩ := okWide_struct Tryd.underlying30 (hval 1 30 v1 rfl rfl)
  have k1 := h1
  have lt1 : ∀ x ∈ p1, x.block < W.heap.size := by obtain ⟨m, hm⟩ := k1; exact DataW.trod_lt m _ _ _ hm
  obtain ⟨f1, hf1⟩ := h1
  obtain ⟨x1, y1, g1, s1, e1, u1, u'1, a1⟩ := opens_line15 hf1
  obtain rfl : cs1 = #[.string x1, .string y1, .int .i64 g1, .int .i64 s1] := by cases cs1; simpa [Value.cells] using e1
  obtain rfl : d1 = .agg [.lit (.string x1.data.toList), .lit (.string y1.data.toList), u1, u'1] := a1
  obtain ⟨a2, rfl, rfl, rfl, w2⟩ := open_int Tryd.underlying3 (hval 2 3 v2 rfl rfl) h2
  have room1 : x1.size ≤ reachBytes ∧ y1.size ≤ reachBytes := by
    rw [Tryd.params4] at hwt
    have h := w_line (w_cons (w_cons hwt).2).1
    rw [ba_len7, ba_len7] at h
    exact h
  clear hA0 hval0
  refine (walk a0 x1 y1 g1 s1 a2 W w0 (room1).1 (room1).2 w2 (table hL)).mono fun e W' ⟨he, bel⟩ => ?_
  subst he
  exact ⟨_, rfl, _, _, _, [], _, [], hW', trodAll_mk1 (shut_bool Tryd.underlying4 _), (trodAll_cons_mk (shut_string Tryd.underlying9 w0) (trodAll_cons_mk (Below.trod laidOut (by kernel_rfl) (of_decide_eq_true (by kernel_rfl)) k1 bel lt1) (trodAll_cons_mk (shut_int Tryd.underlying3 w2) trodAll_mk0))), rfl, bel.frame _, fun h => by cases h⟩

theorem over : Rows.lineTellsRow.holds Tryd.pinned (OpenSpec.ofChange Rows.lineTellsSpec) :=
  OpenClaim.holds_of_wide 4 Tryd.f4 rfl rfl rfl rfl rfl rfl rfl ⟨rfl, rfl, rfl, rfl, rfl⟩ rfl rfl rfl rfl rfl (by kernel_rfl) Tryd.func4 (by kernel_rfl)
    (of_decide_eq_true (by kernel_rfl)) (by unfold Func.isWrapper; first | (rw [if_pos (by decide +kernel)]; kernel_rfl) | (rw [if_neg (by decide +kernel)]; exact ⟨rfl, rfl⟩))
    (fun os started H enc _ => lifted os started H enc)

theorem said : Rows.LineTellsSaid := over
theorem plain (f : FuncId) (fn : Func) (hf : Tryd.pinned.checked.prog.funcNamed "tidewaiter/tidewaiterlaw15.LineTells" = some f) (hfn : Tryd.pinned.checked.prog.funcs[f]? = some fn) :
    false = Tryd.pinned.checked.prog.looks [] ∧ ∀ (j : Nat) t, fn.params[j]? = some t → Tryd.pinned.checked.prog.wantsStandIn t = false := by
  obtain rfl : f = 4 := Option.some.inj ((show Tryd.prog.funcNamed "tidewaiter/tidewaiterlaw15.LineTells" = some 4 by kernel_rfl).symm.trans hf) |>.symm
  obtain rfl : fn = Tryd.f4 := (Option.some.inj (Tryd.func4.symm.trans hfn)).symm
  refine ⟨by kernel_rfl, fun j t ht => ?_⟩
  rw [Tryd.params4] at ht
  have hm : t ∈ [9, 30, 3] := by simpa using Array.mem_of_getElem? ht
  have hall : ([9, 30, 3].all fun u => !Tryd.prog.wantsStandIn u) = true := by kernel_rfl
  exact (show Tryd.prog.wantsStandIn t = false by simpa using List.all_eq_true.1 hall t hm)
theorem proved : Rows.LineTellsCardSaid :=
  Claim7.holds_tied_plain_at .later [] _ _ _ _ said (fun _ h => by cases h) (by kernel_rfl) (fun _ h => by cases h) lineTells_row_tie rfl ⟨rfl, rfl⟩ (by kernel_rfl) rfl plain (by kernel_rfl)
end Go.Proofs.YtagngohemlkkoaaDoor.lineTells
