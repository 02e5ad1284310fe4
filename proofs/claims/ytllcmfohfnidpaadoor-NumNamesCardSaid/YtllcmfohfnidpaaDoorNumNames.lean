/-
  The limit's and errors' numbers, and the chapter's examples.
-/
import Derived.Test.YtllcmfohfnidpaaDoorNumW
import Derived.Test.YtllcmfohfnidpaaDoorCards
import Derived.Test.YtllcmfohfnidpaaDoorTie
import Derived.LaidMore
import Derived.LaidSub
import Derived.MakeChecks
import Derived.Stop.Joined
import Derived.Lib.LaidTab
import Derived.SevenTiedAt
import Derived.WalkKit
import Derived.ProofKit
import Derived.OpenShut
import Derived.ShutString
import Derived.ChangeOld
import Derived.Below
namespace Go.Proofs.YtllcmfohfnidpaaDoor.numNames
open Go.ChangeShapes Go.WideShapes Go.ChangeAt Go.RowKit
open Go.ChangeMaps (open_string shut_string)
open Hx Nmb
set_option linter.unusedVariables false

theorem own : ownKnob Tryd.prog.godebug = none := by kernel_rfl
theorem laidOut : laidOutB Tryd.prog = true := by kernel_rfl

set_option linter.unusedVariables false
theorem lev_ok {l : List UInt8} {n : Int} (h : sgn n = l) (h0 : -128 ≤ n) (h1 : n ≤ 127) : levR l = (n, 0) := by
  obtain ⟨a, b, hl⟩ : ∃ a b, levR l = (a, b) := ⟨_, _, rfl⟩
  rcases levR_spec hl with ⟨_, _, p3, rfl⟩ | ⟨p1, _⟩
  · obtain rfl := sgn_inj (p3.trans h.symm)
    exact hl
  · exact absurd h (p1 n h0 h1)
theorem lev_no {l : List UInt8} (h : ∀ n, -128 ≤ n → n ≤ 127 → sgn n ≠ l) : levR l = (0, 60) := by
  obtain ⟨a, b, hl⟩ : ∃ a b, levR l = (a, b) := ⟨_, _, rfl⟩
  rcases levR_spec hl with ⟨p1, p2, p3, _⟩ | ⟨_, rfl, rfl⟩
  · exact absurd p3 (h a p1 p2)
  · exact hl
theorem ver_ok {l : List UInt8} {n m : Nat} (h : ver n m = l) (h0 : n ≤ 99) (h1 : m ≤ 99) : verR l = ((n : Int), (m : Int), (0 : Int)) := by
  obtain ⟨a, b, c, hl⟩ : ∃ a b c, verR l = (a, b, c) := ⟨_, _, _, rfl⟩
  rcases verR_spec hl with ⟨n', m', _, _, p3, rfl, rfl, rfl⟩ | ⟨p1, _⟩
  · obtain ⟨rfl, rfl⟩ := ver_inj (p3.trans h.symm)
    exact hl
  · exact absurd h (p1 n m h0 h1)
theorem ver_no {l : List UInt8} (h : ∀ n m, n ≤ 99 → m ≤ 99 → ver n m ≠ l) : verR l = (0, 0, 60) := by
  obtain ⟨a, b, c, hl⟩ : ∃ a b c, verR l = (a, b, c) := ⟨_, _, _, rfl⟩
  rcases verR_spec hl with ⟨n', m', p1, p2, p3, _⟩ | ⟨_, rfl, rfl, rfl⟩
  · exact absurd p3 (h n' m' p1 p2)
  · exact hl
theorem d128 : dg 128 = [49, 50, 56] := dg_val [49, 50, 56] (by decide +kernel)
theorem d127 : dg 127 = [49, 50, 55] := dg_val [49, 50, 55] (by decide +kernel)
theorem d0 : dg 0 = [48] := dg_val [48] (by decide +kernel)
theorem d1 : dg 1 = [49] := dg_val [49] (by decide +kernel)
theorem d6 : dg 6 = [54] := dg_val [54] (by decide +kernel)
theorem d100 : dg 100 = [49, 48, 48] := dg_val [49, 48, 48] (by decide +kernel)
theorem l1 : levR [45, 49, 50, 56] = (-128, 0) := lev_ok (by unfold sgn; rw [if_pos (by decide), show (-(-128 : Int)).toNat = 128 from rfl, d128]) (by decide) (by decide)
theorem l2 : levR [49, 50, 55] = (127, 0) := lev_ok (by unfold sgn; rw [if_neg (by decide), show (127 : Int).toNat = 127 from rfl, d127]) (by decide) (by decide)
theorem l3 : levR [49, 50, 56] = (0, 60) := lev_no fun n h0 h1 h => by
  have e : sgn 128 = [49, 50, 56] := by unfold sgn; rw [if_neg (by decide), show (128 : Int).toNat = 128 from rfl, d128]
  have := sgn_inj (h.trans e.symm)
  omega
theorem l4 : levR [45, 48] = (0, 60) := lev_no fun n h0 h1 h => by
  unfold sgn at h
  split at h
  · rw [← d0] at h
    injection h with _ h
    have := dg_inj h
    omega
  · exact dg_no _ _ _ (by decide) h
theorem v1 : verR [49, 46, 54] = (1, 6, 0) := ver_ok (n := 1) (m := 6) (by unfold ver; rw [d1, d6]; rfl) (by decide) (by decide)
theorem v2 : verR [49] = (0, 0, 60) := ver_no fun n m _ _ h => by
  have := congrArg List.length h
  unfold ver at this
  rw [List.length_append, List.length_cons] at this
  have q1 := dg_length n
  have q2 := dg_length m
  simp at this
  omega
theorem v3 : verR [49, 46, 48, 54] = (0, 0, 60) := ver_no fun n m _ _ h => by
  have h2 : dg n ++ 46 :: dg m = [49] ++ 46 :: [48, 54] := h
  obtain ⟨_, h3⟩ := split_at (dg_not n 46 (by decide)) (by decide) h2
  have := okN_dg m
  rw [h3] at this
  revert this
  decide
theorem v4 : verR [49, 48, 48, 46, 48] = (0, 0, 60) := ver_no fun n m h0 _ h => by
  have h2 : ver n m = ver 100 0 := by rw [h]; unfold ver; rw [d100, d0]; rfl
  have := (ver_inj h2).1
  omega
theorem wm1 : writeR (-1) = (⟨#[]⟩, 2) := by unfold writeR; rw [if_neg (by decide)]
theorem la (w : World) : Calls Tryd.prog 9 #[.string ⟨#[45, 49, 50, 56]⟩] w fun e w' => e = .returned (.tuple #[.int .i64 (-128), .int .i64 0]) ∧ Below w.heap.size w w' := level6 ⟨#[45, 49, 50, 56]⟩ w (by decide) _ _ l1
theorem lb (w : World) : Calls Tryd.prog 9 #[.string ⟨#[49, 50, 55]⟩] w fun e w' => e = .returned (.tuple #[.int .i64 127, .int .i64 0]) ∧ Below w.heap.size w w' := level6 ⟨#[49, 50, 55]⟩ w (by decide) _ _ l2
theorem lc (w : World) : Calls Tryd.prog 9 #[.string ⟨#[49, 50, 56]⟩] w fun e w' => e = .returned (.tuple #[.int .i64 0, .int .i64 60]) ∧ Below w.heap.size w w' := level6 ⟨#[49, 50, 56]⟩ w (by decide) _ _ l3
theorem ld (w : World) : Calls Tryd.prog 9 #[.string ⟨#[45, 48]⟩] w fun e w' => e = .returned (.tuple #[.int .i64 0, .int .i64 60]) ∧ Below w.heap.size w w' := level6 ⟨#[45, 48]⟩ w (by decide) _ _ l4
theorem va (w : World) : Calls Tryd.prog 10 #[.string ⟨#[49, 46, 54]⟩] w fun e w' => e = .returned (.tuple #[.int .i64 1, .int .i64 6, .int .i64 0]) ∧ Below w.heap.size w w' := version6 ⟨#[49, 46, 54]⟩ w (by decide) _ _ _ v1
theorem vb (w : World) : Calls Tryd.prog 10 #[.string ⟨#[49]⟩] w fun e w' => e = .returned (.tuple #[.int .i64 0, .int .i64 0, .int .i64 60]) ∧ Below w.heap.size w w' := version6 ⟨#[49]⟩ w (by decide) _ _ _ v2
theorem vc (w : World) : Calls Tryd.prog 10 #[.string ⟨#[49, 46, 48, 54]⟩] w fun e w' => e = .returned (.tuple #[.int .i64 0, .int .i64 0, .int .i64 60]) ∧ Below w.heap.size w w' := version6 ⟨#[49, 46, 48, 54]⟩ w (by decide) _ _ _ v3
theorem vd (w : World) : Calls Tryd.prog 10 #[.string ⟨#[49, 48, 48, 46, 48]⟩] w fun e w' => e = .returned (.tuple #[.int .i64 0, .int .i64 0, .int .i64 60]) ∧ Below w.heap.size w w' := version6 ⟨#[49, 48, 48, 46, 48]⟩ w (by decide) _ _ _ v4
theorem wa (w : World) (hT : Tb w := by first | assumption | exact Tb.to (by assumption) (by assumption)) : Calls Tryd.prog 11 #[.int .i64 (-1)] w fun e w' => e = .returned (.tuple #[.string ⟨#[]⟩, .int .i64 2]) ∧ Below w.heap.size w w' := write6 (-1) w (by decide) _ _ wm1
theorem sa (w : World) : Calls Tryd.prog 12 #[.int .i64 9007199254740991, .int .i64 1] w fun e w' => e = .returned (.tuple #[.int .i64 0, .int .i64 2]) ∧ Below w.heap.size w w' := sum6 9007199254740991 1 w (by decide) (by decide) _ _ (by decide)
theorem sb (w : World) : Calls Tryd.prog 12 #[.int .i64 5, .int .i64 (-5)] w fun e w' => e = .returned (.tuple #[.int .i64 0, .int .i64 0]) ∧ Below w.heap.size w w' := sum6 5 (-5) w (by decide) (by decide) _ _ (by decide)
theorem na (w : World) : Calls Tryd.prog 14 #[.string ⟨#[48, 49]⟩] w fun e w' => e = .returned (.bool true) ∧ Below w.heap.size w w' := none6 ⟨#[48, 49]⟩ w (by decide) (by decide +kernel)
theorem nb (w : World) : Calls Tryd.prog 14 #[.string ⟨#[43, 49]⟩] w fun e w' => e = .returned (.bool true) ∧ Below w.heap.size w w' := none6 ⟨#[43, 49]⟩ w (by decide) (by decide +kernel)
theorem nc (w : World) : Calls Tryd.prog 14 #[.string ⟨#[]⟩] w fun e w' => e = .returned (.bool true) ∧ Below w.heap.size w w' := none6 ⟨#[]⟩ w (by decide) (by decide +kernel)
theorem nd (w : World) : Calls Tryd.prog 14 #[.string ⟨#[49, 32]⟩] w fun e w' => e = .returned (.bool true) ∧ Below w.heap.size w w' := none6 ⟨#[49, 32]⟩ w (by decide) (by decide +kernel)
set_option maxHeartbeats 4000000 in
set_option maxRecDepth 100000 in
theorem walk (w : World) (hT : Tb w := by first | assumption | exact Tb.to (by assumption) (by assumption)) :
    Calls Tryd.prog 3 #[] w fun e w' => e = .returned (.bool true) ∧ Below w.heap.size w w' := by
  go_enter Tryd.func3, Tryd.ntmps3
  go_wp2_with (first
    | (go_at_call 9; (with_reducible refine (la w).mono ?_); rintro e w1 ⟨rfl, hb1⟩; have hB1 := hb1)
    | (go_at_call 9; (with_reducible refine (lb w1).mono ?_); rintro e w2 ⟨rfl, hb2⟩; have hB2 := stp hB1 hb2)
    | (go_at_call 9; (with_reducible refine (lc w2).mono ?_); rintro e w3 ⟨rfl, hb3⟩; have hB3 := stp hB2 hb3)
    | (go_at_call 9; (with_reducible refine (ld w3).mono ?_); rintro e w4 ⟨rfl, hb4⟩; have hB4 := stp hB3 hb4)
    | (go_at_call 10; (with_reducible refine (va w4).mono ?_); rintro e w5 ⟨rfl, hb5⟩; have hB5 := stp hB4 hb5)
    | (go_at_call 10; (with_reducible refine (vb w5).mono ?_); rintro e w6 ⟨rfl, hb6⟩; have hB6 := stp hB5 hb6)
    | (go_at_call 10; (with_reducible refine (vc w6).mono ?_); rintro e w7 ⟨rfl, hb7⟩; have hB7 := stp hB6 hb7)
    | (go_at_call 10; (with_reducible refine (vd w7).mono ?_); rintro e w8 ⟨rfl, hb8⟩; have hB8 := stp hB7 hb8)
    | (go_at_call 11; (with_reducible refine (wa w8).mono ?_); rintro e w9 ⟨rfl, hb9⟩; have hB9 := stp hB8 hb9)
    | (go_at_call 12; (with_reducible refine (sa w9).mono ?_); rintro e w10 ⟨rfl, hb10⟩; have hB10 := stp hB9 hb10)
    | (go_at_call 12; (with_reducible refine (sb w10).mono ?_); rintro e w11 ⟨rfl, hb11⟩; have hB11 := stp hB10 hb11)
    | (go_at_call 13; (with_reducible refine (alive6 w11).mono ?_); rintro e w12 ⟨rfl, hb12⟩; have hB12 := stp hB11 hb12)
    | (go_at_call 14; (with_reducible refine (na w12).mono ?_); rintro e w13 ⟨rfl, hb13⟩; have hB13 := stp hB12 hb13)
    | (go_at_call 14; (with_reducible refine (nb w13).mono ?_); rintro e w14 ⟨rfl, hb14⟩; have hB14 := stp hB13 hb14)
    | (go_at_call 14; (with_reducible refine (nc w14).mono ?_); rintro e w15 ⟨rfl, hb15⟩; have hB15 := stp hB14 hb15)
    | (go_at_call 14; (with_reducible refine (nd w15).mono ?_); rintro e w16 ⟨rfl, hb16⟩; have hB16 := stp hB15 hb16)
    | fail)
  go_ret
  exact ⟨rfl, hB16⟩

theorem gTab : Tryd.prog.globalNamed "internal/strconv.uint64pow10" = some 0 := by kernel_rfl
theorem gTabType : (Tryd.prog.globals[0]?).map (·.type) = some 58 := by kernel_rfl
/-- What the row's list gives. -/
theorem table {W : World} (h : laidMetH Tryd.prog Rows.numNamesRow.laid W) : Tb W := by
  rw [MakeChecks.laidMetH_plain _ _ _ (by kernel_rfl)] at h
  have h2 := laidMet.filter (fun x => x.1 == "internal/strconv.uint64pow10") h
  have e : Rows.numNamesRow.laid.filter (fun x => x.1 == "internal/strconv.uint64pow10") = [("internal/strconv.uint64pow10", Lib.tabData .u64 Lib.pow10Tab)] := by kernel_rfl
  rw [e] at h2
  exact Lib.tabIs_of_head (rest := []) gTab gTabType Tryd.underlying58 Tryd.underlying51 (by kernel_rfl) (by kernel_rfl) h2
theorem door_met (os : Os) (args : Array Value) : laidMetH Tryd.prog Rows.numNamesRow.laid ((World.doorLaid Tryd.prog 400 os).forCall (fun _ _ => 0) ⟨#[], args, []⟩).memory :=
  laidMetH_of_parts3 (fuel := 8) (laidMet_of_run' 8 (by kernel_rfl) (by kernel_rfl)) (by kernel_rfl) (by kernel_rfl)
set_option maxRecDepth 100000 in
theorem lifted (os : Os) (started : os.Started) (H : Type) (enc : TypeId × Value → H) :
    ReturnsInHanded {} Tryd.checked os 3 .any (fun w args => (Rows.numNamesSpec.pre enc Tryd.prog Tryd.f3 [] false w args ∧ laidMetH Tryd.prog Rows.numNamesRow.laid w) ∧ sizedMet enc Tryd.prog Tryd.f3 (OpenSpec.ofChange Rows.numNamesSpec) false w args) (Rows.numNamesSpec.post enc Tryd.prog Tryd.f3 false true false false) := by
  refine returnsInHanded_of_change_and (C := Tryd.checked) (X := fun w _ => laidMetH Tryd.prog Rows.numNamesRow.laid w) (fun _ _ _ hh h => h.of_heap hh) own started (by kernel_rfl) Tryd.func3
    (ChangeSpec.witness_shaped (enc := enc) (C := Tryd.checked) (os := os) (X := fun w _ => laidMetH Tryd.prog Rows.numNamesRow.laid w) false (World.doorLaid Tryd.prog 400 os) #[] 8 rfl (World.shaped_of_RefB (by kernel_rfl) (by kernel_rfl)) (by kernel_rfl) (by kernel_rfl) (by kernel_rfl) (door_met os _)) ?_
  intro W base args ds gs before hval0 hW _ _ hL _
  have hval : ∀ (j : Nat) t v, Tryd.f3.params[j]? = some t → args[j]? = some v → Value.okWide Tryd.prog W .any base t v := hval0
  have hW' := hW
  obtain ⟨p, q, hA0, hV, rfl, hfz, hnd⟩ := hW
  have hA : DataW.TrodAll enc Tryd.prog W 0 (fun _ => true) true Tryd.f3.params.toList args.toList ds p := hA0
  rw [Tryd.params3] at hA hval
  obtain ⟨rfl, rfl, rfl⟩ := trodAll_none hA
  obtain ⟨rfl, rfl⟩ := trodVars_none hV
  clear hA0 hval0
  refine (walk  W (table hL)).mono fun e W' ⟨he, bel⟩ => ?_
  subst he
  exact ⟨_, rfl, _, _, _, [], _, [], hW', trodAll_mk1 (shut_bool Tryd.underlying4 _), hA, rfl, bel.frame _, fun h => by cases h⟩

theorem over : Rows.numNamesRow.holds Tryd.pinned (OpenSpec.ofChange Rows.numNamesSpec) :=
  OpenClaim.holds_of_wide 3 Tryd.f3 rfl rfl rfl rfl rfl rfl rfl ⟨rfl, rfl, rfl, rfl, rfl⟩ rfl rfl rfl rfl rfl (by kernel_rfl) Tryd.func3 (by kernel_rfl)
    (of_decide_eq_true (by kernel_rfl)) (by unfold Func.isWrapper; first | (rw [if_pos (by decide +kernel)]; kernel_rfl) | (rw [if_neg (by decide +kernel)]; exact ⟨rfl, rfl⟩))
    (fun os started H enc _ => lifted os started H enc)

theorem said : Rows.NumNamesSaid := over
theorem plain (f : FuncId) (fn : Func) (hf : Tryd.pinned.checked.prog.funcNamed "tidewaiter/tidewaiterlaw06.NumNames" = some f) (hfn : Tryd.pinned.checked.prog.funcs[f]? = some fn) :
    false = Tryd.pinned.checked.prog.looks [] ∧ ∀ (j : Nat) t, fn.params[j]? = some t → Tryd.pinned.checked.prog.wantsStandIn t = false := by
  obtain rfl : f = 3 := Option.some.inj ((show Tryd.prog.funcNamed "tidewaiter/tidewaiterlaw06.NumNames" = some 3 by kernel_rfl).symm.trans hf) |>.symm
  obtain rfl : fn = Tryd.f3 := (Option.some.inj (Tryd.func3.symm.trans hfn)).symm
  refine ⟨by kernel_rfl, fun j t ht => ?_⟩
  rw [Tryd.params3] at ht
  simp at ht
theorem proved : Rows.NumNamesCardSaid :=
  Claim7.holds_tied_plain_at .later [] _ _ _ _ said (fun _ h => by cases h) (by kernel_rfl) (fun _ h => by cases h) numNames_row_tie rfl ⟨rfl, rfl⟩ (by kernel_rfl) rfl plain (by kernel_rfl)
end Go.Proofs.YtllcmfohfnidpaaDoor.numNames
