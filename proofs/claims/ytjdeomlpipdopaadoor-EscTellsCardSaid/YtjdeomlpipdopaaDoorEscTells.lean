/-
  How a text is written in XML, and the text of what is written, are as the document's own answers say; for every bytes, quoted or not, and no condition besides.
-/
import Derived.Test.YtjdeomlpipdopaaDoorEscW
import Derived.Test.YtjdeomlpipdopaaDoorNumV
import Derived.Test.YtjdeomlpipdopaaDoorCards
import Derived.Test.YtjdeomlpipdopaaDoorTie
import Derived.LaidMore
import Derived.LaidSub
import Derived.MakeChecks
import Derived.Stop.Joined
import Derived.Lib.LaidTab
import Derived.SevenTiedAt
import Derived.Stop.LaidErr
import Derived.WalkKit
import Derived.ProofKit
import Derived.OpenShut
import Derived.ShutString
import Derived.ChangeOld
import Derived.Below
namespace Go.Proofs.YtjdeomlpipdopaaDoor.escTells
open Go.ChangeShapes Go.WideShapes Go.ChangeAt Go.RowKit
open Go.ChangeMaps (open_string shut_string)
open Hx Tx Nmb Es
set_option linter.unusedVariables false

theorem own : ownKnob Tryd.prog.godebug = none := by kernel_rfl
theorem laidOut : laidOutB Tryd.prog = true := by kernel_rfl

set_option maxHeartbeats 1000000 in
set_option maxRecDepth 100000 in
theorem walkOut (s : ByteArray) (q : Bool) (w : World) (h : (2000 < s.size ∧ s.size < 5000) ∨ 17000 < s.size) (hT : Tb w := by first | assumption | exact Tb.to (by assumption) (by assumption)) (hE : Ev w := by first | assumption | exact Ev.to (by assumption) (by assumption)) :
    Calls Tryd.prog 4 #[.string s, .bool q] w fun e w' => e = .returned (.bool true) ∧ Below w.heap.size w w' := by
  rcases h with h | h
  · have d0 : decide ((2000 : Int) < (s.size : Int)) = true := by simp; omega
    have d1 : decide ((s.size : Int) < 5000) = true := by simp; omega
    have f0 : 2000 < s.size := h.1
    have f1 : s.size < 5000 := h.2
    clear h
    go_enter Tryd.func4, Tryd.ntmps4
    go_wp2_with fail
    go_ret
    exact ⟨rfl, Below.refl _ _⟩
  · have d0 : decide ((2000 : Int) < (s.size : Int)) = true := by simp; omega
    have d1 : decide ((s.size : Int) < 5000) = false := by simp; omega
    have d2 : decide ((17000 : Int) < (s.size : Int)) = true := by simp; omega
    have f0 : 2000 < s.size := by omega
    have f1 : ¬ s.size < 5000 := by omega
    go_enter Tryd.func4, Tryd.ntmps4
    go_wp2_with fail
    go_ret
    exact ⟨rfl, Below.refl _ _⟩
set_option maxHeartbeats 2000000 in
set_option maxRecDepth 100000 in
theorem walkIn (s a c : ByteArray) (q : Bool) (e g : Int) (w : World) (h : s.size ≤ 2000 ∨ (2000 < s.size ∧ ¬ s.size < 5000 ∧ s.size ≤ 17000)) (hp : putR s q = (a, e)) (hg : getR s = (c, g)) (hT : Tb w := by first | assumption | exact Tb.to (by assumption) (by assumption)) (hE : Ev w := by first | assumption | exact Ev.to (by assumption) (by assumption)) :
    Calls Tryd.prog 4 #[.string s, .bool q] w fun e w' => e = .returned (.bool true) ∧ Below w.heap.size w w' := by
  have hw : IntKind.i64.wrap e = e := by rcases putR_lits hp with rfl | rfl | rfl <;> rfl
  have hw2 : IntKind.i64.wrap g = g := by rcases getR_lits hg with rfl | rfl | rfl | rfl <;> rfl
  have HM : Hid (s.size ≤ 1000000) := Lib.hid (by omega)
  have HP := Lib.hid hp
  have HG := Lib.hid hg
  clear hp hg
  rcases h with h | ⟨h1, h2, h3⟩
  · have d0 : decide ((2000 : Int) < (s.size : Int)) = false := by simp; omega
    have d2 : decide ((17000 : Int) < (s.size : Int)) = false := by simp; omega
    have f0 : ¬ 2000 < s.size := by omega
    have f2 : ¬ 17000 < s.size := by omega
    clear h
    go_enter Tryd.func4, Tryd.ntmps4
    go_wp2_with (first
      | (go_at_call 8; (with_reducible refine (put8 s a q e w HM.out HP.out).mono ?_); rintro e1 w1 ⟨rfl, hb1⟩; have hB1 := hb1)
      | (go_at_call 14; (with_reducible refine (rput8 s a q e w1 HM.out HP.out).mono ?_); rintro e1 w2 ⟨rfl, hb2⟩; have hB2 := stp hB1 hb2)
      | (go_at_call 9; (with_reducible refine (get8 s c g w2 HM.out HG.out).mono ?_); rintro e1 w3 ⟨rfl, hb3⟩; have hB3 := stp hB2 hb3)
      | (go_at_call 15; (with_reducible refine (rget8 s c g w3 HM.out HG.out).mono ?_); rintro e1 w4 ⟨rfl, hb4⟩; have hB4 := stp hB3 hb4)
      | fail)
    go_ret
    exact ⟨rfl, hB4⟩
  · have d0 : decide ((2000 : Int) < (s.size : Int)) = true := by simp; omega
    have d1 : decide ((s.size : Int) < 5000) = false := by simp; omega
    have d2 : decide ((17000 : Int) < (s.size : Int)) = false := by simp; omega
    have f2 : ¬ 17000 < s.size := by omega
    go_enter Tryd.func4, Tryd.ntmps4
    go_wp2_with (first
      | (go_at_call 8; (with_reducible refine (put8 s a q e w HM.out HP.out).mono ?_); rintro e1 w1 ⟨rfl, hb1⟩; have hB1 := hb1)
      | (go_at_call 14; (with_reducible refine (rput8 s a q e w1 HM.out HP.out).mono ?_); rintro e1 w2 ⟨rfl, hb2⟩; have hB2 := stp hB1 hb2)
      | (go_at_call 9; (with_reducible refine (get8 s c g w2 HM.out HG.out).mono ?_); rintro e1 w3 ⟨rfl, hb3⟩; have hB3 := stp hB2 hb3)
      | (go_at_call 15; (with_reducible refine (rget8 s c g w3 HM.out HG.out).mono ?_); rintro e1 w4 ⟨rfl, hb4⟩; have hB4 := stp hB3 hb4)
      | fail)
    go_ret
    exact ⟨rfl, hB4⟩
theorem walk (a0 : ByteArray) (a1 : Bool) (w : World) (w0 : a0.size ≤ maxLen) (hT : Tb w := by first | assumption | exact Tb.to (by assumption) (by assumption)) (hE : Ev w := by first | assumption | exact Ev.to (by assumption) (by assumption)) :
    Calls Tryd.prog 4 #[.string a0, .bool a1] w fun e w' => e = .returned (.bool true) ∧ Below w.heap.size w w' := by
  by_cases h : (2000 < a0.size ∧ a0.size < 5000) ∨ 17000 < a0.size
  · exact walkOut a0 a1 w h
  · exact walkIn a0 _ _ a1 _ _ w (by omega) rfl rfl

theorem gTab : Tryd.prog.globalNamed "internal/strconv.uint64pow10" = some 1 := by kernel_rfl
theorem gTabType : (Tryd.prog.globals[1]?).map (·.type) = some 116 := by kernel_rfl
/-- What the row's list gives. -/
theorem table {W : World} (h : laidMetH Tryd.prog Rows.escTellsRow.laid W) : Tb W := by
  rw [MakeChecks.laidMetH_plain _ _ _ (by kernel_rfl)] at h
  have h2 := laidMet.filter (fun x => x.1 == "internal/strconv.uint64pow10") h
  have e : Rows.escTellsRow.laid.filter (fun x => x.1 == "internal/strconv.uint64pow10") = [("internal/strconv.uint64pow10", Lib.tabData .u64 Lib.pow10Tab)] := by kernel_rfl
  rw [e] at h2
  exact Lib.tabIs_of_head (rest := []) gTab gTabType Tryd.underlying116 Tryd.underlying86 (by kernel_rfl) (by kernel_rfl) h2
theorem gErr : Tryd.prog.globalNamed "strconv.ErrSyntax" = some 2 := by kernel_rfl
theorem gErrT : (Tryd.prog.globals[2]?).map (·.type) = some 53 := by kernel_rfl
theorem starE : "*" ++ "errors.errorString" = "*errors.errorString" := by decide
theorem rowE (u : TypeId) (h : Tryd.prog.typeName? 3 u = some "*errors.errorString") : u = 124 :=
  typeName_ptr_named (nm := "errors.errorString") (by rw [starE]; kernel_rfl) (by kernel_rfl) (by decide) u (by rw [starE]; exact h)
theorem erred {W : World} (h : laidMetH Tryd.prog Rows.escTellsRow.laid W) : Ev W := by
  rw [MakeChecks.laidMetH_plain _ _ _ (by kernel_rfl)] at h
  have h2 := laidMet.filter (fun x => x.1 == "strconv.ErrSyntax") h
  have e : Rows.escTellsRow.laid.filter (fun x => x.1 == "strconv.ErrSyntax") = [("strconv.ErrSyntax", Rows.laid_strconv_ErrSyntax)] := by kernel_rfl
  rw [e] at h2
  obtain ⟨a, s, h3, _⟩ := laid_sentinel (r := []) h2 gErr gErrT Tryd.underlying53 rowE Tryd.underlying124 Tryd.underlying126 rfl rfl Tryd.underlying9 (by kernel_rfl) (by kernel_rfl)
  exact ⟨_, _, by simpa using World.var?_cell gErr h3 0⟩
theorem door_met (os : Os) (args : Array Value) : laidMetH Tryd.prog Rows.escTellsRow.laid ((World.doorLaid Tryd.prog 400 os).forCall (fun _ _ => 0) ⟨#[], args, []⟩).memory :=
  laidMetH_of_parts3 (fuel := 8) (laidMet_of_run' 8 (by kernel_rfl) (by kernel_rfl)) (by kernel_rfl) (by kernel_rfl)
set_option maxRecDepth 100000 in
theorem lifted (os : Os) (started : os.Started) (H : Type) (enc : TypeId × Value → H) :
    ReturnsInHanded {} Tryd.checked os 4 .any (fun w args => (Rows.escTellsSpec.pre enc Tryd.prog Tryd.f4 [] false w args ∧ laidMetH Tryd.prog Rows.escTellsRow.laid w) ∧ sizedMet enc Tryd.prog Tryd.f4 (OpenSpec.ofChange Rows.escTellsSpec) false w args) (Rows.escTellsSpec.post enc Tryd.prog Tryd.f4 false true false false) := by
  refine returnsInHanded_of_change_and (C := Tryd.checked) (X := fun w _ => laidMetH Tryd.prog Rows.escTellsRow.laid w) (fun _ _ _ hh h => h.of_heap hh) own started (by kernel_rfl) Tryd.func4
    (ChangeSpec.witness_shaped (enc := enc) (C := Tryd.checked) (os := os) (X := fun w _ => laidMetH Tryd.prog Rows.escTellsRow.laid w) false (World.doorLaid Tryd.prog 400 os) #[.string ByteArray.empty, .bool false] 8 rfl (World.shaped_of_RefB (by kernel_rfl) (by kernel_rfl)) (by kernel_rfl) (by kernel_rfl) (by kernel_rfl) (door_met os _)) ?_
  intro W base args ds gs before hval0 hW _ _ hL _
  have hval : ∀ (j : Nat) t v, Tryd.f4.params[j]? = some t → args[j]? = some v → Value.okWide Tryd.prog W .any base t v := hval0
  have hW' := hW
  obtain ⟨p, q, hA0, hV, rfl, hfz, hnd⟩ := hW
  have hA : DataW.TrodAll enc Tryd.prog W 0 (fun _ => true) true Tryd.f4.params.toList args.toList ds p := hA0
  rw [Tryd.params4] at hA hval
  obtain ⟨v0, vs0, d0, ds0, p0, q0, hargs, rfl, rfl, h0, r0⟩ := trodAll_cons hA
  obtain ⟨v1, vs1, d1, ds1, p1, q1, rfl, rfl, rfl, h1, r1⟩ := trodAll_cons r0
  obtain ⟨rfl, rfl, rfl⟩ := trodAll_nil r1
  obtain rfl : args = #[v0, v1] := by cases args; simp_all
  obtain ⟨rfl, rfl⟩ := trodVars_none hV
  obtain ⟨a0, rfl, rfl, rfl, w0⟩ := open_string Tryd.underlying9 (hval 0 9 v0 rfl rfl) h0
  obtain ⟨a1, rfl, rfl, rfl⟩ := open_bool Tryd.underlying4 (hval 1 4 v1 rfl rfl) h1
  clear hA0 hval0
  refine (walk a0 a1 W w0 (table hL) (erred hL)).mono fun e W' ⟨he, bel⟩ => ?_
  subst he
  exact ⟨_, rfl, _, _, _, [], _, [], hW', trodAll_mk1 (shut_bool Tryd.underlying4 _), (trodAll_cons_mk (shut_string Tryd.underlying9 w0) (trodAll_cons_mk (shut_bool Tryd.underlying4 _) trodAll_mk0)), rfl, bel.frame _, fun h => by cases h⟩

theorem over : Rows.escTellsRow.holds Tryd.pinned (OpenSpec.ofChange Rows.escTellsSpec) :=
  OpenClaim.holds_of_wide 4 Tryd.f4 rfl rfl rfl rfl rfl rfl rfl ⟨rfl, rfl, rfl, rfl, rfl⟩ rfl rfl rfl rfl rfl (by kernel_rfl) Tryd.func4 (by kernel_rfl)
    (of_decide_eq_true (by kernel_rfl)) (by unfold Func.isWrapper; first | (rw [if_pos (by decide +kernel)]; kernel_rfl) | (rw [if_neg (by decide +kernel)]; exact ⟨rfl, rfl⟩))
    (fun os started H enc _ => lifted os started H enc)

theorem said : Rows.EscTellsSaid := over
theorem plain (f : FuncId) (fn : Func) (hf : Tryd.pinned.checked.prog.funcNamed "tidewaiter/tidewaiterlaw08.EscTells" = some f) (hfn : Tryd.pinned.checked.prog.funcs[f]? = some fn) :
    true = Tryd.pinned.checked.prog.looks [] ∧ ∀ (j : Nat) t, fn.params[j]? = some t → Tryd.pinned.checked.prog.wantsStandIn t = false := by
  obtain rfl : f = 4 := Option.some.inj ((show Tryd.prog.funcNamed "tidewaiter/tidewaiterlaw08.EscTells" = some 4 by kernel_rfl).symm.trans hf) |>.symm
  obtain rfl : fn = Tryd.f4 := (Option.some.inj (Tryd.func4.symm.trans hfn)).symm
  refine ⟨by kernel_rfl, fun j t ht => ?_⟩
  rw [Tryd.params4] at ht
  have hm : t ∈ [9, 4] := by simpa using Array.mem_of_getElem? ht
  have hall : ([9, 4].all fun u => !Tryd.prog.wantsStandIn u) = true := by kernel_rfl
  exact (show Tryd.prog.wantsStandIn t = false by simpa using List.all_eq_true.1 hall t hm)
theorem proved : Rows.EscTellsCardSaid :=
  Claim7.holds_tied_plain_at .later [] _ _ _ _ said (fun _ h => by cases h) (by kernel_rfl) (fun _ h => by cases h) escTells_row_tie rfl ⟨rfl, rfl⟩ (by kernel_rfl) rfl plain (by kernel_rfl)
end Go.Proofs.YtjdeomlpipdopaaDoor.escTells
