/-
  What is written in XML, quoted or not, is read as that text, and holds none of the signs that are written otherwise; for every bytes, and no condition besides.
-/
import Derived.Test.YtjdeomlpipdopaaDoorEscW
import Derived.Test.YtjdeomlpipdopaaDoorNumV
import Derived.Test.YtjdeomlpipdopaaDoorCards
import Derived.Test.YtjdeomlpipdopaaDoorTie
import Derived.LaidMore
import Derived.LaidSub
import Derived.MakeChecks
import Derived.Stop.Joined
import Derived.Lib.LaidTab
import Derived.SevenTiedAt
import Derived.Stop.LaidErr
import Derived.WalkKit
import Derived.ProofKit
import Derived.OpenShut
import Derived.ShutString
import Derived.ChangeOld
import Derived.Below
namespace Go.Proofs.YtjdeomlpipdopaaDoor.escBack
open Go.ChangeShapes Go.WideShapes Go.ChangeAt Go.RowKit
open Go.ChangeMaps (open_string shut_string)
open Hx Tx Nmb Es
set_option linter.unusedVariables false

theorem own : ownKnob Tryd.prog.godebug = none := by kernel_rfl
theorem laidOut : laidOutB Tryd.prog = true := by kernel_rfl

set_option maxHeartbeats 1000000 in
set_option maxRecDepth 100000 in
theorem walkOut (s : ByteArray) (q : Bool) (w : World) (h : 2000 < s.size) (hT : Tb w := by first | assumption | exact Tb.to (by assumption) (by assumption)) (hE : Ev w := by first | assumption | exact Ev.to (by assumption) (by assumption)) :
    Calls Tryd.prog 5 #[.string s, .bool q] w fun e w' => e = .returned (.bool true) ∧ Below w.heap.size w w' := by
  have d0 : decide ((2000 : Int) < (s.size : Int)) = true := by simp; omega
  go_enter Tryd.func5, Tryd.ntmps5
  go_wp2_with (first
    | (go_at_call 11; (with_reducible refine (alive8 w).mono ?_); rintro e w1 ⟨rfl, hb1⟩; have hB1 := hb1)
    | fail)
  go_ret
  exact ⟨rfl, hB1⟩
set_option maxHeartbeats 1000000 in
set_option maxRecDepth 100000 in
theorem walkErr (s : ByteArray) (q : Bool) (e : Int) (w : World) (h : s.size ≤ 2000) (hp : putR s q = (⟨#[]⟩, e)) (he : e ≠ 0) (hc : chkE s = e) (hT : Tb w := by first | assumption | exact Tb.to (by assumption) (by assumption)) (hE : Ev w := by first | assumption | exact Ev.to (by assumption) (by assumption)) :
    Calls Tryd.prog 5 #[.string s, .bool q] w fun e w' => e = .returned (.bool true) ∧ Below w.heap.size w w' := by
  have d0 : decide ((2000 : Int) < (s.size : Int)) = false := by simp; omega
  have f0 : ¬ 2000 < s.size := by omega
  have q0 : (e == 0) = false := by simpa using he
  have q1 : (e != 0) = true := by simpa using he
  have HM : Hid (s.size ≤ 1000000) := Lib.hid (by omega)
  have HP := Lib.hid hp
  have HC := Lib.hid hc
  clear h hp he hc
  go_enter Tryd.func5, Tryd.ntmps5
  go_wp2_with (first
    | (go_at_call 11; (with_reducible refine (alive8 w).mono ?_); rintro e1 w1 ⟨rfl, hb1⟩; have hB1 := hb1)
    | (go_at_call 8; (with_reducible refine (put8 s ⟨#[]⟩ q e w1 HM.out HP.out).mono ?_); rintro e1 w2 ⟨rfl, hb2⟩; have hB2 := stp hB1 hb2)
    | (go_at_call 16; (with_reducible refine (check5 s w2 HM.out e HC.out).mono ?_); rintro e1 w3 ⟨rfl, hb3⟩; have hB3 := stp hB2 hb3)
    | fail)
  go_ret
  exact ⟨rfl, hB3⟩
set_option maxHeartbeats 4000000 in
set_option maxRecDepth 100000 in
theorem walkIn (s x : ByteArray) (q : Bool) (w : World) (h : s.size ≤ 2000) (hc : chkE s = 0) (hx : escS q s = x) (hT : Tb w := by first | assumption | exact Tb.to (by assumption) (by assumption)) (hE : Ev w := by first | assumption | exact Ev.to (by assumption) (by assumption)) :
    Calls Tryd.prog 5 #[.string s, .bool q] w fun e w' => e = .returned (.bool true) ∧ Below w.heap.size w w' := by
  have hz := escS_size q s
  rw [hx] at hz
  have hgx := getR_esc q h hc
  rw [hx] at hgx
  have d0 : decide ((2000 : Int) < (s.size : Int)) = false := by simp; omega
  have f0 : ¬ 2000 < s.size := by omega
  have d1 : decide ((s.size : Int) ≤ (x.size : Int)) = true := by simp; omega
  have f1 : s.size ≤ x.size := hz.1
  have HM : Hid (s.size ≤ 1000000) := Lib.hid (by omega)
  have HP : Hid (putR s q = (x, 0)) := Lib.hid (by rw [putR_in q h hc, hx])
  have HG : Hid (getR x = (s, 0)) := Lib.hid hgx.1
  have HXC : Hid (chkE x = 0) := Lib.hid hgx.2
  have HXZ : Hid (x.size ≤ 1000000) := Lib.hid (by omega)
  have HOK : Hid (∀ c ∈ x.data.toList, c ≠ 60 ∧ c ≠ 62 ∧ c ≠ 13 ∧ (q = true → c ≠ 34 ∧ c ≠ 9 ∧ c ≠ 10)) := by
    intro c hcm
    rw [← hx] at hcm
    exact escL_ok q s.data.toList c hcm
  clear h hc hx hz hgx
  go_enter Tryd.func5, Tryd.ntmps5
  go_wp2_with (first
    | (go_at_call 11; (with_reducible refine (alive8 w).mono ?_); rintro e w1 ⟨rfl, hb1⟩; have hB1 := hb1)
    | (go_at_call 8; (with_reducible refine (put8 s x q 0 w1 HM.out HP.out).mono ?_); rintro e w2 ⟨rfl, hb2⟩; have hB2 := stp hB1 hb2)
    | fail)
  have HW2 := Lib.hid hB2
  clear hb1 hb2 hB1 hB2
  go_loopg [8] x.size (fun gg i wr => ∃ k : Nat, k + gg = x.size ∧ i = .int .i64 k ∧ w2 = wr)
  case atStart => exact ⟨0, by omega, rfl, rfl⟩
  case round =>
    obtain ⟨k, hk, rfl, rfl⟩ := hrel
    have hMM := HXZ.out
    by_cases hlt : k < x.size
    · obtain ⟨c, hc, hat⟩ := byte_at8 x k hlt
      have bk : (0 : Int) ≤ (k : Int) ∧ (k : Int) < (x.size : Int) := by omega
      obtain ⟨n1, n2, n3, n4⟩ := HOK.out c (List.mem_of_getElem? hc)
      have neq : ∀ n : Nat, n < 256 → c ≠ UInt8.ofNat n → c.toNat ≠ n := fun n hn h e => h (u8_eq e)
      have m1 := neq 60 (by decide) n1
      have m2 := neq 62 (by decide) n2
      have m3 := neq 13 (by decide) n3
      have q1 : ((c.toNat : Int) == 60) = false := by simp; omega
      have q2 : ((c.toNat : Int) == 62) = false := by simp; omega
      have q3 : ((c.toNat : Int) == 13) = false := by simp; omega
      clear hc
      cases q
      · clear n1 n2 n3 n4 neq m1 m2 m3
        go_wp2_with fail
        go_roundg (gk - 1)
        case rel => exact ⟨k + 1, by omega, by go_num, rfl⟩
        case measure => omega
      · obtain ⟨n5, n6, n7⟩ := n4 rfl
        have m4 := neq 34 (by decide) n5
        have m5 := neq 9 (by decide) n6
        have m6 := neq 10 (by decide) n7
        have q4 : ((c.toNat : Int) == 34) = false := by simp; omega
        have q5 : ((c.toNat : Int) == 9) = false := by simp; omega
        have q6 : ((c.toNat : Int) == 10) = false := by simp; omega
        clear n1 n2 n3 n4 neq m1 m2 m3 n5 n6 n7 m4 m5 m6
        go_wp2_with fail
        go_roundg (gk - 1)
        case rel => exact ⟨k + 1, by omega, by go_num, rfl⟩
        case measure => omega
    · obtain rfl : x.size = k := by omega
      go_wp2_with (first
        | (go_at_call 12; (with_reducible refine (reads_yes x s w2 HXZ.out HG.out (hE.to HW2.out)).mono ?_); rintro e v1 ⟨rfl, hb1⟩; have hB1 := stp HW2.out hb1)
        | (go_at_call 16; (with_reducible refine (check5 x v1 HXZ.out 0 HXC.out).mono ?_); rintro e v2 ⟨rfl, hb2⟩; have hB2 := stp hB1 hb2)
        | fail)
      go_ret
      exact ⟨rfl, hB2⟩
theorem walk (a0 : ByteArray) (a1 : Bool) (w : World) (w0 : a0.size ≤ maxLen) (hT : Tb w := by first | assumption | exact Tb.to (by assumption) (by assumption)) (hE : Ev w := by first | assumption | exact Ev.to (by assumption) (by assumption)) :
    Calls Tryd.prog 5 #[.string a0, .bool a1] w fun e w' => e = .returned (.bool true) ∧ Below w.heap.size w w' := by
  by_cases h : 2000 < a0.size
  · exact walkOut a0 a1 w h
  · obtain ⟨t, e, hp⟩ : ∃ t e, putR a0 a1 = (t, e) := ⟨_, _, rfl⟩
    by_cases he : e = 0
    · have hc : chkE a0 = 0 := by
        by_cases h0 : chkE a0 = 0
        · exact h0
        · exfalso
          unfold putR at hp
          rw [if_pos h0] at hp
          cases hp
          exact h0 he
      exact walkIn a0 _ a1 w (by omega) hc rfl
    · obtain ⟨rfl, hc⟩ := putR_err (by omega) hp he
      exact walkErr a0 a1 e w (by omega) hp he hc

theorem gTab : Tryd.prog.globalNamed "internal/strconv.uint64pow10" = some 1 := by kernel_rfl
theorem gTabType : (Tryd.prog.globals[1]?).map (·.type) = some 116 := by kernel_rfl
/-- What the row's list gives. -/
theorem table {W : World} (h : laidMetH Tryd.prog Rows.escBackRow.laid W) : Tb W := by
  rw [MakeChecks.laidMetH_plain _ _ _ (by kernel_rfl)] at h
  have h2 := laidMet.filter (fun x => x.1 == "internal/strconv.uint64pow10") h
  have e : Rows.escBackRow.laid.filter (fun x => x.1 == "internal/strconv.uint64pow10") = [("internal/strconv.uint64pow10", Lib.tabData .u64 Lib.pow10Tab)] := by kernel_rfl
  rw [e] at h2
  exact Lib.tabIs_of_head (rest := []) gTab gTabType Tryd.underlying116 Tryd.underlying86 (by kernel_rfl) (by kernel_rfl) h2
theorem gErr : Tryd.prog.globalNamed "strconv.ErrSyntax" = some 2 := by kernel_rfl
theorem gErrT : (Tryd.prog.globals[2]?).map (·.type) = some 53 := by kernel_rfl
theorem starE : "*" ++ "errors.errorString" = "*errors.errorString" := by decide
theorem rowE (u : TypeId) (h : Tryd.prog.typeName? 3 u = some "*errors.errorString") : u = 124 :=
  typeName_ptr_named (nm := "errors.errorString") (by rw [starE]; kernel_rfl) (by kernel_rfl) (by decide) u (by rw [starE]; exact h)
theorem erred {W : World} (h : laidMetH Tryd.prog Rows.escBackRow.laid W) : Ev W := by
  rw [MakeChecks.laidMetH_plain _ _ _ (by kernel_rfl)] at h
  have h2 := laidMet.filter (fun x => x.1 == "strconv.ErrSyntax") h
  have e : Rows.escBackRow.laid.filter (fun x => x.1 == "strconv.ErrSyntax") = [("strconv.ErrSyntax", Rows.laid_strconv_ErrSyntax)] := by kernel_rfl
  rw [e] at h2
  obtain ⟨a, s, h3, _⟩ := laid_sentinel (r := []) h2 gErr gErrT Tryd.underlying53 rowE Tryd.underlying124 Tryd.underlying126 rfl rfl Tryd.underlying9 (by kernel_rfl) (by kernel_rfl)
  exact ⟨_, _, by simpa using World.var?_cell gErr h3 0⟩
theorem door_met (os : Os) (args : Array Value) : laidMetH Tryd.prog Rows.escBackRow.laid ((World.doorLaid Tryd.prog 400 os).forCall (fun _ _ => 0) ⟨#[], args, []⟩).memory :=
  laidMetH_of_parts3 (fuel := 8) (laidMet_of_run' 8 (by kernel_rfl) (by kernel_rfl)) (by kernel_rfl) (by kernel_rfl)
set_option maxRecDepth 100000 in
theorem lifted (os : Os) (started : os.Started) (H : Type) (enc : TypeId × Value → H) :
    ReturnsInHanded {} Tryd.checked os 5 .any (fun w args => (Rows.escBackSpec.pre enc Tryd.prog Tryd.f5 [] false w args ∧ laidMetH Tryd.prog Rows.escBackRow.laid w) ∧ sizedMet enc Tryd.prog Tryd.f5 (OpenSpec.ofChange Rows.escBackSpec) false w args) (Rows.escBackSpec.post enc Tryd.prog Tryd.f5 false true false false) := by
  refine returnsInHanded_of_change_and (C := Tryd.checked) (X := fun w _ => laidMetH Tryd.prog Rows.escBackRow.laid w) (fun _ _ _ hh h => h.of_heap hh) own started (by kernel_rfl) Tryd.func5
    (ChangeSpec.witness_shaped (enc := enc) (C := Tryd.checked) (os := os) (X := fun w _ => laidMetH Tryd.prog Rows.escBackRow.laid w) false (World.doorLaid Tryd.prog 400 os) #[.string ByteArray.empty, .bool false] 8 rfl (World.shaped_of_RefB (by kernel_rfl) (by kernel_rfl)) (by kernel_rfl) (by kernel_rfl) (by kernel_rfl) (door_met os _)) ?_
  intro W base args ds gs before hval0 hW _ _ hL _
  have hval : ∀ (j : Nat) t v, Tryd.f5.params[j]? = some t → args[j]? = some v → Value.okWide Tryd.prog W .any base t v := hval0
  have hW' := hW
  obtain ⟨p, q, hA0, hV, rfl, hfz, hnd⟩ := hW
  have hA : DataW.TrodAll enc Tryd.prog W 0 (fun _ => true) true Tryd.f5.params.toList args.toList ds p := hA0
  rw [Tryd.params5] at hA hval
  obtain ⟨v0, vs0, d0, ds0, p0, q0, hargs, rfl, rfl, h0, r0⟩ := trodAll_cons hA
  obtain ⟨v1, vs1, d1, ds1, p1, q1, rfl, rfl, rfl, h1, r1⟩ := trodAll_cons r0
  obtain ⟨rfl, rfl, rfl⟩ := trodAll_nil r1
  obtain rfl : args = #[v0, v1] := by cases args; simp_all
  obtain ⟨rfl, rfl⟩ := trodVars_none hV
  obtain ⟨a0, rfl, rfl, rfl, w0⟩ := open_string Tryd.underlying9 (hval 0 9 v0 rfl rfl) h0
  obtain ⟨a1, rfl, rfl, rfl⟩ := open_bool Tryd.underlying4 (hval 1 4 v1 rfl rfl) h1
  clear hA0 hval0
  refine (walk a0 a1 W w0 (table hL) (erred hL)).mono fun e W' ⟨he, bel⟩ => ?_
  subst he
  exact ⟨_, rfl, _, _, _, [], _, [], hW', trodAll_mk1 (shut_bool Tryd.underlying4 _), (trodAll_cons_mk (shut_string Tryd.underlying9 w0) (trodAll_cons_mk (shut_bool Tryd.underlying4 _) trodAll_mk0)), rfl, bel.frame _, fun h => by cases h⟩

theorem over : Rows.escBackRow.holds Tryd.pinned (OpenSpec.ofChange Rows.escBackSpec) :=
  OpenClaim.holds_of_wide 5 Tryd.f5 rfl rfl rfl rfl rfl rfl rfl ⟨rfl, rfl, rfl, rfl, rfl⟩ rfl rfl rfl rfl rfl (by kernel_rfl) Tryd.func5 (by kernel_rfl)
    (of_decide_eq_true (by kernel_rfl)) (by unfold Func.isWrapper; first | (rw [if_pos (by decide +kernel)]; kernel_rfl) | (rw [if_neg (by decide +kernel)]; exact ⟨rfl, rfl⟩))
    (fun os started H enc _ => lifted os started H enc)

theorem said : Rows.EscBackSaid := over
theorem plain (f : FuncId) (fn : Func) (hf : Tryd.pinned.checked.prog.funcNamed "tidewaiter/tidewaiterlaw08.EscBack" = some f) (hfn : Tryd.pinned.checked.prog.funcs[f]? = some fn) :
    true = Tryd.pinned.checked.prog.looks [] ∧ ∀ (j : Nat) t, fn.params[j]? = some t → Tryd.pinned.checked.prog.wantsStandIn t = false := by
  obtain rfl : f = 5 := Option.some.inj ((show Tryd.prog.funcNamed "tidewaiter/tidewaiterlaw08.EscBack" = some 5 by kernel_rfl).symm.trans hf) |>.symm
  obtain rfl : fn = Tryd.f5 := (Option.some.inj (Tryd.func5.symm.trans hfn)).symm
  refine ⟨by kernel_rfl, fun j t ht => ?_⟩
  rw [Tryd.params5] at ht
  have hm : t ∈ [9, 4] := by simpa using Array.mem_of_getElem? ht
  have hall : ([9, 4].all fun u => !Tryd.prog.wantsStandIn u) = true := by kernel_rfl
  exact (show Tryd.prog.wantsStandIn t = false by simpa using List.all_eq_true.1 hall t hm)
theorem proved : Rows.EscBackCardSaid :=
  Claim7.holds_tied_plain_at .later [] _ _ _ _ said (fun _ h => by cases h) (by kernel_rfl) (fun _ h => by cases h) escBack_row_tie rfl ⟨rfl, rfl⟩ (by kernel_rfl) rfl plain (by kernel_rfl)
end Go.Proofs.YtjdeomlpipdopaaDoor.escBack
