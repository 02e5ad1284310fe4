/-
  LexTells: a text's tokens, or that and where it has none, and what is a name, are as the document's own code says, for every text of at most 2,000 bytes or of 2,500 to 17,000.
-/
import Derived.Test.YtichboamakgabaaGreatDoorG25
import Derived.Test.YtichboamakgabaaGreatDoorCards
import Derived.Test.YtichboamakgabaaGreatDoorTie
import Derived.LaidMore
import Derived.LaidSub
import Derived.MakeChecks
import Derived.Stop.Joined
import Derived.Lib.LaidTab
import Derived.SevenTiedAt
import Derived.Lay
import Derived.Stop.LaidErr
import Derived.WalkKit
import Derived.ProofKit
import Derived.OpenShut
import Derived.ShutString
import Derived.ChangeOld
import Derived.Below
namespace Go.Proofs.YtichboamakgabaaGreatDoor.lexTells
open Go.ChangeShapes Go.WideShapes Go.ChangeAt Go.RowKit
open Go.ChangeMaps (open_string shut_string)
open Hx Lx Tx Nmb Es
set_option linter.unusedVariables false

theorem own : ownKnob Tryz.prog.godebug = none := by kernel_rfl
theorem laidOut : laidOutB Tryz.prog = true := by kernel_rfl

set_option maxHeartbeats 2000000 in
set_option maxRecDepth 100000 in
theorem walkOut (s : ByteArray) (w : World) (h : (2000 < s.size ∧ s.size < 2500) ∨ 17000 < s.size) (hE : Ev9 w := by first | assumption | exact Ev9.to (by assumption) (by assumption)) :
    Calls Tryz.prog 4 #[.string s] w fun e w' => e = .returned (.bool true) ∧ Below w.heap.size w w' := by
  by_cases h1 : 17000 < s.size
  · have d1 : decide ((2000 : Int) < (s.size : Int)) = true := by simp; omega
    have d2 : decide ((s.size : Int) < 2500) = false := by simp; omega
    have d3 : decide ((17000 : Int) < (s.size : Int)) = true := by simp; omega
    clear h h1
    go_enter Tryz.func4, Tryz.ntmps4
    go_wp2_with fail
    go_ret
    exact ⟨rfl, Below.refl _ _⟩
  · have d1 : decide ((2000 : Int) < (s.size : Int)) = true := by simp; omega
    have d2 : decide ((s.size : Int) < 2500) = true := by simp; omega
    clear h h1
    go_enter Tryz.func4, Tryz.ntmps4
    go_wp2_with fail
    go_ret
    exact ⟨rfl, Below.refl _ _⟩
set_option maxHeartbeats 4000000 in
set_option maxRecDepth 100000 in
theorem walkIn (s : ByteArray) (w : World) (h : s.size ≤ 2000 ∨ (2500 ≤ s.size ∧ s.size ≤ 17000)) (hE : Ev9 w := by first | assumption | exact Ev9.to (by assumption) (by assumption)) :
    Calls Tryz.prog 4 #[.string s] w fun e w' => e = .returned (.bool true) ∧ Below w.heap.size w w' := by
  obtain ⟨ts, n, er, hl⟩ : ∃ ts n er, lexR s.data.toList = (ts, n, er) := ⟨_, _, _, rfl⟩
  obtain ⟨k, hk⟩ : ∃ k, ts.length = k := ⟨_, rfl⟩
  obtain ⟨b1, hb1⟩ : ∃ b, nameL s.data.toList = b := ⟨_, rfl⟩
  obtain ⟨b2, hb2⟩ : ∃ b, fullL s.data.toList = b := ⟨_, rfl⟩
  obtain ⟨q1, q2⟩ := lexR_small hl
  have hm : s.size ≤ 1000000 := by omega
  have hh : ∀ t ∈ ts, t.attrs.length ≤ 1000000 := fun t ht => Nat.le_trans (q2 t ht) (by decide)
  have hw : IntKind.i64.wrap er = er := by rcases lexR_er hl with rfl | rfl | rfl | rfl <;> rfl
  have HM := Lib.hid hm
  have H1 := Lib.hid hb1
  have H2 := Lib.hid hb2
  have HA : Hid (∀ W, Below w.heap.size w W → Calls Tryz.prog 9 #[.string s] W fun e w' => ∃ A c, e = .returned (.tuple #[.slice A k c, .int .i64 n, .int .i64 er]) ∧ TkIn ts A c w' ∧ Below W.heap.size W w') := Lib.hid fun W hW9 => hk ▸ lex9 s W hm ts n er hl
  have HR : Hid (∀ W, Calls Tryz.prog 15 #[.string s] W fun e w' => ∃ A c, e = .returned (.tuple #[.slice A k c, .int .i64 n, .int .i64 er]) ∧ TkIn ts A c w' ∧ Below W.heap.size W w') := Lib.hid fun W => hk ▸ rlex9k s W hm ts n er hl
  have HS : Hid (∀ A1 c1 A2 c2 W, TkIn ts A1 c1 W → TkIn ts A2 c2 W → Calls Tryz.prog 16 #[.slice A1 k c1, .slice A2 k c2] W fun e w' => e = .returned (.bool true) ∧ Below W.heap.size W w') := Lib.hid fun A1 c1 A2 c2 W k1 k2 =>
    rsame9 A1 A2 k c1 k c2 ts ts W k1.1 hk k2.1 hk (by omega) (by omega) hh hh true (decide_eq_true rfl)
  have w1 : ∀ (x : Bool), (x == x) = true := fun x => by cases x <;> rfl
  have w2 : (n == n) = true := by simp
  have w3 : (er == er) = true := by simp
  rcases h with h | h
  · have d1 : decide ((2000 : Int) < (s.size : Int)) = false := by simp; omega
    have d3 : decide ((17000 : Int) < (s.size : Int)) = false := by simp; omega
    clear h hl hk hb1 hb2 q1 q2 hm hh
    go_enter Tryz.func4, Tryz.ntmps4
    go_wp2_with (first
      | (go_at_call 9; (with_reducible refine (HA.out w (Below.refl _ _)).mono ?_); rintro e1 w1 ⟨A1, c1, rfl, hi1, hb1⟩; have HI1 := Lib.hid hi1; have HB1 : Hid (Below w.heap.size w w1) := Lib.hid (hb1); clear hb1; clear hi1)
      | (go_at_call 15; (with_reducible refine (HR.out w1).mono ?_); rintro e2 w2 ⟨A2, c2, rfl, hi2, hb2⟩; have HI2 := Lib.hid hi2; have HI1b := Lib.hid (HI1.out.on hb2); have HB2 : Hid (Below w.heap.size w w2) := Lib.hid (bel_in9 HB1.out hb2); clear hb2; clear hi2)
      | (go_at_call 16; (with_reducible refine (HS.out A1 c1 A2 c2 w2 HI1b.out HI2.out).mono ?_); rintro e3 w3 ⟨rfl, hb3⟩; have HB3 : Hid (Below w.heap.size w w3) := Lib.hid (bel_in9 HB2.out hb3); clear hb3)
      | (go_at_call 17; (with_reducible refine (name9 s w3 HM.out b1 H1.out).mono ?_); rintro e4 w4 ⟨rfl, hb4⟩; have HB4 : Hid (Below w.heap.size w w4) := Lib.hid (bel_in9 HB3.out hb4); clear hb4)
      | (go_at_call 18; (with_reducible refine (rname9 s w4 HM.out b1 H1.out).mono ?_); rintro e4 w4' ⟨rfl, rfl⟩)
      | (go_at_call 19; (with_reducible refine (full9 s w4 HM.out b2 H2.out).mono ?_); rintro e5 w5 ⟨rfl, hb5⟩; have HB5 : Hid (Below w.heap.size w w5) := Lib.hid (bel_in9 HB4.out hb5); clear hb5)
      | (go_at_call 20; (with_reducible refine (rfull9 s w5 HM.out b2 H2.out).mono ?_); rintro e6 w6 ⟨rfl, hb6⟩; have HB6 : Hid (Below w.heap.size w w6) := Lib.hid (bel_in9 HB5.out hb6); clear hb6)
      | fail)
    go_ret
    exact ⟨rfl, HB6.out⟩
  · have d1 : decide ((2000 : Int) < (s.size : Int)) = true := by simp; omega
    have d2 : decide ((s.size : Int) < 2500) = false := by simp; omega
    have d3 : decide ((17000 : Int) < (s.size : Int)) = false := by simp; omega
    clear h hl hk hb1 hb2 q1 q2 hm hh
    go_enter Tryz.func4, Tryz.ntmps4
    go_wp2_with (first
      | (go_at_call 9; (with_reducible refine (HA.out w (Below.refl _ _)).mono ?_); rintro e1 w1 ⟨A1, c1, rfl, hi1, hb1⟩; have HI1 := Lib.hid hi1; have HB1 : Hid (Below w.heap.size w w1) := Lib.hid (hb1); clear hb1; clear hi1)
      | (go_at_call 15; (with_reducible refine (HR.out w1).mono ?_); rintro e2 w2 ⟨A2, c2, rfl, hi2, hb2⟩; have HI2 := Lib.hid hi2; have HI1b := Lib.hid (HI1.out.on hb2); have HB2 : Hid (Below w.heap.size w w2) := Lib.hid (bel_in9 HB1.out hb2); clear hb2; clear hi2)
      | (go_at_call 16; (with_reducible refine (HS.out A1 c1 A2 c2 w2 HI1b.out HI2.out).mono ?_); rintro e3 w3 ⟨rfl, hb3⟩; have HB3 : Hid (Below w.heap.size w w3) := Lib.hid (bel_in9 HB2.out hb3); clear hb3)
      | (go_at_call 17; (with_reducible refine (name9 s w3 HM.out b1 H1.out).mono ?_); rintro e4 w4 ⟨rfl, hb4⟩; have HB4 : Hid (Below w.heap.size w w4) := Lib.hid (bel_in9 HB3.out hb4); clear hb4)
      | (go_at_call 18; (with_reducible refine (rname9 s w4 HM.out b1 H1.out).mono ?_); rintro e4 w4' ⟨rfl, rfl⟩)
      | (go_at_call 19; (with_reducible refine (full9 s w4 HM.out b2 H2.out).mono ?_); rintro e5 w5 ⟨rfl, hb5⟩; have HB5 : Hid (Below w.heap.size w w5) := Lib.hid (bel_in9 HB4.out hb5); clear hb5)
      | (go_at_call 20; (with_reducible refine (rfull9 s w5 HM.out b2 H2.out).mono ?_); rintro e6 w6 ⟨rfl, hb6⟩; have HB6 : Hid (Below w.heap.size w w6) := Lib.hid (bel_in9 HB5.out hb6); clear hb6)
      | fail)
    go_ret
    exact ⟨rfl, HB6.out⟩
theorem walk (a0 : ByteArray) (w : World) (w0 : a0.size ≤ maxLen) (hE : Ev9 w := by first | assumption | exact Ev9.to (by assumption) (by assumption)) :
    Calls Tryz.prog 4 #[.string a0] w fun e w' => e = .returned (.bool true) ∧ Below w.heap.size w w' := by
  by_cases h : (2000 < a0.size ∧ a0.size < 2500) ∨ 17000 < a0.size
  · exact walkOut a0 w h
  · exact walkIn a0 w (by omega)

theorem gErr : Tryz.prog.globalNamed "strconv.ErrSyntax" = some 3 := by kernel_rfl
theorem gErrT : (Tryz.prog.globals[3]?).map (·.type) = some 72 := by kernel_rfl
theorem starE : "*" ++ "errors.errorString" = "*errors.errorString" := by decide
theorem rowE (u : TypeId) (h : Tryz.prog.typeName? 3 u = some "*errors.errorString") : u = 156 :=
  typeName_ptr_named (nm := "errors.errorString") (by rw [starE]; kernel_rfl) (by kernel_rfl) (by decide) u (by rw [starE]; exact h)
theorem erred {W : World} (h : laidMetH Tryz.prog Rows.lexTellsRow.laid W) : Ev W := by
  rw [MakeChecks.laidMetH_plain _ _ _ (by kernel_rfl)] at h
  have h2 := laidMet.filter (fun x => x.1 == "strconv.ErrSyntax") h
  have e : Rows.lexTellsRow.laid.filter (fun x => x.1 == "strconv.ErrSyntax") = [("strconv.ErrSyntax", Rows.laid_strconv_ErrSyntax)] := by kernel_rfl
  rw [e] at h2
  obtain ⟨a, s, h3, _⟩ := laid_sentinel (r := []) h2 gErr gErrT Tryz.underlying72 rowE Tryz.underlying156 Tryz.underlying158 rfl rfl Tryz.underlying9 (by kernel_rfl) (by kernel_rfl)
  exact ⟨_, _, by simpa using World.var?_cell gErr h3 0⟩
theorem reads_first {W : World} (h : laidMetH Tryz.prog Rows.lexTellsRow.laid W) : Lib.VarReads Tryz.prog W "unicode/utf8.first" Lib.firstData := by
  rw [MakeChecks.laidMetH_plain _ _ _ (by kernel_rfl)] at h
  have h2 := laidMet.filter (fun x => x.1 == "unicode/utf8.first") h
  have e : Rows.lexTellsRow.laid.filter (fun x => x.1 == "unicode/utf8.first") = [("unicode/utf8.first", Lib.firstData)] := by kernel_rfl
  rw [e] at h2
  exact Lib.laidMet.reads h2 (.head _)
theorem reads_acceptRanges {W : World} (h : laidMetH Tryz.prog Rows.lexTellsRow.laid W) : Lib.VarReads Tryz.prog W "unicode/utf8.acceptRanges" Lib.acceptData := by
  rw [MakeChecks.laidMetH_plain _ _ _ (by kernel_rfl)] at h
  have h2 := laidMet.filter (fun x => x.1 == "unicode/utf8.acceptRanges") h
  have e : Rows.lexTellsRow.laid.filter (fun x => x.1 == "unicode/utf8.acceptRanges") = [("unicode/utf8.acceptRanges", Lib.acceptData)] := by kernel_rfl
  rw [e] at h2
  exact Lib.laidMet.reads h2 (.head _)
theorem laid9 {W : World} (h : laidMetH Tryz.prog Rows.lexTellsRow.laid W) : Ev9 W := ⟨erred h, tabs9 (reads_first h) (reads_acceptRanges h)⟩
set_option maxRecDepth 100000 in
theorem lifted (os : Os) (started : os.Started) (H : Type) (enc : TypeId × Value → H) :
    ReturnsInHanded {} Tryz.checked os 4 .any (fun w args => (Rows.lexTellsSpec.pre enc Tryz.prog Tryz.f4 [] false w args ∧ laidMetH Tryz.prog Rows.lexTellsRow.laid w) ∧ sizedMet enc Tryz.prog Tryz.f4 (OpenSpec.ofChange Rows.lexTellsSpec) false w args) (Rows.lexTellsSpec.post enc Tryz.prog Tryz.f4 false true false false) := by
  refine returnsInHanded_of_change_and (C := Tryz.checked) (X := fun w _ => laidMetH Tryz.prog Rows.lexTellsRow.laid w) (fun _ _ _ hh h => h.of_heap hh) own started (by kernel_rfl) Tryz.func4
    (ChangeSpec.witness_shaped (enc := enc) (C := Tryz.checked) (os := os) (X := fun w _ => laidMetH Tryz.prog Rows.lexTellsRow.laid w) false (World.laidAll Tryz.prog os Rows.lexTellsRow.laid) #[.string ByteArray.empty] 8 (World.laidAll_os _ _ _) (World.shaped_of_ZipB (by kernel_rfl) (by kernel_rfl)) (by kernel_rfl) (by kernel_rfl) (by kernel_rfl)
      (by rw [MakeChecks.laidMetH_plain _ _ _ (by kernel_rfl)]; exact laidMet_laidAll _ (by kernel_rfl) (by kernel_rfl))) ?_
  intro W base args ds gs before hval0 hW _ _ hL _
  have hval : ∀ (j : Nat) t v, Tryz.f4.params[j]? = some t → args[j]? = some v → Value.okWide Tryz.prog W .any base t v := hval0
  have hW' := hW
  obtain ⟨p, q, hA0, hV, rfl, hfz, hnd⟩ := hW
  have hA : DataW.TrodAll enc Tryz.prog W 0 (fun _ => true) true Tryz.f4.params.toList args.toList ds p := hA0
  rw [Tryz.params4] at hA hval
  obtain ⟨v0, vs0, d0, ds0, p0, q0, hargs, rfl, rfl, h0, r0⟩ := trodAll_cons hA
  obtain ⟨rfl, rfl, rfl⟩ := trodAll_nil r0
  obtain rfl : args = #[v0] := by cases args; simp_all
  obtain ⟨rfl, rfl⟩ := trodVars_none hV
  obtain ⟨a0, rfl, rfl, rfl, w0⟩ := open_string Tryz.underlying9 (hval 0 9 v0 rfl rfl) h0
  clear hA0 hval0
  refine (walk a0 W w0 (laid9 hL)).mono fun e W' ⟨he, bel⟩ => ?_
  subst he
  exact ⟨_, rfl, _, _, _, [], _, [], hW', trodAll_mk1 (shut_bool Tryz.underlying4 _), (trodAll_cons_mk (shut_string Tryz.underlying9 w0) trodAll_mk0), rfl, bel.frame _, fun h => by cases h⟩

theorem over : Rows.lexTellsRow.holds Tryz.pinned (OpenSpec.ofChange Rows.lexTellsSpec) :=
  OpenClaim.holds_of_wide 4 Tryz.f4 rfl rfl rfl rfl rfl rfl rfl ⟨rfl, rfl, rfl, rfl, rfl⟩ rfl rfl rfl rfl rfl (by kernel_rfl) Tryz.func4 (by kernel_rfl)
    (of_decide_eq_true (by kernel_rfl)) (by unfold Func.isWrapper; first | (rw [if_pos (by decide +kernel)]; kernel_rfl) | (rw [if_neg (by decide +kernel)]; exact ⟨rfl, rfl⟩))
    (fun os started H enc _ => lifted os started H enc)

theorem said : Rows.LexTellsSaid := over
theorem plain (f : FuncId) (fn : Func) (hf : Tryz.pinned.checked.prog.funcNamed "tidewaiter/tidewaiterlaw09.LexTells" = some f) (hfn : Tryz.pinned.checked.prog.funcs[f]? = some fn) :
    true = Tryz.pinned.checked.prog.looks [] ∧ ∀ (j : Nat) t, fn.params[j]? = some t → Tryz.pinned.checked.prog.wantsStandIn t = false := by
  obtain rfl : f = 4 := Option.some.inj ((show Tryz.prog.funcNamed "tidewaiter/tidewaiterlaw09.LexTells" = some 4 by kernel_rfl).symm.trans hf) |>.symm
  obtain rfl : fn = Tryz.f4 := (Option.some.inj (Tryz.func4.symm.trans hfn)).symm
  refine ⟨by kernel_rfl, fun j t ht => ?_⟩
  rw [Tryz.params4] at ht
  have hm : t ∈ [9] := by simpa using Array.mem_of_getElem? ht
  have hall : ([9].all fun u => !Tryz.prog.wantsStandIn u) = true := by kernel_rfl
  exact (show Tryz.prog.wantsStandIn t = false by simpa using List.all_eq_true.1 hall t hm)
theorem proved : Rows.LexTellsCardSaid :=
  Claim7.holds_tied_plain_at .later [] _ _ _ _ said (fun _ h => by cases h) (by kernel_rfl) (fun _ h => by cases h) lexTells_row_tie rfl ⟨rfl, rfl⟩ (by kernel_rfl) rfl plain (by kernel_rfl)
end Go.Proofs.YtichboamakgabaaGreatDoor.lexTells
