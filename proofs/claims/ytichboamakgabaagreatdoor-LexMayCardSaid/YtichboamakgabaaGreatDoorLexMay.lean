/-
  LexMay: just tokens that may be are read, none of two texts side by side, for every text of at most 2,000 bytes.
-/
import Derived.Test.YtichboamakgabaaGreatDoorG25
import Derived.Test.YtichboamakgabaaGreatDoorCards
import Derived.Test.YtichboamakgabaaGreatDoorTie
import Derived.LaidMore
import Derived.LaidSub
import Derived.MakeChecks
import Derived.Stop.Joined
import Derived.Lib.LaidTab
import Derived.SevenTiedAt
import Derived.Lay
import Derived.Stop.LaidErr
import Derived.WalkKit
import Derived.ProofKit
import Derived.OpenShut
import Derived.ShutString
import Derived.ChangeOld
import Derived.Below
namespace Go.Proofs.YtichboamakgabaaGreatDoor.lexMay
open Go.ChangeShapes Go.WideShapes Go.ChangeAt Go.RowKit
open Go.ChangeMaps (open_string shut_string)
open Hx Lx Tx Nmb Es
set_option linter.unusedVariables false

theorem own : ownKnob Tryz.prog.godebug = none := by kernel_rfl
theorem laidOut : laidOutB Tryz.prog = true := by kernel_rfl

set_option maxHeartbeats 1000000 in
set_option maxRecDepth 100000 in
theorem walkOut (s : ByteArray) (w : World) (h : 2000 < s.size) (hE : Ev9 w := by first | assumption | exact Ev9.to (by assumption) (by assumption)) :
    Calls Tryz.prog 7 #[.string s] w fun e w' => e = .returned (.bool true) ∧ Below w.heap.size w w' := by
  have d1 : decide ((2000 : Int) < (s.size : Int)) = true := by simp; omega
  clear h
  go_enter Tryz.func7, Tryz.ntmps7
  go_wp2_with (first
    | (go_at_call 13; (with_reducible refine (alive9 w (hE := hE.to (Below.refl _ _))).mono ?_); rintro e1 w1 ⟨rfl, hb1⟩)
    | fail)
  go_ret
  exact ⟨rfl, hb1⟩
set_option maxHeartbeats 2000000 in
set_option maxRecDepth 100000 in
theorem walkErr (s : ByteArray) (w : World) (h : s.size ≤ 2000) (n er : Int) (he : er ≠ 0) (hl : lexR s.data.toList = ([], n, er)) (hE : Ev9 w := by first | assumption | exact Ev9.to (by assumption) (by assumption)) :
    Calls Tryz.prog 7 #[.string s] w fun e w' => e = .returned (.bool true) ∧ Below w.heap.size w w' := by
  have d1 : decide ((2000 : Int) < (s.size : Int)) = false := by simp; omega
  obtain ⟨_, q1, q2, q3, q4⟩ := lexR_bad hl he
  rw [ba_l] at q3 q4
  have HA : Hid (∀ W, Below w.heap.size w W → Calls Tryz.prog 9 #[.string s] W fun e w' => ∃ A c, e = .returned (.tuple #[.slice A 0 c, .int .i64 n, .int .i64 er]) ∧ TkIn [] A c w' ∧ Below W.heap.size W w') := Lib.hid fun W hW9 => lex9 s W (by omega) [] n er hl
  have g0 : (er != 0) = true := by simpa using he
  have d2 : decide ((0 : Int) ≤ n) = true := by simpa using q2
  have d3 : decide (n ≤ (s.size : Int)) = true := by simpa using q3
  by_cases h80 : er = 80
  · have d4 : decide (n < (s.size : Int)) = true := by simpa using q4 h80
    subst h80
    clear h hl q1 q2 q3 q4 he
    go_enter Tryz.func7, Tryz.ntmps7
    go_wp2_with (first
      | (go_at_call 13; (with_reducible refine (alive9 w (hE := hE.to (Below.refl _ _))).mono ?_); rintro e1 w1 ⟨rfl, hb1⟩; have HB1 := Lib.hid hb1; clear hb1)
      | (go_at_call 9; (with_reducible refine (HA.out w1 HB1.out).mono ?_); rintro e2 w2 ⟨A2, c2, rfl, hi2, hb2⟩; have HB2 : Hid (Below w.heap.size w w2) := Lib.hid (bel_in9 HB1.out hb2); clear hi2 hb2)
      | fail)
    go_ret
    exact ⟨rfl, HB2.out⟩
  · have g1 : (er != 80) = true := by simpa using h80
    clear h hl q1 q2 q3 q4 he h80
    go_enter Tryz.func7, Tryz.ntmps7
    go_wp2_with (first
      | (go_at_call 13; (with_reducible refine (alive9 w (hE := hE.to (Below.refl _ _))).mono ?_); rintro e1 w1 ⟨rfl, hb1⟩; have HB1 := Lib.hid hb1; clear hb1)
      | (go_at_call 9; (with_reducible refine (HA.out w1 HB1.out).mono ?_); rintro e2 w2 ⟨A2, c2, rfl, hi2, hb2⟩; have HB2 : Hid (Below w.heap.size w w2) := Lib.hid (bel_in9 HB1.out hb2); clear hi2 hb2)
      | fail)
    go_ret
    exact ⟨rfl, HB2.out⟩
set_option maxHeartbeats 8000000 in
set_option maxRecDepth 100000 in
theorem walkIn (s : ByteArray) (w : World) (h : s.size ≤ 2000) (ts : List Tk) (hl : lexR s.data.toList = (ts, 0, 0)) (hE : Ev9 w := by first | assumption | exact Ev9.to (by assumption) (by assumption)) :
    Calls Tryz.prog 7 #[.string s] w fun e w' => e = .returned (.bool true) ∧ Below w.heap.size w w' := by
  have d1 : decide ((2000 : Int) < (s.size : Int)) = false := by simp; omega
  obtain ⟨k, hk⟩ : ∃ k, ts.length = k := ⟨_, rfl⟩
  obtain ⟨q1, q2, q3, q4, _⟩ := lexR_all hl (by rw [ba_l]; exact h)
  rw [hk] at q3 q4
  rw [ba_l] at q4
  have HA : Hid (∀ W, Below w.heap.size w W → Calls Tryz.prog 9 #[.string s] W fun e w' => ∃ A c, e = .returned (.tuple #[.slice A k c, .int .i64 0, .int .i64 0]) ∧ TkIn ts A c w' ∧ Below W.heap.size W w') := Lib.hid fun W hW9 => hk ▸ lex9 s W (by omega) ts 0 0 hl
  have HN := Lib.hid hk
  have HQ := Lib.hid q1
  have HAP := Lib.hid ((apart_iff ts).1 q2)
  have d2 : decide ((k : Int) ≤ 512) = true := by simp; omega
  have d3 : decide ((k : Int) ≤ (s.size : Int)) = true := by simp; omega
  have d2n : decide (k ≤ 512) = true := by simp; omega
  have d3n : decide (k ≤ s.size) = true := by simp; omega
  have HK : Hid (k ≤ 512) := Lib.hid q3
  clear h hl q1 q2 q3 q4 hk
  go_enter Tryz.func7, Tryz.ntmps7
  go_wp2_with (first
    | (go_at_call 13; (with_reducible refine (alive9 w (hE := hE.to (Below.refl _ _))).mono ?_); rintro e1 w1 ⟨rfl, hb1⟩; have HB1 := Lib.hid hb1; clear hb1)
    | (go_at_call 9; (with_reducible refine (HA.out w1 HB1.out).mono ?_); rintro e2 w2 ⟨A2, c2, rfl, hi2, hb2⟩; have HB2 : Hid (Below w.heap.size w w2) := Lib.hid (bel_in9 HB1.out hb2); have HIN := Lib.hid hi2; clear hi2 hb2)
    | fail)
  go_loopg [7] k (fun gg vi wr => ∃ j : Nat, j + gg = k ∧ vi = .int .i64 j ∧ Below w2.heap.size w2 wr)
  case atStart => exact ⟨0, by omega, rfl, Below.refl _ _⟩
  case round =>
    obtain ⟨j, hj, rfl, hbw⟩ := hrel
    have HBW := Lib.hid hbw
    have hK := HK.out
    by_cases hlt : j < k
    · have hj1 : j < ts.length := by rw [HN.out]; exact hlt
      obtain ⟨hmay, hsm⟩ := HQ.out _ (List.getElem_mem hj1)
      obtain ⟨b0, off, x, u, a1, p1, hA, hbB, c0, c1, c2', c3, htk⟩ := tk_at (HIN.out.on hbw).1 hj1 hsm
      subst hA
      have CC : Hid (Calls Tryz.prog 12 #[.agg #[.int .u8 ((ts[j]'hj1).kind : Int), .string x, .slice a1 (ts[j]'hj1).attrs.length p1, .string u]] wr fun e w' => e = .returned (.int .i64 0) ∧ Below wr.heap.size wr w') := Lib.hid (check9 _ x u a1 p1 wr htk 0 (by unfold checkR; rw [if_pos hmay]))
      obtain ⟨zb, hzb⟩ : ∃ zb : Int, ((ts[j]'hj1).kind : Int) = zb := ⟨_, rfl⟩
      obtain ⟨nb, hnb⟩ : ∃ nb : Nat, (ts[j]'hj1).attrs.length = nb := ⟨_, rfl⟩
      rw [hzb, hnb] at CC
      rw [hzb] at c0
      rw [hnb] at c2'
      have bk : (0 : Int) ≤ (j : Int) ∧ (j : Int) < (k : Int) := by omega
      by_cases j0 : j = 0
      · subst j0
        rw [Nat.zero_mul, Nat.add_zero] at c0 c1 c2' c3
        clear hbw hmay hsm htk hzb hnb
        go_wp2_with (first
          | (go_at_call 12; (with_reducible refine (CC.out).mono ?_); rintro e3 w3 ⟨rfl, hb3⟩)
          | fail)
        go_roundg (gk - 1)
        case rel => exact ⟨1, by omega, by go_num, bel_in9 HBW.out hb3⟩
        case measure => omega
      · have hi1 : j - 1 < ts.length := by omega
        obtain ⟨b1, off1, x1, u1, a2, p2, hA, hbB1, e0, e1', e2', e3', htk1⟩ := tk_at (HIN.out.on hbw).1 hi1 (HQ.out _ (List.getElem_mem hi1)).2
        cases hA
        obtain ⟨i, hi⟩ : ∃ i : Nat, j - 1 = i := ⟨_, rfl⟩
        obtain ⟨za, hza⟩ : ∃ za : Int, ((ts[j - 1]'hi1).kind : Int) = za := ⟨_, rfl⟩
        have hnap : ¬ (za = 4 ∧ zb = 4) := by
          have := HAP.out (j - 1) (by omega)
          have e : j - 1 + 1 = j := by omega
          simp only [e] at this
          intro hh
          exact this ⟨by omega, by omega⟩
        rw [hza, hi] at e0
        have wk : IntKind.i64.wrap ((j : Int) - 1) = (i : Int) := by rw [IntWalk.i64_in _ (by omega)]; omega
        have bi : (0 : Int) ≤ (i : Int) ∧ (i : Int) < (k : Int) := by omega
        have bj0 : (0 : Int) < (j : Int) := by omega
        clear htk htk1 e1' e2' e3' hmay hsm hbw
        by_cases hb : zb = 4
        · have q2 : (zb == 4) = true := by simpa using hb
          have q1 : (za == 4) = false := by simp; intro ha; exact hnap ⟨ha, hb⟩
          clear hb hnap hza hzb hnb
          go_wp2_with (first
            | (go_at_call 12; (with_reducible refine (CC.out).mono ?_); rintro e3 w3 ⟨rfl, hb3⟩; have f0 := (hb3.cell hbB).trans c0; have f1 := (hb3.cell hbB).trans e0)
            | fail)
          go_roundg (gk - 1)
          case rel => exact ⟨j + 1, by omega, by go_num, bel_in9 HBW.out hb3⟩
          case measure => omega
        · have q2 : (zb == 4) = false := by simpa using hb
          clear hb hnap hza hzb hnb
          go_wp2_with (first
            | (go_at_call 12; (with_reducible refine (CC.out).mono ?_); rintro e3 w3 ⟨rfl, hb3⟩; have f0 := (hb3.cell hbB).trans c0; have f1 := (hb3.cell hbB).trans e0)
            | fail)
          go_roundg (gk - 1)
          case rel => exact ⟨j + 1, by omega, by go_num, bel_in9 HBW.out hb3⟩
          case measure => omega
    · have bk : ¬ (j : Int) < (k : Int) := by omega
      clear hbw
      go_wp2_with fail
      go_ret
      exact ⟨rfl, bel_in9 HB2.out HBW.out⟩
theorem walk (a0 : ByteArray) (w : World) (w0 : a0.size ≤ maxLen) (hE : Ev9 w := by first | assumption | exact Ev9.to (by assumption) (by assumption)) :
    Calls Tryz.prog 7 #[.string a0] w fun e w' => e = .returned (.bool true) ∧ Below w.heap.size w w' := by
  by_cases h : 2000 < a0.size
  · exact walkOut a0 w h
  · obtain ⟨ts, n, er, hl⟩ : ∃ ts n er, lexR a0.data.toList = (ts, n, er) := ⟨_, _, _, rfl⟩
    by_cases he : er = 0
    · subst he
      have hn := (lexR_ok hl).1
      subst hn
      exact walkIn a0 w (by omega) ts hl
    · rw [(lexR_bad hl he).1] at hl
      exact walkErr a0 w (by omega) n er he hl

theorem gErr : Tryz.prog.globalNamed "strconv.ErrSyntax" = some 3 := by kernel_rfl
theorem gErrT : (Tryz.prog.globals[3]?).map (·.type) = some 72 := by kernel_rfl
theorem starE : "*" ++ "errors.errorString" = "*errors.errorString" := by decide
theorem rowE (u : TypeId) (h : Tryz.prog.typeName? 3 u = some "*errors.errorString") : u = 156 :=
  typeName_ptr_named (nm := "errors.errorString") (by rw [starE]; kernel_rfl) (by kernel_rfl) (by decide) u (by rw [starE]; exact h)
theorem erred {W : World} (h : laidMetH Tryz.prog Rows.lexMayRow.laid W) : Ev W := by
  rw [MakeChecks.laidMetH_plain _ _ _ (by kernel_rfl)] at h
  have h2 := laidMet.filter (fun x => x.1 == "strconv.ErrSyntax") h
  have e : Rows.lexMayRow.laid.filter (fun x => x.1 == "strconv.ErrSyntax") = [("strconv.ErrSyntax", Rows.laid_strconv_ErrSyntax)] := by kernel_rfl
  rw [e] at h2
  obtain ⟨a, s, h3, _⟩ := laid_sentinel (r := []) h2 gErr gErrT Tryz.underlying72 rowE Tryz.underlying156 Tryz.underlying158 rfl rfl Tryz.underlying9 (by kernel_rfl) (by kernel_rfl)
  exact ⟨_, _, by simpa using World.var?_cell gErr h3 0⟩
theorem reads_first {W : World} (h : laidMetH Tryz.prog Rows.lexMayRow.laid W) : Lib.VarReads Tryz.prog W "unicode/utf8.first" Lib.firstData := by
  rw [MakeChecks.laidMetH_plain _ _ _ (by kernel_rfl)] at h
  have h2 := laidMet.filter (fun x => x.1 == "unicode/utf8.first") h
  have e : Rows.lexMayRow.laid.filter (fun x => x.1 == "unicode/utf8.first") = [("unicode/utf8.first", Lib.firstData)] := by kernel_rfl
  rw [e] at h2
  exact Lib.laidMet.reads h2 (.head _)
theorem reads_acceptRanges {W : World} (h : laidMetH Tryz.prog Rows.lexMayRow.laid W) : Lib.VarReads Tryz.prog W "unicode/utf8.acceptRanges" Lib.acceptData := by
  rw [MakeChecks.laidMetH_plain _ _ _ (by kernel_rfl)] at h
  have h2 := laidMet.filter (fun x => x.1 == "unicode/utf8.acceptRanges") h
  have e : Rows.lexMayRow.laid.filter (fun x => x.1 == "unicode/utf8.acceptRanges") = [("unicode/utf8.acceptRanges", Lib.acceptData)] := by kernel_rfl
  rw [e] at h2
  exact Lib.laidMet.reads h2 (.head _)
theorem laid9 {W : World} (h : laidMetH Tryz.prog Rows.lexMayRow.laid W) : Ev9 W := ⟨erred h, tabs9 (reads_first h) (reads_acceptRanges h)⟩
set_option maxRecDepth 100000 in
theorem lifted (os : Os) (started : os.Started) (H : Type) (enc : TypeId × Value → H) :
    ReturnsInHanded {} Tryz.checked os 7 .any (fun w args => (Rows.lexMaySpec.pre enc Tryz.prog Tryz.f7 [] false w args ∧ laidMetH Tryz.prog Rows.lexMayRow.laid w) ∧ sizedMet enc Tryz.prog Tryz.f7 (OpenSpec.ofChange Rows.lexMaySpec) false w args) (Rows.lexMaySpec.post enc Tryz.prog Tryz.f7 false true false false) := by
  refine returnsInHanded_of_change_and (C := Tryz.checked) (X := fun w _ => laidMetH Tryz.prog Rows.lexMayRow.laid w) (fun _ _ _ hh h => h.of_heap hh) own started (by kernel_rfl) Tryz.func7
    (ChangeSpec.witness_shaped (enc := enc) (C := Tryz.checked) (os := os) (X := fun w _ => laidMetH Tryz.prog Rows.lexMayRow.laid w) false (World.laidAll Tryz.prog os Rows.lexMayRow.laid) #[.string ByteArray.empty] 8 (World.laidAll_os _ _ _) (World.shaped_of_ZipB (by kernel_rfl) (by kernel_rfl)) (by kernel_rfl) (by kernel_rfl) (by kernel_rfl)
      (by rw [MakeChecks.laidMetH_plain _ _ _ (by kernel_rfl)]; exact laidMet_laidAll _ (by kernel_rfl) (by kernel_rfl))) ?_
  intro W base args ds gs before hval0 hW _ _ hL _
  have hval : ∀ (j : Nat) t v, Tryz.f7.params[j]? = some t → args[j]? = some v → Value.okWide Tryz.prog W .any base t v := hval0
  have hW' := hW
  obtain ⟨p, q, hA0, hV, rfl, hfz, hnd⟩ := hW
  have hA : DataW.TrodAll enc Tryz.prog W 0 (fun _ => true) true Tryz.f7.params.toList args.toList ds p := hA0
  rw [Tryz.params7] at hA hval
  obtain ⟨v0, vs0, d0, ds0, p0, q0, hargs, rfl, rfl, h0, r0⟩ := trodAll_cons hA
  obtain ⟨rfl, rfl, rfl⟩ := trodAll_nil r0
  obtain rfl : args = #[v0] := by cases args; simp_all
  obtain ⟨rfl, rfl⟩ := trodVars_none hV
  obtain ⟨a0, rfl, rfl, rfl, w0⟩ := open_string Tryz.underlying9 (hval 0 9 v0 rfl rfl) h0
  clear hA0 hval0
  refine (walk a0 W w0 (laid9 hL)).mono fun e W' ⟨he, bel⟩ => ?_
  subst he
  exact ⟨_, rfl, _, _, _, [], _, [], hW', trodAll_mk1 (shut_bool Tryz.underlying4 _), (trodAll_cons_mk (shut_string Tryz.underlying9 w0) trodAll_mk0), rfl, bel.frame _, fun h => by cases h⟩

theorem over : Rows.lexMayRow.holds Tryz.pinned (OpenSpec.ofChange Rows.lexMaySpec) :=
  OpenClaim.holds_of_wide 7 Tryz.f7 rfl rfl rfl rfl rfl rfl rfl ⟨rfl, rfl, rfl, rfl, rfl⟩ rfl rfl rfl rfl rfl (by kernel_rfl) Tryz.func7 (by kernel_rfl)
    (of_decide_eq_true (by kernel_rfl)) (by unfold Func.isWrapper; first | (rw [if_pos (by decide +kernel)]; kernel_rfl) | (rw [if_neg (by decide +kernel)]; exact ⟨rfl, rfl⟩))
    (fun os started H enc _ => lifted os started H enc)

theorem said : Rows.LexMaySaid := over
theorem plain (f : FuncId) (fn : Func) (hf : Tryz.pinned.checked.prog.funcNamed "tidewaiter/tidewaiterlaw09.LexMay" = some f) (hfn : Tryz.pinned.checked.prog.funcs[f]? = some fn) :
    true = Tryz.pinned.checked.prog.looks [] ∧ ∀ (j : Nat) t, fn.params[j]? = some t → Tryz.pinned.checked.prog.wantsStandIn t = false := by
  obtain rfl : f = 7 := Option.some.inj ((show Tryz.prog.funcNamed "tidewaiter/tidewaiterlaw09.LexMay" = some 7 by kernel_rfl).symm.trans hf) |>.symm
  obtain rfl : fn = Tryz.f7 := (Option.some.inj (Tryz.func7.symm.trans hfn)).symm
  refine ⟨by kernel_rfl, fun j t ht => ?_⟩
  rw [Tryz.params7] at ht
  have hm : t ∈ [9] := by simpa using Array.mem_of_getElem? ht
  have hall : ([9].all fun u => !Tryz.prog.wantsStandIn u) = true := by kernel_rfl
  exact (show Tryz.prog.wantsStandIn t = false by simpa using List.all_eq_true.1 hall t hm)
theorem proved : Rows.LexMayCardSaid :=
  Claim7.holds_tied_plain_at .later [] _ _ _ _ said (fun _ h => by cases h) (by kernel_rfl) (fun _ h => by cases h) lexMay_row_tie rfl ⟨rfl, rfl⟩ (by kernel_rfl) rfl plain (by kernel_rfl)
end Go.Proofs.YtichboamakgabaaGreatDoor.lexMay
