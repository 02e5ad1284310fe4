/-
  TreeParses: for every list of tokens (as a program can hold it) the law returns true, and what was handed in stays as it was; no condition.
-/
import Derived.Test.YtbjgfaflikgobaaDoorH23
import Derived.Test.YtbjgfaflikgobaaDoorCards
import Derived.Test.YtbjgfaflikgobaaDoorTie
import Derived.LaidMore
import Derived.LaidSub
import Derived.MakeChecks
import Derived.Stop.Joined
import Derived.Lib.LaidTab
import Derived.SevenTiedAt
import Derived.Lay
import Derived.WalkKit
import Derived.ProofKit
import Derived.OpenShut
import Derived.ShutString
import Derived.ChangeOld
import Derived.Below
namespace Go.Proofs.YtbjgfaflikgobaaDoor.treeParses
open Go.ChangeShapes Go.WideShapes Go.ChangeAt Go.RowKit
open Go.ChangeMaps (open_string shut_string)
open Hx Lx Tr Tx Nmb Es
set_option linter.unusedVariables false

theorem own : ownKnob Tryd.prog.godebug = none := by kernel_rfl
theorem laidOut : laidOutB Tryd.prog = true := by kernel_rfl

/-- What Great says no to. -/
theorem greatF_no {m : Nat} : ∀ (l : List Tk) (n : Nat), greatF m n l = false → ∀ t ∈ l, t.attrs.length ≤ 30 ∧ wTk t ≤ m
  | [], _, _, _, h => by cases h
  | a :: l, n, h, t, ht => by
    rw [greatF, Bool.or_eq_false_iff, Bool.or_eq_false_iff, decide_eq_false_iff_not, decide_eq_false_iff_not] at h
    rcases List.mem_cons.1 ht with e | e
    · subst e; omega
    · exact greatF_no l _ h.2 t e
theorem wPrs_mem : ∀ (l : List Pr) (p : Pr), p ∈ l → wPr p ≤ wPrs l
  | [], _, h => by cases h
  | a :: l, p, h => by
    have e : wPrs (a :: l) = wPr a + wPrs l := rfl
    rcases List.mem_cons.1 h with e2 | e2
    · subst e2; omega
    · have := wPrs_mem l p e2; omega
theorem great_no {l : List Tk} (h : greatT 2000 l = false) : l.length ≤ 600 ∧ ∀ t ∈ l, Small t := by
  unfold greatT at h
  rw [Bool.or_eq_false_iff, decide_eq_false_iff_not] at h
  obtain ⟨h1, h2⟩ := h
  rw [List.take_of_length_le (by omega)] at h1
  refine ⟨by omega, fun t ht => ?_⟩
  obtain ⟨k1, k2⟩ := greatF_no l 0 h1 t ht
  unfold wTk at k2
  rw [List.take_of_length_le (by omega)] at k2
  refine ⟨by omega, by omega, by omega, fun p hp => ?_⟩
  have := wPrs_mem _ p hp
  unfold wPr at this
  omega
set_option maxHeartbeats 2000000 in
set_option maxRecDepth 100000 in
theorem walkGreat (A : Option Addr) (n cp : Nat) (l : List Tk) (w : World) (hr : RdC TkC w w.heap.size A l) (hn : l.length = n) (hmax : n ≤ 9223372036854775807) (hg : greatT 2000 l = true) :
    Calls Tryd.prog 3 #[.slice A n cp] w fun e w' => e = .returned (.bool true) ∧ Below w.heap.size w w' := by
  have HGR : Hid (Calls Tryd.prog 4 #[.slice A n cp, .int .i64 2000] w fun e w' => e = .returned (.bool true) ∧ Below w.heap.size w w') := Lib.hid (rgreat9 A n cp l 2000 w hr hn (by decide) hmax true hg)
  clear hg hr hn hmax
  go_enter Tryd.func3, Tryd.ntmps3
  go_wp2_with (first
    | (go_at_call 4; (with_reducible refine (HGR.out).mono ?_); rintro e2 w2 ⟨rfl, hb2⟩)
    | fail)
  go_ret
  exact ⟨rfl, hb2⟩
set_option maxHeartbeats 16000000 in
set_option maxRecDepth 100000 in
theorem walkIn (A : Option Addr) (n cp : Nat) (l : List Tk) (w : World) (hr : RdC TkC w w.heap.size A l) (hn : l.length = n) (hmax : n ≤ 9223372036854775807) (hg : greatT 2000 l = false) :
    Calls Tryd.prog 3 #[.slice A n cp] w fun e w' => e = .returned (.bool true) ∧ Below w.heap.size w w' := by
  obtain ⟨hl600, hsm⟩ := great_no hg
  obtain ⟨i0, hi, hz0, hz1, hz2⟩ := info_parts infoTk
  obtain ⟨j0, hj, hy0, hy1, hy2⟩ := info_parts infoPr
  have HI := Lib.hid hi
  have HZ0 := Lib.hid hz0
  have HZ1 := Lib.hid hz1
  have HZ2 := Lib.hid hz2
  have HJ := Lib.hid hj
  have HY0 := Lib.hid hy0
  have HY1 := Lib.hid hy1
  have HY2 := Lib.hid hy2
  have HGR : Hid (Calls Tryd.prog 4 #[.slice A n cp, .int .i64 2000] w fun e w' => e = .returned (.bool false) ∧ Below w.heap.size w w') := Lib.hid (rgreat9 A n cp l 2000 w hr hn (by decide) hmax false hg)
  obtain ⟨v, q, hv⟩ : ∃ v q, parseR l = (v, q) := ⟨_, _, rfl⟩
  obtain ⟨vn, hvn⟩ : ∃ vn, v.length = vn := ⟨_, rfl⟩
  obtain ⟨hv5, hvs⟩ := parseR_len hv hsm
  have HPA : Hid (∀ A2 c2 W, RdC TkC W W.heap.size A2 l → Calls Tryd.prog 5 #[.slice A2 n c2] W fun e w' => ∃ A c, e = .returned (.tuple #[.slice A vn c, .int .i64 q]) ∧ RdB NdS w' A v ∧ Below W.heap.size W w') := Lib.hid fun A2 c2 W h => (parse10 A2 n c2 l W h hn hmax hsm).mono fun e w' h => h.withP hv hvn
  have HRP9 : Hid (∀ W, Below w.heap.size w W → Calls Tryd.prog 6 #[.slice A n cp] W fun e w' => ∃ A c, e = .returned (.tuple #[.slice A vn c, .int .i64 q]) ∧ RdB NdS w' A v ∧ Below W.heap.size W w') := Lib.hid fun W hW => (rparse10 A n cp l W (hr.on hW) hn hmax hsm).mono fun e w' h => h.withP hv hvn
  have HSX : Hid (∀ A5 c5 A6 c6 W, RdB NdS W A5 v → RdB NdS W A6 v → Calls Tryd.prog 7 #[.slice A5 vn c5, .slice A6 vn c6] W fun e w' => e = .returned (.bool true) ∧ Below W.heap.size W w') := Lib.hid fun A5 c5 A6 c6 W h5 h6 => rsame10 A5 A6 vn c5 vn c6 v v W h5 hvn h6 hvn (by omega) (by omega) (fun t ht => (hvs t ht).attrs) (fun t ht => (hvs t ht).attrs) true (decide_eq_true rfl)
  have HSA : Hid (∀ A2 c2 W, RdC TkC W W.heap.size A2 l → Below w.heap.size w W → Calls Tryd.prog 8 #[.slice A2 n c2, .slice A n cp] W fun e' w' => e' = .returned (.bool true) ∧ Below W.heap.size W w') := Lib.hid fun A2 c2 W h k =>
    rsame9 A2 A n c2 n cp l l W h hn (hr.on k) hn (by omega) (by omega) (fun t ht => (hsm t ht).2.2.1) (fun t ht => (hsm t ht).2.2.1) true (decide_eq_true rfl)
  have qe : (q == q) = true := by simp
  have HR := Lib.hid hr
  have HN := Lib.hid hn
  have HSM := Lib.hid hsm
  have HL6 : Hid (n ≤ 600) := Lib.hid (by omega)
  clear hg hr hn hmax hl600 hsm hi hz0 hz1 hz2 hj hy0 hy1 hy2 hv hvn hv5 hvs
  go_enter Tryd.func3, Tryd.ntmps3
  go_wp2_with (first
    | (go_at_call 4; (with_reducible refine (HGR.out).mono ?_); rintro e2 w2 ⟨rfl, hb2⟩; have HB2 := Lib.hid hb2; clear hb2)
    | fail)
  go_loopg [3, 4] n (fun gg v i wr => ∃ (L : List TB), L.length + gg = n ∧ i = .int .i64 L.length ∧ L.map TB.t = l.take L.length ∧ LexSt w L v wr)
  case atStart => exact ⟨[], by simp, rfl, rfl, World.ownsRow_nil _ _ _ _, (fun b hm => by cases hm), HB2.out⟩
  case round =>
    obtain ⟨L, hk, rfl, hmap, hst⟩ := hrel
    obtain ⟨Ao, co, rfl⟩ := own_form2 hst.1
    have HST := Lib.hid hst
    have h6 := HL6.out
    by_cases hlt : L.length < n
    · have hk1 : L.length < l.length := by rw [HN.out]; exact hlt
      have hbw := hst.2.2
      obtain ⟨b0, off, x, u, a1, p1, hA, hbB, c0w, c1w, c2w, c3w, htk, hnil, hkd⟩ := tk_at2 HR.out hk1 (HSM.out _ (List.getElem_mem hk1))
      obtain ⟨t, ht⟩ : ∃ t, l[L.length]'hk1 = t := ⟨_, rfl⟩
      rw [ht] at c0w c2w htk hkd
      have HM2 : Hid ((L.map TB.t) ++ [t] = l.take (L.length + 1)) := Lib.hid (by rw [hmap, List.take_succ_eq_append_getElem hk1, ht])
      have HCELL : Hid (∀ W, Below w.heap.size w W → W.cell? ⟨b0, off + L.length * 4, none⟩ = some (.int .u8 (t.kind : Int)) ∧ W.cell? ⟨b0, off + L.length * 4 + 1, none⟩ = some (.string x) ∧ W.cell? ⟨b0, off + L.length * 4 + 2, none⟩ = some (.slice a1 t.attrs.length p1) ∧ W.cell? ⟨b0, off + L.length * 4 + 3, none⟩ = some (.string u)) := Lib.hid fun W hW => ⟨(hW.cell hbB).trans c0w, (hW.cell hbB).trans c1w, (hW.cell hbB).trans c2w, (hW.cell hbB).trans c3w⟩
      obtain ⟨c0, c1, c2, c3⟩ := HCELL.out wr hbw
      have HRP : Hid (∀ W, Below w.heap.size w W → RdC PrC W W.heap.size a1 t.attrs) := Lib.hid fun W hW => (htk.on hW).attrs
      have HAL : Hid (t.attrs.length ≤ 1000000) := htk.al
      have HNIL := Lib.hid hnil
      have HNX := Lib.hid htk.name
      have HUX := Lib.hid htk.text
      have HKD := Lib.hid hkd
      have HBW0 := Lib.hid hbw
      have HBB := Lib.hid hbB
      have bk : (0 : Int) ≤ (L.length : Int) ∧ (L.length : Int) < (n : Int) := by omega
      subst hA
      clear hst ht htk hbw hmap hk1 c0w c1w c2w c3w hnil hkd hbB
      go_wp2_with (first
        | (refine wpList_store_row rfl _ _ _ rfl wr.heap.size #[.int .u8 (t.kind : Int), .string x, .slice a1 t.attrs.length p1, .string u] rfl rfl 26 zTk (heap_alloc_new _ _) sizeTk rfl (oneTk _ _ _ _) ?_; rw [World.setRow_alloc_new])
        | (at_builtin; refine wpList_append_pr rfl (.tmp 22) (.tmp 24) 24 rfl (wr.heap.size + 1) 37 j0 (.agg #[.string ⟨#[]⟩, .string ⟨#[]⟩]) Tryd.underlying24 HJ.out HY0.out HY1.out HY2.out rfl (.slice (some ⟨wr.heap.size + 1, 0, none⟩) 0 0) rfl (own_emptyB wr _ 37 2) _ a1 t.attrs.length p1 t.attrs rfl (HRP.out _ (HBW0.out.trans ((stpA (stpA (Below.refl _ _) _) _).mono HBW0.out.size))) rfl HNIL.out HAL.out (by simp) ?_; intro v3 w3 hown3 hgr3; obtain ⟨A3, c3', rfl⟩ := own_form2 hown3; have HO3 := Lib.hid hown3; have HW3 := Lib.hid (copy_box wr w3 _ _ hgr3); have k2 := cellV w3 _ 2 _ _ _ HW3.out.1; have f2 := freeV w3 _ 2 _ _ HW3.out.1; have HS3 := Lib.hid (copy_set wr w3 (t.kind : Int) x u _ (.slice A3 t.attrs.length c3') HW3.out.1 HW3.out.2); have HL3 := Lib.hid (HST.out.below HS3.out.2); clear hown3 hgr3)
        | (refine wpList_load_row rfl _ _ rfl wr.heap.size rfl 26 #[.int .u8 (t.kind : Int), .string x, .slice A3 t.attrs.length c3', .string u] (0, 0) _ HS3.out.1 Tryd.underlying26 rfl sizeTk ?_)
        | (at_builtin; refine wpList_append_own_at _ rfl (.tmp 27) (.tmp 29) 22 rfl w.heap.size 26 i0 (.agg #[.int .u8 0, .string ⟨#[]⟩, .slice none 0 0, .string ⟨#[]⟩]) 4 64 Tryd.underlying22 HI.out HZ0.out HZ1.out HZ2.out rfl (by decide) _ L.length _ rfl (HL3.out.below (stpA (Below.refl _ _) _)).1 ⟨w3.heap.size, 0, none⟩ 1 1 [.int .u8 (t.kind : Int), .string x, .slice A3 t.attrs.length c3', .string u] rfl rfl (new_at (w3.setCell ⟨wr.heap.size, 2, none⟩ (.slice A3 t.attrs.length c3')) [.int .u8 (t.kind : Int), .string x, .slice A3 t.attrs.length c3', .string u] 26 w3.heap.size (World.size_setCell _ _ _)) (tb_one _ _ _ _ _ _) (by unfold maxLen; omega) (by omega) (by have := HL3.out.2.2.size; simp at this ⊢; omega) ?_; intro v5 w5 hown5 hgr5 _ hlie; obtain ⟨A5, c5, rfl⟩ := own_form2 hown5; have HX5 := Lib.hid (copy_fin HST.out HBW0.out HO3.out HS3.out HNX.out HUX.out HKD.out hown5 hgr5 hlie); clear hown5 hgr5 hlie)
        | fail)
      go_roundg (gk - 1)
      case rel => exact ⟨L ++ [⟨x, A3, c3', u, t⟩], by simp; omega, by simp, by rw [List.map_append]; exact (HM2.out).trans (by simp), HX5.out.1⟩
      case measure => omega
    · obtain hLn : L.length = n := by omega
      have hall : L.map TB.t = l := by rw [hmap, hLn, ← HN.out]; exact List.take_length
      obtain ⟨r1, _, r3, r4, r5⟩ := RdC.of_own (C := TkC) tbCells TB.t (fun _ => rfl) (by decide) L (fun b hm => (hst.2.1 b hm).1) hst.1
      rw [hall] at r1
      have HRO := Lib.hid r1
      have HBW := Lib.hid hst.2.2
      subst hLn
      clear hst hmap r1 r3 r4 r5
      go_wp2_with (first
        | (go_at_call 5; (with_reducible refine (HPA.out _ _ _ HRO.out).mono ?_); rintro e5 w5 ⟨A5, c5, rfl, hr5, hb5⟩; have HR5 := Lib.hid hr5; have HB5 := Lib.hid hb5; clear hr5 hb5)
        | (go_at_call 6; (with_reducible refine (HRP9.out _ (stp HBW.out HB5.out)).mono ?_); rintro e6 w6 ⟨A6, c6, rfl, hr6, hb6⟩; have HR6 := Lib.hid hr6; have HR56 := Lib.hid (HR5.out.on hb6); have HB6 := Lib.hid (stp HB5.out hb6); clear hr6 hb6)
        | (go_at_call 7; (with_reducible refine (HSX.out _ _ _ _ _ HR56.out HR6.out).mono ?_); rintro e7 w7 ⟨rfl, hb7⟩; have HB7 := Lib.hid (stp HB6.out hb7); clear hb7)
        | (go_at_call 8; (with_reducible refine (HSA.out _ _ _ (HRO.out.on HB7.out) (stp HBW.out HB7.out)).mono ?_); rintro e8 w8 ⟨rfl, hb8⟩; have HB8 := Lib.hid (stp HBW.out (stp HB7.out hb8)); clear hb8)
        | fail)
      go_ret
      exact ⟨rfl, HB8.out⟩
theorem walk (a0 : Option Addr) (len0 cap0 : Nat) (l0 : List Tk) (w : World) (w0 : RdC TkC w w.heap.size a0 l0) (n0 : l0.length = len0) (c0 : len0 ≤ cap0) (m0 : cap0 ≤ maxLen) (z0 : a0 = none → cap0 = 0) :
    Calls Tryd.prog 3 #[.slice a0 len0 cap0] w fun e w' => e = .returned (.bool true) ∧ Below w.heap.size w w' := by
  unfold maxLen at m0
  cases hg : greatT 2000 l0 with
  | true => exact walkGreat a0 len0 cap0 l0 w w0 n0 (by omega) hg
  | false => exact walkIn a0 len0 cap0 l0 w w0 n0 (by omega) hg

set_option maxRecDepth 100000 in
theorem lifted (os : Os) (started : os.Started) (H : Type) (enc : TypeId × Value → H) :
    ReturnsInHanded {} Tryd.checked os 3 .any (fun w args => (Rows.treeParsesSpec.pre enc Tryd.prog Tryd.f3 [] false w args ∧ laidMetH Tryd.prog Rows.treeParsesRow.laid w) ∧ sizedMet enc Tryd.prog Tryd.f3 (OpenSpec.ofChange Rows.treeParsesSpec) false w args) (Rows.treeParsesSpec.post enc Tryd.prog Tryd.f3 false true false false) := by
  refine returnsInHanded_of_change_and (C := Tryd.checked) (X := fun w _ => laidMetH Tryd.prog Rows.treeParsesRow.laid w) (fun _ _ _ hh h => h.of_heap hh) own started (by kernel_rfl) Tryd.func3
    (ChangeSpec.witness_shaped (enc := enc) (C := Tryd.checked) (os := os) (X := fun w _ => laidMetH Tryd.prog Rows.treeParsesRow.laid w) false (World.laidAll Tryd.prog os Rows.treeParsesRow.laid) #[.slice none 0 0] 8 (World.laidAll_os _ _ _) (World.shaped_of_ZipB (by kernel_rfl) (by kernel_rfl)) (by kernel_rfl) (by kernel_rfl) (by kernel_rfl)
      (by rw [MakeChecks.laidMetH_plain _ _ _ (by kernel_rfl)]; exact laidMet_laidAll _ (by kernel_rfl) (by kernel_rfl))) ?_
  intro W base args ds gs before hval0 hW _ _ hL _
  have hval : ∀ (j : Nat) t v, Tryd.f3.params[j]? = some t → args[j]? = some v → Value.okWide Tryd.prog W .any base t v := hval0
  have hW' := hW
  obtain ⟨p, q, hA0, hV, rfl, hfz, hnd⟩ := hW
  have hA : DataW.TrodAll enc Tryd.prog W 0 (fun _ => true) true Tryd.f3.params.toList args.toList ds p := hA0
  rw [Tryd.params3] at hA hval
  obtain ⟨v0, vs0, d0, ds0, p0, q0, hargs, rfl, rfl, h0, r0⟩ := trodAll_cons hA
  obtain ⟨rfl, rfl, rfl⟩ := trodAll_nil r0
  obtain rfl : args = #[v0] := by cases args; simp_all
  obtain ⟨rfl, rfl⟩ := trodVars_none hV
  obtain ⟨a0, len0, cap0, rfl⟩ := okWide_slice Tryd.underlying22 (hval 0 22 v0 rfl rfl)
  have k0 := h0
  have lt0 : ∀ x ∈ p0, x.block < W.heap.size := by obtain ⟨m, hm⟩ := k0; exact DataW.trod_lt m _ _ _ hm
  obtain ⟨l0, w0, n0, c0, m0, z0⟩ : ∃ l : List Tk, RdC TkC W W.heap.size a0 l ∧ l.length = len0 ∧ len0 ≤ cap0 ∧ cap0 ≤ maxLen ∧ (a0 = none → cap0 = 0) := by
    obtain ⟨fuel, hf⟩ := h0
    obtain ⟨l, A, c, e1, e2, e3, e4, e5⟩ := opens_tokens _ _ _ _ _ _ hf
    simp [Value.cells] at e1
    obtain ⟨rfl, rfl, rfl⟩ := e1
    exact ⟨l, e5, rfl, e2, e3, e4⟩
  clear hA0 hval0
  refine (walk a0 len0 cap0 l0 W w0 n0 c0 m0 z0).mono fun e W' ⟨he, bel⟩ => ?_
  subst he
  exact ⟨_, rfl, _, _, _, [], _, [], hW', trodAll_mk1 (shut_bool Tryd.underlying4 _), (trodAll_cons_mk (Below.trod laidOut (by kernel_rfl) (of_decide_eq_true (by kernel_rfl)) k0 bel lt0) trodAll_mk0), rfl, bel.frame _, fun h => by cases h⟩

theorem over : Rows.treeParsesRow.holds Tryd.pinned (OpenSpec.ofChange Rows.treeParsesSpec) :=
  OpenClaim.holds_of_wide 3 Tryd.f3 rfl rfl rfl rfl rfl rfl rfl ⟨rfl, rfl, rfl, rfl, rfl⟩ rfl rfl rfl rfl rfl (by kernel_rfl) Tryd.func3 (by kernel_rfl)
    (of_decide_eq_true (by kernel_rfl)) (by unfold Func.isWrapper; first | (rw [if_pos (by decide +kernel)]; kernel_rfl) | (rw [if_neg (by decide +kernel)]; exact ⟨rfl, rfl⟩))
    (fun os started H enc _ => lifted os started H enc)

theorem said : Rows.TreeParsesSaid := over
theorem plain (f : FuncId) (fn : Func) (hf : Tryd.pinned.checked.prog.funcNamed "tidewaiter/tidewaiterlaw10.TreeParses" = some f) (hfn : Tryd.pinned.checked.prog.funcs[f]? = some fn) :
    false = Tryd.pinned.checked.prog.looks [] ∧ ∀ (j : Nat) t, fn.params[j]? = some t → Tryd.pinned.checked.prog.wantsStandIn t = false := by
  obtain rfl : f = 3 := Option.some.inj ((show Tryd.prog.funcNamed "tidewaiter/tidewaiterlaw10.TreeParses" = some 3 by kernel_rfl).symm.trans hf) |>.symm
  obtain rfl : fn = Tryd.f3 := (Option.some.inj (Tryd.func3.symm.trans hfn)).symm
  refine ⟨by kernel_rfl, fun j t ht => ?_⟩
  rw [Tryd.params3] at ht
  have hm : t ∈ [22] := by simpa using Array.mem_of_getElem? ht
  have hall : ([22].all fun u => !Tryd.prog.wantsStandIn u) = true := by kernel_rfl
  exact (show Tryd.prog.wantsStandIn t = false by simpa using List.all_eq_true.1 hall t hm)
theorem proved : Rows.TreeParsesCardSaid :=
  Claim7.holds_tied_plain_at .later [] _ _ _ _ said (fun _ h => by cases h) (by kernel_rfl) (fun _ h => by cases h) treeParses_row_tie rfl ⟨rfl, rfl⟩ (by kernel_rfl) rfl plain (by kernel_rfl)
end Go.Proofs.YtbjgfaflikgobaaDoor.treeParses
