/-
  Check, Join and the document's own say the same of any tokens of at most 2000 bytes; what was joined stays.
-/
import Derived.Test.YtichboamakgabaaLexWr
import Derived.WalkKit
import Derived.ProofKit
import Derived.OpenShut
import Derived.ShutString
import Derived.ChangeOld
import Derived.Below
namespace Go.Proofs.Ytichboamakgabaa.lexWrites
open Go.ChangeShapes Go.WideShapes Go.ChangeAt Go.RowKit
open Go.ChangeMaps (open_string shut_string)
open Hx Lx Tx Nmb Es
set_option linter.unusedVariables false

theorem own : ownKnob Try.prog.godebug = none := by kernel_rfl
theorem laidOut : laidOutB Try.prog = true := by kernel_rfl

/-- What Great says no to. -/
theorem greatF_no {m : Nat} : ∀ (l : List Tk) (n : Nat), greatF m n l = false → ∀ t ∈ l, t.attrs.length ≤ 30 ∧ wTk t ≤ m
  | [], _, _, _, h => by cases h
  | a :: l, n, h, t, ht => by
    rw [greatF, Bool.or_eq_false_iff, Bool.or_eq_false_iff, decide_eq_false_iff_not, decide_eq_false_iff_not] at h
    rcases List.mem_cons.1 ht with e | e
    · subst e; omega
    · exact greatF_no l _ h.2 t e
theorem wPrs_mem : ∀ (l : List Pr) (p : Pr), p ∈ l → wPr p ≤ wPrs l
  | [], _, h => by cases h
  | a :: l, p, h => by
    have e : wPrs (a :: l) = wPr a + wPrs l := rfl
    rcases List.mem_cons.1 h with e2 | e2
    · subst e2; omega
    · have := wPrs_mem l p e2; omega
theorem great_no {l : List Tk} (h : greatT 2000 l = false) : l.length ≤ 600 ∧ ∀ t ∈ l, Small t := by
  unfold greatT at h
  rw [Bool.or_eq_false_iff, decide_eq_false_iff_not] at h
  obtain ⟨h1, h2⟩ := h
  rw [List.take_of_length_le (by omega)] at h1
  refine ⟨by omega, fun t ht => ?_⟩
  obtain ⟨k1, k2⟩ := greatF_no l 0 h1 t ht
  unfold wTk at k2
  rw [List.take_of_length_le (by omega)] at k2
  refine ⟨by omega, by omega, by omega, fun p hp => ?_⟩
  have := wPrs_mem _ p hp
  unfold wPr at this
  omega
set_option maxHeartbeats 2000000 in
set_option maxRecDepth 100000 in
theorem walkGreat (A : Option Addr) (n cp : Nat) (l : List Tk) (w : World) (hr : RdC TkC w w.heap.size A l) (hn : l.length = n) (hmax : n ≤ 9223372036854775807) (hg : greatT 2000 l = true) :
    Calls Try.prog 3 #[.slice A n cp] w fun e w' => e = .returned (.bool true) ∧ Below w.heap.size w w' := by
  have HGR : Hid (Calls Try.prog 4 #[.slice A n cp, .int .i64 2000] w fun e w' => e = .returned (.bool true) ∧ Below w.heap.size w w') := Lib.hid (rgreat9 A n cp l 2000 w hr hn (by decide) hmax true hg)
  clear hg hr hn hmax
  go_enter Try.func3, Try.ntmps3
  go_wp2_with (first
    | (go_at_call 4; (with_reducible refine (HGR.out).mono ?_); rintro e2 w2 ⟨rfl, hb2⟩)
    | fail)
  go_ret
  exact ⟨rfl, hb2⟩
set_option maxHeartbeats 16000000 in
set_option maxRecDepth 100000 in
theorem walkIn (A : Option Addr) (n cp : Nat) (l : List Tk) (w : World) (hr : RdC TkC w w.heap.size A l) (hn : l.length = n) (hmax : n ≤ 9223372036854775807) (hg : greatT 2000 l = false) :
    Calls Try.prog 3 #[.slice A n cp] w fun e w' => e = .returned (.bool true) ∧ Below w.heap.size w w' := by
  obtain ⟨hl600, hsm⟩ := great_no hg
  obtain ⟨i0, hi, hz0, hz1, hz2⟩ := info_parts infoTk
  obtain ⟨j0, hj, hy0, hy1, hy2⟩ := info_parts infoPr
  have HI := Lib.hid hi
  have HZ0 := Lib.hid hz0
  have HZ1 := Lib.hid hz1
  have HZ2 := Lib.hid hz2
  have HJ := Lib.hid hj
  have HY0 := Lib.hid hy0
  have HY1 := Lib.hid hy1
  have HY2 := Lib.hid hy2
  have HGR : Hid (Calls Try.prog 4 #[.slice A n cp, .int .i64 2000] w fun e w' => e = .returned (.bool false) ∧ Below w.heap.size w w') := Lib.hid (rgreat9 A n cp l 2000 w hr hn (by decide) hmax false hg)
  obtain ⟨xl, er, hjo⟩ : ∃ xl er, joinR l = (xl, er) := ⟨_, _, rfl⟩
  obtain ⟨s, hs⟩ : ∃ s : ByteArray, s.data.toList = xl := ⟨⟨xl.toArray⟩, rfl⟩
  subst hs
  have HJO : Hid (∀ A2 c2 W, RdC TkC W W.heap.size A2 l → Calls Try.prog 7 #[.slice A2 n c2] W fun e' w' => e' = .returned (.tuple #[.string s, .int .i64 er]) ∧ Below W.heap.size W w') := Lib.hid fun A2 c2 W h => join9 A2 n c2 l W h hn (by omega) hsm s er hjo
  have HRJ : Hid (∀ W, Below w.heap.size w W → Calls Try.prog 8 #[.slice A n cp] W fun e' w' => e' = .returned (.tuple #[.string s, .int .i64 er]) ∧ Below W.heap.size W w') := Lib.hid fun W h => rjoin9 A n cp l W (hr.on h) hn (by omega) hsm s er hjo
  have HSA : Hid (∀ A2 c2 W, RdC TkC W W.heap.size A2 l → Below w.heap.size w W → Calls Try.prog 9 #[.slice A2 n c2, .slice A n cp] W fun e' w' => e' = .returned (.bool true) ∧ Below W.heap.size W w') := Lib.hid fun A2 c2 W h k =>
    rsame9 A2 A n c2 n cp l l W h hn (hr.on k) hn (by omega) (by omega) (fun t ht => (hsm t ht).2.2.1) (fun t ht => (hsm t ht).2.2.1) true (decide_eq_true rfl)
  have qs : (s.toList == s.toList) = true := by simp
  have qe : (er == er) = true := by simp
  have HR := Lib.hid hr
  have HN := Lib.hid hn
  have HSM := Lib.hid hsm
  have HL6 : Hid (n ≤ 600) := Lib.hid (by omega)
  clear hg hr hn hmax hl600 hsm hi hz0 hz1 hz2 hj hy0 hy1 hy2 hjo
  go_enter Try.func3, Try.ntmps3
  go_wp2_with (first
    | (go_at_call 4; (with_reducible refine (HGR.out).mono ?_); rintro e2 w2 ⟨rfl, hb2⟩; have HB2 := Lib.hid hb2; clear hb2)
    | fail)
  go_loopg [3, 4] n (fun gg v i wr => ∃ (L : List TB), L.length + gg = n ∧ i = .int .i64 L.length ∧ L.map TB.t = l.take L.length ∧ LexSt w L v wr)
  case atStart => exact ⟨[], by simp, rfl, rfl, World.ownsRow_nil _ _ _ _, (fun b hm => by cases hm), HB2.out⟩
  case round =>
    obtain ⟨L, hk, rfl, hmap, hst⟩ := hrel
    obtain ⟨Ao, co, rfl⟩ := own_form2 hst.1
    have HST := Lib.hid hst
    have h6 := HL6.out
    by_cases hlt : L.length < n
    · have hk1 : L.length < l.length := by rw [HN.out]; exact hlt
      have hbw := hst.2.2
      obtain ⟨b0, off, x, u, a1, p1, hA, hbB, c0w, c1w, c2w, c3w, htk, hnil, hkd⟩ := tk_at2 HR.out hk1 (HSM.out _ (List.getElem_mem hk1))
      obtain ⟨t, ht⟩ : ∃ t, l[L.length]'hk1 = t := ⟨_, rfl⟩
      rw [ht] at c0w c2w htk hkd
      have HM2 : Hid ((L.map TB.t) ++ [t] = l.take (L.length + 1)) := Lib.hid (by rw [hmap, List.take_succ_eq_append_getElem hk1, ht])
      obtain ⟨q, hq⟩ : ∃ q, checkR t = q := ⟨_, rfl⟩
      have HCK : Hid (∀ A' c' W, RdC PrC W W.heap.size A' t.attrs → t.attrs.length ≤ c' → Calls Try.prog 5 #[.agg #[.int .u8 (t.kind : Int), .string x, .slice A' t.attrs.length c', .string u]] W fun e w' => e = .returned (.int .i64 q) ∧ Below W.heap.size W w') := Lib.hid fun A' c' W hr' hle => check9 t x u A' c' W ⟨htk.name, htk.text, hr', hle, htk.ns, htk.us, htk.al, htk.sz⟩ q hq
      have HRC : Hid (∀ W, Below w.heap.size w W → Calls Try.prog 6 #[.agg #[.int .u8 (t.kind : Int), .string x, .slice a1 t.attrs.length p1, .string u]] W fun e w' => e = .returned (.int .i64 q) ∧ Below W.heap.size W w') := Lib.hid fun W hW => rcheck9 t x u a1 p1 W (htk.on hW) q hq
      have qq : (q != q) = false := by simp
      have HCELL : Hid (∀ W, Below w.heap.size w W → W.cell? ⟨b0, off + L.length * 4, none⟩ = some (.int .u8 (t.kind : Int)) ∧ W.cell? ⟨b0, off + L.length * 4 + 1, none⟩ = some (.string x) ∧ W.cell? ⟨b0, off + L.length * 4 + 2, none⟩ = some (.slice a1 t.attrs.length p1) ∧ W.cell? ⟨b0, off + L.length * 4 + 3, none⟩ = some (.string u)) := Lib.hid fun W hW => ⟨(hW.cell hbB).trans c0w, (hW.cell hbB).trans c1w, (hW.cell hbB).trans c2w, (hW.cell hbB).trans c3w⟩
      obtain ⟨c0, c1, c2, c3⟩ := HCELL.out wr hbw
      have HRP : Hid (∀ W, Below w.heap.size w W → RdC PrC W W.heap.size a1 t.attrs) := Lib.hid fun W hW => (htk.on hW).attrs
      have HAL : Hid (t.attrs.length ≤ 1000000) := htk.al
      have HNIL := Lib.hid hnil
      have HNX := Lib.hid htk.name
      have HUX := Lib.hid htk.text
      have HKD := Lib.hid hkd
      have HBW0 := Lib.hid hbw
      have HBB := Lib.hid hbB
      have bk : (0 : Int) ≤ (L.length : Int) ∧ (L.length : Int) < (n : Int) := by omega
      subst hA
      clear hst ht htk hbw hmap hk1 hq c0w c1w c2w c3w hnil hkd hbB
      go_wp2_with (first
        | (refine wpList_store_row rfl _ _ _ rfl wr.heap.size #[.int .u8 (t.kind : Int), .string x, .slice a1 t.attrs.length p1, .string u] rfl rfl 26 zTk (heap_alloc_new _ _) sizeTk rfl (oneTk _ _ _ _) ?_; rw [World.setRow_alloc_new])
        | (at_builtin; refine wpList_append_pr rfl (.tmp 22) (.tmp 24) 24 rfl (wr.heap.size + 1) 37 j0 (.agg #[.string ⟨#[]⟩, .string ⟨#[]⟩]) Try.underlying24 HJ.out HY0.out HY1.out HY2.out rfl (.slice (some ⟨wr.heap.size + 1, 0, none⟩) 0 0) rfl (own_emptyB wr _ 37 2) _ a1 t.attrs.length p1 t.attrs rfl (HRP.out _ (HBW0.out.trans ((stpA (stpA (Below.refl _ _) _) _).mono HBW0.out.size))) rfl HNIL.out HAL.out (by simp) ?_; intro v3 w3 hown3 hgr3; obtain ⟨A3, c3', rfl⟩ := own_form2 hown3; have HO3 := Lib.hid hown3; have HW3 := Lib.hid (copy_box wr w3 _ _ hgr3); have k2 := cellV w3 _ 2 _ _ _ HW3.out.1; have f2 := freeV w3 _ 2 _ _ HW3.out.1; have HS3 := Lib.hid (copy_set wr w3 (t.kind : Int) x u _ (.slice A3 t.attrs.length c3') HW3.out.1 HW3.out.2); have HL3 := Lib.hid (HST.out.below HS3.out.2); clear hown3 hgr3)
        | (refine wpList_load_row rfl _ _ rfl wr.heap.size rfl 26 #[.int .u8 (t.kind : Int), .string x, .slice A3 t.attrs.length c3', .string u] (0, 0) _ HS3.out.1 Try.underlying26 rfl sizeTk ?_)
        | (at_builtin; refine wpList_append_own_at _ rfl (.tmp 27) (.tmp 29) 22 rfl w.heap.size 26 i0 (.agg #[.int .u8 0, .string ⟨#[]⟩, .slice none 0 0, .string ⟨#[]⟩]) 4 64 Try.underlying22 HI.out HZ0.out HZ1.out HZ2.out rfl (by decide) _ L.length _ rfl (HL3.out.below (stpA (Below.refl _ _) _)).1 ⟨w3.heap.size, 0, none⟩ 1 1 [.int .u8 (t.kind : Int), .string x, .slice A3 t.attrs.length c3', .string u] rfl rfl (new_at (w3.setCell ⟨wr.heap.size, 2, none⟩ (.slice A3 t.attrs.length c3')) [.int .u8 (t.kind : Int), .string x, .slice A3 t.attrs.length c3', .string u] 26 w3.heap.size (World.size_setCell _ _ _)) (tb_one _ _ _ _ _ _) (by unfold maxLen; omega) (by omega) (by have := HL3.out.2.2.size; simp at this ⊢; omega) ?_; intro v5 w5 hown5 hgr5 _ hlie; obtain ⟨A5, c5, rfl⟩ := own_form2 hown5; have HX5 := Lib.hid (copy_fin HST.out HBW0.out HO3.out HS3.out HNX.out HUX.out HKD.out hown5 hgr5 hlie); clear hown5 hgr5 hlie)
        | fail)
      have HB5 : Hid (Below w.heap.size w w5) := Lib.hid HX5.out.1.2.2
      have hS5 : wr.heap.size < w5.heap.size := (Array.getElem?_eq_some_iff.1 HX5.out.2.1).1
      have hBB5 : b0 < w5.heap.size := Nat.lt_of_lt_of_le HBB.out HB5.out.size
      have e0 : w5.cell? ⟨wr.heap.size, 0, none⟩ = some (.int .u8 (t.kind : Int)) := cellV w5 _ 0 _ _ _ HX5.out.2.1
      have e1 : w5.cell? ⟨wr.heap.size, 1, none⟩ = some (.string x) := cellV w5 _ 1 _ _ _ HX5.out.2.1
      have e2 : w5.cell? ⟨wr.heap.size, 2, none⟩ = some (.slice A3 t.attrs.length c3') := cellV w5 _ 2 _ _ _ HX5.out.2.1
      have e3 : w5.cell? ⟨wr.heap.size, 3, none⟩ = some (.string u) := cellV w5 _ 3 _ _ _ HX5.out.2.1
      obtain ⟨d0, d1, d2, d3⟩ := HCELL.out w5 HB5.out
      clear k2 f2 c0 c1 c2 c3
      go_region_held3 (fun w' => w'.cell? ⟨wr.heap.size, 0, none⟩ = some (.int .u8 (t.kind : Int)) ∧ w'.cell? ⟨wr.heap.size, 1, none⟩ = some (.string x) ∧ w'.cell? ⟨wr.heap.size, 2, none⟩ = some (.slice A3 t.attrs.length c3') ∧ w'.cell? ⟨wr.heap.size, 3, none⟩ = some (.string u) ∧ w'.cell? ⟨b0, off + L.length * 4, none⟩ = some (.int .u8 (t.kind : Int)) ∧ w'.cell? ⟨b0, off + L.length * 4 + 1, none⟩ = some (.string x) ∧ w'.cell? ⟨b0, off + L.length * 4 + 2, none⟩ = some (.slice a1 t.attrs.length p1) ∧ w'.cell? ⟨b0, off + L.length * 4 + 3, none⟩ = some (.string u))
        (first | go_keep | exact ⟨(hb6.cell hS5).trans e0, (hb6.cell hS5).trans e1, (hb6.cell hS5).trans e2, (hb6.cell hS5).trans e3, (hb6.cell hBB5).trans d0, (hb6.cell hBB5).trans d1, (hb6.cell hBB5).trans d2, (hb6.cell hBB5).trans d3⟩ | (have g := Nat.lt_of_lt_of_le hS5 hb6.size; have gb := Nat.lt_of_lt_of_le hBB5 hb6.size; exact ⟨(hb7.cell g).trans ((hb6.cell hS5).trans e0), (hb7.cell g).trans ((hb6.cell hS5).trans e1), (hb7.cell g).trans ((hb6.cell hS5).trans e2), (hb7.cell g).trans ((hb6.cell hS5).trans e3), (hb7.cell gb).trans ((hb6.cell hBB5).trans d0), (hb7.cell gb).trans ((hb6.cell hBB5).trans d1), (hb7.cell gb).trans ((hb6.cell hBB5).trans d2), (hb7.cell gb).trans ((hb6.cell hBB5).trans d3)⟩))
        ((first
          | (go_at_call 5; (with_reducible refine (HCK.out A3 c3' _ (HX5.out.2.2.1.on (Below.refl _ _).drew) HX5.out.2.2.2).mono ?_); rintro e6 w6 ⟨rfl, hb6⟩)
          | (go_at_call 6; (with_reducible refine (HRC.out _ (stp HB5.out.drew hb6)).mono ?_); rintro e7 w7 ⟨rfl, hb7⟩)))
      go_wp2_with fail
      go_roundg (gk - 1)
      case rel => exact ⟨L ++ [⟨x, A3, c3', u, t⟩], by simp; omega, by simp, by rw [List.map_append]; exact (HM2.out).trans (by simp), (HX5.out.1.below (Below.refl _ _).drew).below (stp hb6 hb7)⟩
      case measure => omega
    · obtain hLn : L.length = n := by omega
      have hall : L.map TB.t = l := by rw [hmap, hLn, ← HN.out]; exact List.take_length
      obtain ⟨r1, _, r3, r4, r5⟩ := RdC.of_own (C := TkC) tbCells TB.t (fun _ => rfl) (by decide) L (fun b hm => (hst.2.1 b hm).1) hst.1
      rw [hall] at r1
      have HRO := Lib.hid r1
      have HBW := Lib.hid hst.2.2
      subst hLn
      clear hst hmap r1 r3 r4 r5
      go_wp2_with (first
        | (go_at_call 7; (with_reducible refine (HJO.out Ao co _ (HRO.out)).mono ?_); rintro e6 w6 ⟨rfl, hb6⟩)
        | (go_at_call 8; (with_reducible refine (HRJ.out _ (stp HBW.out hb6)).mono ?_); rintro e7 w7 ⟨rfl, hb7⟩)
        | (go_at_call 9; (with_reducible refine (HSA.out Ao co _ (HRO.out.on (stp hb6 hb7)) (stp (stp HBW.out hb6) hb7)).mono ?_); rintro e8 w8 ⟨rfl, hb8⟩)
        | fail)
      go_ret
      exact ⟨rfl, stp (stp (stp HBW.out hb6) hb7) hb8⟩
theorem walk (a0 : Option Addr) (len0 cap0 : Nat) (l0 : List Tk) (w : World) (w0 : RdC TkC w w.heap.size a0 l0) (n0 : l0.length = len0) (c0 : len0 ≤ cap0) (m0 : cap0 ≤ maxLen) (z0 : a0 = none → cap0 = 0) :
    Calls Try.prog 3 #[.slice a0 len0 cap0] w fun e w' => e = .returned (.bool true) ∧ Below w.heap.size w w' := by
  have hmax : len0 ≤ 9223372036854775807 := by unfold maxLen at m0; omega
  cases hg : greatT 2000 l0 with
  | true => exact walkGreat a0 len0 cap0 l0 w w0 n0 hmax hg
  | false => exact walkIn a0 len0 cap0 l0 w w0 n0 hmax hg

set_option maxRecDepth 100000 in
theorem lifted (os : Os) (started : os.Started) (H : Type) (enc : TypeId × Value → H) :
    ReturnsInHanded {} Try.checked os 3 .any (Rows.lexWritesSpec.pre6 enc Try.prog Try.f3 Rows.lexWritesRow.domain false) (Rows.lexWritesSpec.post enc Try.prog Try.f3 false true false false) := by
  refine returnsInHanded_of_change (C := Try.checked) own started (by kernel_rfl) Try.func3
    (ChangeSpec.witness6 (enc := enc) (C := Try.checked) false ⟨#[], #[.slice none 0 0], []⟩ 8 (by kernel_rfl) (by kernel_rfl) (by kernel_rfl) (by kernel_rfl)) ?_
  intro W base args ds gs before hval0 hW hcnd _
  have hval : ∀ (j : Nat) t v, Try.f3.params[j]? = some t → args[j]? = some v → Value.okWide Try.prog W .any base t v := hval0
  have hW' := hW
  obtain ⟨p, q, hA0, hV, rfl, hfz, hnd⟩ := hW
  have hA : DataW.TrodAll enc Try.prog W 0 (fun _ => true) true Try.f3.params.toList args.toList ds p := hA0
  rw [Try.params3] at hA hval
  obtain ⟨v0, vs0, d0, ds0, p0, q0, hargs, rfl, rfl, h0, r0⟩ := trodAll_cons hA
  obtain ⟨rfl, rfl, rfl⟩ := trodAll_nil r0
  obtain rfl : args = #[v0] := by cases args; simp_all
  obtain ⟨rfl, rfl⟩ := trodVars_none hV
  obtain ⟨a0, len0, cap0, rfl⟩ := okWide_slice Try.underlying22 (hval 0 22 v0 rfl rfl)
  have k0 := h0
  have lt0 : ∀ x ∈ p0, x.block < W.heap.size := by obtain ⟨m, hm⟩ := k0; exact DataW.trod_lt m _ _ _ hm
  obtain ⟨l0, w0, n0, c0, m0, z0⟩ : ∃ l : List Tk, RdC TkC W W.heap.size a0 l ∧ l.length = len0 ∧ len0 ≤ cap0 ∧ cap0 ≤ maxLen ∧ (a0 = none → cap0 = 0) := by
    obtain ⟨fuel, hf⟩ := h0
    obtain ⟨l, A, c, e1, e2, e3, e4, e5⟩ := opens_tokens _ _ _ _ _ _ hf
    simp [Value.cells] at e1
    obtain ⟨rfl, rfl, rfl⟩ := e1
    exact ⟨l, e5, rfl, e2, e3, e4⟩
  clear hA0 hval0
  refine (walk a0 len0 cap0 l0 W w0 n0 c0 m0 z0).mono fun e W' ⟨he, bel⟩ => ?_
  subst he
  exact ⟨_, rfl, _, _, _, [], _, [], hW', trodAll_mk1 (shut_bool Try.underlying4 _), (trodAll_cons_mk (Below.trod laidOut (by kernel_rfl) (of_decide_eq_true (by kernel_rfl)) k0 bel lt0) trodAll_mk0), rfl, bel.frame _, fun h => by cases h⟩

theorem over : Rows.lexWritesRow.holds Try.pinned (OpenSpec.ofChange Rows.lexWritesSpec) :=
  OpenClaim.holds_of_wide 3 Try.f3 rfl rfl rfl rfl rfl rfl rfl ⟨rfl, rfl, rfl, rfl, rfl⟩ rfl rfl rfl rfl rfl (by kernel_rfl) Try.func3 (by kernel_rfl)
    (of_decide_eq_true (by kernel_rfl)) (by unfold Func.isWrapper; first | (rw [if_pos (by decide +kernel)]; kernel_rfl) | (rw [if_neg (by decide +kernel)]; exact ⟨rfl, rfl⟩))
    (fun os started H enc _ => lifted os started H enc)

theorem proved : Rows.LexWritesSaid := over
end Go.Proofs.Ytichboamakgabaa.lexWrites
