/-
  The contract of sha.all: all rounds.
-/
import Derived.Test.YtmjcmlaeajglmaaShaA
import Derived.Deep.LoopGhost
import Derived.WalkMore
import Derived.Deep.WholeRow
namespace Go.Proofs.Ytmjcmlaeajglmaa
open Go.RowKit
namespace Hx
open Wd Sh

theorem infoW1 : (Try.prog.info? 35) = some ((Try.prog.info? 35).get (by kernel_rfl)) ∧ ((Try.prog.info? 35).get (by kernel_rfl)).size = 1 := ⟨by kernel_rfl, by kernel_rfl⟩
theorem size70 : (Try.prog.info? 88).map (·.size) = some 12 := by kernel_rfl
theorem size56' : (Try.prog.info? 81).map (·.size) = some 80 := by kernel_rfl
theorem kinds4_one : kinds4.all (·.oneCell') = true := by simp [kinds4, Value.oneCell']
/-- What a round of kind j makes. -/
def stepJ (j : Nat) (x : W32) (u : S5) : W32 := trn u.a 5 + (if j = 0 then chs u.b u.c u.d else if j = 1 then odd u.b u.c u.d else if j = 2 then mst u.b u.c u.d else odd u.b u.c u.d) + u.e + (if j = 0 then 0x5a827999#32 else if j = 1 then 0x6ed9eba1#32 else if j = 2 then 0x8f1bbcdc#32 else 0xca62c1d6#32) + x
theorem rds_step (l : List W32) (s : S5) (t j : Nat) (h1 : 20 * j ≤ t) (h2 : t < 20 * (j + 1)) (hj : j ≤ 3) : rds l s (t + 1) = ⟨stepJ j (l.getD t 0) (rds l s t), (rds l s t).a, trn (rds l s t).b 30, (rds l s t).c, (rds l s t).d⟩ := by
  have e : rds l s (t + 1) = rnd t (l.getD t 0) (rds l s t) := rfl
  rw [e]
  unfold rnd stepJ ff kk
  rcases (show j = 0 ∨ j = 1 ∨ j = 2 ∨ j = 3 by omega) with rfl | rfl | rfl | rfl
  · simp [show t < 20 by omega]
  · simp [show ¬ t < 20 by omega, show t < 40 by omega]
  · simp [show ¬ t < 20 by omega, show ¬ t < 40 by omega, show t < 60 by omega]
  · simp [show ¬ t < 20 by omega, show ¬ t < 40 by omega, show ¬ t < 60 by omega]
def RoundTo (v : S5) (w : World) (e : Ending) (w' : World) : Prop := e = .returned (.agg (five v)) ∧ Below w.heap.size w w'
theorem round_0 (u : S5) (x : W32) (v : S5) (w : World) (h : (⟨stepJ 0 x u, u.a, trn u.b 30, u.c, u.d⟩ : S5) = v) :
    Calls Try.prog 56 #[.agg (five u), .agg #[.int .i64 20, .func (.func 65) #[] #[], .int .u32 1518500249], .int .u32 x.toNat] w (RoundTo v w) := by
  subst h
  exact round_chs u 20 0x5a827999#32 x _ w rfl
theorem round_1 (u : S5) (x : W32) (v : S5) (w : World) (h : (⟨stepJ 1 x u, u.a, trn u.b 30, u.c, u.d⟩ : S5) = v) :
    Calls Try.prog 56 #[.agg (five u), .agg #[.int .i64 40, .func (.func 59) #[] #[], .int .u32 1859775393], .int .u32 x.toNat] w (RoundTo v w) := by
  subst h
  exact round_odd u 40 0x6ed9eba1#32 x _ w rfl
theorem round_2 (u : S5) (x : W32) (v : S5) (w : World) (h : (⟨stepJ 2 x u, u.a, trn u.b 30, u.c, u.d⟩ : S5) = v) :
    Calls Try.prog 56 #[.agg (five u), .agg #[.int .i64 60, .func (.func 66) #[] #[], .int .u32 2400959708], .int .u32 x.toNat] w (RoundTo v w) := by
  subst h
  exact round_mst u 60 0x8f1bbcdc#32 x _ w rfl
theorem round_3 (u : S5) (x : W32) (v : S5) (w : World) (h : (⟨stepJ 3 x u, u.a, trn u.b 30, u.c, u.d⟩ : S5) = v) :
    Calls Try.prog 56 #[.agg (five u), .agg #[.int .i64 80, .func (.func 59) #[] #[], .int .u32 3395469782], .int .u32 x.toNat] w (RoundTo v w) := by
  subst h
  exact round_odd u 80 0xca62c1d6#32 x _ w rfl

set_option maxHeartbeats 8000000 in
set_option maxRecDepth 100000 in
theorem all_any (s : S5) (l : List W32) (w : World) (hl : l.length = 80) (r : S5) (hr : rds l s 80 = r) :
    Calls Try.prog 46 #[.agg (five s), .agg (l.map encW).toArray] w fun e w' => e = .returned (.agg (five r)) ∧ Below w.heap.size w w' := by
  have HLL := Lib.hid hl
  have HRR := Lib.hid hr
  clear hl hr
  obtain ⟨obj, hobj⟩ : ∃ obj, (l.map encW).toArray = obj := ⟨_, rfl⟩
  rw [hobj]
  have HOB := Lib.hid hobj
  have hosz : obj.size = 80 := by rw [← hobj]; simp [HLL.out]
  have HOZ := Lib.hid hosz
  clear hobj hosz
  go_enter Try.func46, Try.ntmps46
  go_wp2_with fail
  go_step3
  go_wp2_with fail
  obtain ⟨W1, hW1, hs1, h0, h1, h2, hb1⟩ := opn3n w (Obj.cells (five s) 36) (Obj.cells obj 81) (Obj.cells zero5 36)
  have hW1' := hW1
  unfold zero5 at hW1'
  rw [hW1']
  have H0 := Lib.hid h0
  have H1 := Lib.hid h1
  have H2 := Lib.hid h2
  have HS1 := Lib.hid hs1
  clear hW1 hW1' h0 h1 h2 hs1
  go_wp2_with (first
    | (go_at_call 55; (with_reducible refine (kinds_any W1).mono ?_); rintro e w2 ⟨rfl, hb2⟩)
    | (refine wpList_store_row rfl _ _ _ rfl w2.heap.size kinds4 rfl rfl 88 _ (heap_alloc_new _ _) size70 rfl kinds4_one ?_)
    | fail)
  rw [World.setRow_alloc_new]
  have hb2' := stp hb1 hb2
  have h03 : (w2.alloc (.cells kinds4 88)).heap[w.heap.size]? = some (.cells (five s) 36 (0, 0)) := heap_kept (heap_kept H0.out hb2) (stpA (Below.refl _ _) _)
  have h13 : (w2.alloc (.cells kinds4 88)).heap[w.heap.size + 1]? = some (.cells obj 81 (0, 0)) := heap_kept (heap_kept H1.out hb2) (stpA (Below.refl _ _) _)
  have h23 : (w2.alloc (.cells kinds4 88)).heap[w.heap.size + 1 + 1]? = some (.cells zero5 36 (0, 0)) := heap_kept (heap_kept H2.out hb2) (stpA (Below.refl _ _) _)
  have hk3 : (w2.alloc (.cells kinds4 88)).heap[w2.heap.size]? = some (.cells kinds4 88 (0, 0)) := heap_alloc_new _ _
  have hb3 : Below w.heap.size w (w2.alloc (.cells kinds4 88)) := stpA hb2' _
  have hBk : w.heap.size + 1 + 1 < w2.heap.size := by have := HS1.out; have := hb2.size; omega
  obtain ⟨W3, hW3⟩ : ∃ W3, w2.alloc (.cells kinds4 88) = W3 := ⟨_, rfl⟩
  rw [hW3] at h03 h13 h23 hk3 hb3 ⊢
  obtain ⟨B5, hB5⟩ : ∃ B5, w2.heap.size = B5 := ⟨_, rfl⟩
  rw [hB5] at hk3 hBk ⊢
  have H03 := Lib.hid h03
  have H13 := Lib.hid h13
  have H23 := Lib.hid h23
  have HK3 := Lib.hid hk3
  clear hW3 hB5 hb2' hb2 hb1 H0 H1 H2 HS1 h03 h13 h23 hk3
  go_step3
  go_wp2_with (first
    | (refine wpList_load_row rfl _ _ rfl (w.heap.size + 1) rfl 81 obj (0, 0) _ H13.out Try.underlying81 rfl (by rw [size56', HOZ.out]) ?_)
    | fail)
  go_loopg [12] 80 (fun g i wr => ∃ t : Nat, t + g = 80 ∧ i = .int .i64 t ∧ wr.heap[w.heap.size]? = some (.cells (five (rds l s t)) 36 (0, 0)) ∧ wr.heap[w.heap.size + 1 + 1]? = some (.cells zero5 36 (0, 0)) ∧ wr.heap[B5]? = some (.cells kinds4 88 (0, 0)) ∧ Below w.heap.size w wr)
  case atStart => exact ⟨0, rfl, rfl, H03.out, H23.out, HK3.out, hb3⟩
  case round =>
    obtain ⟨t, htg, rfl, hr0, hr2, hrk, hbw⟩ := hrel
    clear hb3
    have HR0 := Lib.hid hr0
    have HR2 := Lib.hid hr2
    have HRK := Lib.hid hrk
    clear hr0 hr2 hrk
    cases gk with
    | zero =>
      obtain rfl : t = 80 := by omega
      rw [HRR.out] at HR0
      clear htg
      go_wp2_with (first
        | (refine wpList_load_row rfl _ _ rfl w.heap.size rfl 36 (five (r)) (0, 0) _ HR0.out Try.underlying36 rfl size37 ?_)
        | (refine wpList_store_row rfl _ _ _ rfl (w.heap.size + 1 + 1) (five (r)) rfl rfl 36 zero5 HR2.out size37 rfl (five_one _) ?_)
        | fail)
      try rw [Exit.noGoto_ret]
      exact bodyPost_ret (v := .agg (five (r))) (results_cell_row rfl _ _ _ _ _ _ _ rfl (setRow_heap _ _ _ _ _ _ HR2.out) Try.underlying36 rfl size37) rfl ⟨rfl, below_setRow0 hbw (by omega) _⟩
    | succ g =>
      have hlt : t < 80 := by omega
      have hx : t < l.length := by rw [HLL.out]; exact hlt
      obtain ⟨x, hxx⟩ : ∃ x, l.getD t 0 = x := ⟨_, rfl⟩
      have ix : ∀ w, (Instr.index 81 (.agg obj) (.int .i64 t)).run Try.prog w = .ok (.int .u32 x.toNat) w := by
        intro w
        have := run_index_agg (enc := encW) Try.underlying81 Try.underlying35 infoW1.1 infoW1.2 l HLL.out .i64 t hx w
        rw [HOB.out] at this
        rw [this, ← hxx, List.getD_eq_getElem?_getD, List.getElem?_eq_getElem hx]
        rfl
      obtain ⟨u, hu⟩ : ∃ u, rds l s t = u := ⟨_, rfl⟩
      rw [hu] at HR0
      obtain ⟨v, hv⟩ : ∃ v, rds l s (t + 1) = v := ⟨_, rfl⟩
      have HV0 : ∀ j, 20 * j ≤ t → t < 20 * (j + 1) → j ≤ 3 → Hid (rds l s (t + 1) = v) := fun _ _ _ _ => hv
      have HV1 : ∀ j, 20 * j ≤ t → t < 20 * (j + 1) → j ≤ 3 → Hid ((⟨stepJ j x u, u.a, trn u.b 30, u.c, u.d⟩ : S5) = v) := fun j h1 h2 h3 => by
        have := rds_step l s t j h1 h2 h3
        rw [hv, hxx, hu] at this
        exact this.symm
      have HTG := Lib.hid htg
      have HG : Hid (g < g + 1) := Nat.lt_succ_self g
      have hlt80 : decide ((t : Int) < 80) = true := by simp; omega
      have KV0 := Lib.hid HV0
      have KV1 := Lib.hid HV1
      clear hv hu hxx HV0 HV1 hx htg
      go_wp2_with (first
        | (refine wpList_load_row rfl _ _ rfl B5 rfl 88 kinds4 (0, 0) _ HRK.out Try.underlying88 rfl size70 ?_)
        | fail)
      obtain ⟨wo, rfl⟩ : ∃ wo : World, wo = wr := ⟨_, rfl⟩
      go_loopg [17] 3 (fun g' i wr => ∃ j : Nat, j + g' = 3 ∧ i = .int .i64 j ∧ 20 * j ≤ t ∧ wr.heap[w.heap.size]? = some (.cells (five u) 36 (0, 0)) ∧ wr.heap[w.heap.size + 1 + 1]? = some (.cells zero5 36 (0, 0)) ∧ wr.heap[B5]? = some (.cells kinds4 88 (0, 0)) ∧ Below w.heap.size w wr)
      case atStart => exact ⟨0, rfl, rfl, by omega, HR0.out, HR2.out, HRK.out, hbw⟩
      case round =>
      obtain ⟨j, hjg, rfl, hjt, hx0, hx2, hxk, hbx⟩ := hrel
      have HX0 := Lib.hid hx0
      have HX2 := Lib.hid hx2
      have HXK := Lib.hid hxk
      have HV0 := KV0.out
      have HV1 := KV1.out
      clear hx0 hx2 hxk hbw HR0 HR2 HRK KV0 KV1
      rcases (show j = 0 ∨ j = 1 ∨ j = 2 ∨ j = 3 by omega) with rfl | rfl | rfl | rfl
      · as_aux_lemma =>
        have ixk : ∀ w, (Instr.index 88 (.agg kinds4) (.int .i64 0)).run Try.prog w = .ok (.agg #[.int .i64 20, .func (.func 65) #[] #[], .int .u32 1518500249]) w := fun _ => by kernel_rfl
        by_cases htj : t < 20
        · have htl : decide ((t : Int) < 20) = true := by simp; omega
          have HN := HV0 0 (by omega) (by omega) (by omega)
          have HV := HV1 0 (by omega) (by omega) (by omega)
          clear HV0 HV1
          go_wp2_with (first
            | (refine wpList_load_row rfl _ _ rfl w.heap.size rfl 36 (five u) (0, 0) _ (heap_kept HX0.out (stpA (Below.refl _ _) _)) Try.underlying36 rfl size37 ?_)
            | (go_at_call 56; (with_reducible refine (round_0 u x v _ HV.out).mono ?_); rintro e w5 ⟨rfl, hb5⟩; have HB5 := Lib.hid (stp (stpA (Below.refl _ _) _) hb5); clear hb5)
            | (refine wpList_store_row rfl _ _ _ rfl w.heap.size (five v) rfl rfl 36 (five u) (heap_kept HX0.out HB5.out) size37 rfl (five_one _) ?_)
            | fail)
          have r0 : (w5.setRow w.heap.size (five v)).heap[w.heap.size]? = some (.cells (five (rds l s (t + 1))) 36 (0, 0)) := by rw [HN.out]; exact setRow_heap _ _ _ _ _ _ (heap_kept HX0.out HB5.out)
          have r2 : (w5.setRow w.heap.size (five v)).heap[w.heap.size + 1 + 1]? = some (.cells zero5 36 (0, 0)) := (setRow_other _ _ _ _ (by omega)).trans (heap_kept HX2.out HB5.out)
          have rk : (w5.setRow w.heap.size (five v)).heap[B5]? = some (.cells kinds4 88 (0, 0)) := (setRow_other _ _ _ _ (by omega)).trans (heap_kept HXK.out HB5.out)
          have rb : Below w.heap.size w (w5.setRow w.heap.size (five v)) := below_setRow0 (hbx.trans (HB5.out.mono hbx.size)) (Nat.le_refl _) _
          have R0 := Lib.hid r0
          have R2 := Lib.hid r2
          have RK := Lib.hid rk
          have RB := Lib.hid rb
          clear r0 r2 rk rb
          go_wp2_with fail
          go_roundg g
          case measure => exact HG.out
          case rel => exact ⟨t + 1, by have := HTG.out; omega, by go_num, R0.out, R2.out, RK.out, RB.out⟩
        · have htl : decide ((t : Int) < 20) = false := by simp; omega
          clear HV0 HV1
          obtain ⟨g3, rfl⟩ : ∃ g3, gk = g3 + 1 := ⟨gk - 1, by omega⟩
          have HA : ∀ o, Hid ((wr.alloc o).heap[w.heap.size]? = some (.cells (five u) 36 (0, 0))) ∧ Hid ((wr.alloc o).heap[w.heap.size + 1 + 1]? = some (.cells zero5 36 (0, 0))) ∧ Hid ((wr.alloc o).heap[B5]? = some (.cells kinds4 88 (0, 0))) ∧ Hid (Below w.heap.size w (wr.alloc o)) := fun o =>
            ⟨heap_kept HX0.out (stpA (Below.refl _ _) o), heap_kept HX2.out (stpA (Below.refl _ _) o), heap_kept HXK.out (stpA (Below.refl _ _) o), stpA hbx o⟩
          have HHA := Lib.hid HA
          have HJG := Lib.hid hjg
          have HG2 : Hid (g3 < g3 + 1) := Nat.lt_succ_self g3
          clear HA hjg
          go_wp2_with fail
          go_roundg g3
          case measure => exact HG2.out
          case rel => exact ⟨1, by have := HJG.out; omega, rfl, by omega, (HHA.out _).1, (HHA.out _).2.1, (HHA.out _).2.2.1, (HHA.out _).2.2.2⟩
      · as_aux_lemma =>
        have ixk : ∀ w, (Instr.index 88 (.agg kinds4) (.int .i64 1)).run Try.prog w = .ok (.agg #[.int .i64 40, .func (.func 59) #[] #[], .int .u32 1859775393]) w := fun _ => by kernel_rfl
        by_cases htj : t < 40
        · have htl : decide ((t : Int) < 40) = true := by simp; omega
          have HN := HV0 1 (by omega) (by omega) (by omega)
          have HV := HV1 1 (by omega) (by omega) (by omega)
          clear HV0 HV1
          go_wp2_with (first
            | (refine wpList_load_row rfl _ _ rfl w.heap.size rfl 36 (five u) (0, 0) _ (heap_kept HX0.out (stpA (Below.refl _ _) _)) Try.underlying36 rfl size37 ?_)
            | (go_at_call 56; (with_reducible refine (round_1 u x v _ HV.out).mono ?_); rintro e w5 ⟨rfl, hb5⟩; have HB5 := Lib.hid (stp (stpA (Below.refl _ _) _) hb5); clear hb5)
            | (refine wpList_store_row rfl _ _ _ rfl w.heap.size (five v) rfl rfl 36 (five u) (heap_kept HX0.out HB5.out) size37 rfl (five_one _) ?_)
            | fail)
          have r0 : (w5.setRow w.heap.size (five v)).heap[w.heap.size]? = some (.cells (five (rds l s (t + 1))) 36 (0, 0)) := by rw [HN.out]; exact setRow_heap _ _ _ _ _ _ (heap_kept HX0.out HB5.out)
          have r2 : (w5.setRow w.heap.size (five v)).heap[w.heap.size + 1 + 1]? = some (.cells zero5 36 (0, 0)) := (setRow_other _ _ _ _ (by omega)).trans (heap_kept HX2.out HB5.out)
          have rk : (w5.setRow w.heap.size (five v)).heap[B5]? = some (.cells kinds4 88 (0, 0)) := (setRow_other _ _ _ _ (by omega)).trans (heap_kept HXK.out HB5.out)
          have rb : Below w.heap.size w (w5.setRow w.heap.size (five v)) := below_setRow0 (hbx.trans (HB5.out.mono hbx.size)) (Nat.le_refl _) _
          have R0 := Lib.hid r0
          have R2 := Lib.hid r2
          have RK := Lib.hid rk
          have RB := Lib.hid rb
          clear r0 r2 rk rb
          go_wp2_with fail
          go_roundg g
          case measure => exact HG.out
          case rel => exact ⟨t + 1, by have := HTG.out; omega, by go_num, R0.out, R2.out, RK.out, RB.out⟩
        · have htl : decide ((t : Int) < 40) = false := by simp; omega
          clear HV0 HV1
          obtain ⟨g3, rfl⟩ : ∃ g3, gk = g3 + 1 := ⟨gk - 1, by omega⟩
          have HA : ∀ o, Hid ((wr.alloc o).heap[w.heap.size]? = some (.cells (five u) 36 (0, 0))) ∧ Hid ((wr.alloc o).heap[w.heap.size + 1 + 1]? = some (.cells zero5 36 (0, 0))) ∧ Hid ((wr.alloc o).heap[B5]? = some (.cells kinds4 88 (0, 0))) ∧ Hid (Below w.heap.size w (wr.alloc o)) := fun o =>
            ⟨heap_kept HX0.out (stpA (Below.refl _ _) o), heap_kept HX2.out (stpA (Below.refl _ _) o), heap_kept HXK.out (stpA (Below.refl _ _) o), stpA hbx o⟩
          have HHA := Lib.hid HA
          have HJG := Lib.hid hjg
          have HG2 : Hid (g3 < g3 + 1) := Nat.lt_succ_self g3
          clear HA hjg
          go_wp2_with fail
          go_roundg g3
          case measure => exact HG2.out
          case rel => exact ⟨2, by have := HJG.out; omega, rfl, by omega, (HHA.out _).1, (HHA.out _).2.1, (HHA.out _).2.2.1, (HHA.out _).2.2.2⟩
      · as_aux_lemma =>
        have ixk : ∀ w, (Instr.index 88 (.agg kinds4) (.int .i64 2)).run Try.prog w = .ok (.agg #[.int .i64 60, .func (.func 66) #[] #[], .int .u32 2400959708]) w := fun _ => by kernel_rfl
        by_cases htj : t < 60
        · have htl : decide ((t : Int) < 60) = true := by simp; omega
          have HN := HV0 2 (by omega) (by omega) (by omega)
          have HV := HV1 2 (by omega) (by omega) (by omega)
          clear HV0 HV1
          go_wp2_with (first
            | (refine wpList_load_row rfl _ _ rfl w.heap.size rfl 36 (five u) (0, 0) _ (heap_kept HX0.out (stpA (Below.refl _ _) _)) Try.underlying36 rfl size37 ?_)
            | (go_at_call 56; (with_reducible refine (round_2 u x v _ HV.out).mono ?_); rintro e w5 ⟨rfl, hb5⟩; have HB5 := Lib.hid (stp (stpA (Below.refl _ _) _) hb5); clear hb5)
            | (refine wpList_store_row rfl _ _ _ rfl w.heap.size (five v) rfl rfl 36 (five u) (heap_kept HX0.out HB5.out) size37 rfl (five_one _) ?_)
            | fail)
          have r0 : (w5.setRow w.heap.size (five v)).heap[w.heap.size]? = some (.cells (five (rds l s (t + 1))) 36 (0, 0)) := by rw [HN.out]; exact setRow_heap _ _ _ _ _ _ (heap_kept HX0.out HB5.out)
          have r2 : (w5.setRow w.heap.size (five v)).heap[w.heap.size + 1 + 1]? = some (.cells zero5 36 (0, 0)) := (setRow_other _ _ _ _ (by omega)).trans (heap_kept HX2.out HB5.out)
          have rk : (w5.setRow w.heap.size (five v)).heap[B5]? = some (.cells kinds4 88 (0, 0)) := (setRow_other _ _ _ _ (by omega)).trans (heap_kept HXK.out HB5.out)
          have rb : Below w.heap.size w (w5.setRow w.heap.size (five v)) := below_setRow0 (hbx.trans (HB5.out.mono hbx.size)) (Nat.le_refl _) _
          have R0 := Lib.hid r0
          have R2 := Lib.hid r2
          have RK := Lib.hid rk
          have RB := Lib.hid rb
          clear r0 r2 rk rb
          go_wp2_with fail
          go_roundg g
          case measure => exact HG.out
          case rel => exact ⟨t + 1, by have := HTG.out; omega, by go_num, R0.out, R2.out, RK.out, RB.out⟩
        · have htl : decide ((t : Int) < 60) = false := by simp; omega
          clear HV0 HV1
          obtain ⟨g3, rfl⟩ : ∃ g3, gk = g3 + 1 := ⟨gk - 1, by omega⟩
          have HA : ∀ o, Hid ((wr.alloc o).heap[w.heap.size]? = some (.cells (five u) 36 (0, 0))) ∧ Hid ((wr.alloc o).heap[w.heap.size + 1 + 1]? = some (.cells zero5 36 (0, 0))) ∧ Hid ((wr.alloc o).heap[B5]? = some (.cells kinds4 88 (0, 0))) ∧ Hid (Below w.heap.size w (wr.alloc o)) := fun o =>
            ⟨heap_kept HX0.out (stpA (Below.refl _ _) o), heap_kept HX2.out (stpA (Below.refl _ _) o), heap_kept HXK.out (stpA (Below.refl _ _) o), stpA hbx o⟩
          have HHA := Lib.hid HA
          have HJG := Lib.hid hjg
          have HG2 : Hid (g3 < g3 + 1) := Nat.lt_succ_self g3
          clear HA hjg
          go_wp2_with fail
          go_roundg g3
          case measure => exact HG2.out
          case rel => exact ⟨3, by have := HJG.out; omega, rfl, by omega, (HHA.out _).1, (HHA.out _).2.1, (HHA.out _).2.2.1, (HHA.out _).2.2.2⟩
      · as_aux_lemma =>
        have ixk : ∀ w, (Instr.index 88 (.agg kinds4) (.int .i64 3)).run Try.prog w = .ok (.agg #[.int .i64 80, .func (.func 59) #[] #[], .int .u32 3395469782]) w := fun _ => by kernel_rfl
        have HN := HV0 3 (by omega) (by omega) (by omega)
        have HV := HV1 3 (by omega) (by omega) (by omega)
        clear HV0 HV1
        go_wp2_with (first
          | (refine wpList_load_row rfl _ _ rfl w.heap.size rfl 36 (five u) (0, 0) _ (heap_kept HX0.out (stpA (Below.refl _ _) _)) Try.underlying36 rfl size37 ?_)
          | (go_at_call 56; (with_reducible refine (round_3 u x v _ HV.out).mono ?_); rintro e w5 ⟨rfl, hb5⟩; have HB5 := Lib.hid (stp (stpA (Below.refl _ _) _) hb5); clear hb5)
          | (refine wpList_store_row rfl _ _ _ rfl w.heap.size (five v) rfl rfl 36 (five u) (heap_kept HX0.out HB5.out) size37 rfl (five_one _) ?_)
          | fail)
        have r0 : (w5.setRow w.heap.size (five v)).heap[w.heap.size]? = some (.cells (five (rds l s (t + 1))) 36 (0, 0)) := by rw [HN.out]; exact setRow_heap _ _ _ _ _ _ (heap_kept HX0.out HB5.out)
        have r2 : (w5.setRow w.heap.size (five v)).heap[w.heap.size + 1 + 1]? = some (.cells zero5 36 (0, 0)) := (setRow_other _ _ _ _ (by omega)).trans (heap_kept HX2.out HB5.out)
        have rk : (w5.setRow w.heap.size (five v)).heap[B5]? = some (.cells kinds4 88 (0, 0)) := (setRow_other _ _ _ _ (by omega)).trans (heap_kept HXK.out HB5.out)
        have rb : Below w.heap.size w (w5.setRow w.heap.size (five v)) := below_setRow0 (hbx.trans (HB5.out.mono hbx.size)) (Nat.le_refl _) _
        have R0 := Lib.hid r0
        have R2 := Lib.hid r2
        have RK := Lib.hid rk
        have RB := Lib.hid rb
        clear r0 r2 rk rb
        go_wp2_with fail
        go_roundg g
        case measure => exact HG.out
        case rel => exact ⟨t + 1, by have := HTG.out; omega, by go_num, R0.out, R2.out, RK.out, RB.out⟩
end Hx
end Go.Proofs.Ytmjcmlaeajglmaa
