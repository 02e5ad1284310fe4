/-
  The contract of the document's own answer for a block (tidewaiterref03.Block).
-/
import Derived.Test.YtmjcmlaeajglmaaShaT
import Derived.Deep.RegionWith
import Derived.Deep.CutBlock
import Derived.Deep.DeepCutAuto
import Derived.Deep.RegionLaw
namespace Go.Proofs.Ytmjcmlaeajglmaa
open Go.RowKit
namespace Hx
open Wd Sh
attribute [local go_sem ↓] Go.wp_at_zero Go.wp_at_succ

theorem five_cellsU {W : World} {g : Nat} {t : TypeId} {v : S5} (h : W.heap[g]? = some (.cells (five v) t (0, 0))) :
    (W.cell? ⟨g, 0, none⟩ = some (.int .u32 v.a.toNat) ∧ W.cell? ⟨g, 1, none⟩ = some (.int .u32 v.b.toNat) ∧ W.cell? ⟨g, 2, none⟩ = some (.int .u32 v.c.toNat) ∧ W.cell? ⟨g, 3, none⟩ = some (.int .u32 v.d.toNat) ∧ W.cell? ⟨g, 4, none⟩ = some (.int .u32 v.e.toNat)) ∧
    (W.frozen? ⟨g, 0, none⟩ = false ∧ W.frozen? ⟨g, 1, none⟩ = false ∧ W.frozen? ⟨g, 2, none⟩ = false ∧ W.frozen? ⟨g, 3, none⟩ = false ∧ W.frozen? ⟨g, 4, none⟩ = false) :=
  ⟨⟨cell_of_row W g 0 _ _ _ h, cell_of_row W g 1 _ _ _ h, cell_of_row W g 2 _ _ _ h, cell_of_row W g 3 _ _ _ h, cell_of_row W g 4 _ _ _ h⟩, frozen_of_row W g _ _ _ h, frozen_of_row W g _ _ _ h, frozen_of_row W g _ _ _ h, frozen_of_row W g _ _ _ h, frozen_of_row W g _ _ _ h⟩
theorem five_put {W : World} {g : Nat} {t : TypeId} {o0 o1 o2 o3 o4 : Value} (h : W.heap[g]? = some (.cells #[o0, o1, o2, o3, o4] t (0, 0))) (v : S5) :
    (((((W.setCell ⟨g, 0, none⟩ (.int .u32 v.a.toNat)).setCell ⟨g, 1, none⟩ (.int .u32 v.b.toNat)).setCell ⟨g, 2, none⟩ (.int .u32 v.c.toNat)).setCell ⟨g, 3, none⟩ (.int .u32 v.d.toNat)).setCell ⟨g, 4, none⟩ (.int .u32 v.e.toNat)).heap[g]? = some (.cells (five v) t (0, 0)) := by
  have h0 := heap_setCell_same W g 0 _ t (.int .u32 v.a.toNat) h
  have h1 := heap_setCell_same _ g 1 _ t (.int .u32 v.b.toNat) h0
  have h2 := heap_setCell_same _ g 2 _ t (.int .u32 v.c.toNat) h1
  have h3 := heap_setCell_same _ g 3 _ t (.int .u32 v.d.toNat) h2
  have h4 := heap_setCell_same _ g 4 _ t (.int .u32 v.e.toNat) h3
  rw [h4]
  rfl
theorem five_far (W : World) (g k : Nat) (v : S5) (h : k ≠ g) : (((((W.setCell ⟨g, 0, none⟩ (.int .u32 v.a.toNat)).setCell ⟨g, 1, none⟩ (.int .u32 v.b.toNat)).setCell ⟨g, 2, none⟩ (.int .u32 v.c.toNat)).setCell ⟨g, 3, none⟩ (.int .u32 v.d.toNat)).setCell ⟨g, 4, none⟩ (.int .u32 v.e.toNat)).heap[k]? = W.heap[k]? := by
  rw [heap_setCell_other _ _ _ _ h, heap_setCell_other _ _ _ _ h, heap_setCell_other _ _ _ _ h, heap_setCell_other _ _ _ _ h, heap_setCell_other _ _ _ _ h]
theorem five_below {W : World} {B : Nat} {w0 : World} (g : Nat) (v : S5) (hb : Below B w0 W) (hg : B ≤ g) : Below B w0 (((((W.setCell ⟨g, 0, none⟩ (.int .u32 v.a.toNat)).setCell ⟨g, 1, none⟩ (.int .u32 v.b.toNat)).setCell ⟨g, 2, none⟩ (.int .u32 v.c.toNat)).setCell ⟨g, 3, none⟩ (.int .u32 v.d.toNat)).setCell ⟨g, 4, none⟩ (.int .u32 v.e.toNat)) :=
  ((((hb.setCell (by simpa using hg) _).setCell (by simpa using hg) _).setCell (by simpa using hg) _).setCell (by simpa using hg) _).setCell (by simpa using hg) _
theorem rschedule_cs (b : List UInt8) (cs : List Value) (w : World) (hb : b.length = 64) (hcs : b.map encB = cs) (sc : List W32) (hsc : sch (wordL b) 64 = sc) :
    Calls Try.prog 60 #[.agg cs.toArray] w fun e w' => e = .returned (.agg (sc.map encW).toArray) ∧ Below w.heap.size w w' := by
  subst hcs hsc
  exact rschedule_any b w hb
theorem rround_v (s : S5) (t : Nat) (x : W32) (v : S5) (w : World) (ht : t < 80) (hv : rnd t x s = v) :
    Calls Try.prog 61 #[.agg (five s), .int .i64 t, .int .u32 x.toNat] w (RoundTo v w) := by
  subst hv
  exact rround_any s t x _ w ht rfl
theorem rsum2_any (a b v : W32) (w : World) (h : a + b = v) :
    Calls Try.prog 62 #[.slice (some ⟨w.heap.size, 0, none⟩) 2 2] (w.alloc (.cells #[.int .u32 a.toNat, .int .u32 b.toNat] 35)).drew fun e' w' => e' = .returned (.int .u32 (v.toNat : Nat)) ∧ (w.alloc (.cells #[.int .u32 a.toNat, .int .u32 b.toNat] 35)).drew = w' := by
  subst h
  have := rsum_any (some ⟨w.heap.size, 0, none⟩) 2 2 [a, b] (w.alloc (.cells #[.int .u32 a.toNat, .int .u32 b.toNat] 35)).drew (show RdW (w.alloc (.cells ([a, b].map encW).toArray 35)).drew (w.alloc (.cells ([a, b].map encW).toArray 35)).drew.heap.size (some ⟨w.heap.size, 0, none⟩) [a, b] from RdG.newS w 35 [a, b]) rfl (by decide)
  rw [sm2] at this
  exact this
theorem size38 : (Try.prog.info? 64).map (·.size) = some 64 := by kernel_rfl

set_option maxHeartbeats 16000000 in
set_option maxRecDepth 100000 in
theorem rblock_any (h : S5) (b : List UInt8) (w : World) (hb : b.length = 64) (r : S5) (hr : blk h b = r) :
    Calls Try.prog 50 #[.agg (five h), .agg (b.map encB).toArray] w fun e w' => e = .returned (.agg (five r)) ∧ Below w.heap.size w w' := by
  have HBL := Lib.hid hb
  have HRR := Lib.hid hr
  clear hb hr
  obtain ⟨cs, hcs⟩ : ∃ cs, b.map encB = cs := ⟨_, rfl⟩
  rw [hcs]
  have HCS := Lib.hid hcs
  have hcl : cs.length = 64 := by rw [← hcs]; simp [HBL.out]
  have HCL := Lib.hid hcl
  clear hcs hcl
  obtain ⟨m, hm⟩ : ∃ m, rds (sch (wordL b) 64) h 80 = m := ⟨_, rfl⟩
  obtain ⟨sc, hsc⟩ : ∃ sc, sch (wordL b) 64 = sc := ⟨_, rfl⟩
  rw [hsc] at hm
  have hscl : sc.length = 80 := by rw [← hsc, sch_length, wordL_length, HBL.out]
  have HM := Lib.hid hm
  have HSC := Lib.hid hsc
  have HSL := Lib.hid hscl
  have hrr : h.add m = r := by rw [← HRR.out, blk, hsc, hm]
  have HR := Lib.hid hrr
  have hz56 := zero_56
  clear hm hsc hscl hrr HRR
  go_enter Try.func50, Try.ntmps50
  go_upto_region 1 with fail
  obtain ⟨W1, hW1, hs1, h0, h1, h2, hb1⟩ := opn3n w (Obj.cells (five h) 36) (Obj.cells cs.toArray 64) (Obj.cells zero5 36)
  have hW1' := hW1
  unfold zero5 at hW1'
  rw [hW1']
  have H0 := Lib.hid h0
  have H1 := Lib.hid h1
  have H2 := Lib.hid h2
  have HS1 := Lib.hid hs1
  clear hW1 hW1' hs1 h0 h1 h2
  go_wp2_with (first
    | (refine wpList_load_row rfl _ _ rfl (w.heap.size + 1) rfl 64 cs.toArray (0, 0) _ H1.out Try.underlying64 rfl (by rw [size38]; simp [HCL.out]) ?_)
    | (go_at_call 60; (with_reducible refine (rschedule_cs b cs W1 HBL.out HCS.out sc HSC.out).mono ?_); rintro e w2 ⟨rfl, hb2⟩)
    | (refine wpList_store_row rfl _ _ _ rfl w2.heap.size (sc.map encW).toArray rfl rfl 81 zero80 (heap_alloc_new _ _) (by rw [size56]; simp [HSL.out]) (by simp [zero80, HSL.out]) (map_one encW_one _) ?_)
    | (refine wpList_load_row rfl _ _ rfl w.heap.size rfl 36 (five h) (0, 0) _ ((setRow_other _ _ _ _ (by have := hb2.size; have := HS1.out; omega)).trans (heap_kept (heap_kept H0.out hb2) (stpA (Below.refl _ _) _))) Try.underlying36 rfl size37 ?_)
    | fail)
  rw [World.setRow_alloc_new]
  have hb2' := stp hb1 hb2
  have k1 : Below w2.heap.size w2 ((w2.alloc (.cells (sc.map encW).toArray 81)).alloc (Obj.cells #[.int .u32 h.a.toNat, .int .u32 h.b.toNat, .int .u32 h.c.toNat, .int .u32 h.d.toNat, .int .u32 h.e.toNat] 36)) := stpA (stpA (Below.refl _ _) _) _
  have e0 := heap_kept (heap_kept H0.out hb2) k1
  have e2 := heap_kept (heap_kept H2.out hb2) k1
  have e5 : ((w2.alloc (.cells (sc.map encW).toArray 81)).alloc (Obj.cells #[.int .u32 h.a.toNat, .int .u32 h.b.toNat, .int .u32 h.c.toNat, .int .u32 h.d.toNat, .int .u32 h.e.toNat] 36)).heap[w2.heap.size]? = some (.cells (sc.map encW).toArray 81 (0, 0)) := heap_kept (heap_alloc_new _ _) (stpA (Below.refl _ _) _)
  have e6 : ((w2.alloc (.cells (sc.map encW).toArray 81)).alloc (Obj.cells #[.int .u32 h.a.toNat, .int .u32 h.b.toNat, .int .u32 h.c.toNat, .int .u32 h.d.toNat, .int .u32 h.e.toNat] 36)).heap[w2.heap.size + 1]? = some (.cells (five h) 36 (0, 0)) := by
    have := heap_alloc_new (w2.alloc (.cells (sc.map encW).toArray 81)) (Obj.cells #[.int .u32 h.a.toNat, .int .u32 h.b.toNat, .int .u32 h.c.toNat, .int .u32 h.d.toNat, .int .u32 h.e.toNat] 36)
    simpa using this
  have eb := stp hb2' k1
  have ebs : w.heap.size + 1 + 1 < w2.heap.size := by have := HS1.out; have := hb2.size; omega
  obtain ⟨W4, hW4⟩ : ∃ W4, ((w2.alloc (.cells (sc.map encW).toArray 81)).alloc (Obj.cells #[.int .u32 h.a.toNat, .int .u32 h.b.toNat, .int .u32 h.c.toNat, .int .u32 h.d.toNat, .int .u32 h.e.toNat] 36)) = W4 := ⟨_, rfl⟩
  rw [hW4] at e0 e2 e5 e6 eb ⊢
  obtain ⟨B5, hB5⟩ : ∃ B5, w2.heap.size = B5 := ⟨_, rfl⟩
  rw [hB5] at e5 e6 ebs ⊢
  have E0 := Lib.hid e0
  have E2 := Lib.hid e2
  have E5 := Lib.hid e5
  have E6 := Lib.hid e6
  clear hW4 hB5 hb2' hb2 k1 e0 e2 e5 e6 H0 H1 H2 HS1 hb1
  go_loopg [7] 80 (fun g i wr => ∃ t : Nat, t + g = 80 ∧ i = .int .i64 t ∧ wr.heap[B5 + 1]? = some (.cells (five (rds sc h t)) 36 (0, 0)) ∧ wr.heap[B5]? = some (.cells (sc.map encW).toArray 81 (0, 0)) ∧ wr.heap[w.heap.size]? = some (.cells (five h) 36 (0, 0)) ∧ wr.heap[w.heap.size + 1 + 1]? = some (.cells zero5 36 (0, 0)) ∧ Below w.heap.size w wr)
  case atStart => exact ⟨0, rfl, rfl, E6.out, E5.out, E0.out, E2.out, eb⟩
  case round =>
    obtain ⟨t, htg, rfl, hr6, hr5, hr0, hr2, hbw⟩ := hrel
    have HR6 := Lib.hid hr6
    have HR5 := Lib.hid hr5
    have HR0 := Lib.hid hr0
    have HR2 := Lib.hid hr2
    clear hr6 hr5 hr0 hr2 E0 E2 E5 E6 eb
    cases gk with
    | zero =>
      as_aux_lemma =>
      obtain rfl : t = 80 := by omega
      rw [HM.out] at HR6
      clear htg
      obtain ⟨ra, rb, rc, rd, re⟩ := r
      obtain ⟨ha, hb, hc, hd, he⟩ := h
      obtain ⟨ma, mb, mc, md, me⟩ := m
      have hrr := HR.out
      simp only [S5.add, S5.mk.injEq] at hrr
      obtain ⟨ea, eb, ec, ed, ee⟩ := hrr
      have EA : Hid (ma + ha = ra) := by rw [← ea]; exact BitVec.add_comm _ _
      have EB : Hid (mb + hb = rb) := by rw [← eb]; exact BitVec.add_comm _ _
      have EC : Hid (mc + hc = rc) := by rw [← ec]; exact BitVec.add_comm _ _
      have ED : Hid (md + hd = rd) := by rw [← ed]; exact BitVec.add_comm _ _
      have EE : Hid (me + he = re) := by rw [← ee]; exact BitVec.add_comm _ _
      clear ea eb ec ed ee HR HM HR5
      go_wp2_with fail
      obtain ⟨wo, rfl⟩ : ∃ wo : World, wo = wr := ⟨_, rfl⟩
      go_loopg [8] 5 (fun g i wr => ∃ k : Nat, k + g = 5 ∧ i = .int .i64 k ∧ wr.heap[B5 + 1]? = some (.cells (five (mx ⟨ra, rb, rc, rd, re⟩ ⟨ma, mb, mc, md, me⟩ k)) 36 (0, 0)) ∧ wr.heap[w.heap.size]? = some (.cells (five ⟨ha, hb, hc, hd, he⟩) 36 (0, 0)) ∧ wr.heap[w.heap.size + 1 + 1]? = some (.cells zero5 36 (0, 0)) ∧ Below w.heap.size w wr)
      case atStart => exact ⟨0, rfl, rfl, HR6.out, HR0.out, HR2.out, hbw⟩
      case round =>
      obtain ⟨k, hkg, rfl, g5, g0, g2, hbx⟩ := hrel
      have HG5 := Lib.hid g5
      have HG0 := Lib.hid g0
      have HG2 := Lib.hid g2
      clear g5 g0 g2 hbw HR6 HR0 HR2
      rcases (show k = 0 ∨ k = 1 ∨ k = 2 ∨ k = 3 ∨ k = 4 ∨ k = 5 by omega) with rfl | rfl | rfl | rfl | rfl | rfl
      · as_aux_lemma =>
        obtain rfl : gk = 5 := by omega
        have hrow : wr.heap[B5 + 1]? = some (.cells (five ⟨ma, mb, mc, md, me⟩) 36 (0, 0)) := HG5.out
        have hcell : wr.cell? ⟨B5 + 1, 0, none⟩ = some (.int .u32 ma.toNat) := cell_of_row wr (B5 + 1) 0 _ _ _ hrow
        have hcel0 : wr.cell? ⟨w.heap.size, 0, none⟩ = some (.int .u32 ha.toNat) := cell_of_row wr w.heap.size 0 _ _ _ HG0.out
        have hfree : wr.frozen? ⟨B5 + 1, 0, none⟩ = false := frozen_of_row wr (B5 + 1) 0 _ _ hrow
        have hltB := heap_lt hrow
        have hlt0 := heap_lt HG0.out
        have HROW := Lib.hid hrow
        clear hrow hkg
        go_wp2_with fail
        go_region_with (go_at_call 62; (with_reducible refine (rsum2_any ma ha ra wr EA.out).mono ?_); rintro e w' ⟨rfl, rfl⟩)
        all_goals
          have nrow : Hid ((((wr.setCell ⟨B5 + 1, 0, none⟩ (.int .u32 ra.toNat)).alloc (.cells #[.int .u32 ma.toNat, .int .u32 ha.toNat] 35)).drew).heap[B5 + 1]? = some (.cells (five (mx ⟨ra, rb, rc, rd, re⟩ ⟨ma, mb, mc, md, me⟩ 1)) 36 (0, 0))) := heap_kept (heap_setCell_same _ _ _ _ _ _ HROW.out) (stpA (Below.refl _ _) _).drew
          have nro0 : Hid ((((wr.setCell ⟨B5 + 1, 0, none⟩ (.int .u32 ra.toNat)).alloc (.cells #[.int .u32 ma.toNat, .int .u32 ha.toNat] 35)).drew).heap[w.heap.size]? = some (.cells (five ⟨ha, hb, hc, hd, he⟩) 36 (0, 0))) := heap_kept ((heap_setCell_other _ _ _ _ (by simp; omega)).trans HG0.out) (stpA (Below.refl _ _) _).drew
          have nz : Hid ((((wr.setCell ⟨B5 + 1, 0, none⟩ (.int .u32 ra.toNat)).alloc (.cells #[.int .u32 ma.toNat, .int .u32 ha.toNat] 35)).drew).heap[w.heap.size + 1 + 1]? = some (.cells zero5 36 (0, 0))) := heap_kept ((heap_setCell_other _ _ _ _ (by simp; omega)).trans HG2.out) (stpA (Below.refl _ _) _).drew
          have nb : Hid (Below w.heap.size w (((wr.setCell ⟨B5 + 1, 0, none⟩ (.int .u32 ra.toNat)).alloc (.cells #[.int .u32 ma.toNat, .int .u32 ha.toNat] 35)).drew)) := (stpA (hbx.setCell (by simp; omega) _) _).drew
          go_wp2_with fail
          go_roundg 4
          case measure => decide
          case rel => exact ⟨1, rfl, rfl, nrow.out, nro0.out, nz.out, nb.out⟩
      · as_aux_lemma =>
        obtain rfl : gk = 4 := by omega
        have hrow : wr.heap[B5 + 1]? = some (.cells (five ⟨ra, mb, mc, md, me⟩) 36 (0, 0)) := HG5.out
        have hcell : wr.cell? ⟨B5 + 1, 1, none⟩ = some (.int .u32 mb.toNat) := cell_of_row wr (B5 + 1) 1 _ _ _ hrow
        have hcel0 : wr.cell? ⟨w.heap.size, 1, none⟩ = some (.int .u32 hb.toNat) := cell_of_row wr w.heap.size 1 _ _ _ HG0.out
        have hfree : wr.frozen? ⟨B5 + 1, 1, none⟩ = false := frozen_of_row wr (B5 + 1) 1 _ _ hrow
        have hltB := heap_lt hrow
        have hlt0 := heap_lt HG0.out
        have HROW := Lib.hid hrow
        clear hrow hkg
        go_wp2_with fail
        go_region_with (go_at_call 62; (with_reducible refine (rsum2_any mb hb rb wr EB.out).mono ?_); rintro e w' ⟨rfl, rfl⟩)
        all_goals
          have nrow : Hid ((((wr.setCell ⟨B5 + 1, 1, none⟩ (.int .u32 rb.toNat)).alloc (.cells #[.int .u32 mb.toNat, .int .u32 hb.toNat] 35)).drew).heap[B5 + 1]? = some (.cells (five (mx ⟨ra, rb, rc, rd, re⟩ ⟨ma, mb, mc, md, me⟩ 2)) 36 (0, 0))) := heap_kept (heap_setCell_same _ _ _ _ _ _ HROW.out) (stpA (Below.refl _ _) _).drew
          have nro0 : Hid ((((wr.setCell ⟨B5 + 1, 1, none⟩ (.int .u32 rb.toNat)).alloc (.cells #[.int .u32 mb.toNat, .int .u32 hb.toNat] 35)).drew).heap[w.heap.size]? = some (.cells (five ⟨ha, hb, hc, hd, he⟩) 36 (0, 0))) := heap_kept ((heap_setCell_other _ _ _ _ (by simp; omega)).trans HG0.out) (stpA (Below.refl _ _) _).drew
          have nz : Hid ((((wr.setCell ⟨B5 + 1, 1, none⟩ (.int .u32 rb.toNat)).alloc (.cells #[.int .u32 mb.toNat, .int .u32 hb.toNat] 35)).drew).heap[w.heap.size + 1 + 1]? = some (.cells zero5 36 (0, 0))) := heap_kept ((heap_setCell_other _ _ _ _ (by simp; omega)).trans HG2.out) (stpA (Below.refl _ _) _).drew
          have nb : Hid (Below w.heap.size w (((wr.setCell ⟨B5 + 1, 1, none⟩ (.int .u32 rb.toNat)).alloc (.cells #[.int .u32 mb.toNat, .int .u32 hb.toNat] 35)).drew)) := (stpA (hbx.setCell (by simp; omega) _) _).drew
          go_wp2_with fail
          go_roundg 3
          case measure => decide
          case rel => exact ⟨2, rfl, rfl, nrow.out, nro0.out, nz.out, nb.out⟩
      · as_aux_lemma =>
        obtain rfl : gk = 3 := by omega
        have hrow : wr.heap[B5 + 1]? = some (.cells (five ⟨ra, rb, mc, md, me⟩) 36 (0, 0)) := HG5.out
        have hcell : wr.cell? ⟨B5 + 1, 2, none⟩ = some (.int .u32 mc.toNat) := cell_of_row wr (B5 + 1) 2 _ _ _ hrow
        have hcel0 : wr.cell? ⟨w.heap.size, 2, none⟩ = some (.int .u32 hc.toNat) := cell_of_row wr w.heap.size 2 _ _ _ HG0.out
        have hfree : wr.frozen? ⟨B5 + 1, 2, none⟩ = false := frozen_of_row wr (B5 + 1) 2 _ _ hrow
        have hltB := heap_lt hrow
        have hlt0 := heap_lt HG0.out
        have HROW := Lib.hid hrow
        clear hrow hkg
        go_wp2_with fail
        go_region_with (go_at_call 62; (with_reducible refine (rsum2_any mc hc rc wr EC.out).mono ?_); rintro e w' ⟨rfl, rfl⟩)
        all_goals
          have nrow : Hid ((((wr.setCell ⟨B5 + 1, 2, none⟩ (.int .u32 rc.toNat)).alloc (.cells #[.int .u32 mc.toNat, .int .u32 hc.toNat] 35)).drew).heap[B5 + 1]? = some (.cells (five (mx ⟨ra, rb, rc, rd, re⟩ ⟨ma, mb, mc, md, me⟩ 3)) 36 (0, 0))) := heap_kept (heap_setCell_same _ _ _ _ _ _ HROW.out) (stpA (Below.refl _ _) _).drew
          have nro0 : Hid ((((wr.setCell ⟨B5 + 1, 2, none⟩ (.int .u32 rc.toNat)).alloc (.cells #[.int .u32 mc.toNat, .int .u32 hc.toNat] 35)).drew).heap[w.heap.size]? = some (.cells (five ⟨ha, hb, hc, hd, he⟩) 36 (0, 0))) := heap_kept ((heap_setCell_other _ _ _ _ (by simp; omega)).trans HG0.out) (stpA (Below.refl _ _) _).drew
          have nz : Hid ((((wr.setCell ⟨B5 + 1, 2, none⟩ (.int .u32 rc.toNat)).alloc (.cells #[.int .u32 mc.toNat, .int .u32 hc.toNat] 35)).drew).heap[w.heap.size + 1 + 1]? = some (.cells zero5 36 (0, 0))) := heap_kept ((heap_setCell_other _ _ _ _ (by simp; omega)).trans HG2.out) (stpA (Below.refl _ _) _).drew
          have nb : Hid (Below w.heap.size w (((wr.setCell ⟨B5 + 1, 2, none⟩ (.int .u32 rc.toNat)).alloc (.cells #[.int .u32 mc.toNat, .int .u32 hc.toNat] 35)).drew)) := (stpA (hbx.setCell (by simp; omega) _) _).drew
          go_wp2_with fail
          go_roundg 2
          case measure => decide
          case rel => exact ⟨3, rfl, rfl, nrow.out, nro0.out, nz.out, nb.out⟩
      · as_aux_lemma =>
        obtain rfl : gk = 2 := by omega
        have hrow : wr.heap[B5 + 1]? = some (.cells (five ⟨ra, rb, rc, md, me⟩) 36 (0, 0)) := HG5.out
        have hcell : wr.cell? ⟨B5 + 1, 3, none⟩ = some (.int .u32 md.toNat) := cell_of_row wr (B5 + 1) 3 _ _ _ hrow
        have hcel0 : wr.cell? ⟨w.heap.size, 3, none⟩ = some (.int .u32 hd.toNat) := cell_of_row wr w.heap.size 3 _ _ _ HG0.out
        have hfree : wr.frozen? ⟨B5 + 1, 3, none⟩ = false := frozen_of_row wr (B5 + 1) 3 _ _ hrow
        have hltB := heap_lt hrow
        have hlt0 := heap_lt HG0.out
        have HROW := Lib.hid hrow
        clear hrow hkg
        go_wp2_with fail
        go_region_with (go_at_call 62; (with_reducible refine (rsum2_any md hd rd wr ED.out).mono ?_); rintro e w' ⟨rfl, rfl⟩)
        all_goals
          have nrow : Hid ((((wr.setCell ⟨B5 + 1, 3, none⟩ (.int .u32 rd.toNat)).alloc (.cells #[.int .u32 md.toNat, .int .u32 hd.toNat] 35)).drew).heap[B5 + 1]? = some (.cells (five (mx ⟨ra, rb, rc, rd, re⟩ ⟨ma, mb, mc, md, me⟩ 4)) 36 (0, 0))) := heap_kept (heap_setCell_same _ _ _ _ _ _ HROW.out) (stpA (Below.refl _ _) _).drew
          have nro0 : Hid ((((wr.setCell ⟨B5 + 1, 3, none⟩ (.int .u32 rd.toNat)).alloc (.cells #[.int .u32 md.toNat, .int .u32 hd.toNat] 35)).drew).heap[w.heap.size]? = some (.cells (five ⟨ha, hb, hc, hd, he⟩) 36 (0, 0))) := heap_kept ((heap_setCell_other _ _ _ _ (by simp; omega)).trans HG0.out) (stpA (Below.refl _ _) _).drew
          have nz : Hid ((((wr.setCell ⟨B5 + 1, 3, none⟩ (.int .u32 rd.toNat)).alloc (.cells #[.int .u32 md.toNat, .int .u32 hd.toNat] 35)).drew).heap[w.heap.size + 1 + 1]? = some (.cells zero5 36 (0, 0))) := heap_kept ((heap_setCell_other _ _ _ _ (by simp; omega)).trans HG2.out) (stpA (Below.refl _ _) _).drew
          have nb : Hid (Below w.heap.size w (((wr.setCell ⟨B5 + 1, 3, none⟩ (.int .u32 rd.toNat)).alloc (.cells #[.int .u32 md.toNat, .int .u32 hd.toNat] 35)).drew)) := (stpA (hbx.setCell (by simp; omega) _) _).drew
          go_wp2_with fail
          go_roundg 1
          case measure => decide
          case rel => exact ⟨4, rfl, rfl, nrow.out, nro0.out, nz.out, nb.out⟩
      · as_aux_lemma =>
        obtain rfl : gk = 1 := by omega
        have hrow : wr.heap[B5 + 1]? = some (.cells (five ⟨ra, rb, rc, rd, me⟩) 36 (0, 0)) := HG5.out
        have hcell : wr.cell? ⟨B5 + 1, 4, none⟩ = some (.int .u32 me.toNat) := cell_of_row wr (B5 + 1) 4 _ _ _ hrow
        have hcel0 : wr.cell? ⟨w.heap.size, 4, none⟩ = some (.int .u32 he.toNat) := cell_of_row wr w.heap.size 4 _ _ _ HG0.out
        have hfree : wr.frozen? ⟨B5 + 1, 4, none⟩ = false := frozen_of_row wr (B5 + 1) 4 _ _ hrow
        have hltB := heap_lt hrow
        have hlt0 := heap_lt HG0.out
        have HROW := Lib.hid hrow
        clear hrow hkg
        go_wp2_with fail
        go_region_with (go_at_call 62; (with_reducible refine (rsum2_any me he re wr EE.out).mono ?_); rintro e w' ⟨rfl, rfl⟩)
        all_goals
          have nrow : Hid ((((wr.setCell ⟨B5 + 1, 4, none⟩ (.int .u32 re.toNat)).alloc (.cells #[.int .u32 me.toNat, .int .u32 he.toNat] 35)).drew).heap[B5 + 1]? = some (.cells (five (mx ⟨ra, rb, rc, rd, re⟩ ⟨ma, mb, mc, md, me⟩ 5)) 36 (0, 0))) := heap_kept (heap_setCell_same _ _ _ _ _ _ HROW.out) (stpA (Below.refl _ _) _).drew
          have nro0 : Hid ((((wr.setCell ⟨B5 + 1, 4, none⟩ (.int .u32 re.toNat)).alloc (.cells #[.int .u32 me.toNat, .int .u32 he.toNat] 35)).drew).heap[w.heap.size]? = some (.cells (five ⟨ha, hb, hc, hd, he⟩) 36 (0, 0))) := heap_kept ((heap_setCell_other _ _ _ _ (by simp; omega)).trans HG0.out) (stpA (Below.refl _ _) _).drew
          have nz : Hid ((((wr.setCell ⟨B5 + 1, 4, none⟩ (.int .u32 re.toNat)).alloc (.cells #[.int .u32 me.toNat, .int .u32 he.toNat] 35)).drew).heap[w.heap.size + 1 + 1]? = some (.cells zero5 36 (0, 0))) := heap_kept ((heap_setCell_other _ _ _ _ (by simp; omega)).trans HG2.out) (stpA (Below.refl _ _) _).drew
          have nb : Hid (Below w.heap.size w (((wr.setCell ⟨B5 + 1, 4, none⟩ (.int .u32 re.toNat)).alloc (.cells #[.int .u32 me.toNat, .int .u32 he.toNat] 35)).drew)) := (stpA (hbx.setCell (by simp; omega) _) _).drew
          go_wp2_with fail
          go_roundg 0
          case measure => decide
          case rel => exact ⟨5, rfl, rfl, nrow.out, nro0.out, nz.out, nb.out⟩
      · as_aux_lemma =>
        have HROW : Hid (wr.heap[B5 + 1]? = some (.cells (five ⟨ra, rb, rc, rd, re⟩) 36 (0, 0))) := HG5.out
        go_wp2_with (first
          | (refine wpList_load_row rfl _ _ rfl (B5 + 1) rfl 36 (five ⟨ra, rb, rc, rd, re⟩) (0, 0) _ HROW.out Try.underlying36 rfl size37 ?_)
          | (refine wpList_store_row rfl _ _ _ rfl (w.heap.size + 1 + 1) (five ⟨ra, rb, rc, rd, re⟩) rfl rfl 36 zero5 HG2.out size37 rfl (five_one _) ?_)
          | fail)
        exact bodyPost_ret (v := .agg (five ⟨ra, rb, rc, rd, re⟩)) (results_cell_row rfl _ _ _ _ _ _ _ rfl (setRow_heap _ _ _ _ _ _ HG2.out) Try.underlying36 rfl size37) rfl ⟨rfl, below_setRow0 hbx (by omega) _⟩
    | succ g =>
      as_aux_lemma =>
      have hlt : t < 80 := by omega
      have hx : t < sc.length := by rw [HSL.out]; exact hlt
      obtain ⟨x, hxx⟩ : ∃ x, sc.getD t 0 = x := ⟨_, rfl⟩
      have hcell : wr.cell? ⟨B5, t, none⟩ = some (.int .u32 x.toNat) := by
        rw [cell_of_row wr B5 t _ _ _ HR5.out, ← hxx, List.getD_eq_getElem?_getD, List.getElem?_eq_getElem hx]
        simp [hx, encW]
      obtain ⟨u, hu⟩ : ∃ u, rds sc h t = u := ⟨_, rfl⟩
      rw [hu] at HR6
      obtain ⟨v, hv⟩ : ∃ v, rnd t x u = v := ⟨_, rfl⟩
      have HN : Hid (rds sc h (t + 1) = v) := by rw [← hv, ← hu, ← hxx]; rfl
      have HV := Lib.hid hv
      have HTG := Lib.hid htg
      have HG : Hid (g < g + 1) := Nat.lt_succ_self g
      have bt : (0 : Int) ≤ (t : Int) ∧ (t : Int) < 80 := by omega
      obtain ⟨⟨z0, z1, z2, z3, z4⟩, ⟨f0, f1, f2, f3, f4⟩⟩ := five_cellsU HR6.out
      clear hv hu hxx hx htg f0 f1 f2 f3 f4
      go_wp2_with fail
      go_region_with (go_at_call 61; (with_reducible refine (rround_v u t x v _ hlt HV.out).mono ?_); rintro e w5 ⟨rfl, hb5⟩; have hb5' := below_of_drew hb5; obtain ⟨⟨y0, y1, y2, y3, y4⟩, ⟨f0, f1, f2, f3, f4⟩⟩ := five_cellsU (heap_kept HR6.out hb5'))
      all_goals
        have q6 : Hid ((((((w5.setCell ⟨B5 + 1, 0, none⟩ (.int .u32 v.a.toNat)).setCell ⟨B5 + 1, 1, none⟩ (.int .u32 v.b.toNat)).setCell ⟨B5 + 1, 2, none⟩ (.int .u32 v.c.toNat)).setCell ⟨B5 + 1, 3, none⟩ (.int .u32 v.d.toNat)).setCell ⟨B5 + 1, 4, none⟩ (.int .u32 v.e.toNat)).heap[B5 + 1]? = some (.cells (five (rds sc h (t + 1))) 36 (0, 0))) := by rw [HN.out]; exact five_put (heap_kept HR6.out hb5') v
        have q5 : Hid ((((((w5.setCell ⟨B5 + 1, 0, none⟩ (.int .u32 v.a.toNat)).setCell ⟨B5 + 1, 1, none⟩ (.int .u32 v.b.toNat)).setCell ⟨B5 + 1, 2, none⟩ (.int .u32 v.c.toNat)).setCell ⟨B5 + 1, 3, none⟩ (.int .u32 v.d.toNat)).setCell ⟨B5 + 1, 4, none⟩ (.int .u32 v.e.toNat)).heap[B5]? = some (.cells (sc.map encW).toArray 81 (0, 0))) := (five_far w5 (B5 + 1) B5 v (by omega)).trans (heap_kept HR5.out hb5')
        have q0 : Hid ((((((w5.setCell ⟨B5 + 1, 0, none⟩ (.int .u32 v.a.toNat)).setCell ⟨B5 + 1, 1, none⟩ (.int .u32 v.b.toNat)).setCell ⟨B5 + 1, 2, none⟩ (.int .u32 v.c.toNat)).setCell ⟨B5 + 1, 3, none⟩ (.int .u32 v.d.toNat)).setCell ⟨B5 + 1, 4, none⟩ (.int .u32 v.e.toNat)).heap[w.heap.size]? = some (.cells (five h) 36 (0, 0))) := (five_far w5 (B5 + 1) _ v (by omega)).trans (heap_kept HR0.out hb5')
        have q2 : Hid ((((((w5.setCell ⟨B5 + 1, 0, none⟩ (.int .u32 v.a.toNat)).setCell ⟨B5 + 1, 1, none⟩ (.int .u32 v.b.toNat)).setCell ⟨B5 + 1, 2, none⟩ (.int .u32 v.c.toNat)).setCell ⟨B5 + 1, 3, none⟩ (.int .u32 v.d.toNat)).setCell ⟨B5 + 1, 4, none⟩ (.int .u32 v.e.toNat)).heap[w.heap.size + 1 + 1]? = some (.cells zero5 36 (0, 0))) := (five_far w5 (B5 + 1) _ v (by omega)).trans (heap_kept HR2.out hb5')
        have qb : Hid (Below w.heap.size w (((((w5.setCell ⟨B5 + 1, 0, none⟩ (.int .u32 v.a.toNat)).setCell ⟨B5 + 1, 1, none⟩ (.int .u32 v.b.toNat)).setCell ⟨B5 + 1, 2, none⟩ (.int .u32 v.c.toNat)).setCell ⟨B5 + 1, 3, none⟩ (.int .u32 v.d.toNat)).setCell ⟨B5 + 1, 4, none⟩ (.int .u32 v.e.toNat))) := five_below (B5 + 1) v (hbw.trans (hb5'.mono hbw.size)) (by omega)
        clear hb5 hb5' y0 y1 y2 y3 y4 f0 f1 f2 f3 f4 z0 z1 z2 z3 z4 hcell
        go_wp2_with fail
        go_roundg g
        case measure => exact HG.out
        case rel => exact ⟨t + 1, by have := HTG.out; omega, by go_num, q6.out, q5.out, q0.out, q2.out, qb.out⟩
end Hx
end Go.Proofs.Ytmjcmlaeajglmaa
