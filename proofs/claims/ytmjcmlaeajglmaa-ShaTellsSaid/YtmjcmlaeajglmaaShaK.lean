/-
  The contract of sha.Block.
-/
import Derived.Test.YtmjcmlaeajglmaaShaS
import Derived.Test.YtmjcmlaeajglmaaShaL
import Derived.Deep.CutBlock
import Derived.Deep.DeepCutAuto
import Derived.Deep.MidRow
import Derived.Deep.LoopGhost
namespace Go.Proofs.Ytmjcmlaeajglmaa
open Go.RowKit
namespace Hx
open Wd Sh
attribute [local go_sem ↓] Go.wp_at_zero Go.wp_at_succ

theorem schedule_cs (b : List UInt8) (cs : List Value) (w : World) (hb : b.length = 64) (hcs : b.map encB = cs) (sc : List W32) (hsc : sch (wordL b) 64 = sc) :
    Calls Try.prog 47 #[.agg cs.toArray] w fun e w' => e = .returned (.agg (sc.map encW).toArray) ∧ Below w.heap.size w w' := by
  subst hcs hsc
  exact schedule_any b w hb
/-- What holds behind the first statement of Block. -/
def Met (w : World) (m h : S5) (s5 : Value) (wx : World) : Prop := ∃ B5, s5 = .pointer (some ⟨B5, 0, none⟩) ∧ w.heap.size + 1 + 1 < B5 ∧ wx.heap[B5]? = some (.cells (five m) 36 (0, 0)) ∧ wx.heap[w.heap.size]? = some (.cells (five h) 36 (0, 0)) ∧ wx.heap[w.heap.size + 1 + 1]? = some (.cells zero5 36 (0, 0)) ∧ Below w.heap.size w wx
theorem met_new {w : World} {m h : S5} (W1 w3 : World) (hb : Hid (Below W1.heap.size W1 w3)) (hs : Hid (W1.heap.size = w.heap.size + 1 + 1 + 1)) (h0 : Hid (W1.heap[w.heap.size]? = some (.cells (five h) 36 (0, 0)))) (h2 : Hid (W1.heap[w.heap.size + 1 + 1]? = some (.cells zero5 36 (0, 0)))) (hb1 : Below w.heap.size w W1) :
    Met w m h (.pointer (some ⟨w3.heap.size, 0, none⟩)) (w3.alloc (.cells (five m) 36)) := by
  have hb' := hb.out
  have hs' := hs.out
  have := hb'.size
  exact ⟨_, rfl, by omega, heap_alloc_new _ _, heap_kept (heap_kept h0.out hb') (stpA (Below.refl _ _) _), heap_kept (heap_kept h2.out hb') (stpA (Below.refl _ _) _), stpA (stp hb1 hb') _⟩
theorem met_set {w : World} {m h : S5} (W1 w3 : World) (g : Nat) (hb : Hid (Below W1.heap.size W1 w3)) (hs : Hid (W1.heap.size = w.heap.size + 1 + 1 + 1)) (h0 : Hid (W1.heap[w.heap.size]? = some (.cells (five h) 36 (0, 0)))) (h2 : Hid (W1.heap[w.heap.size + 1 + 1]? = some (.cells zero5 36 (0, 0)))) (hb1 : Below w.heap.size w W1) (hg : W1.heap.size ≤ g)
    (hz : Hid (w3.heap[g]? = some (.cells #[.int .u32 0, .int .u32 0, .int .u32 0, .int .u32 0, .int .u32 0] 36 (0, 0)))) :
    Met w m h (.pointer (some ⟨g, 0, none⟩)) (((((w3.setCell ⟨g, 0, none⟩ (.int .u32 m.a.toNat)).setCell ⟨g, 1, none⟩ (.int .u32 m.b.toNat)).setCell ⟨g, 2, none⟩ (.int .u32 m.c.toNat)).setCell ⟨g, 3, none⟩ (.int .u32 m.d.toNat)).setCell ⟨g, 4, none⟩ (.int .u32 m.e.toNat)) := by
  have hb' := hb.out
  have hs' := hs.out
  have ho : ∀ k, k ≠ g → (((((w3.setCell ⟨g, 0, none⟩ (.int .u32 m.a.toNat)).setCell ⟨g, 1, none⟩ (.int .u32 m.b.toNat)).setCell ⟨g, 2, none⟩ (.int .u32 m.c.toNat)).setCell ⟨g, 3, none⟩ (.int .u32 m.d.toNat)).setCell ⟨g, 4, none⟩ (.int .u32 m.e.toNat)).heap[k]? = w3.heap[k]? := fun k hk => by
    rw [heap_setCell_other _ _ _ _ hk, heap_setCell_other _ _ _ _ hk, heap_setCell_other _ _ _ _ hk, heap_setCell_other _ _ _ _ hk, heap_setCell_other _ _ _ _ hk]
  refine ⟨g, rfl, by omega, ?_, (ho _ (by omega)).trans (heap_kept h0.out hb'), (ho _ (by omega)).trans (heap_kept h2.out hb'), (((((stp hb1 hb').setCell (by simp; omega) _).setCell (by simp; omega) _).setCell (by simp; omega) _).setCell (by simp; omega) _).setCell (by simp; omega) _⟩
  exact heap_setCell_same _ _ _ _ _ _ (heap_setCell_same _ _ _ _ _ _ (heap_setCell_same _ _ _ _ _ _ (heap_setCell_same _ _ _ _ _ _ (heap_setCell_same _ _ _ _ _ _ hz.out))))
/-- The words of r ahead of place k, of m from there on. -/
def mx (r m : S5) (k : Nat) : S5 := ⟨if 0 < k then r.a else m.a, if 1 < k then r.b else m.b, if 2 < k then r.c else m.c, if 3 < k then r.d else m.d, if 4 < k then r.e else m.e⟩
theorem sum2_any (a b v : W32) (w : World) (h : a + b = v) :
    Calls Try.prog 48 #[.slice (some ⟨w.heap.size, 0, none⟩) 2 2] (w.alloc (.cells #[.int .u32 a.toNat, .int .u32 b.toNat] 35)) fun e' w' => e' = .returned (.int .u32 (v.toNat : Nat)) ∧ (w.alloc (.cells #[.int .u32 a.toNat, .int .u32 b.toNat] 35)) = w' := by
  subst h
  have := sum_any (some ⟨w.heap.size, 0, none⟩) 2 2 [a, b] (w.alloc (.cells #[.int .u32 a.toNat, .int .u32 b.toNat] 35)) (RdG.newS w 35 [a, b]) rfl (by decide)
  rw [sm2] at this
  exact this
theorem kept_new {W w : World} {o : Obj} (h : Below (W.alloc o).drew.heap.size (W.alloc o).drew w) : w.heap[W.heap.size]? = some o := heap_kept (show (W.alloc o).drew.heap[W.heap.size]? = some o from heap_alloc_new W o) h
/-- What the store into a fresh array of five words meets. -/
theorem zero_cells {W : World} {g : Nat} {t : TypeId} (h : W.heap[g]? = some (.cells #[.int .u32 0, .int .u32 0, .int .u32 0, .int .u32 0, .int .u32 0] t (0, 0))) :
    (W.cell? ⟨g, 0, none⟩ = some (.int .u32 0) ∧ W.cell? ⟨g, 1, none⟩ = some (.int .u32 0) ∧ W.cell? ⟨g, 2, none⟩ = some (.int .u32 0) ∧ W.cell? ⟨g, 3, none⟩ = some (.int .u32 0) ∧ W.cell? ⟨g, 4, none⟩ = some (.int .u32 0)) ∧
    (W.frozen? ⟨g, 0, none⟩ = false ∧ W.frozen? ⟨g, 1, none⟩ = false ∧ W.frozen? ⟨g, 2, none⟩ = false ∧ W.frozen? ⟨g, 3, none⟩ = false ∧ W.frozen? ⟨g, 4, none⟩ = false) :=
  ⟨⟨cell_of_row W g 0 _ _ _ h, cell_of_row W g 1 _ _ _ h, cell_of_row W g 2 _ _ _ h, cell_of_row W g 3 _ _ _ h, cell_of_row W g 4 _ _ _ h⟩, frozen_of_row W g _ _ _ h, frozen_of_row W g _ _ _ h, frozen_of_row W g _ _ _ h, frozen_of_row W g _ _ _ h, frozen_of_row W g _ _ _ h⟩
set_option maxHeartbeats 4000000 in
set_option maxRecDepth 100000 in
theorem block_any (h : S5) (b : List UInt8) (w : World) (hb : b.length = 64) (r : S5) (hr : blk h b = r) :
    Calls Try.prog 32 #[.agg (five h), .agg (b.map encB).toArray] w fun e w' => e = .returned (.agg (five r)) ∧ Below w.heap.size w w' := by
  have HBL := Lib.hid hb
  have HRR := Lib.hid hr
  clear hb hr
  obtain ⟨cs, hcs⟩ : ∃ cs, b.map encB = cs := ⟨_, rfl⟩
  rw [hcs]
  have HCS := Lib.hid hcs
  have hcl : cs.length = 64 := by rw [← hcs]; simp [HBL.out]
  have hc1 : ∀ v ∈ cs, v.oneCell' = true := by rw [← hcs]; exact map_one' encB_one _
  have HC1 := Lib.hid hc1
  clear hcs hc1
  obtain ⟨m, hm⟩ : ∃ m, rds (sch (wordL b) 64) h 80 = m := ⟨_, rfl⟩
  obtain ⟨sc, hsc⟩ : ∃ sc, sch (wordL b) 64 = sc := ⟨_, rfl⟩
  rw [hsc] at hm
  have hscl : sc.length = 80 := by rw [← hsc, sch_length, wordL_length, HBL.out]
  have HM := Lib.hid hm
  have HSC := Lib.hid hsc
  have HSL := Lib.hid hscl
  have hrr : h.add m = r := by rw [← HRR.out, blk, hsc, hm]
  have HR := Lib.hid hrr
  clear hm hsc hscl hrr HRR
  go_enter Try.func32, Try.ntmps32
  go_upto_region 1 with fail
  obtain ⟨W1, hW1, hs1, h0, h1, h2, hb1⟩ := opn3n w (Obj.cells (five h) 36) (Obj.cells cs.toArray 64) (Obj.cells zero5 36)
  have hW1' := hW1
  unfold zero5 at hW1'
  rw [hW1']
  have H0 := Lib.hid h0
  have H1 := Lib.hid h1
  have H2 := Lib.hid h2
  have HS1 := Lib.hid hs1
  clear hW1 hW1' hs1 h0 h1 h2
  go_cut [5] (fun s5 wx => Met w m h s5 wx)
  case first =>
    have h0 := H0.out
    have h1 := H1.out
    have rb : W1.rangeAt (w.heap.size + 1) 0 cs := fun j v hv => by rw [Nat.zero_add, cell_of_row W1 _ j _ _ _ h1]; simpa using hv
    have a0 : W1.cell? ⟨w.heap.size, 0, none⟩ = some (.int .u32 h.a.toNat) := cell_of_row W1 _ 0 _ _ _ h0
    have a1 : W1.cell? ⟨w.heap.size, 1, none⟩ = some (.int .u32 h.b.toNat) := cell_of_row W1 _ 1 _ _ _ h0
    have a2 : W1.cell? ⟨w.heap.size, 2, none⟩ = some (.int .u32 h.c.toNat) := cell_of_row W1 _ 2 _ _ _ h0
    have a3 : W1.cell? ⟨w.heap.size, 3, none⟩ = some (.int .u32 h.d.toNat) := cell_of_row W1 _ 3 _ _ _ h0
    have a4 : W1.cell? ⟨w.heap.size, 4, none⟩ = some (.int .u32 h.e.toNat) := cell_of_row W1 _ 4 _ _ _ h0
    have hu := Try.underlying64
    have hi : (Try.prog.info? 64).map (·.size) = some cs.length := by rw [hcl]; kernel_rfl
    clear h0 h1
    have K0 : ∀ W V : World, w.heap.size + 1 + 1 < V.heap.size → (∀ p : Addr, p.block ≤ w.heap.size + 1 → V.cell? p = W.cell? p) → (W.cell? ⟨w.heap.size, 0, none⟩ = some (.int .u32 h.a.toNat) ∧ W.cell? ⟨w.heap.size, 1, none⟩ = some (.int .u32 h.b.toNat) ∧ W.cell? ⟨w.heap.size, 2, none⟩ = some (.int .u32 h.c.toNat) ∧ W.cell? ⟨w.heap.size, 3, none⟩ = some (.int .u32 h.d.toNat) ∧ W.cell? ⟨w.heap.size, 4, none⟩ = some (.int .u32 h.e.toNat) ∧ W.rangeAt (w.heap.size + 1) 0 cs ∧ w.heap.size + 1 + 1 < W.heap.size) → (V.cell? ⟨w.heap.size, 0, none⟩ = some (.int .u32 h.a.toNat) ∧ V.cell? ⟨w.heap.size, 1, none⟩ = some (.int .u32 h.b.toNat) ∧ V.cell? ⟨w.heap.size, 2, none⟩ = some (.int .u32 h.c.toNat) ∧ V.cell? ⟨w.heap.size, 3, none⟩ = some (.int .u32 h.d.toNat) ∧ V.cell? ⟨w.heap.size, 4, none⟩ = some (.int .u32 h.e.toNat) ∧ V.rangeAt (w.heap.size + 1) 0 cs ∧ w.heap.size + 1 + 1 < V.heap.size) := fun W V hs hp ⟨k0, k1, k2, k3, k4, kr, ks⟩ => ⟨(hp _ (by simp)).trans k0, (hp _ (by simp)).trans k1, (hp _ (by simp)).trans k2, (hp _ (by simp)).trans k3, (hp _ (by simp)).trans k4, fun j v hv => (hp _ (by simp)).trans (kr j v hv), hs⟩
    have K6 : ∀ W V : World, Below W.heap.size W V → (W.cell? ⟨w.heap.size, 0, none⟩ = some (.int .u32 h.a.toNat) ∧ W.cell? ⟨w.heap.size, 1, none⟩ = some (.int .u32 h.b.toNat) ∧ W.cell? ⟨w.heap.size, 2, none⟩ = some (.int .u32 h.c.toNat) ∧ W.cell? ⟨w.heap.size, 3, none⟩ = some (.int .u32 h.d.toNat) ∧ W.cell? ⟨w.heap.size, 4, none⟩ = some (.int .u32 h.e.toNat) ∧ W.rangeAt (w.heap.size + 1) 0 cs ∧ w.heap.size + 1 + 1 < W.heap.size) → (V.cell? ⟨w.heap.size, 0, none⟩ = some (.int .u32 h.a.toNat) ∧ V.cell? ⟨w.heap.size, 1, none⟩ = some (.int .u32 h.b.toNat) ∧ V.cell? ⟨w.heap.size, 2, none⟩ = some (.int .u32 h.c.toNat) ∧ V.cell? ⟨w.heap.size, 3, none⟩ = some (.int .u32 h.d.toNat) ∧ V.cell? ⟨w.heap.size, 4, none⟩ = some (.int .u32 h.e.toNat) ∧ V.rangeAt (w.heap.size + 1) 0 cs ∧ w.heap.size + 1 + 1 < V.heap.size) := fun W V hb hS => K0 W V (Nat.lt_of_lt_of_le hS.2.2.2.2.2.2 hb.size) (fun p hp => hb.cell (by have := hS.2.2.2.2.2.2; omega)) hS
    have K7 : ∀ (W : World) (o o' : Obj), ((W.alloc o).cell? ⟨w.heap.size, 0, none⟩ = some (.int .u32 h.a.toNat) ∧ (W.alloc o).cell? ⟨w.heap.size, 1, none⟩ = some (.int .u32 h.b.toNat) ∧ (W.alloc o).cell? ⟨w.heap.size, 2, none⟩ = some (.int .u32 h.c.toNat) ∧ (W.alloc o).cell? ⟨w.heap.size, 3, none⟩ = some (.int .u32 h.d.toNat) ∧ (W.alloc o).cell? ⟨w.heap.size, 4, none⟩ = some (.int .u32 h.e.toNat) ∧ (W.alloc o).rangeAt (w.heap.size + 1) 0 cs ∧ w.heap.size + 1 + 1 < (W.alloc o).heap.size) → ((W.alloc o').cell? ⟨w.heap.size, 0, none⟩ = some (.int .u32 h.a.toNat) ∧ (W.alloc o').cell? ⟨w.heap.size, 1, none⟩ = some (.int .u32 h.b.toNat) ∧ (W.alloc o').cell? ⟨w.heap.size, 2, none⟩ = some (.int .u32 h.c.toNat) ∧ (W.alloc o').cell? ⟨w.heap.size, 3, none⟩ = some (.int .u32 h.d.toNat) ∧ (W.alloc o').cell? ⟨w.heap.size, 4, none⟩ = some (.int .u32 h.e.toNat) ∧ (W.alloc o').rangeAt (w.heap.size + 1) 0 cs ∧ w.heap.size + 1 + 1 < (W.alloc o').heap.size) := fun W o o' hS => K0 _ _ (by have := hS.2.2.2.2.2.2; simpa using this) (fun p hp => by have := hS.2.2.2.2.2.2; simp at this; rw [World.cell?_alloc_lt _ _ _ (by omega), World.cell?_alloc_lt _ _ _ (by omega)]) hS
    have K8 : ∀ (W : World) (g : Nat) (v0 v1 v2 v3 v4 : Value), w.heap.size + 1 < g → (W.cell? ⟨w.heap.size, 0, none⟩ = some (.int .u32 h.a.toNat) ∧ W.cell? ⟨w.heap.size, 1, none⟩ = some (.int .u32 h.b.toNat) ∧ W.cell? ⟨w.heap.size, 2, none⟩ = some (.int .u32 h.c.toNat) ∧ W.cell? ⟨w.heap.size, 3, none⟩ = some (.int .u32 h.d.toNat) ∧ W.cell? ⟨w.heap.size, 4, none⟩ = some (.int .u32 h.e.toNat) ∧ W.rangeAt (w.heap.size + 1) 0 cs ∧ w.heap.size + 1 + 1 < W.heap.size) → ((((((W.setCell ⟨g, 0, none⟩ v0).setCell ⟨g, 1, none⟩ v1).setCell ⟨g, 2, none⟩ v2).setCell ⟨g, 3, none⟩ v3).setCell ⟨g, 4, none⟩ v4).cell? ⟨w.heap.size, 0, none⟩ = some (.int .u32 h.a.toNat) ∧ (((((W.setCell ⟨g, 0, none⟩ v0).setCell ⟨g, 1, none⟩ v1).setCell ⟨g, 2, none⟩ v2).setCell ⟨g, 3, none⟩ v3).setCell ⟨g, 4, none⟩ v4).cell? ⟨w.heap.size, 1, none⟩ = some (.int .u32 h.b.toNat) ∧ (((((W.setCell ⟨g, 0, none⟩ v0).setCell ⟨g, 1, none⟩ v1).setCell ⟨g, 2, none⟩ v2).setCell ⟨g, 3, none⟩ v3).setCell ⟨g, 4, none⟩ v4).cell? ⟨w.heap.size, 2, none⟩ = some (.int .u32 h.c.toNat) ∧ (((((W.setCell ⟨g, 0, none⟩ v0).setCell ⟨g, 1, none⟩ v1).setCell ⟨g, 2, none⟩ v2).setCell ⟨g, 3, none⟩ v3).setCell ⟨g, 4, none⟩ v4).cell? ⟨w.heap.size, 3, none⟩ = some (.int .u32 h.d.toNat) ∧ (((((W.setCell ⟨g, 0, none⟩ v0).setCell ⟨g, 1, none⟩ v1).setCell ⟨g, 2, none⟩ v2).setCell ⟨g, 3, none⟩ v3).setCell ⟨g, 4, none⟩ v4).cell? ⟨w.heap.size, 4, none⟩ = some (.int .u32 h.e.toNat) ∧ (((((W.setCell ⟨g, 0, none⟩ v0).setCell ⟨g, 1, none⟩ v1).setCell ⟨g, 2, none⟩ v2).setCell ⟨g, 3, none⟩ v3).setCell ⟨g, 4, none⟩ v4).rangeAt (w.heap.size + 1) 0 cs ∧ w.heap.size + 1 + 1 < (((((W.setCell ⟨g, 0, none⟩ v0).setCell ⟨g, 1, none⟩ v1).setCell ⟨g, 2, none⟩ v2).setCell ⟨g, 3, none⟩ v3).setCell ⟨g, 4, none⟩ v4).heap.size) := fun W g v0 v1 v2 v3 v4 hg hS => K0 _ _ (by simpa using hS.2.2.2.2.2.2) (fun p hp => by
      have ne : ∀ i, (⟨g, i, none⟩ : Addr) ≠ p := fun i e => by subst e; simp at hp; omega
      rw [World.cell?_setCell_other _ _ _ _ (ne 4), World.cell?_setCell_other _ _ _ _ (ne 3), World.cell?_setCell_other _ _ _ _ (ne 2), World.cell?_setCell_other _ _ _ _ (ne 1), World.cell?_setCell_other _ _ _ _ (ne 0)]) hS
    have K9 : ∀ (W : World) (o : Obj), (W.cell? ⟨w.heap.size, 0, none⟩ = some (.int .u32 h.a.toNat) ∧ W.cell? ⟨w.heap.size, 1, none⟩ = some (.int .u32 h.b.toNat) ∧ W.cell? ⟨w.heap.size, 2, none⟩ = some (.int .u32 h.c.toNat) ∧ W.cell? ⟨w.heap.size, 3, none⟩ = some (.int .u32 h.d.toNat) ∧ W.cell? ⟨w.heap.size, 4, none⟩ = some (.int .u32 h.e.toNat) ∧ W.rangeAt (w.heap.size + 1) 0 cs ∧ w.heap.size + 1 + 1 < W.heap.size) → ((W.alloc o).cell? ⟨w.heap.size, 0, none⟩ = some (.int .u32 h.a.toNat) ∧ (W.alloc o).cell? ⟨w.heap.size, 1, none⟩ = some (.int .u32 h.b.toNat) ∧ (W.alloc o).cell? ⟨w.heap.size, 2, none⟩ = some (.int .u32 h.c.toNat) ∧ (W.alloc o).cell? ⟨w.heap.size, 3, none⟩ = some (.int .u32 h.d.toNat) ∧ (W.alloc o).cell? ⟨w.heap.size, 4, none⟩ = some (.int .u32 h.e.toNat) ∧ (W.alloc o).rangeAt (w.heap.size + 1) 0 cs ∧ w.heap.size + 1 + 1 < (W.alloc o).heap.size) := fun W o hS => K6 W _ (stpA (Below.refl _ _) o) hS
    have HK9 := Lib.hid K9
    have HK6 := Lib.hid K6
    have HK7 := Lib.hid K7
    have HK8 := Lib.hid K8
    clear K0 K6 K7 K8 K9
    have bs : w.heap.size + 1 + 1 < W1.heap.size := by have := HS1.out; omega
    have HSD : Hid (W1.drew.cell? ⟨w.heap.size, 0, none⟩ = some (.int .u32 h.a.toNat) ∧ W1.drew.cell? ⟨w.heap.size, 1, none⟩ = some (.int .u32 h.b.toNat) ∧ W1.drew.cell? ⟨w.heap.size, 2, none⟩ = some (.int .u32 h.c.toNat) ∧ W1.drew.cell? ⟨w.heap.size, 3, none⟩ = some (.int .u32 h.d.toNat) ∧ W1.drew.cell? ⟨w.heap.size, 4, none⟩ = some (.int .u32 h.e.toNat) ∧ W1.drew.rangeAt (w.heap.size + 1) 0 cs ∧ w.heap.size + 1 + 1 < W1.drew.heap.size) := ⟨a0, a1, a2, a3, a4, rb, bs⟩
    have HSE : Hid (∀ o : Obj, (W1.alloc o).drew.cell? ⟨w.heap.size, 0, none⟩ = some (.int .u32 h.a.toNat) ∧ (W1.alloc o).drew.cell? ⟨w.heap.size, 1, none⟩ = some (.int .u32 h.b.toNat) ∧ (W1.alloc o).drew.cell? ⟨w.heap.size, 2, none⟩ = some (.int .u32 h.c.toNat) ∧ (W1.alloc o).drew.cell? ⟨w.heap.size, 3, none⟩ = some (.int .u32 h.d.toNat) ∧ (W1.alloc o).drew.cell? ⟨w.heap.size, 4, none⟩ = some (.int .u32 h.e.toNat) ∧ (W1.alloc o).drew.rangeAt (w.heap.size + 1) 0 cs ∧ w.heap.size + 1 + 1 < (W1.alloc o).drew.heap.size) := fun o => HK9.out W1.drew o HSD.out
    go_region_held3 (fun w' => w'.cell? ⟨w.heap.size, 0, none⟩ = some (.int .u32 h.a.toNat) ∧ w'.cell? ⟨w.heap.size, 1, none⟩ = some (.int .u32 h.b.toNat) ∧ w'.cell? ⟨w.heap.size, 2, none⟩ = some (.int .u32 h.c.toNat) ∧ w'.cell? ⟨w.heap.size, 3, none⟩ = some (.int .u32 h.d.toNat) ∧ w'.cell? ⟨w.heap.size, 4, none⟩ = some (.int .u32 h.e.toNat) ∧ w'.rangeAt (w.heap.size + 1) 0 cs ∧ w.heap.size + 1 + 1 < w'.heap.size)
      (first | (with_reducible exact hS3.out) | (with_reducible exact hS2.out) | (with_reducible exact HSD.out) | (with_reducible exact HK9.out w3 _ hS3.out) | (with_reducible exact HK9.out w2 _ hS2.out) | (with_reducible exact HSE.out _) | (with_reducible exact HK8.out w3 _ _ _ _ _ _ (by have := HS1.out; first | (have := hb2.size; simp at this ⊢; omega) | (simp; omega)) hS3.out))
      (first
        | (go_at_call 47; (with_reducible refine (schedule_cs b cs (World.drew (World.alloc W1 _)) HBL.out HCS.out sc HSC.out).mono ?_); rintro e w2 ⟨rfl, hb2⟩; have hz2 := Lib.hid (kept_new hb2); have hS2 := Lib.hid (HK6.out _ _ hb2 (HSE.out _)))
        | (go_at_call 47; (with_reducible refine (schedule_cs b cs W1.drew HBL.out HCS.out sc HSC.out).mono ?_); rintro e w2 ⟨rfl, hb2⟩; have hS2 := Lib.hid (HK6.out _ _ hb2 HSD.out))
        | (go_at_call 46; (with_reducible refine (all_any h sc (World.alloc w2 _) HSL.out m HM.out).mono ?_); rintro e w3 ⟨rfl, hb3⟩; have hzr := Lib.hid (heap_kept (heap_alloc_new _ _) hb3); obtain ⟨⟨z0, z1, z2, z3, z4⟩, ⟨f0, f1, f2, f3, f4⟩⟩ := zero_cells hzr.out; have hb3' := stp (stpA (Below.refl _ _) _) hb3; have hS3 := Lib.hid (HK6.out _ _ hb3 (HK9.out _ _ hS2.out)))
        | (have hz2' := hz2; go_at_call 46; (with_reducible refine (all_any h sc w2 HSL.out m HM.out).mono ?_); rintro e w3 ⟨rfl, hb3⟩; have hzr := Lib.hid (heap_kept hz2.out hb3); obtain ⟨⟨z0, z1, z2, z3, z4⟩, ⟨f0, f1, f2, f3, f4⟩⟩ := zero_cells hzr.out; have hS3 := Lib.hid (HK6.out _ _ hb3 hS2.out))
        | (go_at_call 46; (with_reducible refine (all_any h sc w2 HSL.out m HM.out).mono ?_); rintro e w3 ⟨rfl, hb3⟩; have tok5 := trivial; have hS3 := Lib.hid (HK6.out _ _ hb3 hS2.out)))
    · have hb2' := below_of_drew hb2
      go_wp2_with fail
      go_meet
      exact met_new W1 w3 (Lib.hid (stp hb2' hb3)) HS1 H0 H2 hb1
    · have hb2' := below_of_drew hb2
      go_wp2_with fail
      go_meet
      exact met_set W1 w3 w2.heap.size (Lib.hid (stp hb2' hb3')) HS1 H0 H2 hb1 (by have := hb2'.size; exact this) hzr
    · have hb2' : Below W1.heap.size W1 w2 := stp (stpA (Below.refl _ _) _) (below_of_drew hb2)
      go_wp2_with fail
      go_meet
      exact met_set W1 w3 W1.heap.size (Lib.hid (stp hb2' hb3)) HS1 H0 H2 hb1 (Nat.le_refl _) hzr
  case rest =>
    have HMT := Lib.hid hcut
    obtain ⟨B5, rfl, hB5, g5, g0, g2, hbx⟩ := hcut
    clear HMT
    obtain ⟨ra, rb, rc, rd, re⟩ := r
    obtain ⟨ha, hb, hc, hd, he⟩ := h
    obtain ⟨ma, mb, mc, md, me⟩ := m
    have hrr := HR.out
    simp only [S5.add, S5.mk.injEq] at hrr
    obtain ⟨ea, eb, ec, ed, ee⟩ := hrr
    have EA := Lib.hid ea
    have EB := Lib.hid eb
    have EC := Lib.hid ec
    have ED := Lib.hid ed
    have EE := Lib.hid ee
    have G5 := Lib.hid g5
    have G0 := Lib.hid g0
    have G2 := Lib.hid g2
    clear ea eb ec ed ee g5 g0 g2 HR HM
    go_wp2_with (first
      | (refine wpList_load_row rfl _ _ rfl w.heap.size rfl 36 (five ⟨ha, hb, hc, hd, he⟩) (0, 0) _ G0.out Try.underlying36 rfl size37 ?_)
      | fail)
    go_loopg [13] 5 (fun g i wr => ∃ k : Nat, k + g = 5 ∧ i = .int .i64 k ∧ wr.heap[B5]? = some (.cells (five (mx ⟨ra, rb, rc, rd, re⟩ ⟨ma, mb, mc, md, me⟩ k)) 36 (0, 0)) ∧ wr.heap[w.heap.size + 1 + 1]? = some (.cells zero5 36 (0, 0)) ∧ Below w.heap.size w wr)
    case atStart => exact ⟨0, rfl, rfl, G5.out, G2.out, hbx⟩
    case round =>
    obtain ⟨k, hkg, rfl, g5, g2, hbw⟩ := hrel
    have HG5 := Lib.hid g5
    have HG2 := Lib.hid g2
    clear g5 g2 hbx G5 G2 G0
    rcases (show k = 0 ∨ k = 1 ∨ k = 2 ∨ k = 3 ∨ k = 4 ∨ k = 5 by omega) with rfl | rfl | rfl | rfl | rfl | rfl
    · obtain rfl : gk = 5 := by omega
      have ix : ∀ w, (Instr.index 36 (.agg (five ⟨ha, hb, hc, hd, he⟩)) (.int .i64 0)).run Try.prog w = .ok (.int .u32 ha.toNat) w := fun _ => by kernel_rfl
      have hrow : wr.heap[B5]? = some (.cells (five ⟨ma, mb, mc, md, me⟩) 36 (0, 0)) := HG5.out
      have hcell : wr.cell? ⟨B5, 0, none⟩ = some (.int .u32 ma.toNat) := cell_of_row wr B5 0 _ _ _ hrow
      have hfree : wr.frozen? ⟨B5, 0, none⟩ = false := frozen_of_row wr B5 0 _ _ hrow
      have hltB := heap_lt hrow
      have HROW := Lib.hid hrow
      clear hrow hkg
      go_wp2_with (first
        | (go_at_call 48; (with_reducible refine (sum2_any ha ma ra wr EA.out).mono ?_); rintro e w' ⟨rfl, rfl⟩)
        | fail)
      have nrow : Hid (((wr.setCell ⟨B5, 0, none⟩ (.int .u32 ra.toNat)).alloc (.cells #[.int .u32 ha.toNat, .int .u32 ma.toNat] 35)).heap[B5]? = some (.cells (five (mx ⟨ra, rb, rc, rd, re⟩ ⟨ma, mb, mc, md, me⟩ 1)) 36 (0, 0))) := heap_kept (heap_setCell_same _ _ _ _ _ _ HROW.out) (stpA (Below.refl _ _) _)
      have nz : Hid (((wr.setCell ⟨B5, 0, none⟩ (.int .u32 ra.toNat)).alloc (.cells #[.int .u32 ha.toNat, .int .u32 ma.toNat] 35)).heap[w.heap.size + 1 + 1]? = some (.cells zero5 36 (0, 0))) := heap_kept ((heap_setCell_other _ _ _ _ (by simp; omega)).trans HG2.out) (stpA (Below.refl _ _) _)
      have nb : Hid (Below w.heap.size w ((wr.setCell ⟨B5, 0, none⟩ (.int .u32 ra.toNat)).alloc (.cells #[.int .u32 ha.toNat, .int .u32 ma.toNat] 35))) := stpA (hbw.setCell (by simp; omega) _) _
      go_wp2_with fail
      go_roundg 4
      case measure => decide
      case rel => exact ⟨1, rfl, rfl, nrow.out, nz.out, nb.out⟩
    · obtain rfl : gk = 4 := by omega
      have ix : ∀ w, (Instr.index 36 (.agg (five ⟨ha, hb, hc, hd, he⟩)) (.int .i64 1)).run Try.prog w = .ok (.int .u32 hb.toNat) w := fun _ => by kernel_rfl
      have hrow : wr.heap[B5]? = some (.cells (five ⟨ra, mb, mc, md, me⟩) 36 (0, 0)) := HG5.out
      have hcell : wr.cell? ⟨B5, 1, none⟩ = some (.int .u32 mb.toNat) := cell_of_row wr B5 1 _ _ _ hrow
      have hfree : wr.frozen? ⟨B5, 1, none⟩ = false := frozen_of_row wr B5 1 _ _ hrow
      have hltB := heap_lt hrow
      have HROW := Lib.hid hrow
      clear hrow hkg
      go_wp2_with (first
        | (go_at_call 48; (with_reducible refine (sum2_any hb mb rb wr EB.out).mono ?_); rintro e w' ⟨rfl, rfl⟩)
        | fail)
      have nrow : Hid (((wr.setCell ⟨B5, 1, none⟩ (.int .u32 rb.toNat)).alloc (.cells #[.int .u32 hb.toNat, .int .u32 mb.toNat] 35)).heap[B5]? = some (.cells (five (mx ⟨ra, rb, rc, rd, re⟩ ⟨ma, mb, mc, md, me⟩ 2)) 36 (0, 0))) := heap_kept (heap_setCell_same _ _ _ _ _ _ HROW.out) (stpA (Below.refl _ _) _)
      have nz : Hid (((wr.setCell ⟨B5, 1, none⟩ (.int .u32 rb.toNat)).alloc (.cells #[.int .u32 hb.toNat, .int .u32 mb.toNat] 35)).heap[w.heap.size + 1 + 1]? = some (.cells zero5 36 (0, 0))) := heap_kept ((heap_setCell_other _ _ _ _ (by simp; omega)).trans HG2.out) (stpA (Below.refl _ _) _)
      have nb : Hid (Below w.heap.size w ((wr.setCell ⟨B5, 1, none⟩ (.int .u32 rb.toNat)).alloc (.cells #[.int .u32 hb.toNat, .int .u32 mb.toNat] 35))) := stpA (hbw.setCell (by simp; omega) _) _
      go_wp2_with fail
      go_roundg 3
      case measure => decide
      case rel => exact ⟨2, rfl, rfl, nrow.out, nz.out, nb.out⟩
    · obtain rfl : gk = 3 := by omega
      have ix : ∀ w, (Instr.index 36 (.agg (five ⟨ha, hb, hc, hd, he⟩)) (.int .i64 2)).run Try.prog w = .ok (.int .u32 hc.toNat) w := fun _ => by kernel_rfl
      have hrow : wr.heap[B5]? = some (.cells (five ⟨ra, rb, mc, md, me⟩) 36 (0, 0)) := HG5.out
      have hcell : wr.cell? ⟨B5, 2, none⟩ = some (.int .u32 mc.toNat) := cell_of_row wr B5 2 _ _ _ hrow
      have hfree : wr.frozen? ⟨B5, 2, none⟩ = false := frozen_of_row wr B5 2 _ _ hrow
      have hltB := heap_lt hrow
      have HROW := Lib.hid hrow
      clear hrow hkg
      go_wp2_with (first
        | (go_at_call 48; (with_reducible refine (sum2_any hc mc rc wr EC.out).mono ?_); rintro e w' ⟨rfl, rfl⟩)
        | fail)
      have nrow : Hid (((wr.setCell ⟨B5, 2, none⟩ (.int .u32 rc.toNat)).alloc (.cells #[.int .u32 hc.toNat, .int .u32 mc.toNat] 35)).heap[B5]? = some (.cells (five (mx ⟨ra, rb, rc, rd, re⟩ ⟨ma, mb, mc, md, me⟩ 3)) 36 (0, 0))) := heap_kept (heap_setCell_same _ _ _ _ _ _ HROW.out) (stpA (Below.refl _ _) _)
      have nz : Hid (((wr.setCell ⟨B5, 2, none⟩ (.int .u32 rc.toNat)).alloc (.cells #[.int .u32 hc.toNat, .int .u32 mc.toNat] 35)).heap[w.heap.size + 1 + 1]? = some (.cells zero5 36 (0, 0))) := heap_kept ((heap_setCell_other _ _ _ _ (by simp; omega)).trans HG2.out) (stpA (Below.refl _ _) _)
      have nb : Hid (Below w.heap.size w ((wr.setCell ⟨B5, 2, none⟩ (.int .u32 rc.toNat)).alloc (.cells #[.int .u32 hc.toNat, .int .u32 mc.toNat] 35))) := stpA (hbw.setCell (by simp; omega) _) _
      go_wp2_with fail
      go_roundg 2
      case measure => decide
      case rel => exact ⟨3, rfl, rfl, nrow.out, nz.out, nb.out⟩
    · obtain rfl : gk = 2 := by omega
      have ix : ∀ w, (Instr.index 36 (.agg (five ⟨ha, hb, hc, hd, he⟩)) (.int .i64 3)).run Try.prog w = .ok (.int .u32 hd.toNat) w := fun _ => by kernel_rfl
      have hrow : wr.heap[B5]? = some (.cells (five ⟨ra, rb, rc, md, me⟩) 36 (0, 0)) := HG5.out
      have hcell : wr.cell? ⟨B5, 3, none⟩ = some (.int .u32 md.toNat) := cell_of_row wr B5 3 _ _ _ hrow
      have hfree : wr.frozen? ⟨B5, 3, none⟩ = false := frozen_of_row wr B5 3 _ _ hrow
      have hltB := heap_lt hrow
      have HROW := Lib.hid hrow
      clear hrow hkg
      go_wp2_with (first
        | (go_at_call 48; (with_reducible refine (sum2_any hd md rd wr ED.out).mono ?_); rintro e w' ⟨rfl, rfl⟩)
        | fail)
      have nrow : Hid (((wr.setCell ⟨B5, 3, none⟩ (.int .u32 rd.toNat)).alloc (.cells #[.int .u32 hd.toNat, .int .u32 md.toNat] 35)).heap[B5]? = some (.cells (five (mx ⟨ra, rb, rc, rd, re⟩ ⟨ma, mb, mc, md, me⟩ 4)) 36 (0, 0))) := heap_kept (heap_setCell_same _ _ _ _ _ _ HROW.out) (stpA (Below.refl _ _) _)
      have nz : Hid (((wr.setCell ⟨B5, 3, none⟩ (.int .u32 rd.toNat)).alloc (.cells #[.int .u32 hd.toNat, .int .u32 md.toNat] 35)).heap[w.heap.size + 1 + 1]? = some (.cells zero5 36 (0, 0))) := heap_kept ((heap_setCell_other _ _ _ _ (by simp; omega)).trans HG2.out) (stpA (Below.refl _ _) _)
      have nb : Hid (Below w.heap.size w ((wr.setCell ⟨B5, 3, none⟩ (.int .u32 rd.toNat)).alloc (.cells #[.int .u32 hd.toNat, .int .u32 md.toNat] 35))) := stpA (hbw.setCell (by simp; omega) _) _
      go_wp2_with fail
      go_roundg 1
      case measure => decide
      case rel => exact ⟨4, rfl, rfl, nrow.out, nz.out, nb.out⟩
    · obtain rfl : gk = 1 := by omega
      have ix : ∀ w, (Instr.index 36 (.agg (five ⟨ha, hb, hc, hd, he⟩)) (.int .i64 4)).run Try.prog w = .ok (.int .u32 he.toNat) w := fun _ => by kernel_rfl
      have hrow : wr.heap[B5]? = some (.cells (five ⟨ra, rb, rc, rd, me⟩) 36 (0, 0)) := HG5.out
      have hcell : wr.cell? ⟨B5, 4, none⟩ = some (.int .u32 me.toNat) := cell_of_row wr B5 4 _ _ _ hrow
      have hfree : wr.frozen? ⟨B5, 4, none⟩ = false := frozen_of_row wr B5 4 _ _ hrow
      have hltB := heap_lt hrow
      have HROW := Lib.hid hrow
      clear hrow hkg
      go_wp2_with (first
        | (go_at_call 48; (with_reducible refine (sum2_any he me re wr EE.out).mono ?_); rintro e w' ⟨rfl, rfl⟩)
        | fail)
      have nrow : Hid (((wr.setCell ⟨B5, 4, none⟩ (.int .u32 re.toNat)).alloc (.cells #[.int .u32 he.toNat, .int .u32 me.toNat] 35)).heap[B5]? = some (.cells (five (mx ⟨ra, rb, rc, rd, re⟩ ⟨ma, mb, mc, md, me⟩ 5)) 36 (0, 0))) := heap_kept (heap_setCell_same _ _ _ _ _ _ HROW.out) (stpA (Below.refl _ _) _)
      have nz : Hid (((wr.setCell ⟨B5, 4, none⟩ (.int .u32 re.toNat)).alloc (.cells #[.int .u32 he.toNat, .int .u32 me.toNat] 35)).heap[w.heap.size + 1 + 1]? = some (.cells zero5 36 (0, 0))) := heap_kept ((heap_setCell_other _ _ _ _ (by simp; omega)).trans HG2.out) (stpA (Below.refl _ _) _)
      have nb : Hid (Below w.heap.size w ((wr.setCell ⟨B5, 4, none⟩ (.int .u32 re.toNat)).alloc (.cells #[.int .u32 he.toNat, .int .u32 me.toNat] 35))) := stpA (hbw.setCell (by simp; omega) _) _
      go_wp2_with fail
      go_roundg 0
      case measure => decide
      case rel => exact ⟨5, rfl, rfl, nrow.out, nz.out, nb.out⟩
    · have HROW : Hid (wr.heap[B5]? = some (.cells (five ⟨ra, rb, rc, rd, re⟩) 36 (0, 0))) := HG5.out
      go_wp2_with (first
        | (refine wpList_load_row rfl _ _ rfl B5 rfl 36 (five ⟨ra, rb, rc, rd, re⟩) (0, 0) _ HROW.out Try.underlying36 rfl size37 ?_)
        | (refine wpList_store_row rfl _ _ _ rfl (w.heap.size + 1 + 1) (five ⟨ra, rb, rc, rd, re⟩) rfl rfl 36 zero5 HG2.out size37 rfl (five_one _) ?_)
        | fail)
      exact bodyPost_ret (v := .agg (five ⟨ra, rb, rc, rd, re⟩)) (results_cell_row rfl _ _ _ _ _ _ _ rfl (setRow_heap _ _ _ _ _ _ HG2.out) Try.underlying36 rfl size37) rfl ⟨rfl, below_setRow0 hbw (by omega) _⟩
end Hx
end Go.Proofs.Ytmjcmlaeajglmaa
