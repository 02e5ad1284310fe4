/-
  The contracts of tidewaiterlaw03.block and tidewaiterlaw03.from.
-/
import Derived.Test.YtmjcmlaeajglmaaShaE
import Derived.Deep.RegionWith
namespace Go.Proofs.Ytmjcmlaeajglmaa
open Go.RowKit
namespace Sh
open Go Wd Sh
def cutRow (D : List UInt8) (t : Nat) : List UInt8 := D.take t ++ List.replicate (64 - t) 0
theorem cutRow_zero (D : List UInt8) : cutRow D 0 = List.replicate 64 0 := by simp [cutRow]
theorem cutRow_end (D : List UInt8) (h : D.length = 64) : cutRow D 64 = D := by simp [cutRow, ← h]
theorem cutRow_length (D : List UInt8) (h : D.length = 64) (t : Nat) (ht : t ≤ 64) : (cutRow D t).length = 64 := by simp [cutRow, h]; omega
theorem cutRow_set (D : List UInt8) (h : D.length = 64) (t : Nat) (ht : t < 64) (c : UInt8) (hc : D[t]? = some c) : (cutRow D t).set t c = cutRow D (t + 1) := by
  unfold cutRow
  apply List.ext_getElem?
  intro j
  have hl : (D.take t).length = t := by simp [h]; omega
  rw [List.getElem?_set]
  by_cases hj : t = j
  · subst hj
    have : t < (D.take t ++ List.replicate (64 - t) (0 : UInt8)).length := by simp [h]; omega
    rw [if_pos rfl, if_pos this, List.getElem?_append_left (by simp [h]; omega), List.getElem?_take, if_pos (by omega), hc]
  · rw [if_neg hj]
    by_cases hlt : j < t
    · rw [List.getElem?_append_left (by omega), List.getElem?_append_left (by simp [h]; omega), List.getElem?_take, List.getElem?_take, if_pos hlt, if_pos (by omega)]
    · rw [List.getElem?_append_right (by omega), List.getElem?_append_right (by simp [h]; omega), hl, List.getElem?_replicate, List.getElem?_replicate]
      have : (D.take (t + 1)).length = t + 1 := by simp [h]; omega
      rw [this]
      by_cases h6 : j < 64
      · rw [if_pos (by omega), if_pos (by omega)]
      · rw [if_neg (by omega), if_neg (by omega)]
end Sh
namespace Hx
open Wd Sh
attribute [local go_sem ↓] Go.wp_at_zero Go.wp_at_succ
theorem sizeB64 : (Try.prog.info? 64).map (·.size) = some 64 := by kernel_rfl
theorem zeroB64 : ∀ w, (zeroValue 64).run Try.prog w = .ok (.agg zero64) w := (zero_of_info (n := 64) (by kernel_rfl)).1

set_option maxHeartbeats 4000000 in
set_option maxRecDepth 100000 in
theorem cut_any (g o n cp at' : Nat) (l : List UInt8) (w : World) (hg : g < w.heap.size) (hc : ∀ j (h : j < l.length), w.cell? ⟨g, o + j, none⟩ = some (encB (l[j]'h))) (hn : l.length = n) (ha : at' + 64 ≤ n) (hm : n ≤ 32768) (cs : List Value) (hcs : ((l.drop at').take 64).map encB = cs) :
    Calls Try.prog 36 #[.slice (some ⟨g, o, none⟩) n cp, .int .i64 at'] w fun e w' => e = .returned (.agg cs.toArray) ∧ Below w.heap.size w w' := by
  have hz64 := zeroB64
  obtain ⟨D, hD⟩ : ∃ D, (l.drop at').take 64 = D := ⟨_, rfl⟩
  rw [hD] at hcs
  have hDl : D.length = 64 := by rw [← hD]; simp; omega
  have hDc : ∀ t (ht : t < 64), ∃ c, D[t]? = some c ∧ w.cell? ⟨g, o + (at' + t), none⟩ = some (encB c) := by
    intro t ht
    refine ⟨l[at' + t]'(by omega), ?_, hc (at' + t) (by omega)⟩
    rw [← hD, List.getElem?_take, if_pos ht, List.getElem?_drop, List.getElem?_eq_getElem (by omega)]
  have HD := Lib.hid hDl
  have HDC := Lib.hid hDc
  have HCS := Lib.hid hcs
  clear hD hDl hDc hcs hc hn
  go_enter Try.func36, Try.ntmps36
  go_wp2_with fail
  obtain ⟨W1, hW1, hs1, h0, h1, hb1⟩ := opn2 w (Obj.cells zero64 64) (Obj.cells zero64 64)
  rw [hW1]
  have hrow : Blk encB W1 (w.heap.size + 1) 64 (cutRow D 0) := by rw [cutRow_zero]; exact h1
  have HROW := Lib.hid hrow
  have H0 := Lib.hid h0
  clear hW1 hrow h0 h1 hs1
  go_loopg [6] 64 (fun k i wr => ∃ t : Nat, t + k = 64 ∧ i = .int .i64 t ∧ Blk encB wr (w.heap.size + 1) 64 (cutRow D t) ∧ wr.heap[w.heap.size]? = some (.cells zero64 64 (0, 0)) ∧ Below w.heap.size w wr)
  case atStart => exact ⟨0, rfl, rfl, HROW.out, H0.out, hb1⟩
  case round =>
    clear hb1 HROW H0
    obtain ⟨t, htk, rfl, hrow, h0, hbw⟩ := hrel
    have HROW := Lib.hid hrow
    have H0 := Lib.hid h0
    clear hrow h0
    cases gk with
    | zero =>
      as_aux_lemma =>
      obtain rfl : t = 64 := by omega
      have hfull : wr.heap[w.heap.size + 1]? = some (.cells cs.toArray 64 (0, 0)) := by
        have := HROW.out
        unfold Blk at this
        rw [cutRow_end D HD.out, HCS.out] at this
        exact this
      have hcl : cs.length = 64 := by rw [← HCS.out]; simp [HD.out]
      have HF := Lib.hid hfull
      have HCL := Lib.hid hcl
      have hall : (cs.toArray).all (·.oneCell') = true := by rw [← HCS.out]; exact map_one encB_one _
      have HALL := Lib.hid hall
      clear hfull hcl hall htk HROW
      go_wp2_with (first
        | (refine wpList_load_row rfl _ _ rfl (w.heap.size + 1) rfl 64 cs.toArray (0, 0) _ HF.out Try.underlying64 rfl (by rw [sizeB64]; simp [HCL.out]) ?_)
        | (refine wpList_store_row rfl _ _ _ rfl w.heap.size cs.toArray rfl rfl 64 zero64 H0.out (by rw [sizeB64]; simp [HCL.out]) (by simp [zero64, HCL.out]) HALL.out ?_)
        | fail)
      exact bodyPost_ret (v := .agg cs.toArray) (results_cell_row rfl _ _ _ _ _ _ _ rfl (setRow_heap _ _ _ _ _ _ H0.out) Try.underlying64 rfl (by rw [sizeB64]; simp [HCL.out])) rfl ⟨rfl, below_setRow0 hbw (by omega) _⟩
    | succ k =>
      as_aux_lemma =>
      have hlt : t < 64 := by omega
      obtain ⟨c, hDt, hcell⟩ := HDC.out t hlt
      obtain ⟨m, hm1⟩ : ∃ m, at' + t = m := ⟨_, rfl⟩
      rw [hm1] at hcell
      have hcellw : wr.cell? ⟨g, o + m, none⟩ = some (.int .u8 c.toNat) := (hbw.cell (p := ⟨g, o + m, none⟩) hg).trans hcell
      have s1 : IntKind.i64.wrap ((at' : Int) + (t : Int)) = (m : Int) := by rw [IntWalk.i64_in _ (by omega)]; omega
      have bm : (0 : Int) ≤ (m : Int) ∧ (m : Int) < (n : Int) := by omega
      have bt : (0 : Int) ≤ (t : Int) ∧ (t : Int) < 64 := by omega
      have ht64 : (t : Int) < 64 := by omega
      obtain ⟨z, gt⟩ : ∃ z : UInt8, wr.cell? ⟨w.heap.size + 1, t, none⟩ = some (.int .u8 z.toNat) := ⟨_, HROW.out.cell t (by rw [cutRow_length D HD.out t (by omega)]; exact hlt)⟩
      have ft := HROW.out.free t
      have hset := cutRow_set D HD.out t hlt c hDt
      have HSET := Lib.hid hset
      have HTK := Lib.hid htk
      have HK : Hid (k < k + 1) := Nat.lt_succ_self k
      clear hset hDt hcell hm1 htk
      go_wp2_with fail
      have hrow' : Blk encB (wr.setCell ⟨w.heap.size + 1, t, none⟩ (.int .u8 c.toNat)) (w.heap.size + 1) 64 (cutRow D (t + 1)) := by rw [← HSET.out]; exact HROW.out.put t c
      have h0' : (wr.setCell ⟨w.heap.size + 1, t, none⟩ (.int .u8 c.toNat)).heap[w.heap.size]? = some (.cells zero64 64 (0, 0)) := (heap_setCell_other _ _ _ _ (by simp)).trans H0.out
      have hb' : Below w.heap.size w (wr.setCell ⟨w.heap.size + 1, t, none⟩ (.int .u8 c.toNat)) := hbw.setCell (by simp) _
      go_roundg k
      case measure => exact HK.out
      case rel => exact ⟨t + 1, by have := HTK.out; omega, by go_num, hrow', h0', hb'⟩

theorem cut_rd (A : Option Addr) (n cp at' : Nat) (l : List UInt8) (w : World) (hr : RdA w w.heap.size A l) (hn : l.length = n) (ha : at' + 64 ≤ n) (hm : n ≤ 32768) (cs : List Value) (hcs : ((l.drop at').take 64).map encB = cs) :
    Calls Try.prog 36 #[.slice A n cp, .int .i64 at'] w fun e w' => e = .returned (.agg cs.toArray) ∧ Below w.heap.size w w' := by
  obtain ⟨g, o, rfl, hg, hc⟩ := hr (by omega)
  exact cut_any g o n cp at' l w hg hc hn ha hm cs hcs
theorem fv_put {W : World} {g : Nat} {t : TypeId} {o0 o1 o2 o3 o4 : Value} (h : W.heap[g]? = some (.cells #[o0, o1, o2, o3, o4] t (0, 0))) (v : S5) :
    (((((W.setCell ⟨g, 0, none⟩ (.int .u32 v.a.toNat)).setCell ⟨g, 1, none⟩ (.int .u32 v.b.toNat)).setCell ⟨g, 2, none⟩ (.int .u32 v.c.toNat)).setCell ⟨g, 3, none⟩ (.int .u32 v.d.toNat)).setCell ⟨g, 4, none⟩ (.int .u32 v.e.toNat)).heap[g]? = some (.cells (five v) t (0, 0)) := by
  have h0 := heap_setCell_same W g 0 _ t (.int .u32 v.a.toNat) h
  have h1 := heap_setCell_same _ g 1 _ t (.int .u32 v.b.toNat) h0
  have h2 := heap_setCell_same _ g 2 _ t (.int .u32 v.c.toNat) h1
  have h3 := heap_setCell_same _ g 3 _ t (.int .u32 v.d.toNat) h2
  have h4 := heap_setCell_same _ g 4 _ t (.int .u32 v.e.toNat) h3
  rw [h4]
  rfl
theorem fv_far (W : World) (g k : Nat) (v : S5) (h : k ≠ g) : (((((W.setCell ⟨g, 0, none⟩ (.int .u32 v.a.toNat)).setCell ⟨g, 1, none⟩ (.int .u32 v.b.toNat)).setCell ⟨g, 2, none⟩ (.int .u32 v.c.toNat)).setCell ⟨g, 3, none⟩ (.int .u32 v.d.toNat)).setCell ⟨g, 4, none⟩ (.int .u32 v.e.toNat)).heap[k]? = W.heap[k]? := by
  rw [heap_setCell_other _ _ _ _ h, heap_setCell_other _ _ _ _ h, heap_setCell_other _ _ _ _ h, heap_setCell_other _ _ _ _ h, heap_setCell_other _ _ _ _ h]
theorem fv_below {W : World} {B : Nat} {w0 : World} (g : Nat) (v : S5) (hb : Below B w0 W) (hg : B ≤ g) : Below B w0 (((((W.setCell ⟨g, 0, none⟩ (.int .u32 v.a.toNat)).setCell ⟨g, 1, none⟩ (.int .u32 v.b.toNat)).setCell ⟨g, 2, none⟩ (.int .u32 v.c.toNat)).setCell ⟨g, 3, none⟩ (.int .u32 v.d.toNat)).setCell ⟨g, 4, none⟩ (.int .u32 v.e.toNat)) :=
  ((((hb.setCell (by simpa using hg) _).setCell (by simpa using hg) _).setCell (by simpa using hg) _).setCell (by simpa using hg) _).setCell (by simpa using hg) _

set_option maxHeartbeats 4000000 in
set_option maxRecDepth 100000 in
theorem from_rd (h : S5) (A : Option Addr) (n cp : Nat) (l : List UInt8) (w : World) (hc : RdA w w.heap.size A l) (hn : l.length = n) (hm : n ≤ 32768) (r : S5) (hr : goL h l = r) :
    Calls Try.prog 15 #[.agg (five h), .slice A n cp] w fun e w' => e = .returned (.agg (five r)) ∧ Below w.heap.size w w' := by
  obtain ⟨N, hN⟩ : ∃ N, l.length / 64 = N := ⟨_, rfl⟩
  have hr' : goK h l N = r := by rw [← hr, ← hN]; rfl
  have HR := Lib.hid hr'
  have HC := Lib.hid hc
  have HN := Lib.hid hn
  have HNN : Hid (64 * N ≤ n ∧ n < 64 * N + 64) := by constructor <;> omega
  clear hr hr' hc hn hN
  go_enter Try.func15, Try.ntmps15
  go_wp2_with fail
  obtain ⟨W1, hW1, hs1, h0, h1, hb1⟩ := opn2 w (Obj.cells (five h) 36) (Obj.cells zero5 36)
  have hW1' := hW1
  unfold zero5 at hW1'
  rw [hW1']
  have H0 := Lib.hid h0
  have H1 := Lib.hid h1
  clear hW1 hW1' h0 h1 hs1
  go_loopg [5] N (fun gk i wr => ∃ k m : Nat, k + gk = N ∧ 64 * k = m ∧ i = .int .i64 m ∧ wr.heap[w.heap.size]? = some (.cells (five (goK h l k)) 36 (0, 0)) ∧ wr.heap[w.heap.size + 1]? = some (.cells zero5 36 (0, 0)) ∧ Below w.heap.size w wr)
  case atStart => exact ⟨0, 0, by omega, rfl, rfl, H0.out, H1.out, hb1⟩
  case round =>
    clear hb1 H0 H1
    obtain ⟨k, m, hkg, hkm, rfl, h0, h1, hbw⟩ := hrel
    have H0 := Lib.hid h0
    have H1 := Lib.hid h1
    clear h0 h1
    cases gk with
    | zero =>
      as_aux_lemma =>
      obtain rfl : k = N := by omega
      rw [HR.out] at H0
      have b0 : ¬ ((m : Int) + 64 ≤ (n : Int)) := by have := HNN.out.2; omega
      have b1 : (0 : Int) ≤ (m : Int) ∧ (m : Int) ≤ 32768 := by have := HNN.out.1; omega
      have s1 : IntKind.i64.wrap ((m : Int) + 64) = (m : Int) + 64 := by rw [IntWalk.i64_in _ (by omega)]
      clear hkg hkm HNN
      go_wp2_with (first
        | (refine wpList_load_row rfl _ _ rfl w.heap.size rfl 36 (five r) (0, 0) _ H0.out Try.underlying36 rfl size37 ?_)
        | (refine wpList_store_row rfl _ _ _ rfl (w.heap.size + 1) (five r) rfl rfl 36 zero5 H1.out size37 rfl (five_one _) ?_)
        | fail)
      exact bodyPost_ret (v := .agg (five r)) (results_cell_row rfl _ _ _ _ _ _ _ rfl (setRow_heap _ _ _ _ _ _ H1.out) Try.underlying36 rfl size37) rfl ⟨rfl, below_setRow0 hbw (by omega) _⟩
    | succ gk =>
      as_aux_lemma =>
      have ha : m + 64 ≤ n := by have := HNN.out.1; omega
      have b0 : (m : Int) + 64 ≤ (n : Int) := by omega
      have b1 : (0 : Int) ≤ (m : Int) ∧ (m : Int) ≤ 32768 := by omega
      have s1 : IntKind.i64.wrap ((m : Int) + 64) = (m : Int) + 64 := by rw [IntWalk.i64_in _ (by omega)]
      obtain ⟨D, hD⟩ : ∃ D, (l.drop m).take 64 = D := ⟨_, rfl⟩
      have hDl : D.length = 64 := by rw [← hD]; simp [HN.out]; omega
      obtain ⟨cs, hcs⟩ : ∃ cs, ((l.drop m).take 64).map encB = cs := ⟨_, rfl⟩
      have hcd : D.map encB = cs := by rw [← hD]; exact hcs
      obtain ⟨u, hu⟩ : ∃ u, goK h l k = u := ⟨_, rfl⟩
      rw [hu] at H0
      obtain ⟨v, hv⟩ : ∃ v, blk u D = v := ⟨_, rfl⟩
      have HV := Lib.hid hv
      have HNX : Hid (goK h l (k + 1) = v) := by rw [← hv, ← hu, ← hD, ← hkm]; rfl
      have HCS := Lib.hid hcs
      have HCD := Lib.hid hcd
      have HDL := Lib.hid hDl
      have HA := Lib.hid ha
      have HKM := Lib.hid hkm
      have HKG := Lib.hid hkg
      have HGK : Hid (gk < gk + 1) := Nat.lt_succ_self gk
      have HC1 : Hid (RdA wr.drew wr.drew.heap.size A l) := Lib.hid ((HC.out.below hbw).mono hbw.size)
      obtain ⟨⟨z0, z1, z2, z3, z4⟩, ⟨f0, f1, f2, f3, f4⟩⟩ := five_cells H0.out
      clear hD hDl hcs hcd hu hv ha hkg hkm f0 f1 f2 f3 f4 HNN HR
      go_wp2_with fail
      go_region_with (first
        | (go_at_call 36; (with_reducible refine (cut_rd A n cp m l wr.drew HC1.out HN.out HA.out hm cs HCS.out).mono ?_); rintro e w5 ⟨rfl, hb5⟩; have hb5' := below_of_drew hb5; obtain ⟨⟨y0, y1, y2, y3, y4⟩, ⟨f0, f1, f2, f3, f4⟩⟩ := five_cells (heap_kept H0.out hb5'))
        | (go_at_call 32; (with_reducible refine (block_cs u D cs _ HDL.out HCD.out v HV.out).mono ?_); rintro e w6 ⟨rfl, hb6⟩; obtain ⟨⟨x0, x1, x2, x3, x4⟩, ⟨k0, k1, k2, k3, k4⟩⟩ := five_cells (heap_kept (heap_kept H0.out hb5') hb6)))
      all_goals
        have q0 : Hid ((((((w6.setCell ⟨w.heap.size, 0, none⟩ (.int .u32 v.a.toNat)).setCell ⟨w.heap.size, 1, none⟩ (.int .u32 v.b.toNat)).setCell ⟨w.heap.size, 2, none⟩ (.int .u32 v.c.toNat)).setCell ⟨w.heap.size, 3, none⟩ (.int .u32 v.d.toNat)).setCell ⟨w.heap.size, 4, none⟩ (.int .u32 v.e.toNat)).heap[w.heap.size]? = some (.cells (five (goK h l (k + 1))) 36 (0, 0))) := by rw [HNX.out]; exact fv_put (heap_kept (heap_kept H0.out hb5') hb6) v
        have q1 : Hid ((((((w6.setCell ⟨w.heap.size, 0, none⟩ (.int .u32 v.a.toNat)).setCell ⟨w.heap.size, 1, none⟩ (.int .u32 v.b.toNat)).setCell ⟨w.heap.size, 2, none⟩ (.int .u32 v.c.toNat)).setCell ⟨w.heap.size, 3, none⟩ (.int .u32 v.d.toNat)).setCell ⟨w.heap.size, 4, none⟩ (.int .u32 v.e.toNat)).heap[w.heap.size + 1]? = some (.cells zero5 36 (0, 0))) := (fv_far w6 w.heap.size _ v (by omega)).trans (heap_kept (heap_kept H1.out hb5') hb6)
        have qb : Hid (Below w.heap.size w (((((w6.setCell ⟨w.heap.size, 0, none⟩ (.int .u32 v.a.toNat)).setCell ⟨w.heap.size, 1, none⟩ (.int .u32 v.b.toNat)).setCell ⟨w.heap.size, 2, none⟩ (.int .u32 v.c.toNat)).setCell ⟨w.heap.size, 3, none⟩ (.int .u32 v.d.toNat)).setCell ⟨w.heap.size, 4, none⟩ (.int .u32 v.e.toNat))) := fv_below w.heap.size v (stp (stp hbw hb5') hb6) (Nat.le_refl _)
        clear hb5 hb5' hb6 x0 x1 x2 x3 x4 k0 k1 k2 k3 k4 y0 y1 y2 y3 y4 f0 f1 f2 f3 f4 z0 z1 z2 z3 z4
        go_wp2_with fail
        go_roundg gk
        case measure => exact HGK.out
        case rel => exact ⟨k + 1, m + 64, by have := HKG.out; omega, by have := HKM.out; omega, by go_num, q0.out, q1.out, qb.out⟩

/-- word.Bytes of a state in a variable, as a list that reads. -/
def ByRd (D : List UInt8) (W : World) (e : Ending) (w' : World) : Prop := Below W.heap.size W w' ∧ ∃ A c, e = .returned (.slice A 20 c) ∧ RdA w' w'.heap.size A D
theorem bytes_rd (B : Nat) (r : S5) (D : List UInt8) (w : World) (h : w.heap[B]? = some (.cells (five r) 36 (0, 0))) (hD : bytesL r.toL = D) :
    Calls Try.prog 17 #[.slice (some ⟨B, 0, none⟩) 5 5] w (ByRd D w) := by
  subst hD
  have hb : Blk encW w B 36 r.toL := h
  refine (bytes_any (some ⟨B, 0, none⟩) 5 5 r.toL w hb.slice rfl (by decide)).mono fun e w' ⟨hb', A, c, he, hr⟩ => ?_
  exact ⟨hb', A, c, he, hr⟩
theorem eql5 (r : S5) (w : World) : (binOp .eql 36 (.agg (five r)) (.agg (five r))).run Try.prog w = .ok (.bool true) w :=
  run_eql_agg (enc := encW) Try.underlying36 Try.underlying35 infoW1.1 infoW1.2 (fun _ => ⟨_, rfl⟩) r.toL rfl w
theorem own_some {w : World} {base : Nat} {e : TypeId} {v : Value} {n L : Nat} {xs : List Value} {l : List UInt8} (h : w.ownsRow base e 1 v n xs) (hx : xs = Lib.byteCells l) (hn : n = L) (hp : 0 < L) :
    ∃ A c, v = .slice A L c ∧ (A = none → c = 0) ∧ L ≤ c ∧ RdA w w.heap.size A l := by
  subst hx hn
  rcases h.2 with ⟨_, h0⟩ | ⟨g, cap, cur, hv, _, _, hc, _⟩
  · omega
  · subst hv
    exact ⟨_, _, rfl, (fun h => by cases h), hc, (RdA.of_own h).1⟩
end Hx
end Go.Proofs.Ytmjcmlaeajglmaa
