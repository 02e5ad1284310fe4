/-
  The contract of the document's own answer for a schedule (tidewaiterref03.schedule).
-/
import Derived.Test.YtmjcmlaeajglmaaShaR
namespace Go.Proofs.Ytmjcmlaeajglmaa
open Go.RowKit
namespace Hx
open Wd Sh
attribute [local go_sem ↓] Go.wp_at_zero Go.wp_at_succ

/-- The schedule as it lies in its array, from the first word on. -/
def schRow0 (l : List W32) (t : Nat) : List W32 := if t ≤ 16 then l.take t ++ List.replicate (80 - t) 0#32 else schRow l t
theorem schRow0_len (l : List W32) (hl : l.length = 16) (t : Nat) (ht : t ≤ 80) : (schRow0 l t).length = 80 := by
  unfold schRow0
  split
  · rw [List.length_append, List.length_take, List.length_replicate]; omega
  · exact schRow_length l hl t (by omega) ht
theorem schRow0_ge (l : List W32) (hl : l.length = 16) (t : Nat) (h : 16 ≤ t) : schRow0 l t = schRow l t := by
  unfold schRow0
  split
  · obtain rfl : t = 16 := by omega
    rw [schRow_start, List.take_of_length_le (by omega)]
  · rfl
theorem schRow0_set (l : List W32) (hl : l.length = 16) (t : Nat) (h : t < 16) : (schRow0 l t).set t (l[t]'(by omega)) = schRow0 l (t + 1) := by
  unfold schRow0
  rw [if_pos (by omega), if_pos (by omega)]
  have h1 : (l.take t).length = t := by rw [List.length_take]; omega
  obtain ⟨m, hm⟩ : ∃ m, 80 - t = m + 1 := ⟨80 - t - 1, by omega⟩
  rw [hm, show 80 - (t + 1) = m by omega, List.set_append_right _ _ (by omega), h1, Nat.sub_self, List.replicate_succ, List.set_cons_zero, List.take_succ_eq_append_getElem (by omega), List.append_assoc]
  rfl

/-- ref.Of of a block in a variable. -/
def ROf64 (b : List UInt8) (W : World) (e : Ending) (w' : World) : Prop := Below W.heap.size W w' ∧ ∃ g o c, e = .returned (.tuple #[.slice (some ⟨g, o, none⟩) 16 c, .int .i64 0]) ∧ W.heap.size ≤ g ∧ g < w'.heap.size ∧ ∀ j (h : j < (wordL b).length), w'.cell? ⟨g, o + j, none⟩ = some (encW ((wordL b)[j]'h))
theorem rof_64 (B : Nat) (b : List UInt8) (w : World) (hb : b.length = 64) (hr : Blk encB w B 64 b) :
    Calls Try.prog 70 #[.slice (some ⟨B, 0, none⟩) 64 64] w (ROf64 b w) := by
  refine (rof_okF (some ⟨B, 0, none⟩) 64 64 b w (rdA_rdB.1 hr.slice) hb (by decide) (by decide)).mono fun e w' ⟨hb', A, c, he, hr', hf⟩ => ?_
  have hl : (wordL b).length = 16 := by rw [wordL_length, hb]
  obtain ⟨g, o, rfl, hg, hc⟩ := hr' (by rw [hl]; decide)
  exact ⟨hb', g, o, c, by rw [he, hl], hf g o rfl, hg, hc⟩
theorem bxor3 (a b c d u v z : W32) (h1 : a ^^^ b = u) (h2 : u ^^^ c = v) (h3 : v ^^^ d = z) : odd a b c ^^^ d = z := by subst h1 h2 h3; rfl

set_option maxHeartbeats 4000000 in
set_option maxRecDepth 100000 in
theorem rschedule_any (b : List UInt8) (w : World) (hb : b.length = 64) :
    Calls Try.prog 60 #[.agg (b.map encB).toArray] w fun e w' => e = .returned (.agg ((sch (wordL b) 64).map encW).toArray) ∧ Below w.heap.size w w' := by
  have hz56 := zero_56
  have HBL := Lib.hid hb
  clear hb
  obtain ⟨obj, hobj⟩ : ∃ obj, (b.map encB).toArray = obj := ⟨_, rfl⟩
  rw [hobj]
  have HOB := Lib.hid hobj
  clear hobj
  go_enter Try.func60, Try.ntmps60
  go_wp2_with fail
  obtain ⟨W1, hW1, hs1, h0, h1, h2, hb1⟩ := opn3n w (Obj.cells obj 64) (Obj.cells zero80 81) (Obj.cells zero80 81)
  rw [hW1]
  have hblk : Blk encB W1 w.heap.size 64 b := by unfold Blk; rw [HOB.out]; exact h0
  have HBK := Lib.hid hblk
  have HS1 := Lib.hid hs1
  have H1 := Lib.hid h1
  have H2 := Lib.hid h2
  clear hW1 hs1 h0 h1 h2 hblk HOB
  go_wp2_with (first
    | (go_at_call 70; (with_reducible refine (rof_64 w.heap.size b W1 HBL.out HBK.out).mono ?_); rintro e w2 ⟨hb2, g, o, c, rfl, hgf, hg, hcs⟩; have hb2' := stp hb1 hb2; have H12 := Lib.hid (heap_kept H1.out hb2); have H22 := Lib.hid (heap_kept H2.out hb2); have HCS := Lib.hid hcs; clear hcs)
    | fail)
  obtain ⟨L, hL⟩ : ∃ L, wordL b = L := ⟨_, rfl⟩
  rw [hL] at HCS
  have hLl : L.length = 16 := by rw [← hL, wordL_length, HBL.out]
  have HL := Lib.hid hL
  have HLL := Lib.hid hLl
  have hrow : Blk encW w2 (w.heap.size + 1 + 1) 81 (schRow0 L 0) := by
    unfold Blk schRow0
    rw [H22.out]
    simp [zero80]
  have hh1 := H12.out
  have hgb : w.heap.size + 1 + 1 < g := by have := HS1.out; omega
  have hcs : ∀ j (h : j < L.length), w2.cell? ⟨g, o + j, none⟩ = some (encW (L[j]'h)) := HCS.out
  clear hL hLl H12 H22 HCS hb2 hb1 HBK HS1 H1 H2 HBL hg hgf
  go_loopw [6] (fun i wr => ∃ t : Nat, t ≤ 80 ∧ i = .int .i64 t ∧ Blk encW wr (w.heap.size + 1 + 1) 81 (schRow0 L t) ∧ wr.heap[w.heap.size + 1]? = some (.cells zero80 81 (0, 0)) ∧ (∀ j (h : j < L.length), wr.cell? ⟨g, o + j, none⟩ = some (encW (L[j]'h))) ∧ Below w.heap.size w wr) (fun i _ => 80 - (intOf i).toNat)
  case atStart => exact ⟨0, by omega, rfl, hrow, hh1, hcs, hb2'⟩
  case round =>
    clear hrow hh1 hcs hb2'
    obtain ⟨t, ht2, rfl, hrow, hh1, hcs, hbw⟩ := hrel
    have HR := Lib.hid hrow
    have HH1 := Lib.hid hh1
    have HCS := Lib.hid hcs
    by_cases hlt : t < 80
    · by_cases h16 : t < 16
      · have htL : t < L.length := by rw [HLL.out]; exact h16
        have hlen := schRow0_len L HLL.out t ht2
        obtain ⟨x, hx⟩ : ∃ x, L[t]'htL = x := ⟨_, rfl⟩
        have gl := hcs t htL
        rw [hx, encW] at gl
        have HSET : Hid ((schRow0 L t).set t x = schRow0 L (t + 1)) := by rw [← hx]; exact schRow0_set L HLL.out t h16
        have gt : ∃ v, wr.cell? ⟨w.heap.size + 1 + 1, t, none⟩ = some v := ⟨_, hrow.cell t (by omega)⟩
        obtain ⟨vt, gt⟩ := gt
        have ft := hrow.free t
        have bt : (0 : Int) ≤ (t : Int) ∧ (t : Int) < 80 := by omega
        have bt16 : decide ((t : Int) < 16) = true := by simp; omega
        clear hrow hh1 hcs hx hlen
        go_wp2_with fail
        have hrow5 : Blk encW (wr.setCell ⟨w.heap.size + 1 + 1, t, none⟩ (.int .u32 x.toNat)) (w.heap.size + 1 + 1) 81 (schRow0 L (t + 1)) := by rw [← HSET.out]; exact HR.out.put t x
        have hh5 : (wr.setCell ⟨w.heap.size + 1 + 1, t, none⟩ (.int .u32 x.toNat)).heap[w.heap.size + 1]? = some (.cells zero80 81 (0, 0)) := (heap_setCell_other _ _ _ _ (by simp)).trans HH1.out
        have hc5 : ∀ j (h : j < L.length), (wr.setCell ⟨w.heap.size + 1 + 1, t, none⟩ (.int .u32 x.toNat)).cell? ⟨g, o + j, none⟩ = some (encW (L[j]'h)) := fun j h => by
          rw [World.cell?_setCell_other _ _ _ _ (by intro e; injection e; omega)]
          exact HCS.out j h
        have hb6 : Below w.heap.size w (wr.setCell ⟨w.heap.size + 1 + 1, t, none⟩ (.int .u32 x.toNat)) := hbw.setCell (by simp; omega) _
        go_roundw
        case rel => exact ⟨t + 1, by omega, by go_num, hrow5, hh5, hc5, hb6⟩
        case measure => simp [intOf]; omega
      · rw [schRow0_ge L HLL.out t (by omega)] at hrow HR
        have ht1 : 16 ≤ t := by omega
        have hlen := schRow_length L HLL.out t ht1 ht2
        obtain ⟨m3, hm3⟩ : ∃ m, t = m + 3 := ⟨t - 3, by omega⟩
        obtain ⟨m8, hm8⟩ : ∃ m, t = m + 8 := ⟨t - 8, by omega⟩
        obtain ⟨m14, hm14⟩ : ∃ m, t = m + 14 := ⟨t - 14, by omega⟩
        obtain ⟨m16, hm16⟩ : ∃ m, t = m + 16 := ⟨t - 16, by omega⟩
        have g3 := hrow.cell m3 (by omega)
        have g8 := hrow.cell m8 (by omega)
        have g14 := hrow.cell m14 (by omega)
        have g16 := hrow.cell m16 (by omega)
        have gt := hrow.cell t (by omega)
        rw [schRow_zero L HLL.out t ht1 hlt] at gt
        have ft := hrow.free t
        rw [schRow_get L HLL.out t m3 ht1 (by omega)] at g3
        rw [schRow_get L HLL.out t m8 ht1 (by omega)] at g8
        rw [schRow_get L HLL.out t m14 ht1 (by omega)] at g14
        rw [schRow_get L HLL.out t m16 ht1 (by omega)] at g16
        obtain ⟨x3, e3⟩ : ∃ x, (sch L (t - 16)).getD m3 0 = x := ⟨_, rfl⟩
        obtain ⟨x8, e8⟩ : ∃ x, (sch L (t - 16)).getD m8 0 = x := ⟨_, rfl⟩
        obtain ⟨x14, e14⟩ : ∃ x, (sch L (t - 16)).getD m14 0 = x := ⟨_, rfl⟩
        obtain ⟨x16, e16⟩ : ∃ x, (sch L (t - 16)).getD m16 0 = x := ⟨_, rfl⟩
        rw [e3, encW] at g3; rw [e8, encW] at g8; rw [e14, encW] at g14; rw [e16, encW] at g16; rw [encW] at gt
        obtain ⟨u1, hu1⟩ : ∃ u, x3 ^^^ x8 = u := ⟨_, rfl⟩
        obtain ⟨u2, hu2⟩ : ∃ u, u1 ^^^ x14 = u := ⟨_, rfl⟩
        obtain ⟨u, hu⟩ : ∃ u, u2 ^^^ x16 = u := ⟨_, rfl⟩
        obtain ⟨z, hz⟩ : ∃ z, trn u 1 = z := ⟨_, rfl⟩
        have hnx : nxt (sch L (t - 16)) = z := by
          rw [← hz, ← bxor3 x3 x8 x14 x16 u1 u2 u hu1 hu2 hu]
          exact nxt_odd _ t (by rw [sch_length, HLL.out]; omega) _ _ _ _ (by rw [show t - 3 = m3 by omega]; exact e3) (by rw [show t - 8 = m8 by omega]; exact e8) (by rw [show t - 14 = m14 by omega]; exact e14) (by rw [show t - 16 = m16 by omega]; rw [show t - 16 = m16 by omega] at e16; exact e16)
        have HNX : Hid ((schRow L t).set t z = schRow0 L (t + 1)) := by rw [schRow0_ge L HLL.out (t + 1) (by omega), ← hnx]; exact schRow_set L HLL.out t ht1 hlt
        have hx1 := bxor_u x3 x8 u1 hu1
        have hx2 := bxor_u u1 x14 u2 hu2
        have hx3 := bxor_u u2 x16 u hu
        have s3 : IntKind.i64.wrap ((t : Int) - 3) = (m3 : Int) := by rw [IntWalk.i64_in _ (by omega)]; omega
        have s8 : IntKind.i64.wrap ((t : Int) - 8) = (m8 : Int) := by rw [IntWalk.i64_in _ (by omega)]; omega
        have s14 : IntKind.i64.wrap ((t : Int) - 14) = (m14 : Int) := by rw [IntWalk.i64_in _ (by omega)]; omega
        have s16 : IntKind.i64.wrap ((t : Int) - 16) = (m16 : Int) := by rw [IntWalk.i64_in _ (by omega)]; omega
        have b3 : (0 : Int) ≤ (m3 : Int) ∧ (m3 : Int) < 80 := by omega
        have b8 : (0 : Int) ≤ (m8 : Int) ∧ (m8 : Int) < 80 := by omega
        have b14 : (0 : Int) ≤ (m14 : Int) ∧ (m14 : Int) < 80 := by omega
        have b16 : (0 : Int) ≤ (m16 : Int) ∧ (m16 : Int) < 80 := by omega
        have bt : (0 : Int) ≤ (t : Int) ∧ (t : Int) < 80 := by omega
        have bt16 : decide ((t : Int) < 16) = false := by simp; omega
        obtain ⟨ne3, ne8, ne14, ne16⟩ : ¬ t = m3 ∧ ¬ t = m8 ∧ ¬ t = m14 ∧ ¬ t = m16 := by omega
        have K4 : ∀ (W : World), (W.cell? ⟨w.heap.size + 1 + 1, m3, none⟩ = some (.int .u32 x3.toNat) ∧ W.cell? ⟨w.heap.size + 1 + 1, m8, none⟩ = some (.int .u32 x8.toNat) ∧ W.cell? ⟨w.heap.size + 1 + 1, m14, none⟩ = some (.int .u32 x14.toNat) ∧ W.cell? ⟨w.heap.size + 1 + 1, m16, none⟩ = some (.int .u32 x16.toNat)) → ∀ v, ((W.setCell ⟨w.heap.size + 1 + 1, t, none⟩ v).cell? ⟨w.heap.size + 1 + 1, m3, none⟩ = some (.int .u32 x3.toNat) ∧ (W.setCell ⟨w.heap.size + 1 + 1, t, none⟩ v).cell? ⟨w.heap.size + 1 + 1, m8, none⟩ = some (.int .u32 x8.toNat) ∧ (W.setCell ⟨w.heap.size + 1 + 1, t, none⟩ v).cell? ⟨w.heap.size + 1 + 1, m14, none⟩ = some (.int .u32 x14.toNat) ∧ (W.setCell ⟨w.heap.size + 1 + 1, t, none⟩ v).cell? ⟨w.heap.size + 1 + 1, m16, none⟩ = some (.int .u32 x16.toNat)) := by
          rintro W ⟨h1, h2, h3, h4⟩ v
          refine ⟨?_, ?_, ?_, ?_⟩ <;> (rw [World.cell?_setCell_other _ _ _ _ (by intro e; injection e; omega)]; assumption)
        have HK4 := Lib.hid K4
        have HZ := Lib.hid hz
        clear hm3 hm8 hm14 hm16 e3 e8 e14 e16 hnx hu hu1 hu2 hz hrow hh1 hlen K4 ne3 ne8 ne14 ne16 hcs
        go_wp2_with fail
        go_region_held3 (fun w' => w'.cell? ⟨w.heap.size + 1 + 1, m3, none⟩ = some (.int .u32 x3.toNat) ∧ w'.cell? ⟨w.heap.size + 1 + 1, m8, none⟩ = some (.int .u32 x8.toNat) ∧ w'.cell? ⟨w.heap.size + 1 + 1, m14, none⟩ = some (.int .u32 x14.toNat) ∧ w'.cell? ⟨w.heap.size + 1 + 1, m16, none⟩ = some (.int .u32 x16.toNat))
          (first | (go_keep; done) | (refine HK4.out _ ?_ _; assumption) | (go_split_ands; refine HK4.out _ ?_ _; go_keep; done))
          (first
            | (go_at_call 71; (with_reducible refine (rturn_v _ _ z _ HZ.out).mono ?_); rintro e w' ⟨rfl, rfl⟩))
        have hrow5 : Blk encW (wr.setCell ⟨w.heap.size + 1 + 1, t, none⟩ (.int .u32 z.toNat)).drew (w.heap.size + 1 + 1) 81 (schRow0 L (t + 1)) := by rw [← HNX.out]; exact HR.out.put t z
        have hh5 : (wr.setCell ⟨w.heap.size + 1 + 1, t, none⟩ (.int .u32 z.toNat)).drew.heap[w.heap.size + 1]? = some (.cells zero80 81 (0, 0)) := (heap_setCell_other _ _ _ _ (by simp)).trans HH1.out
        have hc5 : ∀ j (h : j < L.length), (wr.setCell ⟨w.heap.size + 1 + 1, t, none⟩ (.int .u32 z.toNat)).drew.cell? ⟨g, o + j, none⟩ = some (encW (L[j]'h)) := fun j h => by
          rw [World.cell?_drew, World.cell?_setCell_other _ _ _ _ (by intro e; injection e; omega)]
          exact HCS.out j h
        have hb6 : Below w.heap.size w (wr.setCell ⟨w.heap.size + 1 + 1, t, none⟩ (.int .u32 z.toNat)).drew := (hbw.setCell (by simp; omega) _).drew
        have HR5 := Lib.hid hrow5
        have HH5 := Lib.hid hh5
        have HC5 := Lib.hid hc5
        clear hrow5 hh5 hc5 s3 s8 s14 s16
        go_wp2_with fail
        go_roundw
        case rel => exact ⟨t + 1, by omega, by go_num, HR5.out, HH5.out, HC5.out, hb6⟩
        case measure => simp [intOf]; omega
    · obtain rfl : t = 80 := by omega
      rw [schRow0_ge L HLL.out 80 (by omega), schRow_end] at hrow
      have HR2 := Lib.hid hrow
      clear hrow hh1 HR hcs
      go_wp2_with (first
        | (refine wpList_load_row rfl _ _ rfl (w.heap.size + 1 + 1) rfl 81 ((sch L 64).map encW).toArray (0, 0) _ HR2.out Try.underlying81 rfl (by rw [size56]; simp [sch_length, HLL.out]) ?_)
        | (refine wpList_store_row rfl _ _ _ rfl (w.heap.size + 1) ((sch L 64).map encW).toArray rfl rfl 81 zero80 HH1.out (by rw [size56]; simp [sch_length, HLL.out]) (by simp [sch_length, HLL.out, zero80]) (map_one encW_one _) ?_)
        | fail)
      rw [HL.out]
      exact bodyPost_ret (v := .agg ((sch L 64).map encW).toArray) (results_cell_row rfl _ _ _ _ _ _ _ rfl (setRow_heap _ _ _ _ _ _ HH1.out) Try.underlying81 rfl (by rw [size56]; simp [sch_length, HLL.out])) rfl ⟨rfl, below_setRow0 hbw (by omega) _⟩
end Hx
end Go.Proofs.Ytmjcmlaeajglmaa
