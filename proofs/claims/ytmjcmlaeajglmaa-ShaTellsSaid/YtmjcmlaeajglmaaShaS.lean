/-
  The contract of sha.schedule.
-/
import Derived.Test.YtmjcmlaeajglmaaShaN
import Derived.Outline
import Derived.Deep.RegionHeld3
import Derived.Deep.DrawnRows
import Derived.Deep.WholeRow
import Derived.IntWalk
namespace Go.Proofs.Ytmjcmlaeajglmaa
open Go.RowKit
namespace Hx
open Wd Sh
attribute [local go_sem ↓] Go.wp_at_zero Go.wp_at_succ

theorem size56 : (Try.prog.info? 81).map (·.size) = some 80 := by kernel_rfl
theorem zero_56 : ∀ w, (zeroValue 81).run Try.prog w = .ok (.agg zero80) w := (zero_of_info (n := 80) (by kernel_rfl)).1
theorem size36 : (Try.prog.info? 35).map (·.size) = some 1 := by kernel_rfl

/-- word.Of of a block in a variable. -/
def Of64 (b : List UInt8) (W : World) (e : Ending) (w' : World) : Prop := Below W.heap.size W w' ∧ ∃ g o c, e = .returned (.tuple #[.slice (some ⟨g, o, none⟩) 16 c, .int .i64 0]) ∧ g < w'.heap.size ∧ ∀ j (h : j < (wordL b).length), w'.cell? ⟨g, o + j, none⟩ = some (encW ((wordL b)[j]'h))
theorem of_64 (B : Nat) (b : List UInt8) (w : World) (hb : b.length = 64) (hr : Blk encB w B 64 b) :
    Calls Try.prog 57 #[.slice (some ⟨B, 0, none⟩) 64 64] w (Of64 b w) := by
  refine (of_ok (some ⟨B, 0, none⟩) 64 64 b w (rdA_rdB.1 hr.slice) hb (by decide) (by decide)).mono fun e w' ⟨hb', A, c, he, hr'⟩ => ?_
  have hl : (wordL b).length = 16 := by rw [wordL_length, hb]
  obtain ⟨g, o, rfl, hg, hc⟩ := hr' (by rw [hl]; decide)
  exact ⟨hb', g, o, c, by rw [he, hl], hg, hc⟩

theorem row_src {α : Type} {enc : α → Value} {w : World} {g o : Nat} {l : List α} (h : ∀ j (h : j < l.length), w.cell? ⟨g, o + j, none⟩ = some (enc (l[j]'h))) : ∀ j v, (l.map enc)[j]? = some v → w.cell? ((⟨g, o, none⟩ : Addr).add j) = some v := by
  intro j v hv
  have hj : j < l.length := by
    have := (List.getElem?_eq_some_iff.1 hv).1
    simpa using this
  rw [addr_plain, h j hj]
  simpa [hj] using hv
set_option maxHeartbeats 4000000 in
set_option maxRecDepth 100000 in
theorem schedule_any (b : List UInt8) (w : World) (hb : b.length = 64) :
    Calls Try.prog 47 #[.agg (b.map encB).toArray] w fun e w' => e = .returned (.agg ((sch (wordL b) 64).map encW).toArray) ∧ Below w.heap.size w w' := by
  have hz56 := zero_56
  have HBL := Lib.hid hb
  clear hb
  obtain ⟨obj, hobj⟩ : ∃ obj, (b.map encB).toArray = obj := ⟨_, rfl⟩
  rw [hobj]
  have HOB := Lib.hid hobj
  clear hobj
  go_enter Try.func47, Try.ntmps47
  go_wp2_with fail
  obtain ⟨W1, hW1, hs1, h0, h1, h2, hb1⟩ := opn3n w (Obj.cells obj 64) (Obj.cells zero80 81) (Obj.cells zero80 81)
  rw [hW1]
  have hblk : Blk encB W1 w.heap.size 64 b := by unfold Blk; rw [HOB.out]; exact h0
  have HBK := Lib.hid hblk
  have HS1 := Lib.hid hs1
  have H1 := Lib.hid h1
  have H2 := Lib.hid h2
  clear hW1 hs1 h0 h1 h2 hblk HOB
  go_wp2_with (first
    | (go_at_call 57; (with_reducible refine (of_64 w.heap.size b W1 HBL.out HBK.out).mono ?_); rintro e w2 ⟨hb2, g, o, c, rfl, hg, hcs⟩; have hb2' := stp hb1 hb2; have H12 := Lib.hid (heap_kept H1.out hb2); have H22 := Lib.hid (heap_kept H2.out hb2); have HCS := Lib.hid hcs; clear hcs)
    | (refine wpList_copy_own rfl _ _ 40 40 rfl 35 Try.underlying40 size36 (w.heap.size + 1 + 1) 0 80 80 ⟨g, o, none⟩ 16 c rfl rfl zero80 81 H22.out ((wordL b).map encW) (by rw [List.length_map, wordL_length, HBL.out]; rfl) (row_src HCS.out) (by rw [List.length_map, wordL_length, HBL.out]; decide) (map_one' encW_one _) ?_)
    | fail)
  obtain ⟨L, hL⟩ : ∃ L, wordL b = L := ⟨_, rfl⟩
  rw [hL]
  have hLl : L.length = 16 := by rw [← hL, wordL_length, HBL.out]
  have HL := Lib.hid hL
  have HLL := Lib.hid hLl
  have hrow : Blk encW (w2.setRow (w.heap.size + 1 + 1) (List.map encW L ++ List.drop L.length zero80.toList).toArray) (w.heap.size + 1 + 1) 81 (schRow L 16) := by
    unfold Blk
    rw [schRow_start, setRow_heap _ _ _ _ _ _ H22.out, HLL.out]
    simp [zero80]
  have hh1 : (w2.setRow (w.heap.size + 1 + 1) (List.map encW L ++ List.drop L.length zero80.toList).toArray).heap[w.heap.size + 1]? = some (.cells zero80 81 (0, 0)) := (setRow_other _ _ _ _ (by omega)).trans H12.out
  have hb3 : Below w.heap.size w (w2.setRow (w.heap.size + 1 + 1) (List.map encW L ++ List.drop L.length zero80.toList).toArray) := below_setRow0 hb2' (by omega) _
  have hlt3 : w.heap.size + 1 + 1 < w2.heap.size := heap_lt H22.out
  obtain ⟨W3, hW3⟩ : ∃ W3, w2.setRow (w.heap.size + 1 + 1) (List.map encW L ++ List.drop L.length zero80.toList).toArray = W3 := ⟨_, rfl⟩
  rw [hW3] at hrow hh1 hb3 ⊢
  clear hW3 hL hLl H12 H22 HCS hb2 hb2' hb1 HBK HS1 H1 H2 HBL hg hlt3
  go_loopw [6] (fun i wr => ∃ t : Nat, 16 ≤ t ∧ t ≤ 80 ∧ i = .int .i64 t ∧ Blk encW wr (w.heap.size + 1 + 1) 81 (schRow L t) ∧ wr.heap[w.heap.size + 1]? = some (.cells zero80 81 (0, 0)) ∧ Below w.heap.size w wr) (fun i _ => 80 - (intOf i).toNat)
  case atStart => exact ⟨16, by omega, by omega, rfl, hrow, hh1, hb3⟩
  case round =>
    clear hrow hh1 hb3
    obtain ⟨t, ht1, ht2, rfl, hrow, hh1, hbw⟩ := hrel
    have HR := Lib.hid hrow
    have HH1 := Lib.hid hh1
    by_cases hlt : t < 80
    · have hlen := schRow_length L HLL.out t ht1 ht2
      obtain ⟨m3, hm3⟩ : ∃ m, t = m + 3 := ⟨t - 3, by omega⟩
      obtain ⟨m8, hm8⟩ : ∃ m, t = m + 8 := ⟨t - 8, by omega⟩
      obtain ⟨m14, hm14⟩ : ∃ m, t = m + 14 := ⟨t - 14, by omega⟩
      obtain ⟨m16, hm16⟩ : ∃ m, t = m + 16 := ⟨t - 16, by omega⟩
      have g3 := hrow.cell m3 (by omega)
      have g8 := hrow.cell m8 (by omega)
      have g14 := hrow.cell m14 (by omega)
      have g16 := hrow.cell m16 (by omega)
      have gt := hrow.cell t (by omega)
      rw [schRow_zero L HLL.out t ht1 hlt] at gt
      have ft := hrow.free t
      rw [schRow_get L HLL.out t m3 ht1 (by omega)] at g3
      rw [schRow_get L HLL.out t m8 ht1 (by omega)] at g8
      rw [schRow_get L HLL.out t m14 ht1 (by omega)] at g14
      rw [schRow_get L HLL.out t m16 ht1 (by omega)] at g16
      obtain ⟨x3, e3⟩ : ∃ x, (sch L (t - 16)).getD m3 0 = x := ⟨_, rfl⟩
      obtain ⟨x8, e8⟩ : ∃ x, (sch L (t - 16)).getD m8 0 = x := ⟨_, rfl⟩
      obtain ⟨x14, e14⟩ : ∃ x, (sch L (t - 16)).getD m14 0 = x := ⟨_, rfl⟩
      obtain ⟨x16, e16⟩ : ∃ x, (sch L (t - 16)).getD m16 0 = x := ⟨_, rfl⟩
      rw [e3, encW] at g3; rw [e8, encW] at g8; rw [e14, encW] at g14; rw [e16, encW] at g16; rw [encW] at gt
      obtain ⟨o, ho⟩ : ∃ o, odd x3 x8 x14 = o := ⟨_, rfl⟩
      obtain ⟨u, hu⟩ : ∃ u, o ^^^ x16 = u := ⟨_, rfl⟩
      obtain ⟨z, hz⟩ : ∃ z, trn u 1 = z := ⟨_, rfl⟩
      have hnx : nxt (sch L (t - 16)) = z := by
        rw [← hz, ← hu, ← ho]
        exact nxt_odd _ t (by rw [sch_length, HLL.out]; omega) _ _ _ _ (by rw [show t - 3 = m3 by omega]; exact e3) (by rw [show t - 8 = m8 by omega]; exact e8) (by rw [show t - 14 = m14 by omega]; exact e14) (by rw [show t - 16 = m16 by omega]; rw [show t - 16 = m16 by omega] at e16; exact e16)
      have HNX : Hid ((schRow L t).set t z = schRow L (t + 1)) := by rw [← hnx]; exact schRow_set L HLL.out t ht1 hlt
      have hxor : bits BinOp.xor IntKind.u32 ((o.toNat : Nat) : Int) ((x16.toNat : Nat) : Int) = ((u.toNat : Nat) : Int) := by rw [u32_xor_nat _ _ o.isLt x16.isLt, ← hu]; simp
      have s3 : IntKind.i64.wrap ((t : Int) - 3) = (m3 : Int) := by rw [IntWalk.i64_in _ (by omega)]; omega
      have s8 : IntKind.i64.wrap ((t : Int) - 8) = (m8 : Int) := by rw [IntWalk.i64_in _ (by omega)]; omega
      have s14 : IntKind.i64.wrap ((t : Int) - 14) = (m14 : Int) := by rw [IntWalk.i64_in _ (by omega)]; omega
      have s16 : IntKind.i64.wrap ((t : Int) - 16) = (m16 : Int) := by rw [IntWalk.i64_in _ (by omega)]; omega
      have b3 : (0 : Int) ≤ (m3 : Int) ∧ (m3 : Int) < 80 := by omega
      have b8 : (0 : Int) ≤ (m8 : Int) ∧ (m8 : Int) < 80 := by omega
      have b14 : (0 : Int) ≤ (m14 : Int) ∧ (m14 : Int) < 80 := by omega
      have b16 : (0 : Int) ≤ (m16 : Int) ∧ (m16 : Int) < 80 := by omega
      have bt : (0 : Int) ≤ (t : Int) ∧ (t : Int) < 80 := by omega
      obtain ⟨ne3, ne8, ne14, ne16⟩ : ¬ t = m3 ∧ ¬ t = m8 ∧ ¬ t = m14 ∧ ¬ t = m16 := by omega
      have K4 : ∀ (W : World), (W.cell? ⟨w.heap.size + 1 + 1, m3, none⟩ = some (.int .u32 x3.toNat) ∧ W.cell? ⟨w.heap.size + 1 + 1, m8, none⟩ = some (.int .u32 x8.toNat) ∧ W.cell? ⟨w.heap.size + 1 + 1, m14, none⟩ = some (.int .u32 x14.toNat) ∧ W.cell? ⟨w.heap.size + 1 + 1, m16, none⟩ = some (.int .u32 x16.toNat)) → ∀ v, ((W.setCell ⟨w.heap.size + 1 + 1, t, none⟩ v).cell? ⟨w.heap.size + 1 + 1, m3, none⟩ = some (.int .u32 x3.toNat) ∧ (W.setCell ⟨w.heap.size + 1 + 1, t, none⟩ v).cell? ⟨w.heap.size + 1 + 1, m8, none⟩ = some (.int .u32 x8.toNat) ∧ (W.setCell ⟨w.heap.size + 1 + 1, t, none⟩ v).cell? ⟨w.heap.size + 1 + 1, m14, none⟩ = some (.int .u32 x14.toNat) ∧ (W.setCell ⟨w.heap.size + 1 + 1, t, none⟩ v).cell? ⟨w.heap.size + 1 + 1, m16, none⟩ = some (.int .u32 x16.toNat)) := by
        rintro W ⟨h1, h2, h3, h4⟩ v
        refine ⟨?_, ?_, ?_, ?_⟩ <;> (rw [World.cell?_setCell_other _ _ _ _ (by intro e; injection e; omega)]; assumption)
      have HK4 := Lib.hid K4
      clear K4 ne3 ne8 ne14 ne16
      have HO := Lib.hid ho
      have HZ := Lib.hid hz
      have BLT := Lib.hid hrow.lt
      have GT := Lib.hid gt
      have FT := Lib.hid ft
      clear hm3 hm8 hm14 hm16 e3 e8 e14 e16 hnx ho hu hz hrow hh1 hlen gt ft
      go_wp2_with fail
      go_region_held3 (fun w' => w'.cell? ⟨w.heap.size + 1 + 1, m3, none⟩ = some (.int .u32 x3.toNat) ∧ w'.cell? ⟨w.heap.size + 1 + 1, m8, none⟩ = some (.int .u32 x8.toNat) ∧ w'.cell? ⟨w.heap.size + 1 + 1, m14, none⟩ = some (.int .u32 x14.toNat) ∧ w'.cell? ⟨w.heap.size + 1 + 1, m16, none⟩ = some (.int .u32 x16.toNat))
        (first | (go_keep; done) | (refine HK4.out _ ?_ _; assumption) | (refine ⟨(hb4.cell BLT.out).trans ?_, (hb4.cell BLT.out).trans ?_, (hb4.cell BLT.out).trans ?_, (hb4.cell BLT.out).trans ?_⟩ <;> assumption))
        (first
          | (go_at_call 59; (with_reducible refine (odd_v _ _ _ o _ HO.out).mono ?_); rintro e w4 ⟨rfl, hb4⟩; have gt4 := (hb4.cell (p := ⟨w.heap.size + 1 + 1, t, none⟩) BLT.out).trans GT.out; have ft4 := (hb4.frozen (p := ⟨w.heap.size + 1 + 1, t, none⟩) BLT.out).trans FT.out)
          | (go_at_call 58; (with_reducible refine (turn_v _ _ z _ HZ.out).mono ?_); rintro e w' ⟨rfl, rfl⟩))
      have hb5 := below_of_drew hb4
      have hrow5 : Blk encW (w4.setCell ⟨w.heap.size + 1 + 1, t, none⟩ (.int .u32 z.toNat)) (w.heap.size + 1 + 1) 81 (schRow L (t + 1)) := by rw [← HNX.out]; exact (HR.out.below hb5).put t z
      have hh5 : (w4.setCell ⟨w.heap.size + 1 + 1, t, none⟩ (.int .u32 z.toNat)).heap[w.heap.size + 1]? = some (.cells zero80 81 (0, 0)) := (heap_setCell_other _ _ _ _ (by simp)).trans (heap_kept HH1.out hb5)
      have hb6 : Below w.heap.size w (w4.setCell ⟨w.heap.size + 1 + 1, t, none⟩ (.int .u32 z.toNat)) := (hbw.trans (hb5.mono hbw.size)).setCell (by simp; omega) _
      have HR5 := Lib.hid hrow5
      have HH5 := Lib.hid hh5
      clear hrow5 hh5 s3 s8 s14 s16
      go_wp2_with fail
      go_roundw
      case rel => exact ⟨t + 1, by omega, by omega, by go_num, HR5.out, HH5.out, hb6⟩
      case measure => simp [intOf]; omega
    · obtain rfl : t = 80 := by omega
      rw [schRow_end] at hrow
      have HR2 := Lib.hid hrow
      clear hrow hh1 HR
      go_wp2_with (first
        | (refine wpList_load_row rfl _ _ rfl (w.heap.size + 1 + 1) rfl 81 ((sch L 64).map encW).toArray (0, 0) _ HR2.out Try.underlying81 rfl (by rw [size56]; simp [sch_length, HLL.out]) ?_)
        | (refine wpList_store_row rfl _ _ _ rfl (w.heap.size + 1) ((sch L 64).map encW).toArray rfl rfl 81 zero80 HH1.out (by rw [size56]; simp [sch_length, HLL.out]) (by simp [sch_length, HLL.out, zero80]) (map_one encW_one _) ?_)
        | fail)
      rw [HL.out]
      exact bodyPost_ret (v := .agg ((sch L 64).map encW).toArray) (results_cell_row rfl _ _ _ _ _ _ _ rfl (setRow_heap _ _ _ _ _ _ HH1.out) Try.underlying81 rfl (by rw [size56]; simp [sch_length, HLL.out])) rfl ⟨rfl, below_setRow0 hbw (by omega) _⟩
end Hx
end Go.Proofs.Ytmjcmlaeajglmaa
