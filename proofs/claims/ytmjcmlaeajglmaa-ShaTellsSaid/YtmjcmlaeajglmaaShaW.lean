/-
  The contracts of tidewaiterref03.Digest, Pad, Of.
-/
import Derived.Test.YtmjcmlaeajglmaaShaV
namespace Go.Proofs.Ytmjcmlaeajglmaa
open Go.RowKit
namespace Hx
open Wd Sh
set_option linter.unusedVariables false
attribute [local go_sem ↓] Go.wp_at_zero Go.wp_at_succ

theorem rblock_cs (h : S5) (b : List UInt8) (cs : List Value) (w : World) (hb : b.length = 64) (hcs : b.map encB = cs) (r : S5) (hr : blk h b = r) :
    Calls Try.prog 50 #[.agg (five h), .agg cs.toArray] w fun e w' => e = .returned (.agg (five r)) ∧ Below w.heap.size w w' := by
  subst hcs
  exact rblock_any h b w hb r hr
set_option maxHeartbeats 4000000 in
set_option maxRecDepth 100000 in
/-- ref.Bytes, in new memory. -/
theorem rbytes_fresh (A : Option Addr) (n cp : Nat) (l : List W32) (w : World) (hr : RdW w w.heap.size A l) (hn : l.length = n) (hm : n ≤ 100000) :
    Calls Try.prog 51 #[.slice A n cp] w fun e w' => Below w.heap.size w w' ∧ ∃ A' c, e = .returned (.slice A' (4 * n) c) ∧ RdA w' w'.heap.size A' (bytesL l) ∧ (∀ g o, A' = some ⟨g, o, none⟩ → w.heap.size ≤ g) := by
  obtain ⟨i0, hi, hz0, hz1, hz2⟩ := info_parts info5
  have HI := Lib.hid hi
  have HZ0 := Lib.hid hz0
  have HZ1 := Lib.hid hz1
  have HZ2 := Lib.hid hz2
  clear hi hz0 hz1 hz2
  have HN := Lib.hid hn
  have HR := Lib.hid hr
  clear hn hr
  go_enter Try.func51, Try.ntmps51
  go_wp2
  go_loopw [3, 4] (fun v i wr => ∃ k : Nat, k ≤ n ∧ i = .int .i64 k ∧ wr.ownsRow w.heap.size 5 1 v (4 * k) (Lib.byteCells (bytesL (l.take k))) ∧ Below w.heap.size w wr) (fun _ i _ => n - (intOf i).toNat)
  case atStart => exact ⟨0, Nat.zero_le _, rfl, World.ownsRow_nil _ _ _ _, Below.refl _ _⟩
  case round =>
    obtain ⟨k, hk, rfl, hown, hbw⟩ := hrel
    have HO := Lib.hid hown
    by_cases hlt : k < n
    · obtain ⟨bb, off, rfl, hbB, hc⟩ := HR.out (by rw [HN.out]; omega)
      have hk2 : k < l.length := by rw [HN.out]; exact hlt
      have hcell : wr.cell? ⟨bb, off + k, none⟩ = some (.int .u32 ((l[k]'hk2).toNat : Int)) := (hbw.cell (p := ⟨bb, off + k, none⟩) hbB).trans (hc k hk2)
      have hpt := Lib.hid (bytesL_take l k hk2)
      obtain ⟨x, hx⟩ : ∃ x, l[k]'hk2 = x := ⟨_, rfl⟩
      rw [hx] at hcell hpt
      have hxl : ((x.toNat : Nat) : Int) ≤ 4294967295 := by have := x.isLt; omega
      have hsz := hbw.size
      clear hown hc hx
      have HW := Lib.hid (w4_cells x)
      go_wp2_with (at_builtin; (refine wpList_append_own _ rfl _ _ 22 rfl w.heap.size 5 i0 (.int .u8 0) 1 1 Try.underlying22 HI.out HZ0.out HZ1.out HZ2.out rfl (by decide) _ _ _ rfl (HO.out.alloc _) ⟨wr.heap.size, 0, none⟩ 4 4 (Lib.byteCells (w4 x)) rfl rfl ?c1 ?c2 ?c3 ?c4 ?c5 ?_))
      case c1 =>
        intro j u hu
        have e := HW.out
        rw [← e] at hu
        exact hu
      case c2 => exact bytes_one _
      case c3 => unfold maxLen; omega
      case c4 => omega
      case c5 => have := hbw.size; simp; omega
      · intro v3 w3 hown3 hgr3 _
        have HO3 := Lib.hid hown3
        have hbw3 : Below w.heap.size w w3 := (hbw.alloc hbw.size _).grown hgr3 (by have := hbw.size; simp; omega) (fun g hg => (HO.out.lt g hg).1)
        clear hown3 hgr3
        go_wp2
        go_roundw
        case rel => exact ⟨k + 1, by omega, by go_num, by rw [hpt.out, Lib.byteCells_append]; exact HO3.out, hbw3⟩
        case measure => simp [intOf]; omega
    · obtain rfl : k = n := by omega
      obtain ⟨A', c', rfl⟩ := own_form hown
      obtain ⟨hrd, hl2⟩ := RdA.of_own hown
      have HRD := Lib.hid hrd
      have HFR := Lib.hid (own_fresh hown)
      clear hown hrd hl2
      go_wp2
      go_ret
      exact ⟨hbw, _, _, rfl, by have := HRD.out; rw [← HN.out, List.take_length] at this; exact this, HFR.out⟩
def RBy (D : List UInt8) (W : World) (e : Ending) (w' : World) : Prop := Below W.heap.size W w' ∧ ∃ g o c, e = .returned (.slice (some ⟨g, o, none⟩) 20 c) ∧ W.heap.size ≤ g ∧ g < w'.heap.size ∧ ∀ j (h : j < D.length), w'.cell? ⟨g, o + j, none⟩ = some (.int .u8 (D[j]'h).toNat)
theorem rbytes_rd (B : Nat) (r : S5) (D : List UInt8) (w : World) (h : w.heap[B]? = some (.cells (five r) 36 (0, 0))) (hD : bytesL r.toL = D) :
    Calls Try.prog 51 #[.slice (some ⟨B, 0, none⟩) 5 5] w (RBy D w) := by
  subst hD
  have hb : Blk encW w B 36 r.toL := h
  refine (rbytes_fresh (some ⟨B, 0, none⟩) 5 5 r.toL w hb.slice rfl (by decide)).mono fun e w' ⟨hb', A, c, he, hr, hf⟩ => ?_
  obtain ⟨g, o, rfl, hg, hc⟩ := hr (by rw [bytesL_length]; show 0 < 4 * 5; decide)
  exact ⟨hb', g, o, c, he, hf g o rfl, hg, hc⟩

/-- What the rounds of Digest keep: all that lay but the state's own variable. -/
structure DgI (w W5 : World) (Bh : Nat) (v : S5) (W : World) : Prop where
  sz : W5.heap.size ≤ W.heap.size
  far : ∀ q, q < W5.heap.size → q ≠ Bh → W.heap[q]? = W5.heap[q]?
  st : W.heap[Bh]? = some (.cells (five v) 36 (0, 0))
  bel : Below w.heap.size w W
theorem DgI.later {w W5 W V : World} {Bh : Nat} {v : S5} (h : DgI w W5 Bh v W) (hb : Below W.heap.size W V) : DgI w W5 Bh v V :=
  ⟨Nat.le_trans h.sz hb.size, fun q hq hn => (hb.block q (Nat.lt_of_lt_of_le hq h.sz)).trans (h.far q hq hn), heap_kept h.st hb, stp h.bel hb⟩
theorem DgI.put {w W5 W : World} {Bh X : Nat} {v : S5} (h : DgI w W5 Bh v W) (hX : W5.heap.size ≤ X) (hB : Bh < W5.heap.size) (hw : w.heap.size ≤ W5.heap.size) (j : Nat) (u : Value) : DgI w W5 Bh v (W.setCell ⟨X, j, none⟩ u) :=
  ⟨by simpa using h.sz, fun q hq hn => (heap_setCell_other W ⟨X, j, none⟩ q u (by show q ≠ X; omega)).trans (h.far q hq hn), (heap_setCell_other W ⟨X, j, none⟩ Bh u (by show Bh ≠ X; omega)).trans h.st, h.bel.setCell (by show w.heap.size ≤ X; omega) _⟩
theorem DgI.row {w W5 W : World} {Bh : Nat} {v : S5} (h : DgI w W5 Bh v W) (hw : w.heap.size ≤ Bh) (u : S5) : DgI w W5 Bh u (W.setRow Bh (five u)) :=
  ⟨by have := h.sz; simpa [World.setRow] using this, fun q hq hn => (setRow_other W Bh q (five u) hn).trans (h.far q hq hn), setRow_heap W Bh _ (five u) _ _ h.st, below_setRow0 h.bel hw (five u)⟩
theorem DgI.cell {w W5 W : World} {Bh : Nat} {v : S5} {g o : Nat} {u : Value} (h : DgI w W5 Bh v W) (hg : g < W5.heap.size) (hn : g ≠ Bh) (hc : W5.cell? ⟨g, o, none⟩ = some u) : W.cell? ⟨g, o, none⟩ = some u :=
  (World.cell?_of_block (h.far g hg hn)).trans hc

set_option maxHeartbeats 8000000 in
set_option maxRecDepth 100000 in
theorem rdigest_any (A : Option Addr) (n cp : Nat) (l : List UInt8) (w : World) (hr : RdA w w.heap.size A l) (hn : l.length = n) (hz : A = none → cp = 0) (hm : n ≤ 16384) (D : List UInt8) (hD : dig l = D) :
    Calls Try.prog 33 #[.slice A n cp] w fun e w' => e = .returned (.agg (D.map encB).toArray) ∧ Below w.heap.size w w' := by
  obtain ⟨i0, hi, hz0, hz1, hz2⟩ := info_parts info5
  have HI := Lib.hid hi
  have HZ0 := Lib.hid hz0
  have HZ1 := Lib.hid hz1
  have HZ2 := Lib.hid hz2
  obtain ⟨P, hP⟩ : ∃ P, padL n = P := ⟨_, rfl⟩
  obtain ⟨pm, hpm⟩ : ∃ pm, P.length = pm := ⟨_, rfl⟩
  obtain ⟨L, hL⟩ : ∃ L, n + pm = L := ⟨_, rfl⟩
  obtain ⟨DD, hDD⟩ : ∃ DD, l ++ P = DD := ⟨_, rfl⟩
  have hDl : DD.length = L := by rw [← hDD, List.length_append, hn, hpm, hL]
  have hwh := padL_whole n
  have hbd := padL_bd n
  rw [hP, hpm] at hwh hbd
  obtain ⟨NB, hNB⟩ : ∃ NB, L / 64 = NB := ⟨_, rfl⟩
  have hLN : L = 64 * NB := by omega
  obtain ⟨r, hr9⟩ : ∃ r, goL first DD = r := ⟨_, rfl⟩
  have hrk : goK first DD NB = r := by rw [← hr9, goL, hDl, hNB]
  have hDr : bytesL r.toL = D := by rw [← hr9, ← hDD, ← hP, ← hD, dig, hn]
  have hD20 : D.length = 20 := by rw [← hD]; exact dig_length l
  have hz64 := zeroB64
  have HR := Lib.hid hr
  have HN := Lib.hid hn
  have HZ := Lib.hid hz
  have HP := Lib.hid hP
  have HPM := Lib.hid hpm
  have HL := Lib.hid hL
  have HDD := Lib.hid hDD
  have HDL := Lib.hid hDl
  have HLN := Lib.hid hLN
  have HRK := Lib.hid hrk
  have HDR := Lib.hid hDr
  have HD20 := Lib.hid hD20
  have HLB : Hid (n ≤ 16384 ∧ pm ≤ 72 ∧ 9 ≤ pm) := ⟨hm, hbd.2, hbd.1⟩
  clear hi hz0 hz1 hz2 hP hpm hL hDD hDl hwh hbd hNB hLN hr9 hrk hDr hD20 hr hn hz hD
  go_enter Try.func33, Try.ntmps33
  go_upto_region 1 with fail
  obtain ⟨W1, hW1, hs1, h0, hb1⟩ := opn1 w (Obj.cells z20 23)
  have hW1' : w.alloc (Obj.cells #[.int .u8 0, .int .u8 0, .int .u8 0, .int .u8 0, .int .u8 0, .int .u8 0, .int .u8 0, .int .u8 0, .int .u8 0, .int .u8 0, .int .u8 0, .int .u8 0, .int .u8 0, .int .u8 0, .int .u8 0, .int .u8 0, .int .u8 0, .int .u8 0, .int .u8 0, .int .u8 0] 23) = W1 := hW1
  rw [hW1']
  have H0 := Lib.hid h0
  have HE : Hid ((W1.alloc (.cells #[] 5)).ownsRow W1.heap.size 5 1 (.slice (some ⟨W1.heap.size, 0, none⟩) 0 0) 0 []) := Lib.hid (World.ownsRow_made W1 #[] 0 (Nat.le_refl _) (by decide) rfl)
  have hb5 := stpA (Below.refl W1.heap.size W1) (.cells #[] 5)
  clear hW1 hW1' hs1 h0
  go_upto_region 3 with (first
    | (at_builtin; refine wpList_append_rd rfl (.tmp 11) (.tmp 12) 22 rfl W1.heap.size 5 i0 (.int .u8 0) Try.underlying22 HI.out HZ0.out HZ1.out HZ2.out rfl _ 0 _ rfl HE.out w.heap.size A n cp l rfl (HR.out.below (stp hb1 hb5)) HN.out HZ.out (by have := HLB.out; omega) hb5.size ?_; intro v6 w6 hown6 hgr6; have HO6 := Lib.hid hown6; have hb6 := hb5.grown hgr6 hb5.size (fun g hg => (HE.out.lt g hg).1); clear hown6 hgr6)
    | (go_at_call 34; (with_reducible refine (tail_any n w6 HLB.out.1 P pm HP.out HPM.out).mono ?_); rintro e wt ⟨hbt, At, ct, rfl, hzt, hct, hrt⟩; have HRT := Lib.hid hrt; have HZT := Lib.hid hzt; have HOT := Lib.hid (own_below HO6.out hbt (Nat.le_refl _)); have hbt6 := stp hb6 hbt; clear hrt hzt)
    | (at_builtin; refine wpList_append_rd rfl (.tmp 13) (.tmp 16) 22 rfl W1.heap.size 5 i0 (.int .u8 0) Try.underlying22 HI.out HZ0.out HZ1.out HZ2.out rfl _ (0 + n) _ rfl HOT.out wt.heap.size At pm ct P rfl HRT.out HPM.out HZT.out (by have := HLB.out; omega) hbt6.size ?_; intro v7 w7 hown7 hgr7; have hb7 := hbt6.grown hgr7 hbt6.size (fun g hg => (HOT.out.lt g hg).1); obtain ⟨A7, c7, hv7, hz7, hLc, hr7⟩ := own_some (l := DD) (L := L) hown7 (by rw [← HDD.out]; simp [Lib.byteCells]) (by have := HL.out; omega) (by have := HL.out; have := HLB.out; omega); subst hv7; have HR7 := Lib.hid hr7; clear hown7 hgr7 hr7 hz7)
    | (go_at_call 49; (with_reducible refine (rfirst_any w7).mono ?_); rintro e w8 ⟨rfl, hb8⟩)
    | (refine wpList_store_row rfl _ _ _ rfl w8.heap.size (five first) rfl rfl 36 zero5 (heap_alloc_new _ _) size37 rfl (five_one _) ?_; rw [World.setRow_alloc_new]; obtain ⟨W5, hW5, hs5, hx5, hb9⟩ := opn1 w8 (.cells (five first) 36); rw [hW5]; have HX5 := Lib.hid hx5; have HS5 := Lib.hid hs5; clear hW5 hx5 hs5)
    | fail)
  have hwB : w.heap.size < w8.heap.size := by have := heap_lt H0.out; have := hb7.size; have := hb8.size; omega
  have hW17 : Below W1.heap.size W1 W5 := stp (stp hb7 hb8) hb9
  have hbel : Below w.heap.size w W5 := stp hb1 hW17
  have hR5 : W5.heap[w.heap.size]? = some (.cells z20 23 (0, 0)) := heap_kept H0.out hW17
  obtain ⟨g7, o7, rfl, hg7, hc7⟩ := HR7.out (by have := HDL.out; have := HL.out; have := HLB.out; omega)
  obtain ⟨Bh, hBh⟩ : ∃ Bh, w8.heap.size = Bh := ⟨_, rfl⟩
  have hg7B : g7 < Bh := by have := hb8.size; omega
  have hc5 : ∀ j (h : j < DD.length), W5.cell? ⟨g7, o7 + j, none⟩ = some (.int .u8 (DD[j]'h).toNat) := fun j h => ((stp hb8 hb9).cell (p := ⟨g7, o7 + j, none⟩) hg7).trans (hc7 j h)
  have hx5 := HX5.out
  have hs5 := HS5.out
  rw [hBh] at hx5 hs5 hwB ⊢
  have hI5 : DgI w W5 Bh (goK first DD 0) W5 := ⟨Nat.le_refl _, fun _ _ _ => rfl, hx5, hbel⟩
  have HI5 := Lib.hid hI5
  have HC5 := Lib.hid hc5
  have HR5 := Lib.hid hR5
  have HB : Hid (w.heap.size < Bh ∧ Bh < W5.heap.size ∧ g7 < Bh) := ⟨hwB, by omega, hg7B⟩
  clear hwB hW17 hbel hR5 hg7 hc7 hg7B hc5 hx5 hs5 hI5 hBh HE HO6 HOT HRT HZT HR7 HX5 HS5 H0 hb5 hb1 hb6 hbt hct hbt6 hb7 hb8 hb9 HR HZ HP HPM HDD HZ0 HZ1 HZ2 HI
  go_wp2_with fail
  go_loopg [5] NB (fun gk i wr => ∃ k m : Nat, k + gk = NB ∧ 64 * k = m ∧ i = .int .i64 m ∧ DgI w W5 Bh (goK first DD k) wr)
  case atStart => exact ⟨0, 0, by omega, rfl, rfl, HI5.out⟩
  case round =>
    obtain ⟨k, m, hkg, hkm, rfl, hI⟩ := hrel
    cases gk with
    | zero =>
      as_aux_lemma =>
      obtain rfl : k = NB := by omega
      rw [HRK.out] at hI
      have b0 : ¬ (m < L) := by have := HLN.out; omega
      have HST := Lib.hid hI.st
      have HBEL := Lib.hid hI.bel
      have HRR : Hid (wr.heap[w.heap.size]? = some (.cells z20 23 (0, 0))) := Lib.hid ((hI.far w.heap.size (by have := HB.out; omega) (by have := HB.out; omega)).trans HR5.out)
      clear hI hkg hkm
      obtain ⟨wo, rfl⟩ : ∃ wo : World, wo = wr := ⟨_, rfl⟩
      have HST2 : Hid ((wo.alloc (.cells #[.int .u8 0, .int .u8 0, .int .u8 0, .int .u8 0, .int .u8 0, .int .u8 0, .int .u8 0, .int .u8 0, .int .u8 0, .int .u8 0, .int .u8 0, .int .u8 0, .int .u8 0, .int .u8 0, .int .u8 0, .int .u8 0, .int .u8 0, .int .u8 0, .int .u8 0, .int .u8 0] 23)).heap[Bh]? = some (.cells (five r) 36 (0, 0))) := Lib.hid (heap_kept HST.out (stpA (Below.refl _ _) _))
      go_wp2_with (first
        | (go_at_call 51; refine (rbytes_rd Bh r D _ HST2.out HDR.out).mono ?_; rintro e w10 ⟨hb10, g9, o9, c9, rfl, hg9, hl9, hc9⟩; have HC9 := Lib.hid hc9; clear hc9)
        | fail)
      obtain ⟨O, hO⟩ : ∃ O, wo.heap.size = O := ⟨_, rfl⟩
      have hblk : Blk encB w10 O 23 (rowN 20 D 0) := by
        rw [rowN_zero, ← hO]
        exact heap_kept (heap_alloc_new wo (.cells z20 23)) hb10
      have hgO : O < g9 := by rw [World.size_alloc] at hg9; omega
      have ha10 : Below wo.heap.size wo w10 := stp (stpA (Below.refl _ _) _) hb10
      have hR10 := heap_kept HRR.out ha10
      have hb10' : Below w.heap.size w w10 := stp HBEL.out ha10
      have hwO : w.heap.size < O := by rw [← hO]; exact heap_lt HRR.out
      rw [hO]
      have HBLK := Lib.hid hblk
      have HR10 := Lib.hid hR10
      have HGO := Lib.hid hgO
      have HWO := Lib.hid hwO
      clear hblk hgO ha10 hR10 hO hb10 hg9 hl9 hwO
      go_loopg [10] 20 (fun ik i wx => ∃ t : Nat, t + ik = 20 ∧ i = .int .i64 t ∧ Blk encB wx O 23 (rowN 20 D t) ∧ (∀ q, q ≠ O → wx.heap[q]? = w10.heap[q]?) ∧ Below w.heap.size w wx)
      case atStart => exact ⟨0, rfl, rfl, HBLK.out, fun _ _ => rfl, hb10'⟩
      case round =>
        clear HBLK hb10'
        obtain ⟨t, htk, rfl, hrow, hoth, hbx⟩ := hrel
        have HROW := Lib.hid hrow
        have HOTH := Lib.hid hoth
        have HBX := Lib.hid hbx
        cases gk with
        | zero =>
          as_aux_lemma =>
          obtain rfl : t = 20 := by omega
          have hfull : wr.heap[O]? = some (.cells (D.map encB).toArray 23 (0, 0)) := by
            have := HROW.out
            unfold Blk at this
            rw [rowN_end 20 D HD20.out] at this
            exact this
          have hrr : wr.heap[w.heap.size]? = some (.cells z20 23 (0, 0)) := (HOTH.out _ (by have := HWO.out; omega)).trans HR10.out
          have HF := Lib.hid hfull
          have HRR2 := Lib.hid hrr
          have HS1 : Hid ((Try.prog.info? 23).map (·.size) = some ((D.map encB).toArray).size) := by show _ = _; rw [List.size_toArray, List.length_map, HD20.out]; kernel_rfl
          have HS2 : Hid (z20.size = ((D.map encB).toArray).size) := by show (20 : Nat) = _; rw [List.size_toArray, List.length_map, HD20.out]
          clear hfull hrr htk hrow hoth hbx
          go_wp2_with (first
            | (refine wpList_load_row rfl _ _ rfl O rfl 23 (D.map encB).toArray (0, 0) _ HF.out Try.underlying23 rfl HS1.out ?_)
            | (refine wpList_store_row rfl _ _ _ rfl w.heap.size (D.map encB).toArray rfl rfl 23 z20 HRR2.out HS1.out HS2.out (map_one encB_one _) ?_)
            | fail)
          exact bodyPost_ret (v := .agg (D.map encB).toArray) (results_cell_row rfl _ _ _ _ _ _ _ rfl (setRow_heap _ _ _ _ _ _ HRR2.out) Try.underlying23 rfl HS1.out) rfl ⟨rfl, below_setRow0 HBX.out (Nat.le_refl _) _⟩
        | succ ik =>
          as_aux_lemma =>
          have hlt : t < 20 := by omega
          have hDt : D[t]? = some (D[t]'(by rw [HD20.out]; exact hlt)) := List.getElem?_eq_getElem _
          have hcell : wr.cell? ⟨g9, o9 + t, none⟩ = some (.int .u8 (D[t]'(by rw [HD20.out]; exact hlt)).toNat) := (World.cell?_of_block (HOTH.out g9 (by have := HGO.out; omega))).trans (HC9.out t (by rw [HD20.out]; exact hlt))
          generalize D[t]'(by rw [HD20.out]; exact hlt) = c at hDt hcell
          have bt : (0 : Int) ≤ (t : Int) ∧ (t : Int) < 20 := by omega
          have ht20 : (t : Int) < 20 := by omega
          obtain ⟨z, gt⟩ : ∃ z : UInt8, wr.cell? ⟨O, t, none⟩ = some (.int .u8 z.toNat) := ⟨_, HROW.out.cell t (by rw [rowN_length 20 D HD20.out t (by omega)]; exact hlt)⟩
          have ft := HROW.out.free t
          have HSET := Lib.hid (rowN_set 20 D HD20.out t hlt c hDt)
          have HTK := Lib.hid htk
          have HK : Hid (ik < ik + 1) := Nat.lt_succ_self ik
          clear hDt htk hrow hoth hbx
          go_wp2_with fail
          have hrow' : Blk encB (wr.setCell ⟨O, t, none⟩ (.int .u8 c.toNat)) O 23 (rowN 20 D (t + 1)) := by rw [← HSET.out]; exact HROW.out.put t c
          go_roundg ik
          case measure => exact HK.out
          case rel => exact ⟨t + 1, by have := HTK.out; omega, by go_num, hrow', fun q hq => (heap_setCell_other _ _ _ _ hq).trans (HOTH.out q hq), HBX.out.setCell (by have := HWO.out; show _ ≤ O; omega) _⟩
    | succ gg =>
      as_aux_lemma =>
      have hkN : k + 1 ≤ NB := by omega
      have hmL : m + 64 ≤ L := by have := HLN.out; omega
      have b0 : m < L := by omega
      have hL17 : L ≤ 17000 := by have := HL.out; have := HLB.out; omega
      obtain ⟨u, hu⟩ : ∃ u, goK first DD k = u := ⟨_, rfl⟩
      obtain ⟨Dk, hDk⟩ : ∃ Dk, (DD.drop m).take 64 = Dk := ⟨_, rfl⟩
      obtain ⟨cs, hcs⟩ : ∃ cs, Dk.map encB = cs := ⟨_, rfl⟩
      obtain ⟨v, hv⟩ : ∃ v, blk u Dk = v := ⟨_, rfl⟩
      have hDkl : Dk.length = 64 := by rw [← hDk, List.length_take, List.length_drop, HDL.out]; omega
      have hnx : goK first DD (k + 1) = v := by rw [goK, hu, hkm, hDk, hv]
      have hcell : ∀ t, t < 64 → ∃ c, Dk[t]? = some c ∧ W5.cell? ⟨g7, o7 + (m + t), none⟩ = some (.int .u8 c.toNat) := by
        intro t ht
        refine ⟨DD[m + t]'(by rw [HDL.out]; omega), ?_, HC5.out (m + t) (by rw [HDL.out]; omega)⟩
        rw [← hDk, List.getElem?_take, if_pos ht, List.getElem?_drop, List.getElem?_eq_getElem (by rw [HDL.out]; omega)]
      rw [hu] at hI
      have hcl : cs.length = 64 := by rw [← hcs, List.length_map, hDkl]
      have s64 : IntKind.i64.wrap ((m : Int) + 64) = (m : Int) + 64 := by rw [IntWalk.i64_in _ (by omega)]
      obtain ⟨wo, rfl⟩ : ∃ wo : World, wo = wr := ⟨_, rfl⟩
      have HI0 := Lib.hid hI
      have HKG := Lib.hid hkg
      have HKM := Lib.hid hkm
      have HNX := Lib.hid hnx
      have HV := Lib.hid hv
      have HDK := Lib.hid hDkl
      have HCS := Lib.hid hcs
      have HCL := Lib.hid hcl
      have HCE := Lib.hid hcell
      have HML : Hid (m + 64 ≤ L ∧ L ≤ 17000) := ⟨hmL, hL17⟩
      have HGG : Hid (gg < gg + 1) := Nat.lt_succ_self gg
      clear hI hkg hkm hkN hmL hL17 hu hDk hcs hv hDkl hnx hcell hcl
      go_wp2_with fail
      obtain ⟨W1, hW1, hs1, hx1, hb1⟩ := opn1 wo (.cells zero64 64)
      rw [hW1]
      obtain ⟨X, hX⟩ : ∃ X, wo.heap.size = X := ⟨_, rfl⟩
      rw [hX] at hx1 ⊢
      have hXs : W5.heap.size ≤ X := by rw [← hX]; exact HI0.out.sz
      have hrow0 : Blk encB W1 X 64 (rowN 64 Dk 0) := by rw [rowN_zero]; exact hx1
      have hI1 : DgI w W5 Bh u W1 := HI0.out.later hb1
      have HX := Lib.hid hXs
      have HROW0 := Lib.hid hrow0
      have HI1 := Lib.hid hI1
      clear hW1 hs1 hx1 hb1 hX hXs hrow0 hI1
      go_loopg [7] 64 (fun ik i wx => ∃ t : Nat, t + ik = 64 ∧ i = .int .i64 t ∧ Blk encB wx X 64 (rowN 64 Dk t) ∧ DgI w W5 Bh u wx)
      case atStart => exact ⟨0, rfl, rfl, HROW0.out, HI1.out⟩
      case round =>
        clear HROW0 HI1
        obtain ⟨t, htk, rfl, hrow, hIx⟩ := hrel
        have HROW := Lib.hid hrow
        have HIX := Lib.hid hIx
        clear hrow hIx
        cases gk with
        | zero =>
          as_aux_lemma =>
          obtain rfl : t = 64 := by omega
          have hfull : wr.heap[X]? = some (.cells cs.toArray 64 (0, 0)) := by
            have := HROW.out
            unfold Blk at this
            rw [rowN_end 64 Dk HDK.out, HCS.out] at this
            exact this
          have HF := Lib.hid hfull
          clear hfull htk
          go_wp2_with (first
            | (refine wpList_load_row rfl _ _ rfl Bh rfl 36 (five u) (0, 0) _ HIX.out.st Try.underlying36 rfl size37 ?_)
            | (refine wpList_load_row rfl _ _ rfl X rfl 64 cs.toArray (0, 0) _ HF.out Try.underlying64 rfl (by rw [sizeB64]; simp [HCL.out]) ?_)
            | (go_at_call 50; (with_reducible refine (rblock_cs u Dk cs wr HDK.out HCS.out v HV.out).mono ?_); rintro e w6 ⟨rfl, hb6⟩; have HI6 := Lib.hid (HIX.out.later hb6))
            | (refine wpList_store_row rfl _ _ _ rfl Bh (five v) rfl rfl 36 (five u) HI6.out.st size37 rfl (five_one _) ?_)
            | fail)
          have hI7 := HI6.out.row (by have := HB.out; omega) v
          go_roundg gg
          case measure => exact HGG.out
          case rel => exact ⟨k + 1, m + 64, by have := HKG.out; omega, by have := HKM.out; omega, by go_num, by rw [HNX.out]; exact hI7⟩
        | succ ik =>
          as_aux_lemma =>
          have hlt : t < 64 := by omega
          obtain ⟨c, hDt, hc0⟩ := HCE.out t hlt
          obtain ⟨q, hq⟩ : ∃ q, m + t = q := ⟨_, rfl⟩
          rw [hq] at hc0
          have hcq : wr.cell? ⟨g7, o7 + q, none⟩ = some (.int .u8 c.toNat) := HIX.out.cell (by have := HB.out; omega) (by have := HB.out; omega) hc0
          have s1 : IntKind.i64.wrap ((m : Int) + (t : Int)) = (q : Int) := by have := HML.out; rw [IntWalk.i64_in _ (by omega)]; omega
          have bq : (0 : Int) ≤ (q : Int) ∧ (q : Int) < (L : Int) := by have := HML.out; omega
          have bt : (0 : Int) ≤ (t : Int) ∧ (t : Int) < 64 := by omega
          have ht64 : (t : Int) < 64 := by omega
          obtain ⟨z, gt⟩ : ∃ z : UInt8, wr.cell? ⟨X, t, none⟩ = some (.int .u8 z.toNat) := ⟨_, HROW.out.cell t (by rw [rowN_length 64 Dk HDK.out t (by omega)]; exact hlt)⟩
          have ft := HROW.out.free t
          have HSET := Lib.hid (rowN_set 64 Dk HDK.out t hlt c hDt)
          have HTK := Lib.hid htk
          have HKK : Hid (ik < ik + 1) := Nat.lt_succ_self ik
          clear hDt hc0 hq htk
          go_wp2_with fail
          have hrow' : Blk encB (wr.setCell ⟨X, t, none⟩ (.int .u8 c.toNat)) X 64 (rowN 64 Dk (t + 1)) := by rw [← HSET.out]; exact HROW.out.put t c
          have hI' := HIX.out.put HX.out (by have := HB.out; omega) (by have := HB.out; omega) t (.int .u8 c.toNat)
          go_roundg ik
          case measure => exact HKK.out
          case rel => exact ⟨t + 1, by have := HTK.out; omega, by go_num, hrow', hI'⟩

def z20L : List UInt8 := List.replicate 20 0
set_option maxHeartbeats 2000000 in
set_option maxRecDepth 100000 in
/-- ref.Of. -/
theorem rsof_ok (A : Option Addr) (n cp : Nat) (l : List UInt8) (w : World) (hr : RdA w w.heap.size A l) (hn : l.length = n) (hz : A = none → cp = 0) (hm : n ≤ 16384) (D : List UInt8) (hD : dig l = D) :
    Calls Try.prog 11 #[.slice A n cp] w fun e w' => e = .returned (.tuple #[.agg (D.map encB).toArray, .int .i64 0]) ∧ Below w.heap.size w w' := by
  have d0 : decide ((16384 : Int) < (n : Int)) = false := by simp; omega
  have d1 : ¬ ((16384 : Int) < (n : Int)) := by omega
  have hD20 : D.length = 20 := by rw [← hD]; exact dig_length l
  have HR := Lib.hid hr
  have HN := Lib.hid hn
  have HZ := Lib.hid hz
  have HM := Lib.hid hm
  have HD := Lib.hid hD
  have HS1 : Hid ((Try.prog.info? 23).map (·.size) = some ((D.map encB).toArray).size) := by show _ = _; rw [List.size_toArray, List.length_map, hD20]; kernel_rfl
  have HS2 : Hid (z20.size = ((D.map encB).toArray).size) := by show (20 : Nat) = _; rw [List.size_toArray, List.length_map, hD20]
  clear hr hn hz hm hD hD20
  go_enter Try.func11, Try.ntmps11
  go_upto_region 1 with fail
  obtain ⟨W1, hW1, hs1, h0, hb1⟩ := opn1 w (Obj.cells z20 23)
  have hW1' : w.alloc (Obj.cells #[.int .u8 0, .int .u8 0, .int .u8 0, .int .u8 0, .int .u8 0, .int .u8 0, .int .u8 0, .int .u8 0, .int .u8 0, .int .u8 0, .int .u8 0, .int .u8 0, .int .u8 0, .int .u8 0, .int .u8 0, .int .u8 0, .int .u8 0, .int .u8 0, .int .u8 0, .int .u8 0] 23) = W1 := hW1
  rw [hW1']
  have H0 := Lib.hid h0
  have HR1 := Lib.hid ((HR.out.below hb1).mono hb1.size)
  clear hW1 hW1' hs1 h0
  go_wp2_with (first
    | (go_at_call 33; (with_reducible refine (rdigest_any A n cp l W1 HR1.out HN.out HZ.out HM.out D HD.out).mono ?_); rintro e w2 ⟨rfl, hb2⟩; have H2 := Lib.hid (heap_kept H0.out hb2))
    | (refine wpList_store_row rfl _ _ _ rfl w.heap.size (D.map encB).toArray rfl rfl 23 z20 H2.out HS1.out HS2.out (map_one encB_one _) ?_)
    | fail)
  exact bodyPost_ret (v := .tuple #[.agg (D.map encB).toArray, .int .i64 0]) (results_cell_row2 (p := 2) (q := 3) rfl _ _ _ _ _ _ _ rfl (setRow_heap _ _ _ _ _ _ H2.out) Try.underlying23 rfl HS1.out) rfl ⟨rfl, below_setRow0 (stp hb1 hb2) (Nat.le_refl _) _⟩
set_option maxHeartbeats 2000000 in
set_option maxRecDepth 100000 in
theorem rsof_many (A : Option Addr) (n cp : Nat) (w : World) (hm : 16384 < n) :
    Calls Try.prog 11 #[.slice A n cp] w fun e w' => e = .returned (.tuple #[.agg z20, .int .i64 4]) ∧ Below w.heap.size w w' := by
  have d0 : decide ((16384 : Int) < (n : Int)) = true := by simp; omega
  have d1 : (16384 : Int) < (n : Int) := by omega
  clear hm
  go_enter Try.func11, Try.ntmps11
  go_upto_region 1 with fail
  obtain ⟨W1, hW1, hs1, h0, hb1⟩ := opn1 w (Obj.cells z20 23)
  have hW1' : w.alloc (Obj.cells #[.int .u8 0, .int .u8 0, .int .u8 0, .int .u8 0, .int .u8 0, .int .u8 0, .int .u8 0, .int .u8 0, .int .u8 0, .int .u8 0, .int .u8 0, .int .u8 0, .int .u8 0, .int .u8 0, .int .u8 0, .int .u8 0, .int .u8 0, .int .u8 0, .int .u8 0, .int .u8 0] 23) = W1 := hW1
  rw [hW1']
  have H0 := Lib.hid h0
  clear hW1 hW1' hs1 h0
  go_wp2_with (first
    | (refine wpList_store_row rfl _ _ _ rfl w.heap.size z20 rfl rfl 23 z20 H0.out size22 rfl z20_one ?_)
    | fail)
  exact bodyPost_ret (v := .tuple #[.agg z20, .int .i64 4]) (results_cell_row2 (p := 2) (q := 3) rfl _ _ _ _ z20 _ _ rfl (setRow_heap _ _ _ z20 _ _ H0.out) Try.underlying23 rfl size22) rfl ⟨rfl, below_setRow0 hb1 (Nat.le_refl _) _⟩
set_option maxRecDepth 100000 in
theorem rpad_ok (n : Nat) (w : World) (h : n ≤ 16384) (P : List UInt8) (m : Nat) (hP : padL n = P) (hm : P.length = m) :
    Calls Try.prog 13 #[.int .i64 n] w fun e w' => Below w.heap.size w w' ∧ ∃ A c, e = .returned (.tuple #[.slice A m c, .int .i64 0]) ∧ (A = none → c = 0) ∧ m ≤ c ∧ RdA w' w'.heap.size A P := by
  have d0 : decide ((n : Int) < 0) = false := by simp
  have d1 : decide ((16384 : Int) < (n : Int)) = false := by simp; omega
  have HH := Lib.hid h
  have HP := Lib.hid hP
  have HM := Lib.hid hm
  clear h hP hm
  go_enter Try.func13, Try.ntmps13
  go_wp2_with (first
    | (go_at_call 34; (with_reducible refine (tail_any n w HH.out P m HP.out HM.out).mono ?_); rintro e w2 ⟨hb2, A, c, rfl, hz, hc, hr⟩; have HR := Lib.hid hr; have HZ := Lib.hid hz; clear hr hz)
    | fail)
  go_ret2
  exact ⟨hb2, A, c, rfl, HZ.out, hc, HR.out⟩
set_option maxRecDepth 100000 in
theorem rpad_many (n : Int) (w : World) (h : n < 0 ∨ 16384 < n) :
    Calls Try.prog 13 #[.int .i64 n] w fun e w' => e = .returned (.tuple #[.slice none 0 0, .int .i64 4]) ∧ w = w' := by
  by_cases h0 : n < 0
  · have d0 : decide (n < 0) = true := by simpa using h0
    go_enter Try.func13, Try.ntmps13
    go_wp2
    go_ret2
    exact ⟨rfl, rfl⟩
  · have d0 : decide (n < 0) = false := by simpa using h0
    have d1 : decide (16384 < n) = true := by simp; omega
    go_enter Try.func13, Try.ntmps13
    go_wp2
    go_ret2
    exact ⟨rfl, rfl⟩
end Hx
end Go.Proofs.Ytmjcmlaeajglmaa
