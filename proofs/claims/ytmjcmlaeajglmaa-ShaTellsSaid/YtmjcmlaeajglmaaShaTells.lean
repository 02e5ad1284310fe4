/-
  For every bytes and number the law of a text's digest, and of what stands behind a text, answers true, and what came in reads as before; no conditions.
-/
import Derived.Test.YtmjcmlaeajglmaaShaW
import Derived.Deep.WholeRow
import Derived.WalkKit
import Derived.ProofKit
import Derived.OpenShut
import Derived.ShutString
import Derived.ChangeOld
import Derived.Below
namespace Go.Proofs.Ytmjcmlaeajglmaa.shaTells
open Go.ChangeShapes Go.WideShapes Go.ChangeAt Go.RowKit
open Go.ChangeMaps (open_string shut_string)
open Hx Wd Sh
set_option linter.unusedVariables false

theorem own : ownKnob Try.prog.godebug = none := by kernel_rfl
theorem laidOut : laidOutB Try.prog = true := by kernel_rfl

set_option linter.unusedVariables false
theorem own_any {w : World} {base : Nat} {e : TypeId} {v : Value} {n L : Nat} {xs : List Value} {l : List UInt8} (h : w.ownsRow base e 1 v n xs) (hx : xs = Lib.byteCells l) (hn : n = L) :
    ∃ A c, v = .slice A L c ∧ (A = none → c = 0) ∧ RdA w w.heap.size A l := by
  subst hx hn
  have h0 := h
  rcases h.2 with ⟨hv, hz⟩ | ⟨g, cap, cur, hv, _⟩
  · subst hv hz
    have hl : l.length = 0 := by have := h.1; simpa [Lib.byteCells] using this
    exact ⟨none, 0, rfl, fun _ => rfl, fun hp => absurd hp (by omega)⟩
  · subst hv
    exact ⟨_, _, rfl, (fun h => by cases h), (RdA.of_own h0).1⟩
theorem infoB : (Try.prog.info? 5).map (fun i => (i.zero, i.size, i.bytes)) = some (some (.int .u8 0), 1, 1) := by kernel_rfl
theorem eql20 (D : List UInt8) (hD : D.length = 20) (w : World) : (binOp .eql 23 (.agg (D.map encB).toArray) (.agg (D.map encB).toArray)).run Try.prog w = .ok (.bool true) w := by
  obtain ⟨i0, hi, hz0, hz1, hz2⟩ := info_parts infoB
  exact run_eql_agg (enc := encB) Try.underlying23 Try.underlying5 hi hz1 (fun _ => ⟨_, rfl⟩) D hD w
theorem eqlz (w : World) : (binOp .eql 23 (.agg z20) (.agg z20)).run Try.prog w = .ok (.bool true) w := eql20 (List.replicate 20 0) (by simp) w
set_option maxHeartbeats 2000000 in
set_option maxRecDepth 100000 in
theorem walkOut (a0 : Option Addr) (len0 cap0 : Nat) (n : Int) (w : World) (h : 300 < len0 ∧ len0 ≤ 16384 ∨ 17000 < len0) :
    Calls Try.prog 3 #[.slice a0 len0 cap0, .int .i64 n] w fun e w' => e = .returned (.bool true) ∧ Below w.heap.size w w' := by
  by_cases h1 : len0 ≤ 16384
  · have t0 : decide ((300 : Int) < (len0 : Int)) = true := by simp; omega
    have t1 : decide ((len0 : Int) ≤ 16384) = true := by simp; omega
    clear h h1
    go_enter Try.func3, Try.ntmps3
    go_wp2
    go_ret
    exact ⟨rfl, Below.refl _ _⟩
  · have t0 : decide ((300 : Int) < (len0 : Int)) = true := by simp; omega
    have t1 : decide ((len0 : Int) ≤ 16384) = false := by simp; omega
    have t2 : decide ((17000 : Int) < (len0 : Int)) = true := by simp; omega
    clear h h1
    go_enter Try.func3, Try.ntmps3
    go_wp2
    go_ret
    exact ⟨rfl, Below.refl _ _⟩

set_option maxHeartbeats 6000000 in
set_option maxRecDepth 100000 in
theorem walkA (a0 : Option Addr) (len0 cap0 : Nat) (l : List UInt8) (k : Nat) (w : World) (hr : RdA w w.heap.size a0 l) (hn : l.length = len0) (hz : a0 = none → cap0 = 0) (hm : len0 ≤ 300) (hk : k ≤ 16384) :
    Calls Try.prog 3 #[.slice a0 len0 cap0, .int .i64 k] w fun e w' => e = .returned (.bool true) ∧ Below w.heap.size w w' := by
  obtain ⟨i0, hi, hz0, hz1, hz2⟩ := info_parts infoB
  have HI := Lib.hid hi
  have HZ0 := Lib.hid hz0
  have HZ1 := Lib.hid hz1
  have HZ2 := Lib.hid hz2
  have t0 : decide ((300 : Int) < (len0 : Int)) = false := by simp; omega
  have t2 : decide ((17000 : Int) < (len0 : Int)) = false := by simp; omega
  obtain ⟨D, hD⟩ : ∃ D, dig l = D := ⟨_, rfl⟩
  have hD20 : D.length = 20 := by rw [← hD]; exact dig_length l
  have HQ : ∀ w, (binOp .eql 23 (.agg (D.map encB).toArray) (.agg (D.map encB).toArray)).run Try.prog w = .ok (.bool true) w := fun w => eql20 D hD20 w
  have HS1 : Hid ((Try.prog.info? 23).map (·.size) = some ((D.map encB).toArray).size) := by show _ = _; rw [List.size_toArray, List.length_map, hD20]; kernel_rfl
  have HS2 : Hid (z20.size = ((D.map encB).toArray).size) := by show (20 : Nat) = _; rw [List.size_toArray, List.length_map, hD20]
  have HD := Lib.hid hD
  obtain ⟨Q, hQ⟩ : ∃ Q, padL k = Q := ⟨_, rfl⟩
  obtain ⟨qm, hqm⟩ : ∃ qm, Q.length = qm := ⟨_, rfl⟩
  have HP := Lib.hid hQ
  have HPM := Lib.hid hqm
  have HKK := Lib.hid hk
  have HR := Lib.hid hr
  have HN := Lib.hid hn
  have HZ := Lib.hid hz
  have HM : Hid (len0 ≤ 16384) := Lib.hid (by omega)
  have HLN : Hid (len0 ≤ 17000) := Lib.hid (by omega)
  have HE : Hid ((w.alloc (.cells #[] 5)).ownsRow w.heap.size 5 1 (.slice (some ⟨w.heap.size, 0, none⟩) 0 0) 0 []) := Lib.hid (World.ownsRow_made w #[] 0 (Nat.le_refl _) (by decide) rfl)
  have hb5 := stpA (Below.refl w.heap.size w) (.cells #[] 5)
  clear hi hz0 hz1 hz2 hr hn hz hm hk hD hD20 hQ hqm
  go_enter Try.func3, Try.ntmps3
  go_wp2_with (first
    | (at_builtin; refine wpList_append_rd rfl (.tmp 27) (.tmp 28) 22 rfl w.heap.size 5 i0 (.int .u8 0) Try.underlying22 HI.out HZ0.out HZ1.out HZ2.out rfl _ 0 _ rfl HE.out w.heap.size a0 len0 cap0 l rfl (HR.out.below hb5) HN.out HZ.out (by have := HLN.out; omega) hb5.size ?_; intro v6 w6 hown6 hgr6; have hb6 := hb5.grown hgr6 hb5.size (fun g hg => (HE.out.lt g hg).1); obtain ⟨A6, c6, hv6, hz6, hr6⟩ := own_any (l := l) (L := len0) hown6 (by simp) (by omega); subst hv6; have HR6 := Lib.hid hr6; have HZ6 := Lib.hid hz6; clear hown6 hgr6 hr6 hz6)
    | (go_at_call 10; (with_reducible refine (of_ok64 A6 len0 c6 l w6 HR6.out HN.out HZ6.out HM.out D HD.out).mono ?_); rintro e w7 ⟨rfl, hb7⟩)
    | (refine wpList_store_row rfl _ _ _ rfl w7.heap.size (D.map encB).toArray rfl rfl 23 z20 (heap_alloc_new _ _) HS1.out HS2.out (map_one encB_one _) ?_; rw [World.setRow_alloc_new]; obtain ⟨W8, hW8, hs8, hx8, hb8⟩ := opn1 w7 (.cells (D.map encB).toArray 23); rw [hW8]; have HX8 := Lib.hid hx8; have hb6' := stp (stp hb6 hb7) hb8; clear hW8 hx8 hs8)
    | (go_at_call 11; (with_reducible refine (rsof_ok a0 len0 cap0 l W8 ((HR.out.below hb6').mono hb6'.size) HN.out HZ.out HM.out D HD.out).mono ?_); rintro e w9 ⟨rfl, hb9⟩)
    | (refine wpList_store_row rfl _ _ _ rfl w9.heap.size (D.map encB).toArray rfl rfl 23 z20 (heap_alloc_new _ _) HS1.out HS2.out (map_one encB_one _) ?_; rw [World.setRow_alloc_new]; obtain ⟨W10, hW10, hs10, hx10, hb10⟩ := opn1 w9 (.cells (D.map encB).toArray 23); rw [hW10]; have HX10 := Lib.hid hx10; have HX8b := Lib.hid (heap_kept (heap_kept HX8.out hb9) hb10); have hb8' := stp hb9 hb10; clear hW10 hx10 hs10)
    | (go_at_call 12; (with_reducible refine (pad_ok k W10 HKK.out Q qm HP.out HPM.out).mono ?_); rintro e w11 ⟨hb11, g11, c11, rfl, hc11, hm11, hr11⟩; have HR11 := Lib.hid hr11; clear hr11)
    | (go_at_call 13; (with_reducible refine (rpad_ok k w11 HKK.out Q qm HP.out HPM.out).mono ?_); rintro e w12 ⟨hb12, A12, c12, rfl, hz12, hc12, hr12⟩; have HR12 := Lib.hid hr12; clear hr12 hz12; have hb13 := stp hb8' (stp hb11 hb12); have HX10c := Lib.hid (heap_kept HX10.out (stp hb11 hb12)); have HX8c := Lib.hid (heap_kept HX8b.out (stp hb11 hb12)); have cv1 := conv_str (P := Try.prog) (n := qm) (c := c11) (HR11.out.below hb12) HPM.out Try.underlying22 Try.underlying5 Try.underlying9; have cv2 := conv_str (P := Try.prog) (n := qm) (c := c12) HR12.out HPM.out Try.underlying22 Try.underlying5 Try.underlying9; have hbA := stp (stp hb7 hb8) hb13; have cv3 := conv_str (P := Try.prog) (n := len0) (c := c6) (HR6.out.below hbA) HN.out Try.underlying22 Try.underlying5 Try.underlying9; have hbB := stp hb6' hb13; have cv4 := conv_str (P := Try.prog) (n := len0) (c := cap0) (HR.out.below hbB) HN.out Try.underlying22 Try.underlying5 Try.underlying9)
    | (refine wpList_load_row rfl _ _ rfl w7.heap.size rfl 23 (D.map encB).toArray (0, 0) _ HX8c.out Try.underlying23 rfl HS1.out ?_)
    | (refine wpList_load_row rfl _ _ rfl w9.heap.size rfl 23 (D.map encB).toArray (0, 0) _ HX10c.out Try.underlying23 rfl HS1.out ?_)
    | fail)
  go_ret
  exact ⟨rfl, hbB⟩

set_option maxHeartbeats 6000000 in
set_option maxRecDepth 100000 in
theorem walkB (a0 : Option Addr) (len0 cap0 : Nat) (l : List UInt8) (n : Int) (w : World) (hr : RdA w w.heap.size a0 l) (hn : l.length = len0) (hz : a0 = none → cap0 = 0) (hm : len0 ≤ 300) (hk : n < 0 ∨ 16384 < n) :
    Calls Try.prog 3 #[.slice a0 len0 cap0, .int .i64 n] w fun e w' => e = .returned (.bool true) ∧ Below w.heap.size w w' := by
  obtain ⟨i0, hi, hz0, hz1, hz2⟩ := info_parts infoB
  have HI := Lib.hid hi
  have HZ0 := Lib.hid hz0
  have HZ1 := Lib.hid hz1
  have HZ2 := Lib.hid hz2
  have t0 : decide ((300 : Int) < (len0 : Int)) = false := by simp; omega
  have t2 : decide ((17000 : Int) < (len0 : Int)) = false := by simp; omega
  obtain ⟨D, hD⟩ : ∃ D, dig l = D := ⟨_, rfl⟩
  have hD20 : D.length = 20 := by rw [← hD]; exact dig_length l
  have HQ : ∀ w, (binOp .eql 23 (.agg (D.map encB).toArray) (.agg (D.map encB).toArray)).run Try.prog w = .ok (.bool true) w := fun w => eql20 D hD20 w
  have HS1 : Hid ((Try.prog.info? 23).map (·.size) = some ((D.map encB).toArray).size) := by show _ = _; rw [List.size_toArray, List.length_map, hD20]; kernel_rfl
  have HS2 : Hid (z20.size = ((D.map encB).toArray).size) := by show (20 : Nat) = _; rw [List.size_toArray, List.length_map, hD20]
  have HD := Lib.hid hD
  have HKK := Lib.hid hk
  have HR := Lib.hid hr
  have HN := Lib.hid hn
  have HZ := Lib.hid hz
  have HM : Hid (len0 ≤ 16384) := Lib.hid (by omega)
  have HLN : Hid (len0 ≤ 17000) := Lib.hid (by omega)
  have HE : Hid ((w.alloc (.cells #[] 5)).ownsRow w.heap.size 5 1 (.slice (some ⟨w.heap.size, 0, none⟩) 0 0) 0 []) := Lib.hid (World.ownsRow_made w #[] 0 (Nat.le_refl _) (by decide) rfl)
  have hb5 := stpA (Below.refl w.heap.size w) (.cells #[] 5)
  clear hi hz0 hz1 hz2 hr hn hz hm hk hD hD20
  go_enter Try.func3, Try.ntmps3
  go_wp2_with (first
    | (at_builtin; refine wpList_append_rd rfl (.tmp 27) (.tmp 28) 22 rfl w.heap.size 5 i0 (.int .u8 0) Try.underlying22 HI.out HZ0.out HZ1.out HZ2.out rfl _ 0 _ rfl HE.out w.heap.size a0 len0 cap0 l rfl (HR.out.below hb5) HN.out HZ.out (by have := HLN.out; omega) hb5.size ?_; intro v6 w6 hown6 hgr6; have hb6 := hb5.grown hgr6 hb5.size (fun g hg => (HE.out.lt g hg).1); obtain ⟨A6, c6, hv6, hz6, hr6⟩ := own_any (l := l) (L := len0) hown6 (by simp) (by omega); subst hv6; have HR6 := Lib.hid hr6; have HZ6 := Lib.hid hz6; clear hown6 hgr6 hr6 hz6)
    | (go_at_call 10; (with_reducible refine (of_ok64 A6 len0 c6 l w6 HR6.out HN.out HZ6.out HM.out D HD.out).mono ?_); rintro e w7 ⟨rfl, hb7⟩)
    | (refine wpList_store_row rfl _ _ _ rfl w7.heap.size (D.map encB).toArray rfl rfl 23 z20 (heap_alloc_new _ _) HS1.out HS2.out (map_one encB_one _) ?_; rw [World.setRow_alloc_new]; obtain ⟨W8, hW8, hs8, hx8, hb8⟩ := opn1 w7 (.cells (D.map encB).toArray 23); rw [hW8]; have HX8 := Lib.hid hx8; have hb6' := stp (stp hb6 hb7) hb8; clear hW8 hx8 hs8)
    | (go_at_call 11; (with_reducible refine (rsof_ok a0 len0 cap0 l W8 ((HR.out.below hb6').mono hb6'.size) HN.out HZ.out HM.out D HD.out).mono ?_); rintro e w9 ⟨rfl, hb9⟩)
    | (refine wpList_store_row rfl _ _ _ rfl w9.heap.size (D.map encB).toArray rfl rfl 23 z20 (heap_alloc_new _ _) HS1.out HS2.out (map_one encB_one _) ?_; rw [World.setRow_alloc_new]; obtain ⟨W10, hW10, hs10, hx10, hb10⟩ := opn1 w9 (.cells (D.map encB).toArray 23); rw [hW10]; have HX10 := Lib.hid hx10; have HX8b := Lib.hid (heap_kept (heap_kept HX8.out hb9) hb10); have hb8' := stp hb9 hb10; clear hW10 hx10 hs10)
    | (go_at_call 12; (with_reducible refine (pad_many n W10 HKK.out).mono ?_); rintro e w11 ⟨rfl, rfl⟩)
    | (go_at_call 13; (with_reducible refine (rpad_many n W10 HKK.out).mono ?_); rintro e w12 ⟨rfl, rfl⟩; have hb13 := hb8'; have HX10c := HX10; have HX8c := HX8b; have cv1 := conv_str (P := Try.prog) (n := 0) (c := 0) (RdA.nil W10 W10.heap.size none) rfl Try.underlying22 Try.underlying5 Try.underlying9; have hbA := stp (stp hb7 hb8) hb13; have cv3 := conv_str (P := Try.prog) (n := len0) (c := c6) (HR6.out.below hbA) HN.out Try.underlying22 Try.underlying5 Try.underlying9; have hbB := stp hb6' hb13; have cv4 := conv_str (P := Try.prog) (n := len0) (c := cap0) (HR.out.below hbB) HN.out Try.underlying22 Try.underlying5 Try.underlying9)
    | (refine wpList_load_row rfl _ _ rfl w7.heap.size rfl 23 (D.map encB).toArray (0, 0) _ HX8c.out Try.underlying23 rfl HS1.out ?_)
    | (refine wpList_load_row rfl _ _ rfl w9.heap.size rfl 23 (D.map encB).toArray (0, 0) _ HX10c.out Try.underlying23 rfl HS1.out ?_)
    | fail)
  go_ret
  exact ⟨rfl, hbB⟩

set_option maxHeartbeats 6000000 in
set_option maxRecDepth 100000 in
theorem walkC (a0 : Option Addr) (len0 cap0 : Nat) (l : List UInt8) (k : Nat) (w : World) (hr : RdA w w.heap.size a0 l) (hn : l.length = len0) (hz : a0 = none → cap0 = 0) (hm : 16384 < len0) (hm2 : len0 ≤ 17000) (hk : k ≤ 16384) :
    Calls Try.prog 3 #[.slice a0 len0 cap0, .int .i64 k] w fun e w' => e = .returned (.bool true) ∧ Below w.heap.size w w' := by
  obtain ⟨i0, hi, hz0, hz1, hz2⟩ := info_parts infoB
  have HI := Lib.hid hi
  have HZ0 := Lib.hid hz0
  have HZ1 := Lib.hid hz1
  have HZ2 := Lib.hid hz2
  have t0 : decide ((300 : Int) < (len0 : Int)) = true := by simp; omega
  have t1 : decide ((len0 : Int) ≤ 16384) = false := by simp; omega
  have t2 : decide ((17000 : Int) < (len0 : Int)) = false := by simp; omega
  have HQ : ∀ w, (binOp .eql 23 (.agg z20) (.agg z20)).run Try.prog w = .ok (.bool true) w := fun w => eqlz w
  obtain ⟨Q, hQ⟩ : ∃ Q, padL k = Q := ⟨_, rfl⟩
  obtain ⟨qm, hqm⟩ : ∃ qm, Q.length = qm := ⟨_, rfl⟩
  have HP := Lib.hid hQ
  have HPM := Lib.hid hqm
  have HKK := Lib.hid hk
  have HR := Lib.hid hr
  have HN := Lib.hid hn
  have HZ := Lib.hid hz
  have HM : Hid (16384 < len0) := Lib.hid (by omega)
  have HLN : Hid (len0 ≤ 17000) := Lib.hid (by omega)
  have HE : Hid ((w.alloc (.cells #[] 5)).ownsRow w.heap.size 5 1 (.slice (some ⟨w.heap.size, 0, none⟩) 0 0) 0 []) := Lib.hid (World.ownsRow_made w #[] 0 (Nat.le_refl _) (by decide) rfl)
  have hb5 := stpA (Below.refl w.heap.size w) (.cells #[] 5)
  clear hi hz0 hz1 hz2 hr hn hz hm hm2 hk hQ hqm
  go_enter Try.func3, Try.ntmps3
  go_wp2_with (first
    | (at_builtin; refine wpList_append_rd rfl (.tmp 27) (.tmp 28) 22 rfl w.heap.size 5 i0 (.int .u8 0) Try.underlying22 HI.out HZ0.out HZ1.out HZ2.out rfl _ 0 _ rfl HE.out w.heap.size a0 len0 cap0 l rfl (HR.out.below hb5) HN.out HZ.out (by have := HLN.out; omega) hb5.size ?_; intro v6 w6 hown6 hgr6; have hb6 := hb5.grown hgr6 hb5.size (fun g hg => (HE.out.lt g hg).1); obtain ⟨A6, c6, hv6, hz6, hr6⟩ := own_any (l := l) (L := len0) hown6 (by simp) (by omega); subst hv6; have HR6 := Lib.hid hr6; have HZ6 := Lib.hid hz6; clear hown6 hgr6 hr6 hz6)
    | (go_at_call 10; (with_reducible refine (of_many64 A6 len0 c6 w6 HM.out).mono ?_); rintro e w7 ⟨rfl, hb7⟩)
    | (refine wpList_store_row rfl _ _ _ rfl w7.heap.size z20 rfl rfl 23 z20 (heap_alloc_new _ _) size22 rfl z20_one ?_; rw [World.setRow_alloc_new]; obtain ⟨W8, hW8, hs8, hx8, hb8⟩ := opn1 w7 (.cells z20 23); rw [hW8]; have HX8 := Lib.hid hx8; have hb6' := stp (stp hb6 hb7) hb8; clear hW8 hx8 hs8)
    | (go_at_call 11; (with_reducible refine (rsof_many a0 len0 cap0 W8 HM.out).mono ?_); rintro e w9 ⟨rfl, hb9⟩)
    | (refine wpList_store_row rfl _ _ _ rfl w9.heap.size z20 rfl rfl 23 z20 (heap_alloc_new _ _) size22 rfl z20_one ?_; rw [World.setRow_alloc_new]; obtain ⟨W10, hW10, hs10, hx10, hb10⟩ := opn1 w9 (.cells z20 23); rw [hW10]; have HX10 := Lib.hid hx10; have HX8b := Lib.hid (heap_kept (heap_kept HX8.out hb9) hb10); have hb8' := stp hb9 hb10; clear hW10 hx10 hs10)
    | (go_at_call 12; (with_reducible refine (pad_ok k W10 HKK.out Q qm HP.out HPM.out).mono ?_); rintro e w11 ⟨hb11, g11, c11, rfl, hc11, hm11, hr11⟩; have HR11 := Lib.hid hr11; clear hr11)
    | (go_at_call 13; (with_reducible refine (rpad_ok k w11 HKK.out Q qm HP.out HPM.out).mono ?_); rintro e w12 ⟨hb12, A12, c12, rfl, hz12, hc12, hr12⟩; have HR12 := Lib.hid hr12; clear hr12 hz12; have hb13 := stp hb8' (stp hb11 hb12); have HX10c := Lib.hid (heap_kept HX10.out (stp hb11 hb12)); have HX8c := Lib.hid (heap_kept HX8b.out (stp hb11 hb12)); have cv1 := conv_str (P := Try.prog) (n := qm) (c := c11) (HR11.out.below hb12) HPM.out Try.underlying22 Try.underlying5 Try.underlying9; have cv2 := conv_str (P := Try.prog) (n := qm) (c := c12) HR12.out HPM.out Try.underlying22 Try.underlying5 Try.underlying9; have hbA := stp (stp hb7 hb8) hb13; have cv3 := conv_str (P := Try.prog) (n := len0) (c := c6) (HR6.out.below hbA) HN.out Try.underlying22 Try.underlying5 Try.underlying9; have hbB := stp hb6' hb13; have cv4 := conv_str (P := Try.prog) (n := len0) (c := cap0) (HR.out.below hbB) HN.out Try.underlying22 Try.underlying5 Try.underlying9)
    | (refine wpList_load_row rfl _ _ rfl w7.heap.size rfl 23 z20 (0, 0) _ HX8c.out Try.underlying23 rfl size22 ?_)
    | (refine wpList_load_row rfl _ _ rfl w9.heap.size rfl 23 z20 (0, 0) _ HX10c.out Try.underlying23 rfl size22 ?_)
    | fail)
  go_ret
  exact ⟨rfl, hbB⟩

set_option maxHeartbeats 6000000 in
set_option maxRecDepth 100000 in
theorem walkD (a0 : Option Addr) (len0 cap0 : Nat) (l : List UInt8) (n : Int) (w : World) (hr : RdA w w.heap.size a0 l) (hn : l.length = len0) (hz : a0 = none → cap0 = 0) (hm : 16384 < len0) (hm2 : len0 ≤ 17000) (hk : n < 0 ∨ 16384 < n) :
    Calls Try.prog 3 #[.slice a0 len0 cap0, .int .i64 n] w fun e w' => e = .returned (.bool true) ∧ Below w.heap.size w w' := by
  obtain ⟨i0, hi, hz0, hz1, hz2⟩ := info_parts infoB
  have HI := Lib.hid hi
  have HZ0 := Lib.hid hz0
  have HZ1 := Lib.hid hz1
  have HZ2 := Lib.hid hz2
  have t0 : decide ((300 : Int) < (len0 : Int)) = true := by simp; omega
  have t1 : decide ((len0 : Int) ≤ 16384) = false := by simp; omega
  have t2 : decide ((17000 : Int) < (len0 : Int)) = false := by simp; omega
  have HQ : ∀ w, (binOp .eql 23 (.agg z20) (.agg z20)).run Try.prog w = .ok (.bool true) w := fun w => eqlz w
  have HKK := Lib.hid hk
  have HR := Lib.hid hr
  have HN := Lib.hid hn
  have HZ := Lib.hid hz
  have HM : Hid (16384 < len0) := Lib.hid (by omega)
  have HLN : Hid (len0 ≤ 17000) := Lib.hid (by omega)
  have HE : Hid ((w.alloc (.cells #[] 5)).ownsRow w.heap.size 5 1 (.slice (some ⟨w.heap.size, 0, none⟩) 0 0) 0 []) := Lib.hid (World.ownsRow_made w #[] 0 (Nat.le_refl _) (by decide) rfl)
  have hb5 := stpA (Below.refl w.heap.size w) (.cells #[] 5)
  clear hi hz0 hz1 hz2 hr hn hz hm hm2 hk
  go_enter Try.func3, Try.ntmps3
  go_wp2_with (first
    | (at_builtin; refine wpList_append_rd rfl (.tmp 27) (.tmp 28) 22 rfl w.heap.size 5 i0 (.int .u8 0) Try.underlying22 HI.out HZ0.out HZ1.out HZ2.out rfl _ 0 _ rfl HE.out w.heap.size a0 len0 cap0 l rfl (HR.out.below hb5) HN.out HZ.out (by have := HLN.out; omega) hb5.size ?_; intro v6 w6 hown6 hgr6; have hb6 := hb5.grown hgr6 hb5.size (fun g hg => (HE.out.lt g hg).1); obtain ⟨A6, c6, hv6, hz6, hr6⟩ := own_any (l := l) (L := len0) hown6 (by simp) (by omega); subst hv6; have HR6 := Lib.hid hr6; have HZ6 := Lib.hid hz6; clear hown6 hgr6 hr6 hz6)
    | (go_at_call 10; (with_reducible refine (of_many64 A6 len0 c6 w6 HM.out).mono ?_); rintro e w7 ⟨rfl, hb7⟩)
    | (refine wpList_store_row rfl _ _ _ rfl w7.heap.size z20 rfl rfl 23 z20 (heap_alloc_new _ _) size22 rfl z20_one ?_; rw [World.setRow_alloc_new]; obtain ⟨W8, hW8, hs8, hx8, hb8⟩ := opn1 w7 (.cells z20 23); rw [hW8]; have HX8 := Lib.hid hx8; have hb6' := stp (stp hb6 hb7) hb8; clear hW8 hx8 hs8)
    | (go_at_call 11; (with_reducible refine (rsof_many a0 len0 cap0 W8 HM.out).mono ?_); rintro e w9 ⟨rfl, hb9⟩)
    | (refine wpList_store_row rfl _ _ _ rfl w9.heap.size z20 rfl rfl 23 z20 (heap_alloc_new _ _) size22 rfl z20_one ?_; rw [World.setRow_alloc_new]; obtain ⟨W10, hW10, hs10, hx10, hb10⟩ := opn1 w9 (.cells z20 23); rw [hW10]; have HX10 := Lib.hid hx10; have HX8b := Lib.hid (heap_kept (heap_kept HX8.out hb9) hb10); have hb8' := stp hb9 hb10; clear hW10 hx10 hs10)
    | (go_at_call 12; (with_reducible refine (pad_many n W10 HKK.out).mono ?_); rintro e w11 ⟨rfl, rfl⟩)
    | (go_at_call 13; (with_reducible refine (rpad_many n W10 HKK.out).mono ?_); rintro e w12 ⟨rfl, rfl⟩; have hb13 := hb8'; have HX10c := HX10; have HX8c := HX8b; have cv1 := conv_str (P := Try.prog) (n := 0) (c := 0) (RdA.nil W10 W10.heap.size none) rfl Try.underlying22 Try.underlying5 Try.underlying9; have hbA := stp (stp hb7 hb8) hb13; have cv3 := conv_str (P := Try.prog) (n := len0) (c := c6) (HR6.out.below hbA) HN.out Try.underlying22 Try.underlying5 Try.underlying9; have hbB := stp hb6' hb13; have cv4 := conv_str (P := Try.prog) (n := len0) (c := cap0) (HR.out.below hbB) HN.out Try.underlying22 Try.underlying5 Try.underlying9)
    | (refine wpList_load_row rfl _ _ rfl w7.heap.size rfl 23 z20 (0, 0) _ HX8c.out Try.underlying23 rfl size22 ?_)
    | (refine wpList_load_row rfl _ _ rfl w9.heap.size rfl 23 z20 (0, 0) _ HX10c.out Try.underlying23 rfl size22 ?_)
    | fail)
  go_ret
  exact ⟨rfl, hbB⟩

theorem walk (a0 : Option Addr) (len0 cap0 : Nat) (l0 : List UInt8) (a1 : Int) (w : World) (w0 : RdA w w.heap.size a0 l0) (n0 : l0.length = len0) (m0 : len0 ≤ maxLen) (z0 : a0 = none → cap0 = 0) (w1 : (Lit.int .i64 a1).wf = true) :
    Calls Try.prog 3 #[.slice a0 len0 cap0, .int .i64 a1] w fun e w' => e = .returned (.bool true) ∧ Below w.heap.size w w' := by
  by_cases h : 300 < len0 ∧ len0 ≤ 16384 ∨ 17000 < len0
  · exact walkOut a0 len0 cap0 a1 w h
  · by_cases hk : a1 < 0 ∨ 16384 < a1
    · by_cases hl : len0 ≤ 300
      · exact walkB a0 len0 cap0 l0 a1 w w0 n0 z0 hl hk
      · exact walkD a0 len0 cap0 l0 a1 w w0 n0 z0 (by omega) (by omega) hk
    · obtain ⟨k, rfl⟩ : ∃ k : Nat, a1 = k := ⟨a1.toNat, by omega⟩
      by_cases hl : len0 ≤ 300
      · exact walkA a0 len0 cap0 l0 k w w0 n0 z0 hl (by omega)
      · exact walkC a0 len0 cap0 l0 k w w0 n0 z0 (by omega) (by omega) (by omega)

set_option maxRecDepth 100000 in
theorem lifted (os : Os) (started : os.Started) (H : Type) (enc : TypeId × Value → H) :
    ReturnsInHanded {} Try.checked os 3 .any (Rows.shaTellsSpec.pre6 enc Try.prog Try.f3 Rows.shaTellsRow.domain false) (Rows.shaTellsSpec.post enc Try.prog Try.f3 false true false false) := by
  refine returnsInHanded_of_change (C := Try.checked) own started (by kernel_rfl) Try.func3
    (ChangeSpec.witness6 (enc := enc) (C := Try.checked) false ⟨#[], #[.slice none 0 0, .int .i64 0], []⟩ 8 (by kernel_rfl) (by kernel_rfl) (by kernel_rfl) (by kernel_rfl)) ?_
  intro W base args ds gs before hval0 hW hcnd _
  have hval : ∀ (j : Nat) t v, Try.f3.params[j]? = some t → args[j]? = some v → Value.okWide Try.prog W .any base t v := hval0
  have hW' := hW
  obtain ⟨p, q, hA0, hV, rfl, hfz, hnd⟩ := hW
  have hA : DataW.TrodAll enc Try.prog W 0 (fun _ => true) true Try.f3.params.toList args.toList ds p := hA0
  rw [Try.params3] at hA hval
  obtain ⟨v0, vs0, d0, ds0, p0, q0, hargs, rfl, rfl, h0, r0⟩ := trodAll_cons hA
  obtain ⟨v1, vs1, d1, ds1, p1, q1, rfl, rfl, rfl, h1, r1⟩ := trodAll_cons r0
  obtain ⟨rfl, rfl, rfl⟩ := trodAll_nil r1
  obtain rfl : args = #[v0, v1] := by cases args; simp_all
  obtain ⟨rfl, rfl⟩ := trodVars_none hV
  obtain ⟨a0, len0, cap0, rfl⟩ := okWide_slice Try.underlying22 (hval 0 22 v0 rfl rfl)
  have k0 := h0
  have lt0 : ∀ x ∈ p0, x.block < W.heap.size := by obtain ⟨m, hm⟩ := k0; exact DataW.trod_lt m _ _ _ hm
  obtain ⟨l0, w0, n0, c0, m0, z0⟩ : ∃ l : List UInt8, RdA W W.heap.size a0 l ∧ l.length = len0 ∧ len0 ≤ cap0 ∧ cap0 ≤ maxLen ∧ (a0 = none → cap0 = 0) := by
    obtain ⟨fuel, hf⟩ := h0
    rcases open_ints Try.underlying22 Try.underlying5 (by kernel_rfl) hf with ⟨hcs, _⟩ | ⟨x, l, c, zs, hcs, _, hl, hm, hz, _, hcell, hwz⟩
    · simp [Value.cells] at hcs
      obtain ⟨rfl, rfl, rfl⟩ := hcs
      exact ⟨[], RdA.nil _ _ _, rfl, Nat.le_refl _, Nat.zero_le _, fun _ => rfl⟩
    · simp [Value.cells] at hcs
      obtain ⟨rfl, rfl, rfl⟩ := hcs
      have hz' : zs.length = cap0 := by simpa using hz
      obtain ⟨l, hr, hn⟩ := rdA_of_row hl hz' hcell hwz
      exact ⟨l, hr, hn, hl, hm, fun h => by cases h⟩
  obtain ⟨a1, rfl, rfl, rfl, w1⟩ := open_int Try.underlying3 (hval 1 3 v1 rfl rfl) h1
  clear hA0 hval0
  refine (walk a0 len0 cap0 l0 a1 W w0 n0 (Nat.le_trans c0 m0) z0 w1).mono fun e W' ⟨he, bel⟩ => ?_
  subst he
  exact ⟨_, rfl, _, _, _, [], _, [], hW', trodAll_mk1 (shut_bool Try.underlying4 _), (trodAll_cons_mk (Below.trod laidOut (by kernel_rfl) (of_decide_eq_true (by kernel_rfl)) k0 bel lt0) (trodAll_cons_mk (shut_int Try.underlying3 w1) trodAll_mk0)), rfl, bel.frame _, fun h => by cases h⟩

theorem over : Rows.shaTellsRow.holds Try.pinned (OpenSpec.ofChange Rows.shaTellsSpec) :=
  OpenClaim.holds_of_wide 3 Try.f3 rfl rfl rfl rfl rfl rfl rfl ⟨rfl, rfl, rfl, rfl, rfl⟩ rfl rfl rfl rfl rfl (by kernel_rfl) Try.func3 (by kernel_rfl)
    (of_decide_eq_true (by kernel_rfl)) (by unfold Func.isWrapper; first | (rw [if_pos (by decide +kernel)]; kernel_rfl) | (rw [if_neg (by decide +kernel)]; exact ⟨rfl, rfl⟩))
    (fun os started H enc _ => lifted os started H enc)

theorem proved : Rows.ShaTellsSaid := over
end Go.Proofs.Ytmjcmlaeajglmaa.shaTells
