/-
  Behind what sha.Pad answers for its length a text is whole blocks; its digest is what one makes of these blocks one by one from sha.First; and behind some first blocks the others go on from that state alone. No condition (texts above 1,000 bytes and counts out of 0 to 15 are passed by, as the statement says).
-/
import Derived.Test.YtmjcmlaeajglmaaShaG
import Derived.Deep.RegionHeld3
import Derived.Deep.DrawnRows
import Derived.Deep.MidRow
import Derived.Deep.CutBlock
import Derived.Deep.DeepCutAuto
import Derived.WalkKit
import Derived.ProofKit
import Derived.OpenShut
import Derived.ShutString
import Derived.ChangeOld
import Derived.Below
namespace Go.Proofs.Ytmjcmlaeajglmaa.shaGoes
open Go.ChangeShapes Go.WideShapes Go.ChangeAt Go.RowKit
open Go.ChangeMaps (open_string shut_string)
open Hx Wd Sh
set_option linter.unusedVariables false

theorem own : ownKnob Try.prog.godebug = none := by kernel_rfl
theorem laidOut : laidOutB Try.prog = true := by kernel_rfl

set_option linter.unusedVariables false
theorem takeD {P : Program} {ops : Array Oper} {Q : Exit → Act → World → Prop} {md : Region.Mode} {S : World → Prop} {i : Nat} {oi : Oper} {rest : List Oper} {v : Value} {fuel : Nat} {listed : Array Bool} {a : Act} {w : World} (hd : ops.toList.drop i = oi :: rest)
    (hs : Region.noSelect ops = true) (hf : Region.free md ops listed i = true) (hr : (Region.ready md ops listed).contains i = true)
    (hQ : ∀ c a w, Q (.panic c) (a.put oi.dst v) w → Q (.panic c) a w) (hy : YieldsIf P ops S oi v a) (hS : S w)
    (h : wpAnyH P md ops Q S fuel (listed.setIfInBounds i true) (a.put oi.dst v) w) : wpAnyH P md ops Q S (fuel + 1) listed a w := by
  refine wpAnyH_take (i := i) ?_ hs hf hr hQ hy hS h
  have e : (ops.toList.drop i)[0]? = some oi := by rw [hd]; rfl
  rw [List.getElem?_drop, Nat.add_zero] at e
  simpa using e
set_option maxHeartbeats 1000000 in
set_option maxRecDepth 100000 in
theorem walkOut (A : Option Addr) (n cp : Nat) (k : Int) (w : World) (h : 1000 < n ∨ k < 0 ∨ 15 < k) :
    Calls Try.prog 4 #[.slice A n cp, .int .i64 k] w fun e w' => e = .returned (.bool true) ∧ Below w.heap.size w w' := by
  by_cases h1 : (1000 : Int) < (n : Int)
  · clear h
    go_enter Try.func4, Try.ntmps4
    go_wp2_with (first
      | (go_at_call 14; (with_reducible refine (alive_any w).mono ?_); rintro e w1 ⟨rfl, hb1⟩)
      | fail)
    go_ret
    exact ⟨rfl, hb1⟩
  · by_cases h2 : k < 0
    · clear h
      go_enter Try.func4, Try.ntmps4
      go_wp2_with (first
        | (go_at_call 14; (with_reducible refine (alive_any w).mono ?_); rintro e w1 ⟨rfl, hb1⟩)
        | fail)
      go_ret
      exact ⟨rfl, hb1⟩
    · have h3 : (15 : Int) < k := by omega
      clear h
      go_enter Try.func4, Try.ntmps4
      go_wp2_with (first
        | (go_at_call 14; (with_reducible refine (alive_any w).mono ?_); rintro e w1 ⟨rfl, hb1⟩)
        | fail)
      go_ret
      exact ⟨rfl, hb1⟩

set_option maxHeartbeats 8000000 in
set_option maxRecDepth 100000 in
theorem walkIn (A : Option Addr) (n cp k : Nat) (b P D AL : List UInt8) (pm L at' : Nat) (r u : S5) (w : World) (w0 : RdA w w.heap.size A b) (n0 : b.length = n) (z0 : A = none → cp = 0) (hn : n ≤ 1000) (hk : k ≤ 15)
    (hP : padL n = P) (hpm : P.length = pm) (hD : dig b = D) (hAL : b ++ P = AL) (hL : n + pm = L) (hr : goL first AL = r) (hat : min (64 * k) L = at') (hu : goL first (AL.take at') = u) :
    Calls Try.prog 4 #[.slice A n cp, .int .i64 k] w fun e w' => e = .returned (.bool true) ∧ Below w.heap.size w w' := by
  have hALl : AL.length = L := by rw [← hAL, List.length_append, n0, hpm, hL]
  have hb9 := padL_bd n
  have hw64 := padL_whole n
  rw [hP, hpm] at hb9 hw64
  rw [hL] at hw64
  have hat64 : at' % 64 = 0 := by omega
  have hatL : at' ≤ L := by omega
  have hDr : bytesL r.toL = D := by rw [← hD, dig, n0, hP, hAL, hr]
  have hur : goL u (AL.drop at') = r := by rw [← hu, goL_parts first AL at' hat64 (by omega)]; exact hr
  have htl : (AL.take at').length = at' := by rw [List.length_take]; omega
  have hdl : (AL.drop at').length = L - at' := by rw [List.length_drop]; omega
  have hDl : D.length = 20 := by rw [← hD]; exact dig_length b
  obtain ⟨i0, hi, hz0, hz1, hz2⟩ := info_parts info5
  have HI := Lib.hid hi
  have HZ0 := Lib.hid hz0
  have HZ1 := Lib.hid hz1
  have HZ2 := Lib.hid hz2
  have HS1 : Hid ((Try.prog.info? 23).map (·.size) = some ((D.map encB).toArray).size) := by show _ = _; rw [List.size_toArray, List.length_map, hDl]; kernel_rfl
  have HS2 : Hid (z20.size = ((D.map encB).toArray).size) := by show (20 : Nat) = _; rw [List.size_toArray, List.length_map, hDl]
  have HDL := Lib.hid hDl
  have HN0 := Lib.hid n0
  have HR0 := Lib.hid w0
  have HC0 := Lib.hid z0
  have HP := Lib.hid hP
  have HPM := Lib.hid hpm
  have HD := Lib.hid hD
  have HAL := Lib.hid hAL
  have HLL := Lib.hid hL
  have HALL := Lib.hid hALl
  have HRR := Lib.hid hr
  have HU := Lib.hid hu
  have HUR := Lib.hid hur
  have HTL := Lib.hid htl
  have HDL2 := Lib.hid hdl
  have HDR := Lib.hid hDr
  have t0 : decide ((1000 : Int) < (n : Int)) = false := by simp; omega
  have t1 : decide ((k : Int) < 0) = false := by simp
  have t1' : decide ((15 : Int) < (k : Int)) = false := by simp; omega
  have t2 : (L : Int) % 64 = 0 := by omega
  have t3 : (L : Int).tmod 64 = 0 := by rw [Int.tmod_eq_emod_of_nonneg (by omega)]; exact t2
  have t4 : IntKind.i64.wrap (64 * (k : Int)) = 64 * (k : Int) := by rw [IntWalk.i64_in _ (by omega)]
  have t5 : min (64 * (k : Int)) (L : Int) = (at' : Int) := by omega
  have bL : L ≤ 1072 := by omega
  have bLp : 0 < L := by omega
  have bpm : pm ≤ 72 := hb9.2
  clear hi hz0 hz1 hz2 w0 n0 z0 hP hpm hD hAL hL hr hat hu hur htl hdl hDr hALl hDl hb9 hw64 hat64
  go_enter Try.func4, Try.ntmps4
  go_wp2_with (first
    | (go_at_call 14; (with_reducible refine (alive_any w).mono ?_); rintro e w1 ⟨rfl, hb1⟩)
    | (go_at_call 12; (with_reducible refine (pad_ok n w1 (by omega) P pm HP.out HPM.out).mono ?_); rintro e w2 ⟨hb2, g2, c2, rfl, hc2, hm2, hr2⟩; have HR2 := Lib.hid hr2; have hb2' := stp hb1 hb2; clear hr2)
    | (go_at_call 10; (with_reducible refine (of_ok64 A n cp b w2 ((HR0.out.below hb2').mono hb2'.size) HN0.out HC0.out (by omega) D HD.out).mono ?_); rintro e w3 ⟨rfl, hb3⟩)
    | (refine wpList_store_row rfl _ _ _ rfl w3.heap.size ((D.map encB).toArray) rfl rfl 23 z20 (heap_alloc_new _ _) HS1.out HS2.out (map_one encB_one _) ?_; rw [World.setRow_alloc_new]; obtain ⟨W4, hW4, hs4, hx4, hb4⟩ := opn1 w3 (.cells (D.map encB).toArray 23); rw [hW4]; have HX4 := Lib.hid hx4; have hb24 := stp hb3 hb4; have hb04 := stp hb2' hb24; have HE : Hid ((W4.alloc (.cells #[] 5)).ownsRow W4.heap.size 5 1 (.slice (some ⟨W4.heap.size, 0, none⟩) 0 0) 0 []) := Lib.hid (World.ownsRow_made W4 #[] 0 (Nat.le_refl _) (by decide) rfl); have hb5 := stpA (Below.refl W4.heap.size W4) (.cells #[] 5); clear hW4 hx4 hs4)
    | (at_builtin; refine wpList_append_rd rfl (.tmp 41) (.tmp 42) 22 rfl W4.heap.size 5 i0 (.int .u8 0) Try.underlying22 HI.out HZ0.out HZ1.out HZ2.out rfl _ 0 _ rfl HE.out w.heap.size A n cp b rfl (HR0.out.below (stp hb04 hb5)) HN0.out HC0.out (by omega) hb5.size ?_; intro v6 w6 hown6 hgr6; have HO6 := Lib.hid hown6; have hb6 := hb5.grown hgr6 hb5.size (fun g hg => (HE.out.lt g hg).1); clear hown6 hgr6)
    | (at_builtin; refine wpList_append_rd rfl (.tmp 43) (.tmp 44) 22 rfl W4.heap.size 5 i0 (.int .u8 0) Try.underlying22 HI.out HZ0.out HZ1.out HZ2.out rfl _ (0 + n) _ rfl HO6.out w2.heap.size (some ⟨g2, 0, none⟩) pm c2 P rfl (HR2.out.below (stp hb24 hb6)) HPM.out (fun h => by cases h) (by omega) hb6.size ?_; intro v7 w7 hown7 hgr7; have hb7 := hb6.grown hgr7 hb6.size (fun g hg => (HO6.out.lt g hg).1); obtain ⟨A7, c7, hv7, hz7, hLc, hr7⟩ := own_some (l := AL) (L := L) hown7 (by rw [← HAL.out]; simp [Lib.byteCells]) (by have := HLL.out; omega) bLp; subst hv7; have HR7 := Lib.hid hr7; have HZ7 := Lib.hid hz7; clear hown7 hgr7 hr7 hz7)
    | (go_at_call 16; (with_reducible refine (first_any w7).mono ?_); rintro e w8 ⟨rfl, hb8⟩)
    | (go_at_call 15; (with_reducible refine (from_rd first A7 L c7 AL w8 ((HR7.out.below hb8).mono hb8.size) HALL.out (by omega) r HRR.out).mono ?_); rintro e w9 ⟨rfl, hb9⟩)
    | (refine wpList_store_row rfl _ _ _ rfl w9.heap.size (five r) rfl rfl 36 zero5 (heap_alloc_new _ _) size37 rfl (five_one _) ?_; rw [World.setRow_alloc_new]; obtain ⟨W10, hW10, hs10, hx10, hb10⟩ := opn1 w9 (.cells (five r) 36); rw [hW10]; have HX10 := Lib.hid hx10; have hb7X := stp (stp hb8 hb9) hb10; clear hW10 hx10 hs10)
    | fail)
  obtain ⟨A8, hr8, hz8, hsl8⟩ := slice_to (enc := encB) (P := Try.prog) 22 5 Try.underlying22 i0 HI.out HZ1.out (rdA_rdB.2 HR7.out) HALL.out HZ7.out at' hatL hLc
  obtain ⟨A9, hr9, hz9, hsl9⟩ := slice_from (enc := encB) (P := Try.prog) 22 5 Try.underlying22 i0 HI.out HZ1.out (rdA_rdB.2 HR7.out) HALL.out HZ7.out at' hatL hLc
  have HR8 : Hid (RdA w7 w7.heap.size A8 (AL.take at')) := Lib.hid (rdA_rdB.1 hr8)
  have HR9 : Hid (RdA w7 w7.heap.size A9 (AL.drop at')) := Lib.hid (rdA_rdB.1 hr9)
  have hxd : W10.drew.heap[w9.heap.size]? = some (.cells (five r) 36 (0, 0)) := HX10.out
  have HXD := Lib.hid hxd
  have hbx : Blk encB W4 w3.heap.size 23 D := HX4.out
  have HBX := Lib.hid (rdA_rdB.1 hbx.slice)
  have hb4X := stp hb7 hb7X
  have cvXd := conv_str (P := Try.prog) (n := 20) (c := 20) (HBX.out.below hb4X.drew) HDL.out Try.underlying22 Try.underlying5 Try.underlying9
  have hq1 : ∀ w, (binOp .eql 36 (.agg (five r)) (.agg (five r))).run Try.prog w = .ok (.bool true) w := fun w => eql5 r w
  have hq2 : ∀ w, (binOp .eql 36 (.agg (five r)) (.agg #[.int .u32 r.a.toNat, .int .u32 r.b.toNat, .int .u32 r.c.toNat, .int .u32 r.d.toNat, .int .u32 r.e.toNat])).run Try.prog w = .ok (.bool true) w := fun w => eql5 r w
  have hq3 : ∀ w, (binOp .eql 36 (.agg #[.int .u32 r.a.toNat, .int .u32 r.b.toNat, .int .u32 r.c.toNat, .int .u32 r.d.toNat, .int .u32 r.e.toNat]) (.agg #[.int .u32 r.a.toNat, .int .u32 r.b.toNat, .int .u32 r.c.toNat, .int .u32 r.d.toNat, .int .u32 r.e.toNat])).run Try.prog w = .ok (.bool true) w := fun w => eql5 r w
  clear hxd hbx hr8 hr9 hz8 hz9 cvXd
  have hu5 := Try.underlying36
  have hi5 : (Try.prog.info? 36).map (·.size) = some ([.int .u32 r.a.toNat, .int .u32 r.b.toNat, .int .u32 r.c.toNat, .int .u32 r.d.toNat, .int .u32 r.e.toNat] : List Value).length := size37
  have hR5 : Hid (∀ w' : World, Below W10.heap.size W10 w' → w'.rangeAt w9.heap.size 0 ([.int .u32 r.a.toNat, .int .u32 r.b.toNat, .int .u32 r.c.toNat, .int .u32 r.d.toNat, .int .u32 r.e.toNat] : List Value)) := by
    intro w' hb j v hv
    rw [Nat.zero_add, cell_of_row w' _ j _ _ _ (heap_kept HX10.out hb)]
    simpa [five] using hv
  have hSD : Hid (Below W10.heap.size W10 W10.drew) := Lib.hid (Below.refl _ _).drew
  refine wp_region_noPanic ?_
  refine wp_region_held_drew (S := fun w' => Below W10.heap.size W10 w') (by kernel_rfl) hSD.out (fun hHeld => ?_)
  refine takeD (i := 0) (v := .bool true) rfl (by kernel_rfl) (by kernel_rfl) (by kernel_rfl) (fun _ _ _ h => h) (Or.inl ⟨by rfl, ?_⟩) hHeld ?_
  · intro w' hSw; go_simp
  try simp only [Act.put, List.setIfInBounds_toArray, List.set_cons_zero, List.set_cons_succ]
  refine takeD (i := 1) (v := .bool true) rfl (by kernel_rfl) (by kernel_rfl) (by kernel_rfl) (fun _ _ _ h => h) (Or.inl ⟨by rfl, ?_⟩) hHeld ?_
  · intro w' hSw; go_simp
  try simp only [Act.put, List.setIfInBounds_toArray, List.set_cons_zero, List.set_cons_succ]
  refine takeD (i := 2) (v := .slice (some ⟨w9.heap.size, 0, none⟩) 5 5) rfl (by kernel_rfl) (by kernel_rfl) (by kernel_rfl) (fun _ _ _ h => h) (Or.inl ⟨by rfl, ?_⟩) hHeld ?_
  · intro w' hSw; go_simp
  try simp only [Act.put, List.setIfInBounds_toArray, List.set_cons_zero, List.set_cons_succ]
  refine takeD (i := 5) (v := .slice (some ⟨w3.heap.size, 0, none⟩) 20 20) rfl (by kernel_rfl) (by kernel_rfl) (by kernel_rfl) (fun _ _ _ h => h) (Or.inl ⟨by rfl, ?_⟩) hHeld ?_
  · intro w' hSw; go_simp
  try simp only [Act.put, List.setIfInBounds_toArray, List.set_cons_zero, List.set_cons_succ]
  refine takeD (i := 6) (v := .string ⟨D.toArray⟩) rfl (by kernel_rfl) (by kernel_rfl) (by kernel_rfl) (fun _ _ _ h => h) (Or.inl ⟨by rfl, ?_⟩) hHeld ?_
  · intro w' hSw; have cvX := conv_str (P := Try.prog) (n := 20) (c := 20) (HBX.out.below (stp hb4X hSw)) HDL.out Try.underlying22 Try.underlying5 Try.underlying9; go_simp
  try simp only [Act.put, List.setIfInBounds_toArray, List.set_cons_zero, List.set_cons_succ]
  refine wpAnyH_ready (rs := [3]) (by kernel_rfl) (by simp) ?_
  refine AllReadyH.cons rfl (fun K hK => ?_) AllReadyH.nil
  go_simp
  go_at_call 17; (with_reducible refine (bytes_rd w9.heap.size r D W10.drew HXD.out HDR.out).mono ?_); rintro e w11 ⟨hb11, A11, c11, rfl, hr11⟩; have hb11' := below_of_drew hb11; have cvB := conv_str (P := Try.prog) (n := 20) (c := c11) hr11 HDL.out Try.underlying22 Try.underlying5 Try.underlying9
  go_wp2_with fail
  refine hK.out _ _ hb11' (fun hHeld => ?_)
  clear hK K
  try simp only [Act.put, List.setIfInBounds_toArray, List.set_cons_zero, List.set_cons_succ]
  refine wpAnyH_ready (rs := [4]) (by kernel_rfl) (by simp) ?_
  refine AllReadyH.cons rfl (fun K hK => ?_) AllReadyH.nil
  go_simp
  refine hK.out _ _ hb11' (fun hHeld => ?_)
  clear hK K
  try simp only [Act.put, List.setIfInBounds_toArray, List.set_cons_zero, List.set_cons_succ]
  refine takeD (i := 7) (v := .bool true) rfl (by kernel_rfl) (by kernel_rfl) (by kernel_rfl) (fun _ _ _ h => h) (Or.inl ⟨by rfl, ?_⟩) hHeld ?_
  · intro w' hSw; go_simp
  try simp only [Act.put, List.setIfInBounds_toArray, List.set_cons_zero, List.set_cons_succ]
  refine takeD (i := 8) (v := .bool true) rfl (by kernel_rfl) (by kernel_rfl) (by kernel_rfl) (fun _ _ _ h => h) (Or.inl ⟨by rfl, ?_⟩) hHeld ?_
  · intro w' hSw; go_simp
  try simp only [Act.put, List.setIfInBounds_toArray, List.set_cons_zero, List.set_cons_succ]
  refine takeD (i := 9) (v := .bool true) rfl (by kernel_rfl) (by kernel_rfl) (by kernel_rfl) (fun _ _ _ h => h) (Or.inl ⟨by rfl, ?_⟩) hHeld ?_
  · intro w' hSw; go_simp
  try simp only [Act.put, List.setIfInBounds_toArray, List.set_cons_zero, List.set_cons_succ]
  refine takeD (i := 11) (v := .slice A7 L c7) rfl (by kernel_rfl) (by kernel_rfl) (by kernel_rfl) (fun _ _ _ h => h) (Or.inl ⟨by rfl, ?_⟩) hHeld ?_
  · intro w' hSw; go_simp
  try simp only [Act.put, List.setIfInBounds_toArray, List.set_cons_zero, List.set_cons_succ]
  refine takeD (i := 12) (v := .int .i64 at') rfl (by kernel_rfl) (by kernel_rfl) (by kernel_rfl) (fun _ _ _ h => h) (Or.inl ⟨by rfl, ?_⟩) hHeld ?_
  · intro w' hSw; go_simp
  try simp only [Act.put, List.setIfInBounds_toArray, List.set_cons_zero, List.set_cons_succ]
  refine takeD (i := 13) (v := .slice A8 at' c7) rfl (by kernel_rfl) (by kernel_rfl) (by kernel_rfl) (fun _ _ _ h => h) (Or.inl ⟨by rfl, ?_⟩) hHeld ?_
  · intro w' hSw; go_simp
  try simp only [Act.put, List.setIfInBounds_toArray, List.set_cons_zero, List.set_cons_succ]
  refine takeD (i := 15) (v := .slice A7 L c7) rfl (by kernel_rfl) (by kernel_rfl) (by kernel_rfl) (fun _ _ _ h => h) (Or.inl ⟨by rfl, ?_⟩) hHeld ?_
  · intro w' hSw; go_simp
  try simp only [Act.put, List.setIfInBounds_toArray, List.set_cons_zero, List.set_cons_succ]
  refine takeD (i := 16) (v := .int .i64 at') rfl (by kernel_rfl) (by kernel_rfl) (by kernel_rfl) (fun _ _ _ h => h) (Or.inl ⟨by rfl, ?_⟩) hHeld ?_
  · intro w' hSw; go_simp
  try simp only [Act.put, List.setIfInBounds_toArray, List.set_cons_zero, List.set_cons_succ]
  refine takeD (i := 17) (v := .slice A9 (L - at') (c7 - at')) rfl (by kernel_rfl) (by kernel_rfl) (by kernel_rfl) (fun _ _ _ h => h) (Or.inl ⟨by rfl, ?_⟩) hHeld ?_
  · intro w' hSw; go_simp
  try simp only [Act.put, List.setIfInBounds_toArray, List.set_cons_zero, List.set_cons_succ]
  refine takeD (i := 19) rfl (by kernel_rfl) (by kernel_rfl) (by kernel_rfl) (fun _ _ _ h => h) (yieldsIf_load_mid (by rfl) _ _ rfl w9.heap.size 0 rfl [.int .u32 r.a.toNat, .int .u32 r.b.toNat, .int .u32 r.c.toNat, .int .u32 r.d.toNat, .int .u32 r.e.toNat] _ hR5.out hu5 rfl hi5) hHeld ?_
  try simp only [Act.put, List.setIfInBounds_toArray, List.set_cons_zero, List.set_cons_succ]
  refine wpAnyH_ready (rs := [10]) (by kernel_rfl) (by simp) ?_
  refine AllReadyH.cons rfl (fun K hK => ?_) AllReadyH.nil
  go_simp
  go_at_call 16; (with_reducible refine (first_any w11).mono ?_); rintro e w12 ⟨rfl, hb12⟩; have hb12' := stp hb11' hb12
  go_wp2_with fail
  refine hK.out _ _ hb12' (fun hHeld => ?_)
  clear hK K
  try simp only [Act.put, List.setIfInBounds_toArray, List.set_cons_zero, List.set_cons_succ]
  refine wpAnyH_ready (rs := [14]) (by kernel_rfl) (by simp) ?_
  refine AllReadyH.cons rfl (fun K hK => ?_) AllReadyH.nil
  go_simp
  go_at_call 15; (with_reducible refine (from_rd first A8 at' c7 (AL.take at') w12 ((HR8.out.below (stp hb7X hb12')).mono (stp hb7X hb12').size) HTL.out (by omega) u HU.out).mono ?_); rintro e w13 ⟨rfl, hb13⟩; have hb13' := stp hb12' hb13
  go_wp2_with fail
  refine hK.out _ _ hb13' (fun hHeld => ?_)
  clear hK K
  try simp only [Act.put, List.setIfInBounds_toArray, List.set_cons_zero, List.set_cons_succ]
  refine wpAnyH_ready (rs := [18]) (by kernel_rfl) (by simp) ?_
  refine AllReadyH.cons rfl (fun K hK => ?_) AllReadyH.nil
  go_simp
  go_at_call 15; (with_reducible refine (from_rd u A9 (L - at') (c7 - at') (AL.drop at') w13 ((HR9.out.below (stp hb7X hb13')).mono (stp hb7X hb13').size) HDL2.out (by omega) r HUR.out).mono ?_); rintro e w14 ⟨rfl, hb14⟩; have hb14' := stp hb13' hb14
  go_wp2_with fail
  refine hK.out _ _ hb14' (fun hHeld => ?_)
  clear hK K
  try simp only [Act.put, List.setIfInBounds_toArray, List.set_cons_zero, List.set_cons_succ]
  refine takeD (i := 20) (v := .bool true) rfl (by kernel_rfl) (by kernel_rfl) (by kernel_rfl) (fun _ _ _ h => h) (Or.inl ⟨by rfl, ?_⟩) hHeld ?_
  · intro w' hSw; go_simp
  try simp only [Act.put, List.setIfInBounds_toArray, List.set_cons_zero, List.set_cons_succ]
  refine takeD (i := 21) (v := .bool true) rfl (by kernel_rfl) (by kernel_rfl) (by kernel_rfl) (fun _ _ _ h => h) (Or.inl ⟨by rfl, ?_⟩) hHeld ?_
  · intro w' hSw; go_simp
  try simp only [Act.put, List.setIfInBounds_toArray, List.set_cons_zero, List.set_cons_succ]
  refine wpAnyH_ready (rs := [22]) (by kernel_rfl) (by simp) ?_
  refine AllReadyH.cons rfl (fun K hK => ?_) AllReadyH.nil
  go_simp
  refine hK.out _ _ hb14' (fun hHeld => ?_)
  clear hK K
  try simp only [Act.put, List.setIfInBounds_toArray, List.set_cons_zero, List.set_cons_succ]
  refine wpAnyH_done (by kernel_rfl) ?_ _
  refine NoPanic.normal ?_
  go_wp2_with fail
  go_ret
  exact ⟨rfl, stp (stp hb04 hb4X) hb14'⟩
theorem walk (a0 : Option Addr) (len0 cap0 : Nat) (l0 : List UInt8) (a1 : Int) (w : World) (w0 : RdA w w.heap.size a0 l0) (n0 : l0.length = len0) (m0 : len0 ≤ maxLen) (z0 : a0 = none → cap0 = 0) (w1 : (Lit.int .i64 a1).wf = true) :
    Calls Try.prog 4 #[.slice a0 len0 cap0, .int .i64 a1] w fun e w' => e = .returned (.bool true) ∧ Below w.heap.size w w' := by
  by_cases h : 1000 < len0 ∨ a1 < 0 ∨ 15 < a1
  · exact walkOut a0 len0 cap0 a1 w h
  · obtain ⟨k, rfl⟩ : ∃ k : Nat, a1 = k := ⟨a1.toNat, by omega⟩
    exact walkIn a0 len0 cap0 k l0 _ _ _ _ _ _ _ _ w w0 n0 z0 (by omega) (by omega) rfl rfl rfl rfl rfl rfl rfl rfl

set_option maxRecDepth 100000 in
theorem lifted (os : Os) (started : os.Started) (H : Type) (enc : TypeId × Value → H) :
    ReturnsInHanded {} Try.checked os 4 .any (Rows.shaGoesSpec.pre6 enc Try.prog Try.f4 Rows.shaGoesRow.domain false) (Rows.shaGoesSpec.post enc Try.prog Try.f4 false true false false) := by
  refine returnsInHanded_of_change (C := Try.checked) own started (by kernel_rfl) Try.func4
    (ChangeSpec.witness6 (enc := enc) (C := Try.checked) false ⟨#[], #[.slice none 0 0, .int .i64 0], []⟩ 8 (by kernel_rfl) (by kernel_rfl) (by kernel_rfl) (by kernel_rfl)) ?_
  intro W base args ds gs before hval0 hW hcnd _
  have hval : ∀ (j : Nat) t v, Try.f4.params[j]? = some t → args[j]? = some v → Value.okWide Try.prog W .any base t v := hval0
  have hW' := hW
  obtain ⟨p, q, hA0, hV, rfl, hfz, hnd⟩ := hW
  have hA : DataW.TrodAll enc Try.prog W 0 (fun _ => true) true Try.f4.params.toList args.toList ds p := hA0
  rw [Try.params4] at hA hval
  obtain ⟨v0, vs0, d0, ds0, p0, q0, hargs, rfl, rfl, h0, r0⟩ := trodAll_cons hA
  obtain ⟨v1, vs1, d1, ds1, p1, q1, rfl, rfl, rfl, h1, r1⟩ := trodAll_cons r0
  obtain ⟨rfl, rfl, rfl⟩ := trodAll_nil r1
  obtain rfl : args = #[v0, v1] := by cases args; simp_all
  obtain ⟨rfl, rfl⟩ := trodVars_none hV
  obtain ⟨a0, len0, cap0, rfl⟩ := okWide_slice Try.underlying22 (hval 0 22 v0 rfl rfl)
  have k0 := h0
  have lt0 : ∀ x ∈ p0, x.block < W.heap.size := by obtain ⟨m, hm⟩ := k0; exact DataW.trod_lt m _ _ _ hm
  obtain ⟨l0, w0, n0, c0, m0, z0⟩ : ∃ l : List UInt8, RdA W W.heap.size a0 l ∧ l.length = len0 ∧ len0 ≤ cap0 ∧ cap0 ≤ maxLen ∧ (a0 = none → cap0 = 0) := by
    obtain ⟨fuel, hf⟩ := h0
    rcases open_ints Try.underlying22 Try.underlying5 (by kernel_rfl) hf with ⟨hcs, _⟩ | ⟨x, l, c, zs, hcs, _, hl, hm, hz, _, hcell, hwz⟩
    · simp [Value.cells] at hcs
      obtain ⟨rfl, rfl, rfl⟩ := hcs
      exact ⟨[], RdA.nil _ _ _, rfl, Nat.le_refl _, Nat.zero_le _, fun _ => rfl⟩
    · simp [Value.cells] at hcs
      obtain ⟨rfl, rfl, rfl⟩ := hcs
      have hz' : zs.length = cap0 := by simpa using hz
      obtain ⟨l, hr, hn⟩ := rdA_of_row hl hz' hcell hwz
      exact ⟨l, hr, hn, hl, hm, fun h => by cases h⟩
  obtain ⟨a1, rfl, rfl, rfl, w1⟩ := open_int Try.underlying3 (hval 1 3 v1 rfl rfl) h1
  clear hA0 hval0
  refine (walk a0 len0 cap0 l0 a1 W w0 n0 (Nat.le_trans c0 m0) z0 w1).mono fun e W' ⟨he, bel⟩ => ?_
  subst he
  exact ⟨_, rfl, _, _, _, [], _, [], hW', trodAll_mk1 (shut_bool Try.underlying4 _), (trodAll_cons_mk (Below.trod laidOut (by kernel_rfl) (of_decide_eq_true (by kernel_rfl)) k0 bel lt0) (trodAll_cons_mk (shut_int Try.underlying3 w1) trodAll_mk0)), rfl, bel.frame _, fun h => by cases h⟩

theorem over : Rows.shaGoesRow.holds Try.pinned (OpenSpec.ofChange Rows.shaGoesSpec) :=
  OpenClaim.holds_of_wide 4 Try.f4 rfl rfl rfl rfl rfl rfl rfl ⟨rfl, rfl, rfl, rfl, rfl⟩ rfl rfl rfl rfl rfl (by kernel_rfl) Try.func4 (by kernel_rfl)
    (of_decide_eq_true (by kernel_rfl)) (by unfold Func.isWrapper; first | (rw [if_pos (by decide +kernel)]; kernel_rfl) | (rw [if_neg (by decide +kernel)]; exact ⟨rfl, rfl⟩))
    (fun os started H enc _ => lifted os started H enc)

theorem proved : Rows.ShaGoesSaid := over
end Go.Proofs.Ytmjcmlaeajglmaa.shaGoes
