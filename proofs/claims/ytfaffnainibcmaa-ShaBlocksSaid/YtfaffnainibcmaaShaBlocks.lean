/-
  sha.Block answers the document's state behind a block, for every state and block; sha.First answers the document's state at first. No condition.
-/
import Derived.Test.YtfaffnainibcmaaShaU
import Derived.Test.YtfaffnainibcmaaMemB
import Derived.Deep.RegionHeld3
import Derived.Deep.DrawnRows
import Derived.Deep.MidRow
import Derived.Deep.CutBlock
import Derived.Deep.DeepCutAuto
import Derived.WalkKit
import Derived.ProofKit
import Derived.OpenShut
import Derived.ShutString
import Derived.ChangeOld
import Derived.Below
namespace Go.Proofs.Ytfaffnainibcmaa.shaBlocks
open Go.ChangeShapes Go.WideShapes Go.ChangeAt Go.RowKit
open Go.ChangeMaps (open_string shut_string)
open Hx Wd Sh
set_option linter.unusedVariables false

theorem own : ownKnob Try.prog.godebug = none := by kernel_rfl
theorem laidOut : laidOutB Try.prog = true := by kernel_rfl

set_option linter.unusedSimpArgs false
attribute [local go_sem ↓] Go.wp_at_zero Go.wp_at_succ
theorem block_cs (h : S5) (b : List UInt8) (cs : List Value) (w : World) (hb : b.length = 64) (hcs : b.map encB = cs) (r : S5) (hr : blk h b = r) :
    Calls Try.prog 14 #[.agg (five h), .agg cs.toArray] w fun e w' => e = .returned (.agg (five r)) ∧ Below w.heap.size w w' := by
  subst hcs
  exact block_any h b w hb r hr
theorem rblock_cs (h : S5) (b : List UInt8) (cs : List Value) (w : World) (hb : b.length = 64) (hcs : b.map encB = cs) (r : S5) (hr : blk h b = r) :
    Calls Try.prog 15 #[.agg (five h), .agg cs.toArray] w fun e w' => e = .returned (.agg (five r)) ∧ Below w.heap.size w w' := by
  subst hcs
  exact rblock_any h b w hb r hr
theorem eql5 (r : S5) (w : World) : (binOp .eql 37 (.agg (five r)) (.agg (five r))).run Try.prog w = .ok (.bool true) w :=
  run_eql_agg (enc := encW) Try.underlying37 Try.underlying36 infoW1.1 infoW1.2 (fun x => ⟨_, rfl⟩) r.toL rfl w

set_option maxHeartbeats 8000000 in
set_option maxRecDepth 100000 in
theorem walk5 (s : S5) (b : List UInt8) (w : World) (n1 : b.length = 64) :
    Calls Try.prog 5 #[.agg (five s), .agg (b.map encB).toArray] w fun e w' => e = .returned (.bool true) ∧ Below w.heap.size w w' := by
  have HBL := Lib.hid n1
  clear n1
  obtain ⟨cs, hcs⟩ : ∃ cs, b.map encB = cs := ⟨_, rfl⟩
  rw [hcs]
  have HCS := Lib.hid hcs
  have hcl : cs.length = 64 := by rw [← hcs]; simp [HBL.out]
  obtain ⟨r, hr⟩ : ∃ r, blk s b = r := ⟨_, rfl⟩
  have HR := Lib.hid hr
  have HE : Hid (∀ w, (binOp .eql 37 (.agg (five r)) (.agg (five r))).run Try.prog w = .ok (.bool true) w) := fun w => eql5 r w
  clear hcs hr
  obtain ⟨a, bb, c, d, e⟩ := s
  go_enter Try.func5, Try.ntmps5
  go_upto_region 1 with fail
  obtain ⟨W1, hW1, hs1, h0, h1, hb1⟩ := opn2 w (Obj.cells (five ⟨a, bb, c, d, e⟩) 37) (Obj.cells cs.toArray 38)
  rw [hW1]
  have rb : W1.rangeAt (w.heap.size + 1) 0 cs := fun j v hv => by rw [Nat.zero_add, cell_of_row W1 _ j _ _ _ h1]; simpa using hv
  have a0 : W1.cell? ⟨w.heap.size, 0, none⟩ = some (.int .u32 a.toNat) := cell_of_row W1 _ 0 _ _ _ h0
  have a1 : W1.cell? ⟨w.heap.size, 1, none⟩ = some (.int .u32 bb.toNat) := cell_of_row W1 _ 1 _ _ _ h0
  have a2 : W1.cell? ⟨w.heap.size, 2, none⟩ = some (.int .u32 c.toNat) := cell_of_row W1 _ 2 _ _ _ h0
  have a3 : W1.cell? ⟨w.heap.size, 3, none⟩ = some (.int .u32 d.toNat) := cell_of_row W1 _ 3 _ _ _ h0
  have a4 : W1.cell? ⟨w.heap.size, 4, none⟩ = some (.int .u32 e.toNat) := cell_of_row W1 _ 4 _ _ _ h0
  have hu := Try.underlying38
  have hi : (Try.prog.info? 38).map (·.size) = some cs.length := by rw [hcl]; kernel_rfl
  have bs : w.heap.size + 1 < W1.heap.size := by rw [hs1]; omega
  have K6 : ∀ W V : World, Below W.heap.size W V → (W.cell? ⟨w.heap.size, 0, none⟩ = some (.int .u32 a.toNat) ∧ W.cell? ⟨w.heap.size, 1, none⟩ = some (.int .u32 bb.toNat) ∧ W.cell? ⟨w.heap.size, 2, none⟩ = some (.int .u32 c.toNat) ∧ W.cell? ⟨w.heap.size, 3, none⟩ = some (.int .u32 d.toNat) ∧ W.cell? ⟨w.heap.size, 4, none⟩ = some (.int .u32 e.toNat) ∧ W.rangeAt (w.heap.size + 1) 0 cs ∧ w.heap.size + 1 < W.heap.size) → (V.cell? ⟨w.heap.size, 0, none⟩ = some (.int .u32 a.toNat) ∧ V.cell? ⟨w.heap.size, 1, none⟩ = some (.int .u32 bb.toNat) ∧ V.cell? ⟨w.heap.size, 2, none⟩ = some (.int .u32 c.toNat) ∧ V.cell? ⟨w.heap.size, 3, none⟩ = some (.int .u32 d.toNat) ∧ V.cell? ⟨w.heap.size, 4, none⟩ = some (.int .u32 e.toNat) ∧ V.rangeAt (w.heap.size + 1) 0 cs ∧ w.heap.size + 1 < V.heap.size) := fun W V hb ⟨k0, k1, k2, k3, k4, kr, ks⟩ => ⟨cell_kept2 k0 hb, cell_kept2 k1 hb, cell_kept2 k2 hb, cell_kept2 k3 hb, cell_kept2 k4 hb, fun j v hv => cell_kept2 (kr j v hv) hb, Nat.lt_of_lt_of_le ks hb.size⟩
  have HK6 := Lib.hid K6
  have HSD : Hid (W1.drew.cell? ⟨w.heap.size, 0, none⟩ = some (.int .u32 a.toNat) ∧ W1.drew.cell? ⟨w.heap.size, 1, none⟩ = some (.int .u32 bb.toNat) ∧ W1.drew.cell? ⟨w.heap.size, 2, none⟩ = some (.int .u32 c.toNat) ∧ W1.drew.cell? ⟨w.heap.size, 3, none⟩ = some (.int .u32 d.toNat) ∧ W1.drew.cell? ⟨w.heap.size, 4, none⟩ = some (.int .u32 e.toNat) ∧ W1.drew.rangeAt (w.heap.size + 1) 0 cs ∧ w.heap.size + 1 < W1.drew.heap.size) := ⟨a0, a1, a2, a3, a4, rb, bs⟩
  have hd1 := hb1.drew
  clear K6 hW1 hs1 h0 h1 a0 a1 a2 a3 a4 rb bs hb1
  have he := HE.out
  have he1 := fun w => eql5 first w
  have hR5 : Hid (∀ w' : World, (w'.cell? ⟨w.heap.size, 0, none⟩ = some (.int .u32 a.toNat) ∧ w'.cell? ⟨w.heap.size, 1, none⟩ = some (.int .u32 bb.toNat) ∧ w'.cell? ⟨w.heap.size, 2, none⟩ = some (.int .u32 c.toNat) ∧ w'.cell? ⟨w.heap.size, 3, none⟩ = some (.int .u32 d.toNat) ∧ w'.cell? ⟨w.heap.size, 4, none⟩ = some (.int .u32 e.toNat) ∧ w'.rangeAt (w.heap.size + 1) 0 cs ∧ w.heap.size + 1 < w'.heap.size) → w'.rangeAt w.heap.size 0 ([.int .u32 a.toNat, .int .u32 bb.toNat, .int .u32 c.toNat, .int .u32 d.toNat, .int .u32 e.toNat] : List Value)) := by
    rintro w' ⟨h0, h1, h2, h3, h4, _⟩ j v hv
    have hj := (List.getElem?_eq_some_iff.1 hv).1
    simp only [List.length_cons, List.length_nil] at hj
    rw [Nat.zero_add]
    rcases (show j = 0 ∨ j = 1 ∨ j = 2 ∨ j = 3 ∨ j = 4 by omega) with rfl | rfl | rfl | rfl | rfl
    · exact h0.trans hv
    · exact h1.trans hv
    · exact h2.trans hv
    · exact h3.trans hv
    · exact h4.trans hv
  have hR64 : Hid (∀ w' : World, (w'.cell? ⟨w.heap.size, 0, none⟩ = some (.int .u32 a.toNat) ∧ w'.cell? ⟨w.heap.size, 1, none⟩ = some (.int .u32 bb.toNat) ∧ w'.cell? ⟨w.heap.size, 2, none⟩ = some (.int .u32 c.toNat) ∧ w'.cell? ⟨w.heap.size, 3, none⟩ = some (.int .u32 d.toNat) ∧ w'.cell? ⟨w.heap.size, 4, none⟩ = some (.int .u32 e.toNat) ∧ w'.rangeAt (w.heap.size + 1) 0 cs ∧ w.heap.size + 1 < w'.heap.size) → w'.rangeAt (w.heap.size + 1) 0 cs) := fun w' h => h.2.2.2.2.2.1
  have hu5 := Try.underlying37
  have hi5 : (Try.prog.info? 37).map (·.size) = some ([.int .u32 a.toNat, .int .u32 bb.toNat, .int .u32 c.toNat, .int .u32 d.toNat, .int .u32 e.toNat] : List Value).length := size37
  refine wp_region_noPanic ?_
  refine wp_region_held_drew (S := fun w' => w'.cell? ⟨w.heap.size, 0, none⟩ = some (.int .u32 a.toNat) ∧ w'.cell? ⟨w.heap.size, 1, none⟩ = some (.int .u32 bb.toNat) ∧ w'.cell? ⟨w.heap.size, 2, none⟩ = some (.int .u32 c.toNat) ∧ w'.cell? ⟨w.heap.size, 3, none⟩ = some (.int .u32 d.toNat) ∧ w'.cell? ⟨w.heap.size, 4, none⟩ = some (.int .u32 e.toNat) ∧ w'.rangeAt (w.heap.size + 1) 0 cs ∧ w.heap.size + 1 < w'.heap.size) (by kernel_rfl) HSD.out (fun hHeld => ?_)
  refine wpAnyH_take (i := 0) rfl (by kernel_rfl) (by kernel_rfl) (by kernel_rfl) (fun _ _ _ h => h) (yieldsIf_load_mid (by rfl) _ _ rfl w.heap.size 0 rfl [.int .u32 a.toNat, .int .u32 bb.toNat, .int .u32 c.toNat, .int .u32 d.toNat, .int .u32 e.toNat] _ hR5.out hu5 rfl hi5) (by assumption) ?_
  try simp only [Act.put, List.setIfInBounds_toArray, List.set_cons_zero, List.set_cons_succ]
  refine wpAnyH_take (i := 1) rfl (by kernel_rfl) (by kernel_rfl) (by kernel_rfl) (fun _ _ _ h => h) (yieldsIf_load_mid (by rfl) _ _ rfl (w.heap.size + 1) 0 rfl cs _ hR64.out hu rfl hi) (by assumption) ?_
  try simp only [Act.put, List.setIfInBounds_toArray, List.set_cons_zero, List.set_cons_succ]
  refine wpAnyH_take (i := 3) rfl (by kernel_rfl) (by kernel_rfl) (by kernel_rfl) (fun _ _ _ h => h) (yieldsIf_load_mid (by rfl) _ _ rfl w.heap.size 0 rfl [.int .u32 a.toNat, .int .u32 bb.toNat, .int .u32 c.toNat, .int .u32 d.toNat, .int .u32 e.toNat] _ hR5.out hu5 rfl hi5) (by assumption) ?_
  try simp only [Act.put, List.setIfInBounds_toArray, List.set_cons_zero, List.set_cons_succ]
  refine wpAnyH_take (i := 4) rfl (by kernel_rfl) (by kernel_rfl) (by kernel_rfl) (fun _ _ _ h => h) (yieldsIf_load_mid (by rfl) _ _ rfl (w.heap.size + 1) 0 rfl cs _ hR64.out hu rfl hi) (by assumption) ?_
  try simp only [Act.put, List.setIfInBounds_toArray, List.set_cons_zero, List.set_cons_succ]
  refine wpAnyH_ready (rs := [2]) (by kernel_rfl) (by simp) ?_
  refine AllReadyH.cons rfl (fun K hK => ?_) AllReadyH.nil
  go_simp
  go_at_call 14; (with_reducible refine (block_cs ⟨a, bb, c, d, e⟩ b cs W1.drew HBL.out HCS.out r HR.out).mono ?_); rintro e2 w2 ⟨rfl, hb2⟩; have hS2 := Lib.hid (HK6.out _ _ hb2 HSD.out)
  go_wp2_with fail
  refine hK.out _ _ hS2.out (fun hHeld => ?_)
  clear hK K
  try simp only [Act.put, List.setIfInBounds_toArray, List.set_cons_zero, List.set_cons_succ]
  refine wpAnyH_ready (rs := [5]) (by kernel_rfl) (by simp) ?_
  refine AllReadyH.cons rfl (fun K hK => ?_) AllReadyH.nil
  go_simp
  go_at_call 15; (with_reducible refine (rblock_cs ⟨a, bb, c, d, e⟩ b cs w2 HBL.out HCS.out r HR.out).mono ?_); rintro e3 w3 ⟨rfl, hb3⟩; have hS3 := Lib.hid (HK6.out _ _ hb3 hS2.out)
  go_wp2_with fail
  refine hK.out _ _ hS3.out (fun hHeld => ?_)
  clear hK K
  try simp only [Act.put, List.setIfInBounds_toArray, List.set_cons_zero, List.set_cons_succ]
  refine wpAnyH_take (i := 6) (v := .bool true) rfl (by kernel_rfl) (by kernel_rfl) (by kernel_rfl) (fun _ _ _ h => h) (Or.inl ⟨by rfl, ?_⟩) (by assumption) ?_
  · intro w' hSw; go_simp
  try simp only [Act.put, List.setIfInBounds_toArray, List.set_cons_zero, List.set_cons_succ]
  refine wpAnyH_take (i := 7) (v := .bool true) rfl (by kernel_rfl) (by kernel_rfl) (by kernel_rfl) (fun _ _ _ h => h) (Or.inl ⟨by rfl, ?_⟩) (by assumption) ?_
  · intro w' hSw; go_simp
  try simp only [Act.put, List.setIfInBounds_toArray, List.set_cons_zero, List.set_cons_succ]
  refine wpAnyH_ready (rs := [8]) (by kernel_rfl) (by simp) ?_
  refine AllReadyH.cons rfl (fun K hK => ?_) AllReadyH.nil
  go_simp
  go_at_call 16; (with_reducible refine (first_any w3).mono ?_); rintro e4 w4 ⟨rfl, hb4⟩; have hS4 := Lib.hid (HK6.out _ _ hb4 hS3.out)
  go_wp2_with fail
  refine hK.out _ _ hS4.out (fun hHeld => ?_)
  clear hK K
  try simp only [Act.put, List.setIfInBounds_toArray, List.set_cons_zero, List.set_cons_succ]
  refine wpAnyH_ready (rs := [9]) (by kernel_rfl) (by simp) ?_
  refine AllReadyH.cons rfl (fun K hK => ?_) AllReadyH.nil
  go_simp
  go_at_call 17; (with_reducible refine (rfirst_any w4).mono ?_); rintro e5 w5 ⟨rfl, hb5⟩; have hS5 := Lib.hid (HK6.out _ _ hb5 hS4.out)
  go_wp2_with fail
  refine hK.out _ _ hS5.out (fun hHeld => ?_)
  clear hK K
  try simp only [Act.put, List.setIfInBounds_toArray, List.set_cons_zero, List.set_cons_succ]
  refine wpAnyH_take (i := 10) (v := .bool true) rfl (by kernel_rfl) (by kernel_rfl) (by kernel_rfl) (fun _ _ _ h => h) (Or.inl ⟨by rfl, ?_⟩) (by assumption) ?_
  · intro w' hSw; go_simp
  try simp only [Act.put, List.setIfInBounds_toArray, List.set_cons_zero, List.set_cons_succ]
  refine wpAnyH_take (i := 11) (v := .bool true) rfl (by kernel_rfl) (by kernel_rfl) (by kernel_rfl) (fun _ _ _ h => h) (Or.inl ⟨by rfl, ?_⟩) (by assumption) ?_
  · intro w' hSw; go_simp
  try simp only [Act.put, List.setIfInBounds_toArray, List.set_cons_zero, List.set_cons_succ]
  refine wpAnyH_ready (rs := [12]) (by kernel_rfl) (by simp) ?_
  refine AllReadyH.cons rfl (fun K hK => ?_) AllReadyH.nil
  go_simp
  refine hK.out _ _ hS5.out (fun hHeld => ?_)
  clear hK K
  try simp only [Act.put, List.setIfInBounds_toArray, List.set_cons_zero, List.set_cons_succ]
  refine wpAnyH_done (by kernel_rfl) ?_ _
  refine NoPanic.normal ?_
  go_wp2_with fail
  go_ret
  exact ⟨rfl, stp (stp (stp (stp hd1 hb2) hb3) hb4) hb5⟩
theorem walk (l0 : List W32) (l1 : List UInt8) (w : World) (n0 : l0.length = 5) (n1 : l1.length = 64) :
    Calls Try.prog 5 #[.agg (l0.map encW).toArray, .agg (l1.map encB).toArray] w fun e w' => e = .returned (.bool true) ∧ Below w.heap.size w w' := by
  match l0, n0 with
  | [a, b, c, d, e], _ => exact walk5 ⟨a, b, c, d, e⟩ l1 w n1

set_option maxRecDepth 100000 in
theorem lifted (os : Os) (started : os.Started) (H : Type) (enc : TypeId × Value → H) :
    ReturnsInHanded {} Try.checked os 5 .any (Rows.shaBlocksSpec.pre6 enc Try.prog Try.f5 Rows.shaBlocksRow.domain false) (Rows.shaBlocksSpec.post enc Try.prog Try.f5 false true false false) := by
  refine returnsInHanded_of_change (C := Try.checked) own started (by kernel_rfl) Try.func5
    (ChangeSpec.witness6 (enc := enc) (C := Try.checked) false ⟨#[], #[.agg #[.int .u32 0, .int .u32 0, .int .u32 0, .int .u32 0, .int .u32 0], .agg #[.int .u8 0, .int .u8 0, .int .u8 0, .int .u8 0, .int .u8 0, .int .u8 0, .int .u8 0, .int .u8 0, .int .u8 0, .int .u8 0, .int .u8 0, .int .u8 0, .int .u8 0, .int .u8 0, .int .u8 0, .int .u8 0, .int .u8 0, .int .u8 0, .int .u8 0, .int .u8 0, .int .u8 0, .int .u8 0, .int .u8 0, .int .u8 0, .int .u8 0, .int .u8 0, .int .u8 0, .int .u8 0, .int .u8 0, .int .u8 0, .int .u8 0, .int .u8 0, .int .u8 0, .int .u8 0, .int .u8 0, .int .u8 0, .int .u8 0, .int .u8 0, .int .u8 0, .int .u8 0, .int .u8 0, .int .u8 0, .int .u8 0, .int .u8 0, .int .u8 0, .int .u8 0, .int .u8 0, .int .u8 0, .int .u8 0, .int .u8 0, .int .u8 0, .int .u8 0, .int .u8 0, .int .u8 0, .int .u8 0, .int .u8 0, .int .u8 0, .int .u8 0, .int .u8 0, .int .u8 0, .int .u8 0, .int .u8 0, .int .u8 0, .int .u8 0]], []⟩ 8 (by kernel_rfl) (by kernel_rfl) (by kernel_rfl) (by kernel_rfl)) ?_
  intro W base args ds gs before hval0 hW hcnd _
  have hval : ∀ (j : Nat) t v, Try.f5.params[j]? = some t → args[j]? = some v → Value.okWide Try.prog W .any base t v := hval0
  have hW' := hW
  obtain ⟨p, q, hA0, hV, rfl, hfz, hnd⟩ := hW
  have hA : DataW.TrodAll enc Try.prog W 0 (fun _ => true) true Try.f5.params.toList args.toList ds p := hA0
  rw [Try.params5] at hA hval
  obtain ⟨v0, vs0, d0, ds0, p0, q0, hargs, rfl, rfl, h0, r0⟩ := trodAll_cons hA
  obtain ⟨v1, vs1, d1, ds1, p1, q1, rfl, rfl, rfl, h1, r1⟩ := trodAll_cons r0
  obtain ⟨rfl, rfl, rfl⟩ := trodAll_nil r1
  obtain rfl : args = #[v0, v1] := by cases args; simp_all
  obtain ⟨rfl, rfl⟩ := trodVars_none hV
  have k0 := h0
  have lt0 : ∀ x ∈ p0, x.block < W.heap.size := by obtain ⟨m, hm⟩ := k0; exact DataW.trod_lt m _ _ _ hm
  obtain ⟨zs0, rfl, zl0, zw0⟩ := open_arr Try.underlying37 Try.underlying36 (by kernel_rfl) (by kernel_rfl) (hval 0 37 v0 rfl rfl) h0
  obtain ⟨l0, hl0, n0⟩ := words_of zs0 zw0
  rw [hl0] at hW' k0 ⊢
  have k1 := h1
  have lt1 : ∀ x ∈ p1, x.block < W.heap.size := by obtain ⟨m, hm⟩ := k1; exact DataW.trod_lt m _ _ _ hm
  obtain ⟨zs1, rfl, zl1, zw1⟩ := open_arr Try.underlying38 Try.underlying5 (by kernel_rfl) (by kernel_rfl) (hval 1 38 v1 rfl rfl) h1
  obtain ⟨l1, hl1, n1⟩ := bytes_of zs1 zw1
  rw [hl1] at hW' k1 ⊢
  clear hA0 hval0
  refine (walk l0 l1 W (n0.trans zl0) (n1.trans zl1)).mono fun e W' ⟨he, bel⟩ => ?_
  subst he
  exact ⟨_, rfl, _, _, _, [], _, [], hW', trodAll_mk1 (shut_bool Try.underlying4 _), (trodAll_cons_mk (Below.trod laidOut (by kernel_rfl) (of_decide_eq_true (by kernel_rfl)) k0 bel lt0) (trodAll_cons_mk (Below.trod laidOut (by kernel_rfl) (of_decide_eq_true (by kernel_rfl)) k1 bel lt1) trodAll_mk0)), rfl, bel.frame _, fun h => by cases h⟩

theorem over : Rows.shaBlocksRow.holds Try.pinned (OpenSpec.ofChange Rows.shaBlocksSpec) :=
  OpenClaim.holds_of_wide 5 Try.f5 rfl rfl rfl rfl rfl rfl rfl ⟨rfl, rfl, rfl, rfl, rfl⟩ rfl rfl rfl rfl rfl (by kernel_rfl) Try.func5 (by kernel_rfl)
    (of_decide_eq_true (by kernel_rfl)) (by unfold Func.isWrapper; first | (rw [if_pos (by decide +kernel)]; kernel_rfl) | (rw [if_neg (by decide +kernel)]; exact ⟨rfl, rfl⟩))
    (fun os started H enc _ => lifted os started H enc)

theorem proved : Rows.ShaBlocksSaid := over
end Go.Proofs.Ytfaffnainibcmaa.shaBlocks
