/-
  The numbers of the limit and of the errors, and the examples of the chapter; no condition but what the row lists.
-/
import Derived.Test.YtphakhklhicolaaDoorChkH
import Derived.Test.YtphakhklhicolaaDoorCards
import Derived.Test.YtphakhklhicolaaDoorTie
import Derived.LaidMore
import Derived.LaidSub
import Derived.MakeChecks
import Derived.Stop.Joined
import Derived.Lib.LaidTab
import Derived.SevenTiedAt
import Derived.WalkKit
import Derived.ProofKit
import Derived.OpenShut
import Derived.ShutString
import Derived.ChangeOld
import Derived.Below
namespace Go.Proofs.YtphakhklhicolaaDoor.chunkNames
open Go.ChangeShapes Go.WideShapes Go.ChangeAt Go.RowKit
open Go.ChangeMaps (open_string shut_string)
open Hx Ck
set_option linter.unusedVariables false

theorem own : ownKnob Tryd.prog.godebug = none := by kernel_rfl
theorem laidOut : laidOutB Tryd.prog = true := by kernel_rfl

set_option linter.unusedVariables false
set_option linter.unusedSimpArgs false
theorem big_list : ∃ l : List UInt8, l.length = 8193 ∧ List.replicate 8193 (Value.int .u8 0) = Lib.byteCells l := ⟨List.replicate 8193 0, List.length_replicate, by rw [Lib.byteCells, List.map_replicate]; rfl⟩
theorem big_own {w : World} {base : Nat} {e : TypeId} {v : Value} {l : List UInt8} (h : w.ownsRow base e 1 v 8193 (madeCells (Value.int .u8 0).cells (8193 * 1)).toList) (hr : List.replicate 8193 (Value.int .u8 0) = Lib.byteCells l) : w.ownsRow base e 1 v 8193 (Lib.byteCells l) := by
  rw [← hr, ← toList_madeCells_one]
  exact h
set_option maxHeartbeats 8000000 in
set_option maxRecDepth 100000 in
theorem walk (w : World) (hT : Tb w) : Calls Tryd.prog 3 #[] w fun e w' => e = .returned (.bool true) ∧ Below w.heap.size w w' := by
  obtain ⟨i0, hi, hz0, hz1, hz2⟩ := info_parts infoU8c
  have HI := Lib.hid hi
  have HZ0 := Lib.hid hz0
  have HZ1 := Lib.hid hz1
  have HZ2 := Lib.hid hz2
  have HTT := Lib.hid hT
  obtain ⟨l, hl, hrep⟩ := big_list
  have HRP := Lib.hid hrep
  obtain ⟨x, hx⟩ : ∃ x : ByteArray, ⟨l.toArray⟩ = x := ⟨_, rfl⟩
  have hxl : x.data.toList.length = 8193 := by rw [← hx, ← hl]
  have H1 : Hid (∀ W, Calls Tryd.prog 7 #[.string ⟨#[48, 51]⟩, .int .i64 160] W fun e w' => e = .returned (.bool true) ∧ Below W.heap.size W w') := Lib.hid fun W => odd_yes W _ _ (by decide) (by rw [dec_run]; decide +kernel)
  have H2 : Hid (∀ W, Calls Tryd.prog 7 #[.string ⟨#[120]⟩, .int .i64 160] W fun e w' => e = .returned (.bool true) ∧ Below W.heap.size W w') := Lib.hid fun W => odd_yes W _ _ (by decide) (by rw [dec_run]; decide +kernel)
  have H3 : Hid (∀ W, Calls Tryd.prog 7 #[.string ⟨#[48, 13, 10, 120]⟩, .int .i64 160] W fun e w' => e = .returned (.bool true) ∧ Below W.heap.size W w') := Lib.hid fun W => odd_yes W _ _ (by decide) (by rw [dec_run]; decide +kernel)
  have H4 : Hid (∀ W, Calls Tryd.prog 7 #[.string ⟨#[51, 13, 10, 97, 98, 99, 100]⟩, .int .i64 160] W fun e w' => e = .returned (.bool true) ∧ Below W.heap.size W w') := Lib.hid fun W => odd_yes W _ _ (by decide) (by rw [dec_run]; decide +kernel)
  have H5 : Hid (∀ W, Calls Tryd.prog 7 #[.string ⟨#[49, 48, 48, 48, 48]⟩, .int .i64 160] W fun e w' => e = .returned (.bool true) ∧ Below W.heap.size W w') := Lib.hid fun W => odd_yes W _ _ (by decide) (by rw [dec_run]; decide +kernel)
  have H6 : Hid (∀ W, Calls Tryd.prog 7 #[.string ⟨#[51, 10]⟩, .int .i64 160] W fun e w' => e = .returned (.bool true) ∧ Below W.heap.size W w') := Lib.hid fun W => odd_yes W _ _ (by decide) (by rw [dec_run]; decide +kernel)
  have H7 : Hid (∀ W, Calls Tryd.prog 7 #[.string ⟨#[51, 59]⟩, .int .i64 160] W fun e w' => e = .returned (.bool true) ∧ Below W.heap.size W w') := Lib.hid fun W => odd_yes W _ _ (by decide) (by rw [dec_run]; decide +kernel)
  have H8 : Hid (∀ W, Calls Tryd.prog 7 #[.string ⟨#[13]⟩, .int .i64 160] W fun e w' => e = .returned (.bool true) ∧ Below W.heap.size W w') := Lib.hid fun W => odd_yes W _ _ (by decide) (by rw [dec_run]; decide +kernel)
  have H9 : Hid (∀ W, Calls Tryd.prog 7 #[.string ⟨#[50, 48, 48, 49, 13, 10]⟩, .int .i64 4] W fun e w' => e = .returned (.bool true) ∧ Below W.heap.size W w') := Lib.hid fun W => odd_yes W _ _ (by decide) (by rw [dec_run]; decide +kernel)
  have H10 : Hid (∀ W, Calls Tryd.prog 8 #[.string ⟨#[50, 48, 48, 48, 13, 10]⟩] W fun e w' => e = .returned (.bool true) ∧ Below W.heap.size W w') := Lib.hid fun W => begun_yes W _ (by decide) (by rw [dec_run]; decide +kernel)
  have H11 : Hid (∀ W, Calls Tryd.prog 8 #[.string ⟨#[50, 48, 48, 49, 13]⟩] W fun e w' => e = .returned (.bool true) ∧ Below W.heap.size W w') := Lib.hid fun W => begun_yes W _ (by decide) (by rw [dec_run]; decide +kernel)
  have H12 : Hid (∀ W, Calls Tryd.prog 8 #[.string ⟨#[]⟩] W fun e w' => e = .returned (.bool true) ∧ Below W.heap.size W w') := Lib.hid fun W => begun_yes W _ (by decide) (by rw [dec_run]; decide +kernel)
  have H13 : Hid (∀ W, Calls Tryd.prog 8 #[.string ⟨#[48, 13, 10, 13]⟩] W fun e w' => e = .returned (.bool true) ∧ Below W.heap.size W w') := Lib.hid fun W => begun_yes W _ (by decide) (by rw [dec_run]; decide +kernel)
  have H14 : Hid (∀ W, Calls Tryd.prog 7 #[.string ⟨#[50, 13, 10, 97, 98, 13, 10, 49, 102, 102, 102, 13, 10]⟩, .int .i64 4] W fun e w' => e = .returned (.bool true) ∧ Below W.heap.size W w') := Lib.hid fun W => odd_yes W _ _ (by decide) (by rw [dec_run]; decide +kernel)
  have H15 : Hid (∀ W, Calls Tryd.prog 9 #[.string ⟨#[48, 13, 10, 13, 10]⟩, .string ⟨#[]⟩, .int .i64 5] W fun e w' => e = .returned (.bool true) ∧ Below W.heap.size W w') := Lib.hid fun W => is_yes W _ _ 5 (by decide) (by rw [dec_run]; decide +kernel)
  have H16 : Hid (∀ W, Below w.heap.size w W → Calls Tryd.prog 10 #[.string ⟨#[97, 98, 99, 100, 101, 102, 103, 104, 105, 106, 107, 108]⟩, .slice (some ⟨W.heap.size, 0, none⟩) 2 2] (W.alloc (.cells #[.int .i64 11, .int .i64 1] 3)) fun e w' => e = .returned (.tuple #[.string ⟨#[98, 13, 10, 97, 98, 99, 100, 101, 102, 103, 104, 105, 106, 107, 13, 10, 49, 13, 10, 108, 13, 10, 48, 13, 10, 13, 10]⟩, .int .i64 0]) ∧ Below W.heap.size W w') := Lib.hid fun W hW => (encode16 (some ⟨W.heap.size, 0, none⟩) 2 2 [11, 1] ⟨#[97, 98, 99, 100, 101, 102, 103, 104, 105, 106, 107, 108]⟩ ⟨#[98, 13, 10, 97, 98, 99, 100, 101, 102, 103, 104, 105, 106, 107, 13, 10, 49, 13, 10, 108, 13, 10, 48, 13, 10, 13, 10]⟩ 0 (W.alloc (.cells #[.int .i64 11, .int .i64 1] 3)) (RdG.newS (enc := encI) W 3 [11, 1]) rfl (by decide) (by decide) (HTT.out.to (stpA hW _) HTT.out.lt) (by decide +kernel)).mono fun e w' h => ⟨h.1, stp (stpA (Below.refl _ _) _) h.2⟩
  have H17 : Hid (∀ W, Below w.heap.size w W → Calls Tryd.prog 10 #[.string ⟨#[97, 98, 99]⟩, .slice (some ⟨W.heap.size, 0, none⟩) 1 1] (W.alloc (.cells #[.int .i64 2] 3)) fun e w' => e = .returned (.tuple #[.string ⟨#[]⟩, .int .i64 2]) ∧ Below W.heap.size W w') := Lib.hid fun W hW => (encode16 (some ⟨W.heap.size, 0, none⟩) 1 1 [2] ⟨#[97, 98, 99]⟩ ⟨#[]⟩ 2 (W.alloc (.cells #[.int .i64 2] 3)) (RdG.newS (enc := encI) W 3 [2]) rfl (by decide) (by decide) (HTT.out.to (stpA hW _) HTT.out.lt) (by decide +kernel)).mono fun e w' h => ⟨h.1, stp (stpA (Below.refl _ _) _) h.2⟩
  have H18 : Hid (∀ W, Below w.heap.size w W → Calls Tryd.prog 10 #[.string ⟨#[97, 98, 99]⟩, .slice (some ⟨W.heap.size, 0, none⟩) 2 2] (W.alloc (.cells #[.int .i64 0, .int .i64 3] 3)) fun e w' => e = .returned (.tuple #[.string ⟨#[]⟩, .int .i64 2]) ∧ Below W.heap.size W w') := Lib.hid fun W hW => (encode16 (some ⟨W.heap.size, 0, none⟩) 2 2 [0, 3] ⟨#[97, 98, 99]⟩ ⟨#[]⟩ 2 (W.alloc (.cells #[.int .i64 0, .int .i64 3] 3)) (RdG.newS (enc := encI) W 3 [0, 3]) rfl (by decide) (by decide) (HTT.out.to (stpA hW _) HTT.out.lt) (by decide +kernel)).mono fun e w' h => ⟨h.1, stp (stpA (Below.refl _ _) _) h.2⟩
  have H20 : Hid (∀ W, Below w.heap.size w W → Calls Tryd.prog 10 #[.string x, .slice (some ⟨W.heap.size, 0, none⟩) 1 1] (W.alloc (.cells #[.int .i64 8193] 3)) fun e w' => e = .returned (.tuple #[.string ⟨#[]⟩, .int .i64 2]) ∧ Below W.heap.size W w') := Lib.hid fun W hW => (encode16 (some ⟨W.heap.size, 0, none⟩) 1 1 [8193] x ⟨#[]⟩ 2 (W.alloc (.cells #[.int .i64 8193] 3)) (RdG.newS (enc := encI) W 3 [8193]) rfl (by decide) (by rw [← ba_len7, hxl]; decide) (HTT.out.to (stpA hW _) HTT.out.lt) (enc_no (.inl (by rw [hxl]; decide)))).mono fun e w' h => ⟨h.1, stp (stpA (Below.refl _ _) _) h.2⟩
  clear hi hz0 hz1 hz2 hl hrep hT hxl
  go_enter Tryd.func3, Tryd.ntmps3
  go_wp2_with (first
    | (go_at_call 7; (with_reducible refine (H1.out _).mono ?_); rintro e w1 ⟨rfl, hb1⟩; have HB1 := Lib.hid (stp (Below.refl w.heap.size w) hb1); clear hb1)
    | (go_at_call 7; (with_reducible refine (H2.out _).mono ?_); rintro e w2 ⟨rfl, hb2⟩; have HB2 := Lib.hid (stp HB1.out hb2); clear hb2)
    | (go_at_call 7; (with_reducible refine (H3.out _).mono ?_); rintro e w3 ⟨rfl, hb3⟩; have HB3 := Lib.hid (stp HB2.out hb3); clear hb3)
    | (go_at_call 7; (with_reducible refine (H4.out _).mono ?_); rintro e w4 ⟨rfl, hb4⟩; have HB4 := Lib.hid (stp HB3.out hb4); clear hb4)
    | (go_at_call 7; (with_reducible refine (H5.out _).mono ?_); rintro e w5 ⟨rfl, hb5⟩; have HB5 := Lib.hid (stp HB4.out hb5); clear hb5)
    | (go_at_call 7; (with_reducible refine (H6.out _).mono ?_); rintro e w6 ⟨rfl, hb6⟩; have HB6 := Lib.hid (stp HB5.out hb6); clear hb6)
    | (go_at_call 7; (with_reducible refine (H7.out _).mono ?_); rintro e w7 ⟨rfl, hb7⟩; have HB7 := Lib.hid (stp HB6.out hb7); clear hb7)
    | (go_at_call 7; (with_reducible refine (H8.out _).mono ?_); rintro e w8 ⟨rfl, hb8⟩; have HB8 := Lib.hid (stp HB7.out hb8); clear hb8)
    | (go_at_call 7; (with_reducible refine (H9.out _).mono ?_); rintro e w9 ⟨rfl, hb9⟩; have HB9 := Lib.hid (stp HB8.out hb9); clear hb9)
    | (go_at_call 8; (with_reducible refine (H10.out _).mono ?_); rintro e w10 ⟨rfl, hb10⟩; have HB10 := Lib.hid (stp HB9.out hb10); clear hb10)
    | (go_at_call 8; (with_reducible refine (H11.out _).mono ?_); rintro e w11 ⟨rfl, hb11⟩; have HB11 := Lib.hid (stp HB10.out hb11); clear hb11)
    | (go_at_call 8; (with_reducible refine (H12.out _).mono ?_); rintro e w12 ⟨rfl, hb12⟩; have HB12 := Lib.hid (stp HB11.out hb12); clear hb12)
    | (go_at_call 8; (with_reducible refine (H13.out _).mono ?_); rintro e w13 ⟨rfl, hb13⟩; have HB13 := Lib.hid (stp HB12.out hb13); clear hb13)
    | (go_at_call 7; (with_reducible refine (H14.out _).mono ?_); rintro e w14 ⟨rfl, hb14⟩; have HB14 := Lib.hid (stp HB13.out hb14); clear hb14)
    | (go_at_call 9; (with_reducible refine (H15.out _).mono ?_); rintro e w15 ⟨rfl, hb15⟩; have HB15 := Lib.hid (stp HB14.out hb15); clear hb15)
    | (go_at_call 10; (with_reducible refine (H16.out _ HB15.out).mono ?_); rintro e w16 ⟨rfl, hb16⟩; have HB16 := Lib.hid (stp HB15.out hb16); clear hb16)
    | (go_at_call 10; (with_reducible refine (H17.out _ HB16.out).mono ?_); rintro e w17 ⟨rfl, hb17⟩; have HB17 := Lib.hid (stp HB16.out hb17); clear hb17)
    | (go_at_call 10; (with_reducible refine (H18.out _ HB17.out).mono ?_); rintro e w18 ⟨rfl, hb18⟩; have HB18 := Lib.hid (stp HB17.out hb18); clear hb18)
    | (at_make; refine wpList_make_full _ rfl _ _ 29 rfl w18.heap.size 5 i0 (.int .u8 0) 1 Tryd.underlying29 HI.out HZ0.out HZ1.out .i64 .i64 _ _ 8193 rfl rfl rfl rfl (by rw [HZ2.out]; decide) (by decide) (Nat.le_refl _) ?_; intro w19 hown hgr; have HO5 := Lib.hid (RdA.of_own (big_own hown HRP.out)); have HB19 : Hid (Below w.heap.size w w19) := Lib.hid (stp HB18.out ((Below.refl w18.heap.size w18).grown hgr (Nat.le_refl _) (by simp))); clear hown hgr; have cv := conv_str (P := Tryd.prog) (c := 8193) HO5.out.1 HO5.out.2 Tryd.underlying29 Tryd.underlying5 Tryd.underlying9; rw [hx] at cv)
    | (go_at_call 10; (with_reducible refine (H20.out _ HB19.out).mono ?_); rintro e w20 ⟨rfl, hb20⟩; have HB20 := Lib.hid (stp HB19.out hb20); clear hb20)
    | (go_at_call 11; (with_reducible refine (alive16 _).mono ?_); rintro e w21 ⟨rfl, hb21⟩; have HB21 := Lib.hid (stp HB20.out hb21); clear hb21)
    | fail)
  go_ret
  exact ⟨rfl, HB21.out⟩

def tabL : List Int := [0, 1, 56, 2, 57, 49, 28, 3, 61, 58, 42, 50, 38, 29, 17, 4, 62, 47, 59, 36, 45, 43, 51, 22, 53, 39, 33, 30, 24, 18, 12, 5, 63, 55, 48, 27, 60, 41, 37, 16, 46, 35, 44, 21, 52, 32, 23, 11, 54, 26, 40, 15, 34, 20, 31, 10, 25, 14, 19, 9, 13, 8, 7, 6]
theorem gTab : Tryd.prog.globalNamed "math/bits.deBruijn64tab" = some 2 := by kernel_rfl
theorem gTabType : (Tryd.prog.globals[2]?).map (·.type) = some 72 := by kernel_rfl
/-- What the row's list gives. -/
theorem table {W : World} (h : laidMetH Tryd.prog Rows.chunkNamesRow.laid W) : Tb W := by
  rw [MakeChecks.laidMetH_plain _ _ _ (by kernel_rfl)] at h
  have h2 := laidMet.filter (fun x => x.1 == "math/bits.deBruijn64tab") h
  have e : Rows.chunkNamesRow.laid.filter (fun x => x.1 == "math/bits.deBruijn64tab") = [("math/bits.deBruijn64tab", Lib.tabData .u8 tabL)] := by kernel_rfl
  rw [e] at h2
  exact (Lib.tabIs_of_head (rest := []) gTab gTabType Tryd.underlying72 Tryd.underlying5 (by kernel_rfl) (by kernel_rfl) h2).cell gTab 15 (by decide)
theorem door_met (os : Os) (args : Array Value) : laidMetH Tryd.prog Rows.chunkNamesRow.laid ((World.doorLaid Tryd.prog 400 os).forCall (fun _ _ => 0) ⟨#[], args, []⟩).memory :=
  laidMetH_of_parts3 (fuel := 8) (laidMet_of_run' 8 (by kernel_rfl) (by kernel_rfl)) (by kernel_rfl) (by kernel_rfl)
set_option maxRecDepth 100000 in
theorem lifted (os : Os) (started : os.Started) (H : Type) (enc : TypeId × Value → H) :
    ReturnsInHanded {} Tryd.checked os 3 .any (fun w args => (Rows.chunkNamesSpec.pre enc Tryd.prog Tryd.f3 [] false w args ∧ laidMetH Tryd.prog Rows.chunkNamesRow.laid w) ∧ sizedMet enc Tryd.prog Tryd.f3 (OpenSpec.ofChange Rows.chunkNamesSpec) false w args) (Rows.chunkNamesSpec.post enc Tryd.prog Tryd.f3 false true false false) := by
  refine returnsInHanded_of_change_and (C := Tryd.checked) (X := fun w _ => laidMetH Tryd.prog Rows.chunkNamesRow.laid w) (fun _ _ _ hh h => h.of_heap hh) own started (by kernel_rfl) Tryd.func3
    (ChangeSpec.witness_shaped (enc := enc) (C := Tryd.checked) (os := os) (X := fun w _ => laidMetH Tryd.prog Rows.chunkNamesRow.laid w) false (World.doorLaid Tryd.prog 400 os) #[] 8 rfl (World.shaped_of_RefB (by kernel_rfl) (by kernel_rfl)) (by kernel_rfl) (by kernel_rfl) (by kernel_rfl) (door_met os _)) ?_
  intro W base args ds gs before hval0 hW _ hwt hL _
  have hval : ∀ (j : Nat) t v, Tryd.f3.params[j]? = some t → args[j]? = some v → Value.okWide Tryd.prog W .any base t v := hval0
  have hW' := hW
  obtain ⟨p, q, hA0, hV, rfl, hfz, hnd⟩ := hW
  have hA : DataW.TrodAll enc Tryd.prog W 0 (fun _ => true) true Tryd.f3.params.toList args.toList ds p := hA0
  rw [Tryd.params3] at hA hval
  obtain ⟨rfl, rfl, rfl⟩ := trodAll_none hA
  obtain ⟨rfl, rfl⟩ := trodVars_none hV
  clear hA0 hval0
  refine (walk  W (table hL)).mono fun e W' ⟨he, bel⟩ => ?_
  subst he
  exact ⟨_, rfl, _, _, _, [], _, [], hW', trodAll_mk1 (shut_bool Tryd.underlying4 _), hA, rfl, bel.frame _, fun h => by cases h⟩

theorem over : Rows.chunkNamesRow.holds Tryd.pinned (OpenSpec.ofChange Rows.chunkNamesSpec) :=
  OpenClaim.holds_of_wide 3 Tryd.f3 rfl rfl rfl rfl rfl rfl rfl ⟨rfl, rfl, rfl, rfl, rfl⟩ rfl rfl rfl rfl rfl (by kernel_rfl) Tryd.func3 (by kernel_rfl)
    (of_decide_eq_true (by kernel_rfl)) (by unfold Func.isWrapper; first | (rw [if_pos (by decide +kernel)]; kernel_rfl) | (rw [if_neg (by decide +kernel)]; exact ⟨rfl, rfl⟩))
    (fun os started H enc _ => lifted os started H enc)

theorem said : Rows.ChunkNamesSaid := over
theorem plain (f : FuncId) (fn : Func) (hf : Tryd.pinned.checked.prog.funcNamed "tidewaiter/tidewaiterlaw16.ChunkNames" = some f) (hfn : Tryd.pinned.checked.prog.funcs[f]? = some fn) :
    false = Tryd.pinned.checked.prog.looks [] ∧ ∀ (j : Nat) t, fn.params[j]? = some t → Tryd.pinned.checked.prog.wantsStandIn t = false := by
  obtain rfl : f = 3 := Option.some.inj ((show Tryd.prog.funcNamed "tidewaiter/tidewaiterlaw16.ChunkNames" = some 3 by kernel_rfl).symm.trans hf) |>.symm
  obtain rfl : fn = Tryd.f3 := (Option.some.inj (Tryd.func3.symm.trans hfn)).symm
  refine ⟨by kernel_rfl, fun j t ht => ?_⟩
  rw [Tryd.params3] at ht
  simp at ht
theorem proved : Rows.ChunkNamesCardSaid :=
  Claim7.holds_tied_plain_at .later [] _ _ _ _ said (fun _ h => by cases h) (by kernel_rfl) (fun _ h => by cases h) chunkNames_row_tie rfl ⟨rfl, rfl⟩ (by kernel_rfl) rfl plain (by kernel_rfl)
end Go.Proofs.YtphakhklhicolaaDoor.chunkNames
