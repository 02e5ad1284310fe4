/-
  The limit, and the chapter's examples.
-/
import Derived.Test.YtjpebnnifbnjjaaTextW
import Derived.WalkKit
import Derived.ProofKit
import Derived.OpenShut
import Derived.ShutString
import Derived.ChangeOld
import Derived.Below
namespace Go.Proofs.Ytjpebnnifbnjjaa.textNames
open Go.ChangeShapes Go.WideShapes Go.ChangeAt Go.RowKit
open Go.ChangeMaps (open_string shut_string)
open Hx Tx
set_option linter.unusedVariables false

theorem own : ownKnob Try.prog.godebug = none := by kernel_rfl
theorem laidOut : laidOutB Try.prog = true := by kernel_rfl

set_option linter.unusedVariables false
theorem ca (w : World) : Calls Try.prog 9 #[.string ⟨#[192, 128]⟩] w fun e w' => e = .returned (.int .i64 50) ∧ Below w.heap.size w w' := check5 ⟨#[192, 128]⟩ w (by decide) 50 (by decide +kernel)
theorem cb (w : World) : Calls Try.prog 9 #[.string ⟨#[237, 160, 128]⟩] w fun e w' => e = .returned (.int .i64 50) ∧ Below w.heap.size w w' := check5 ⟨#[237, 160, 128]⟩ w (by decide) 50 (by decide +kernel)
theorem cc (w : World) : Calls Try.prog 9 #[.string ⟨#[0]⟩] w fun e w' => e = .returned (.int .i64 50) ∧ Below w.heap.size w w' := check5 ⟨#[0]⟩ w (by decide) 50 (by decide +kernel)
theorem cd (w : World) : Calls Try.prog 9 #[.string ⟨#[239, 191, 191]⟩] w fun e w' => e = .returned (.int .i64 50) ∧ Below w.heap.size w w' := check5 ⟨#[239, 191, 191]⟩ w (by decide) 50 (by decide +kernel)
theorem ce (w : World) : Calls Try.prog 9 #[.string ⟨#[239, 191, 189, 9, 13, 10]⟩] w fun e w' => e = .returned (.int .i64 0) ∧ Below w.heap.size w w' := check5 ⟨#[239, 191, 189, 9, 13, 10]⟩ w (by decide) 0 (by decide +kernel)
theorem cf (w : World) : Calls Try.prog 9 #[.string ⟨#[]⟩] w fun e w' => e = .returned (.int .i64 0) ∧ Below w.heap.size w w' := check5 ⟨#[]⟩ w (by decide) 0 (by decide +kernel)
theorem na (w : World) : Calls Try.prog 10 #[.string ⟨#[97, 98]⟩, .int .i64 2] w fun e w' => e = .returned (.tuple #[.int .i64 0, .int .i64 0, .int .i64 2]) ∧ Below w.heap.size w w' := next5_arg ⟨#[97, 98]⟩ 2 w (by decide)
theorem nb (w : World) : Calls Try.prog 10 #[.string ⟨#[97, 195, 169, 255]⟩, .int .i64 1] w fun e w' => e = .returned (.tuple #[.int .i64 233, .int .i64 2, .int .i64 0]) ∧ Below w.heap.size w w' := next5 ⟨#[97, 195, 169, 255]⟩ 1 w (by decide) (by decide) 233 2 0 (by decide +kernel)
theorem nc (w : World) : Calls Try.prog 10 #[.string ⟨#[97, 195, 169, 255]⟩, .int .i64 3] w fun e w' => e = .returned (.tuple #[.int .i64 0, .int .i64 0, .int .i64 50]) ∧ Below w.heap.size w w' := next5 ⟨#[97, 195, 169, 255]⟩ 3 w (by decide) (by decide) 0 0 50 (by decide +kernel)
theorem oa (w : World) : Calls Try.prog 11 #[.slice (some ⟨w.heap.size, 0, none⟩) 2 2] (w.alloc (.cells #[.int .i64 8364, .int .i64 9] 3)) fun e w' => e = .returned (.tuple #[.string ⟨#[226, 130, 172, 9]⟩, .int .i64 0]) ∧ Below w.heap.size w w' :=
  (of5 (some ⟨w.heap.size, 0, none⟩) 2 2 [8364, 9] (w.alloc (.cells #[.int .i64 8364, .int .i64 9] 3)) (RdG.newS w 3 [8364, 9]) rfl (by decide) ⟨#[226, 130, 172, 9]⟩ 0 (by decide +kernel)).mono fun e w' ⟨he, hb⟩ => ⟨he, stp (stpA (Below.refl _ w) _) hb⟩
theorem ob (w : World) : Calls Try.prog 11 #[.slice (some ⟨w.heap.size, 0, none⟩) 1 1] (w.alloc (.cells #[.int .i64 11] 3)) fun e w' => e = .returned (.tuple #[.string ⟨#[]⟩, .int .i64 50]) ∧ Below w.heap.size w w' :=
  (of5 (some ⟨w.heap.size, 0, none⟩) 1 1 [11] (w.alloc (.cells #[.int .i64 11] 3)) (RdG.newS w 3 [11]) rfl (by decide) ⟨#[]⟩ 50 (by decide +kernel)).mono fun e w' ⟨he, hb⟩ => ⟨he, stp (stpA (Below.refl _ w) _) hb⟩
theorem big_list : ∃ l : List UInt8, l.length = 16385 ∧ List.replicate 16385 (Value.int .u8 0) = Lib.byteCells l := ⟨List.replicate 16385 0, List.length_replicate, by rw [Lib.byteCells, List.map_replicate]; rfl⟩
theorem big_own {w : World} {base : Nat} {e : TypeId} {v : Value} {l : List UInt8} (h : w.ownsRow base e 1 v 16385 (madeCells (Value.int .u8 0).cells (16385 * 1)).toList) (hr : List.replicate 16385 (Value.int .u8 0) = Lib.byteCells l) : w.ownsRow base e 1 v 16385 (Lib.byteCells l) := by
  rw [← hr, ← toList_madeCells_one]
  exact h
/-- An operation whose guard lets it be done is done as without its guard. -/
theorem wpList_guarded {P : Program} {ops : Array Oper} {Q : Exit → Act → World → Prop} {a : Act} {w : World} {rest : List Oper} {o : Oper} (hw : Region.wanted o (yielded ops a.tmps) = true) (h : wpList P ops Q ({ o with guard := none } :: rest) a w) : wpList P ops Q (o :: rest) a w := by
  rw [wpList] at h ⊢
  rw [if_pos hw]
  rw [if_pos (show Region.wanted { o with guard := none } (yielded ops a.tmps) = true from rfl)] at h
  exact h
set_option maxHeartbeats 4000000 in
set_option maxRecDepth 100000 in
theorem walk (w : World) :
    Calls Try.prog 3 #[] w fun e w' => e = .returned (.bool true) ∧ Below w.heap.size w w' := by
  obtain ⟨i0, hi, hz0, hz1, hz2⟩ := info_parts infoU8
  have HI := Lib.hid hi
  have HZ0 := Lib.hid hz0
  have HZ1 := Lib.hid hz1
  have HZ2 := Lib.hid hz2
  obtain ⟨l, hl, hrep⟩ := big_list
  have HL := Lib.hid hl
  have HRP := Lib.hid hrep
  obtain ⟨t, ht⟩ : ∃ t : ByteArray, (⟨l.toArray⟩ : ByteArray) = t := ⟨_, rfl⟩
  have hts : t.size = 16385 := by rw [← ht, size_mk5, hl]
  have HC : Hid (chkE t = 4) := Lib.hid (by unfold chkE; rw [if_pos (by omega)])
  have HM : Hid (t.size ≤ 1000000) := Lib.hid (by omega)
  have HT := Lib.hid ht
  clear hi hz0 hz1 hz2 hl hrep ht hts
  go_enter Try.func3, Try.ntmps3
  go_wp2_with (first
    | (go_at_call 9; (with_reducible refine (ca w).mono ?_); rintro e w1 ⟨rfl, hb1⟩; have hB1 := hb1)
    | (go_at_call 9; (with_reducible refine (cb w1).mono ?_); rintro e w2 ⟨rfl, hb2⟩; have hB2 := stp hB1 hb2)
    | (go_at_call 9; (with_reducible refine (cc w2).mono ?_); rintro e w3 ⟨rfl, hb3⟩; have hB3 := stp hB2 hb3)
    | (go_at_call 9; (with_reducible refine (cd w3).mono ?_); rintro e w4 ⟨rfl, hb4⟩; have hB4 := stp hB3 hb4)
    | (go_at_call 9; (with_reducible refine (ce w4).mono ?_); rintro e w5 ⟨rfl, hb5⟩; have hB5 := stp hB4 hb5)
    | (go_at_call 10; (with_reducible refine (na w5).mono ?_); rintro e w6 ⟨rfl, hb6⟩; have hB6 := stp hB5 hb6)
    | (go_at_call 10; (with_reducible refine (nb w6).mono ?_); rintro e w7 ⟨rfl, hb7⟩; have hB7 := stp hB6 hb7)
    | (go_at_call 10; (with_reducible refine (nc w7).mono ?_); rintro e w8 ⟨rfl, hb8⟩; have hB8 := stp hB7 hb8)
    | (go_at_call 11; (with_reducible refine (oa w8).mono ?_); rintro e w9 ⟨rfl, hb9⟩; have hB9 := stp hB8 hb9)
    | (go_at_call 11; (with_reducible refine (ob w9).mono ?_); rintro e w10 ⟨rfl, hb10⟩; have hB10 := stp hB9 hb10)
    | (go_at_call 12; (with_reducible refine (alive5 w10).mono ?_); rintro e w11 ⟨rfl, hb11⟩; have hB11 := stp hB10 hb11)
    | (at_make; refine wpList_guarded rfl ?_; refine wpList_make_full _ rfl _ _ 30 rfl w.heap.size 5 i0 (.int .u8 0) 1 Try.underlying30 HI.out HZ0.out HZ1.out .i64 .i64 _ _ 16385 rfl rfl rfl rfl (by rw [HZ2.out]; decide) (by decide) hB11.size ?_; intro w12 hown hgr; have HO := Lib.hid (RdA.of_own (big_own hown HRP.out)); have hB12 := hB11.grown hgr hB11.size (by simp); clear hown hgr; have cv := conv_str (P := Try.prog) (c := 16385) HO.out.1 HO.out.2 Try.underlying30 Try.underlying5 Try.underlying9; rw [HT.out] at cv)
    | (go_at_call 9; (with_reducible refine (check5 t w12 HM.out 4 HC.out).mono ?_); rintro e w13 ⟨rfl, hb13⟩; have hB13 := stp hB12 hb13)
    | (go_at_call 9; (with_reducible refine (cf w13).mono ?_); rintro e w14 ⟨rfl, hb14⟩; have hB14 := stp hB13 hb14)
    | fail)
  go_ret
  exact ⟨rfl, hB14⟩

set_option maxRecDepth 100000 in
theorem lifted (os : Os) (started : os.Started) (H : Type) (enc : TypeId × Value → H) :
    ReturnsInHanded {} Try.checked os 3 .any (Rows.textNamesSpec.pre6 enc Try.prog Try.f3 Rows.textNamesRow.domain false) (Rows.textNamesSpec.post enc Try.prog Try.f3 false true false false) := by
  refine returnsInHanded_of_change (C := Try.checked) own started (by kernel_rfl) Try.func3
    (ChangeSpec.witness6 (enc := enc) (C := Try.checked) false ⟨#[], #[], []⟩ 8 (by kernel_rfl) (by kernel_rfl) (by kernel_rfl) (by kernel_rfl)) ?_
  intro W base args ds gs before hval0 hW hcnd _
  have hval : ∀ (j : Nat) t v, Try.f3.params[j]? = some t → args[j]? = some v → Value.okWide Try.prog W .any base t v := hval0
  have hW' := hW
  obtain ⟨p, q, hA0, hV, rfl, hfz, hnd⟩ := hW
  have hA : DataW.TrodAll enc Try.prog W 0 (fun _ => true) true Try.f3.params.toList args.toList ds p := hA0
  rw [Try.params3] at hA hval
  obtain ⟨rfl, rfl, rfl⟩ := trodAll_none hA
  obtain ⟨rfl, rfl⟩ := trodVars_none hV
  clear hA0 hval0
  refine (walk  W ).mono fun e W' ⟨he, bel⟩ => ?_
  subst he
  exact ⟨_, rfl, _, _, _, [], _, [], hW', trodAll_mk1 (shut_bool Try.underlying4 _), hA, rfl, bel.frame _, fun h => by cases h⟩

theorem over : Rows.textNamesRow.holds Try.pinned (OpenSpec.ofChange Rows.textNamesSpec) :=
  OpenClaim.holds_of_wide 3 Try.f3 rfl rfl rfl rfl rfl rfl rfl ⟨rfl, rfl, rfl, rfl, rfl⟩ rfl rfl rfl rfl rfl (by kernel_rfl) Try.func3 (by kernel_rfl)
    (of_decide_eq_true (by kernel_rfl)) (by unfold Func.isWrapper; first | (rw [if_pos (by decide +kernel)]; kernel_rfl) | (rw [if_neg (by decide +kernel)]; exact ⟨rfl, rfl⟩))
    (fun os started H enc _ => lifted os started H enc)

theorem proved : Rows.TextNamesSaid := over
end Go.Proofs.Ytjpebnnifbnjjaa.textNames
