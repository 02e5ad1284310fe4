/-
  The law of chain's numbers and examples answers true; no conditions.
-/
import Derived.Test.YtmjcmlaeajglmaaChnH
import Derived.Deep.RegionHeld3
import Derived.WalkKit
import Derived.ProofKit
import Derived.OpenShut
import Derived.ShutString
import Derived.ChangeOld
import Derived.Below
namespace Go.Proofs.Ytmjcmlaeajglmaa.chainNames
open Go.ChangeShapes Go.WideShapes Go.ChangeAt Go.RowKit
open Go.ChangeMaps (open_string shut_string)
open Hx Wd Sh
set_option linter.unusedVariables false

theorem own : ownKnob Try.prog.godebug = none := by kernel_rfl
theorem laidOut : laidOutB Try.prog = true := by kernel_rfl

set_option linter.unusedVariables false
theorem size_mk (l : List UInt8) : (⟨l.toArray⟩ : ByteArray).size = l.length := rfl
theorem big_list : ∃ l : List UInt8, l.length = 16385 ∧ List.replicate 16385 (Value.int .u8 0) = Lib.byteCells l := ⟨List.replicate 16385 0, List.length_replicate, by rw [Lib.byteCells, List.map_replicate]; rfl⟩
theorem big_own {w : World} {base : Nat} {e : TypeId} {v : Value} {l : List UInt8} (h : w.ownsRow base e 1 v 16385 (madeCells (Value.int .u8 0).cells (16385 * 1)).toList) (hr : List.replicate 16385 (Value.int .u8 0) = Lib.byteCells l) : w.ownsRow base e 1 v 16385 (Lib.byteCells l) := by
  rw [← hr, ← toList_madeCells_one]
  exact h
theorem take1 (w : World) : Calls Try.prog 20 #[.string ⟨#[97, 57, 57, 57, 51, 101, 51, 54, 52, 55, 48, 54, 56, 49, 54, 97, 98, 97, 51, 101, 50, 53, 55, 49, 55, 56, 53, 48, 99, 50, 54, 99, 57, 99, 100, 48, 100, 56, 57, 100]⟩, .string ⟨#[97, 98, 99]⟩, .string ⟨#[]⟩, .bool false] w fun e w' => e = .returned (.tuple #[.string ⟨#[]⟩, .int .i64 40]) ∧ Below w.heap.size w w' := take_no _ _ _ _ w (by decide +kernel)
theorem take2 (k2 : ByteArray) (h : fitB k2 ⟨#[97, 57, 57, 57, 51, 101, 51, 54, 52, 55, 48, 54, 56, 49, 54, 97, 98, 97, 51, 101, 50, 53, 55, 49, 55, 56, 53, 48, 99, 50, 54, 99, 57, 99, 100, 48, 100, 56, 57, 100]⟩ = true) (w : World) : Calls Try.prog 20 #[.string k2, .string ⟨#[97, 57, 57, 57, 51, 101, 51, 54, 52, 55, 48, 54, 56, 49, 54, 97, 98, 97, 51, 101, 50, 53, 55, 49, 55, 56, 53, 48, 99, 50, 54, 99, 57, 99, 100, 48, 100, 56, 57, 100]⟩, .string ⟨#[]⟩, .bool false] w fun e w' => e = .returned (.tuple #[.string ⟨#[97, 57, 57, 57, 51, 101, 51, 54, 52, 55, 48, 54, 56, 49, 54, 97, 98, 97, 51, 101, 50, 53, 55, 49, 55, 56, 53, 48, 99, 50, 54, 99, 57, 99, 100, 48, 100, 56, 57, 100]⟩, .int .i64 0]) ∧ Below w.heap.size w w' := take_old _ _ _ w h
theorem take3 (k2 : ByteArray) (h : fitB k2 ⟨#[97, 57, 57, 57, 51, 101, 51, 54, 52, 55, 48, 54, 56, 49, 54, 97, 98, 97, 51, 101, 50, 53, 55, 49, 55, 56, 53, 48, 99, 50, 54, 99, 57, 99, 100, 48, 100, 56, 57, 100]⟩ = true) (hk : isK k2 = true) (w : World) : Calls Try.prog 20 #[.string k2, .string ⟨#[97, 57, 57, 57, 51, 101, 51, 54, 52, 55, 48, 54, 56, 49, 54, 97, 98, 97, 51, 101, 50, 53, 55, 49, 55, 56, 53, 48, 99, 50, 54, 99, 57, 99, 100, 48, 100, 56, 57, 100]⟩, .string k2, .bool true] w fun e w' => e = .returned (.tuple #[.string k2, .int .i64 0]) ∧ Below w.heap.size w w' := take_new _ _ _ w h hk
theorem take4 (k2 : ByteArray) (h : fitB k2 ⟨#[97, 57, 57, 57, 51, 101, 51, 54, 52, 55, 48, 54, 56, 49, 54, 97, 98, 97, 51, 101, 50, 53, 55, 49, 55, 56, 53, 48, 99, 50, 54, 99, 57, 99, 100, 48, 100, 56, 57, 100]⟩ = true) (hk : isK ⟨#[110, 101, 119]⟩ = false) (w : World) : Calls Try.prog 20 #[.string k2, .string ⟨#[97, 57, 57, 57, 51, 101, 51, 54, 52, 55, 48, 54, 56, 49, 54, 97, 98, 97, 51, 101, 50, 53, 55, 49, 55, 56, 53, 48, 99, 50, 54, 99, 57, 99, 100, 48, 100, 56, 57, 100]⟩, .string ⟨#[110, 101, 119]⟩, .bool true] w fun e w' => e = .returned (.tuple #[.string ⟨#[]⟩, .int .i64 40]) ∧ Below w.heap.size w w' := take_bad _ _ _ w h hk
theorem take5 (k2 : ByteArray) (h : fitB k2 ⟨#[97, 57, 57, 57, 51, 101, 51, 54, 52, 55, 48, 54, 56, 49, 54, 97, 98, 97, 51, 101, 50, 53, 55, 49, 55, 56, 53, 48, 99, 50, 54, 99, 57, 99, 100, 48, 100, 56, 57, 100]⟩ = true) (w : World) : Calls Try.prog 20 #[.string k2, .string ⟨#[97, 57, 57, 57, 51, 101, 51, 54, 52, 55, 48, 54, 56, 49, 54, 97, 98, 97, 51, 101, 50, 53, 55, 49, 55, 56, 53, 48, 99, 50, 54, 99, 57, 99, 100, 48, 100, 56, 57, 100]⟩, .string ⟨#[110, 101, 119]⟩, .bool false] w fun e w' => e = .returned (.tuple #[.string ⟨#[97, 57, 57, 57, 51, 101, 51, 54, 52, 55, 48, 54, 56, 49, 54, 97, 98, 97, 51, 101, 50, 53, 55, 49, 55, 56, 53, 48, 99, 50, 54, 99, 57, 99, 100, 48, 100, 56, 57, 100]⟩, .int .i64 0]) ∧ Below w.heap.size w w' := take_old _ _ _ w h
theorem make1 (w : World) : Calls Try.prog 19 #[.string ⟨#[]⟩, .int .i64 (-1)] w fun e w' => e = .returned (.tuple #[.slice none 0 0, .int .i64 2]) ∧ Below w.heap.size w w' := make_arg _ _ w (.inl (by decide))
theorem make2 (w : World) : Calls Try.prog 19 #[.string ⟨#[]⟩, .int .i64 257] w fun e w' => e = .returned (.tuple #[.slice none 0 0, .int .i64 2]) ∧ Below w.heap.size w w' := make_arg _ _ w (.inr (by decide))
theorem make3 (w : World) : Calls Try.prog 19 #[.string ⟨#[]⟩, .int .i64 0] w fun e w' => (∃ A c, e = .returned (.tuple #[.slice A 0 c, .int .i64 0])) ∧ Below w.heap.size w w' :=
  (make_ok ⟨#[]⟩ 0 w (by decide) (by decide)).mono fun e w' ⟨hb, A, c, he, _⟩ => ⟨⟨A, c, he⟩, hb⟩

set_option maxHeartbeats 4000000 in
set_option maxRecDepth 100000 in
theorem walk (w : World) :
    Calls Try.prog 5 #[] w fun e w' => e = .returned (.bool true) ∧ Below w.heap.size w w' := by
  obtain ⟨i0, hi, hz0, hz1, hz2⟩ := info_parts info5
  have HI := Lib.hid hi
  have HZ0 := Lib.hid hz0
  have HZ1 := Lib.hid hz1
  have HZ2 := Lib.hid hz2
  obtain ⟨l, hl, hrep⟩ := big_list
  have HRP := Lib.hid hrep
  have hl2 := Lib.hid (show 16384 < (⟨l.toArray⟩ : ByteArray).size by rw [size_mk, hl]; decide)
  obtain ⟨k2, e1, e2, e3, e4, e5, e6, e7, e8, e9⟩ := abc_facts
  have E1 := Lib.hid e1
  have E2 := Lib.hid e2
  have E3 := Lib.hid e3
  have E5 := Lib.hid e5
  have E8 := Lib.hid e8
  clear hi hz0 hz1 hz2 hl hrep e1 e2 e3 e4 e5 e6 e7 e8 e9
  go_enter Try.func5, Try.ntmps5
  go_wp2_with (first
    | (go_at_call 18; (with_reducible refine (alive_any4 w).mono ?_); rintro e w1 ⟨rfl, hb1⟩)
    | (go_at_call 19; (with_reducible refine (make_abc k2 E1.out E2.out w1).mono ?_); rintro e w2 ⟨hb2, g, o, c, rfl, hg, c0, c1⟩; have hB2 := stp hb1 hb2)
    | (go_at_call 20; (with_reducible refine (take1 w2).mono ?_); rintro e w3 ⟨rfl, hb3⟩; have hB3 := stp hB2 hb3; have c3 := (hb3.cell (p := ⟨g, o + 1, none⟩) hg).trans c1)
    | (go_at_call 20; (with_reducible refine (take2 k2 E3.out w3).mono ?_); rintro e w4 ⟨rfl, hb4⟩; have hB4 := stp hB3 hb4; have c4 := ((stp hb3 hb4).cell (p := ⟨g, o + 1, none⟩) hg).trans c1)
    | fail)
  have hg4 : g < w4.heap.size := Nat.lt_of_lt_of_le hg (stp hb3 hb4).size
  have C4 := Lib.hid c4
  go_region_held3 (fun w' => w'.cell? ⟨g, o + 1, none⟩ = some (.string k2)) (first | (exact (hb5'.cell (p := ⟨g, o + 1, none⟩) hg4).trans C4.out) | (go_keep; done))
    ((go_at_call 20; (with_reducible refine (take3 k2 E3.out E5.out w4.drew).mono ?_); rintro e w5 ⟨rfl, hb5⟩; have hb5' := below_of_drew hb5))
  have c5 := (hb5'.cell (p := ⟨g, o + 1, none⟩) hg4).trans C4.out
  have hB5 := stp hB4 hb5'
  clear c0 c1 c3 c4
  have hg5 : g < w5.heap.size := Nat.lt_of_lt_of_le hg4 hb5'.size
  have C5 := Lib.hid c5
  go_wp2_with (first
    | (go_at_call 20; (with_reducible refine (take4 k2 E3.out E8.out w5).mono ?_); rintro e w6 ⟨rfl, hb6⟩; have hB6 := stp hB5 hb6; have c6 := (hb6.cell (p := ⟨g, o + 1, none⟩) hg5).trans C5.out)
    | (go_at_call 20; (with_reducible refine (take5 k2 E3.out w6).mono ?_); rintro e w7 ⟨rfl, hb7⟩; have hB7 := stp hB6 hb7; have hD7 := stp hb6 hb7)
    | (go_at_call 19; (with_reducible refine (make1 w7).mono ?_); rintro e w8 ⟨rfl, hb8⟩; have hB8 := stp hB7 hb8; have hD8 := stp hD7 hb8)
    | (go_at_call 19; (with_reducible refine (make2 w8).mono ?_); rintro e w9 ⟨rfl, hb9⟩; have hB9 := stp hB8 hb9; have hD9 := stp hD8 hb9)
    | (go_at_call 19; (with_reducible refine (make3 w9).mono ?_); rintro e w10 ⟨⟨A10, c10, rfl⟩, hb10⟩; have hB10 := stp hB9 hb10; have hD10 := stp hD9 hb10)
    | (at_make; refine wpList_make_full _ rfl _ _ 22 rfl w10.heap.size 5 i0 (.int .u8 0) 1 Try.underlying22 HI.out HZ0.out HZ1.out .i64 .i64 _ _ 16385 rfl rfl rfl rfl (by rw [HZ2.out]; decide) (by decide) (Nat.le_refl _) ?_; intro w11 hown hgr; have HO5 := Lib.hid (RdA.of_own (big_own hown HRP.out)); have hb11 := (Below.refl w10.heap.size w10).grown hgr (Nat.le_refl _) (by simp); have hB11 := stp hB10 hb11; have hD11 := stp hD10 hb11; clear hown hgr; have cv := conv_str (P := Try.prog) (c := 16385) HO5.out.1 HO5.out.2 Try.underlying22 Try.underlying5 Try.underlying9)
    | (go_at_call 21; (with_reducible refine (next_many ⟨l.toArray⟩ w11 hl2.out).mono ?_); rintro e w12 ⟨rfl, hb12⟩; have hB12 := stp hB11 hb12; have hD12 := stp hD11 hb12; have c12 := (hD12.cell (p := ⟨g, o + 1, none⟩) hg5).trans C5.out)
    | fail)
  go_ret
  exact ⟨rfl, hB12⟩

set_option maxRecDepth 100000 in
theorem lifted (os : Os) (started : os.Started) (H : Type) (enc : TypeId × Value → H) :
    ReturnsInHanded {} Try.checked os 5 .any (Rows.chainNamesSpec.pre6 enc Try.prog Try.f5 Rows.chainNamesRow.domain false) (Rows.chainNamesSpec.post enc Try.prog Try.f5 false true false false) := by
  refine returnsInHanded_of_change (C := Try.checked) own started (by kernel_rfl) Try.func5
    (ChangeSpec.witness6 (enc := enc) (C := Try.checked) false ⟨#[], #[], []⟩ 8 (by kernel_rfl) (by kernel_rfl) (by kernel_rfl) (by kernel_rfl)) ?_
  intro W base args ds gs before hval0 hW hcnd _
  have hval : ∀ (j : Nat) t v, Try.f5.params[j]? = some t → args[j]? = some v → Value.okWide Try.prog W .any base t v := hval0
  have hW' := hW
  obtain ⟨p, q, hA0, hV, rfl, hfz, hnd⟩ := hW
  have hA : DataW.TrodAll enc Try.prog W 0 (fun _ => true) true Try.f5.params.toList args.toList ds p := hA0
  rw [Try.params5] at hA hval
  obtain ⟨rfl, rfl, rfl⟩ := trodAll_none hA
  obtain ⟨rfl, rfl⟩ := trodVars_none hV
  clear hA0 hval0
  refine (walk  W ).mono fun e W' ⟨he, bel⟩ => ?_
  subst he
  exact ⟨_, rfl, _, _, _, [], _, [], hW', trodAll_mk1 (shut_bool Try.underlying4 _), hA, rfl, bel.frame _, fun h => by cases h⟩

theorem over : Rows.chainNamesRow.holds Try.pinned (OpenSpec.ofChange Rows.chainNamesSpec) :=
  OpenClaim.holds_of_wide 5 Try.f5 rfl rfl rfl rfl rfl rfl rfl ⟨rfl, rfl, rfl, rfl, rfl⟩ rfl rfl rfl rfl rfl (by kernel_rfl) Try.func5 (by kernel_rfl)
    (of_decide_eq_true (by kernel_rfl)) (by unfold Func.isWrapper; first | (rw [if_pos (by decide +kernel)]; kernel_rfl) | (rw [if_neg (by decide +kernel)]; exact ⟨rfl, rfl⟩))
    (fun os started H enc _ => lifted os started H enc)

theorem proved : Rows.ChainNamesSaid := over
end Go.Proofs.Ytmjcmlaeajglmaa.chainNames
