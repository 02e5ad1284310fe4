/-
  TreeNames: the limits' and errors' numbers, and the chapter's examples.
-/
import Derived.Test.YtbjgfaflikgobaaGreatDoorH43
import Derived.Test.YtbjgfaflikgobaaGreatDoorCards
import Derived.Test.YtbjgfaflikgobaaGreatDoorTie
import Derived.LaidMore
import Derived.LaidSub
import Derived.MakeChecks
import Derived.Stop.Joined
import Derived.Lib.LaidTab
import Derived.SevenTiedAt
import Derived.Lay
import Derived.Stop.LaidErr
import Derived.WalkKit
import Derived.ProofKit
import Derived.OpenShut
import Derived.ShutString
import Derived.ChangeOld
import Derived.Below
namespace Go.Proofs.YtbjgfaflikgobaaGreatDoor.treeNames
open Go.ChangeShapes Go.WideShapes Go.ChangeAt Go.RowKit
open Go.ChangeMaps (open_string shut_string)
open Hx Lx Tr Tx Nmb Es
set_option linter.unusedVariables false

theorem own : ownKnob Tryz.prog.godebug = none := by kernel_rfl
theorem laidOut : laidOutB Tryz.prog = true := by kernel_rfl

set_option maxRecDepth 100000 in
theorem nm_o0 (w : World) (hE : Ev9 w := by first | assumption | exact Ev9.to (by assumption) (by assumption)) : Calls Tryz.prog 12 #[.string ⟨#[60, 97, 62, 60, 47, 98, 62]⟩, .int .i64 80] w fun e w' => e = .returned (.bool true) ∧ Below w.heap.size w w' := odd_yes10 _ 80 w (by decide) (by decide +kernel)
set_option maxRecDepth 100000 in
theorem nm_o1 (w : World) (hE : Ev9 w := by first | assumption | exact Ev9.to (by assumption) (by assumption)) : Calls Tryz.prog 12 #[.string ⟨#[60, 97, 62]⟩, .int .i64 80] w fun e w' => e = .returned (.bool true) ∧ Below w.heap.size w w' := odd_yes10 _ 80 w (by decide) (by decide +kernel)
set_option maxRecDepth 100000 in
theorem nm_o2 (w : World) (hE : Ev9 w := by first | assumption | exact Ev9.to (by assumption) (by assumption)) : Calls Tryz.prog 12 #[.string ⟨#[60, 97, 47, 62, 60, 98, 47, 62]⟩, .int .i64 80] w fun e w' => e = .returned (.bool true) ∧ Below w.heap.size w w' := odd_yes10 _ 80 w (by decide) (by decide +kernel)
set_option maxRecDepth 100000 in
theorem nm_o3 (w : World) (hE : Ev9 w := by first | assumption | exact Ev9.to (by assumption) (by assumption)) : Calls Tryz.prog 12 #[.string ⟨#[116, 60, 97, 47, 62]⟩, .int .i64 80] w fun e w' => e = .returned (.bool true) ∧ Below w.heap.size w w' := odd_yes10 _ 80 w (by decide) (by decide +kernel)
set_option maxRecDepth 100000 in
theorem nm_o4 (w : World) (hE : Ev9 w := by first | assumption | exact Ev9.to (by assumption) (by assumption)) : Calls Tryz.prog 12 #[.string ⟨#[]⟩, .int .i64 80] w fun e w' => e = .returned (.bool true) ∧ Below w.heap.size w w' := odd_yes10 _ 80 w (by decide) (by decide +kernel)
set_option maxRecDepth 100000 in
theorem nm_o5 (w : World) (hE : Ev9 w := by first | assumption | exact Ev9.to (by assumption) (by assumption)) : Calls Tryz.prog 12 #[.string ⟨#[60, 47, 97, 62]⟩, .int .i64 80] w fun e w' => e = .returned (.bool true) ∧ Below w.heap.size w w' := odd_yes10 _ 80 w (by decide) (by decide +kernel)
set_option maxRecDepth 100000 in
theorem nm_o6 (w : World) (hE : Ev9 w := by first | assumption | exact Ev9.to (by assumption) (by assumption)) : Calls Tryz.prog 12 #[.string ⟨#[32, 10]⟩, .int .i64 80] w fun e w' => e = .returned (.bool true) ∧ Below w.heap.size w w' := odd_yes10 _ 80 w (by decide) (by decide +kernel)
set_option maxHeartbeats 16000000 in
set_option maxRecDepth 100000 in
theorem walk (w : World) (hE : Ev9 w := by first | assumption | exact Ev9.to (by assumption) (by assumption)) : Calls Tryz.prog 3 #[] w fun e w' => e = .returned (.bool true) ∧ Below w.heap.size w w' := by
  go_enter Tryz.func3, Tryz.ntmps3
  go_wp2_with (first
    | (go_at_call 12; (with_reducible refine (nm_o0 w (by assumption)).mono ?_); rintro e1 w1 ⟨rfl, hb1⟩; have HB1 : Hid (Below w.heap.size w w1) := Lib.hid (hb1); have hE1 : Ev9 w1 := hE.to HB1.out; clear hb1)
    | (go_at_call 12; (with_reducible refine (nm_o1 w1 (by assumption)).mono ?_); rintro e2 w2 ⟨rfl, hb2⟩; have HB2 : Hid (Below w.heap.size w w2) := Lib.hid (stp HB1.out hb2); have hE2 : Ev9 w2 := hE.to HB2.out; clear hb2)
    | (go_at_call 12; (with_reducible refine (nm_o2 w2 (by assumption)).mono ?_); rintro e3 w3 ⟨rfl, hb3⟩; have HB3 : Hid (Below w.heap.size w w3) := Lib.hid (stp HB2.out hb3); have hE3 : Ev9 w3 := hE.to HB3.out; clear hb3)
    | (go_at_call 12; (with_reducible refine (nm_o3 w3 (by assumption)).mono ?_); rintro e4 w4 ⟨rfl, hb4⟩; have HB4 : Hid (Below w.heap.size w w4) := Lib.hid (stp HB3.out hb4); have hE4 : Ev9 w4 := hE.to HB4.out; clear hb4)
    | (go_at_call 12; (with_reducible refine (nm_o4 w4 (by assumption)).mono ?_); rintro e5 w5 ⟨rfl, hb5⟩; have HB5 : Hid (Below w.heap.size w w5) := Lib.hid (stp HB4.out hb5); have hE5 : Ev9 w5 := hE.to HB5.out; clear hb5)
    | (go_at_call 12; (with_reducible refine (nm_o5 w5 (by assumption)).mono ?_); rintro e6 w6 ⟨rfl, hb6⟩; have HB6 : Hid (Below w.heap.size w w6) := Lib.hid (stp HB5.out hb6); have hE6 : Ev9 w6 := hE.to HB6.out; clear hb6)
    | (go_at_call 12; (with_reducible refine (nm_o6 w6 (by assumption)).mono ?_); rintro e7 w7 ⟨rfl, hb7⟩; have HB7 : Hid (Below w.heap.size w w7) := Lib.hid (stp HB6.out hb7); have hE7 : Ev9 w7 := hE.to HB7.out; clear hb7)
    | fail)
  go_loopg [2, 3, 4] 12 (fun gg v2 v3 vi wr => ∃ (k : Nat) (y z : ByteArray), k + gg = 12 ∧ vi = .int .i64 k ∧ v2 = .string y ∧ v3 = .string z ∧ Hid (y.data.toList = repL opL k) ∧ Hid (z.data.toList = repL shL k) ∧ y.size = 3 * k ∧ z.size = 4 * k ∧ wr = w7)
  case atStart => exact ⟨0, ⟨#[]⟩, ⟨#[]⟩, by omega, rfl, rfl, rfl, Lib.hid rfl, Lib.hid rfl, rfl, rfl, rfl⟩
  case round =>
    obtain ⟨k, y, z, hk, rfl, rfl, rfl, hy, hz, hys, hzs, rfl⟩ := hrel
    by_cases hlt : k < 12
    · have bk : (k : Int) < 12 := by omega
      have l5 : ¬ 9223372036854775807 < y.size + 3 := by omega
      have l6 : ¬ 9223372036854775807 < z.size + 4 := by omega
      have HNY : Hid ((y ++ (⟨#[60, 97, 62]⟩ : ByteArray)).data.toList = repL opL (k + 1)) := Lib.hid (by rw [ba_app, hy.out]; rfl)
      have HNZ : Hid ((z ++ (⟨#[60, 47, 97, 62]⟩ : ByteArray)).data.toList = repL shL (k + 1)) := Lib.hid (by rw [ba_app, hz.out]; rfl)
      have HSY : Hid ((y ++ (⟨#[60, 97, 62]⟩ : ByteArray)).size = 3 * (k + 1)) := Lib.hid (by rw [← ba_l, ba_app, List.length_append, ba_l, hys]; rfl)
      have HSZ : Hid ((z ++ (⟨#[60, 47, 97, 62]⟩ : ByteArray)).size = 4 * (k + 1)) := Lib.hid (by rw [← ba_l, ba_app, List.length_append, ba_l, hzs]; rfl)
      clear hy hz hys hzs
      go_wp2_with fail
      go_roundg (gk - 1)
      case rel => exact ⟨k + 1, _, _, by omega, by go_num, rfl, rfl, HNY, HNZ, HSY.out, HSZ.out, rfl⟩
      case measure => omega
    · obtain rfl : 12 = k := by omega
      have l1 : ¬ 9223372036854775807 < 1 + y.size := by omega
      have l2 : ¬ 9223372036854775807 < 1 + y.size + z.size := by omega
      have l3 : ¬ 9223372036854775807 < 1 + y.size + z.size + 1 := by omega
      have l4 : ¬ 9223372036854775807 < y.size + 4 := by omega
      have l5 : ¬ 9223372036854775807 < y.size + 4 + z.size := by omega
      have HBR := HB7
      have HP1 := Lib.hid (lparse10 ((⟨#[32]⟩ : ByteArray) ++ y ++ z ++ ⟨#[10]⟩) wr (by
        rw [← ba_l]
        simp only [ba_app, List.length_append, ba_l, hys, hzs]
        decide) nestV 0 12 (by rw [ba_app, ba_app, ba_app, hy.out, hz.out]; exact nest_12) rfl hE7)
      have HP2 : Hid (∀ W, Ev9 W → Calls Tryz.prog 12 #[.string (y ++ (⟨#[60, 97, 47, 62]⟩ : ByteArray) ++ z), .int .i64 100] W fun e w' => e = .returned (.bool true) ∧ Below W.heap.size W w') := Lib.hid fun W hW => odd_yes10 _ 100 W (by
        rw [← ba_l]
        simp only [ba_app, List.length_append, ba_l, hys, hzs]
        decide) (by rw [ba_app, ba_app, hy.out, hz.out]; exact nest_13) hW
      have HP3 : Hid (∀ W, Ev9 W → Calls Tryz.prog 13 #[.string ⟨#[60, 97, 62, 120, 60, 98, 62, 121, 60, 47, 98, 62, 122, 60, 47, 97, 62]⟩] W fun e w' => ∃ A c, e = .returned (.tuple #[.slice A 5 c, .int .i64 0]) ∧ RdB NdS w' A v5 ∧ 5 ≤ c ∧ c ≤ maxLen ∧ (A = none → c = 0) ∧ Below W.heap.size W w') := Lib.hid fun W hW => lparse10 _ W (by decide) v5 0 5 v5_read rfl hW
      have HZC : Hid (∀ (W0 W1 W : World) (A : Option Addr), RdZ W1 W1.heap.size A (zs [1, 2, 4]) → Below W1.heap.size W1 W → ∃ b off, A = some ⟨b, off, none⟩ ∧ W.cell? ⟨b, off, none⟩ = some (.int .i64 1) ∧ W.cell? ⟨b, off + 1, none⟩ = some (.int .i64 2) ∧ W.cell? ⟨b, off + 2, none⟩ = some (.int .i64 4)) := Lib.hid fun W0 W1 W A h hb => by
        obtain ⟨b, off, rfl, hl, hc⟩ := h (by decide)
        exact ⟨b, off, rfl, (hb.cell (p := ⟨b, off + 0, none⟩) hl).trans (hc 0 (by decide)), (hb.cell (p := ⟨b, off + 1, none⟩) hl).trans (hc 1 (by decide)), (hb.cell (p := ⟨b, off + 2, none⟩) hl).trans (hc 2 (by decide))⟩
      have HC0 : Hid (∀ W, Calls Tryz.prog 20 #[.slice none 0 0] W fun e w' => e = .returned (.int .i64 8) ∧ Below W.heap.size W w') := Lib.hid fun W => checkv none 0 0 [] W (RdS.nil _ _ _) rfl (by decide) (fun _ m h => (by cases h)) 8 e_bad.2.2
      have HC1 : Hid (∀ A W, RdB NdS W A e1 → Calls Tryz.prog 20 #[.slice A 1 1] W fun e w' => e = .returned (.int .i64 8) ∧ Below W.heap.size W w') := Lib.hid fun A W h => checkv A 1 1 e1 W h rfl (by decide) (fun _ => e_small.1) 8 e_bad.1
      have HC2 : Hid (∀ A W, RdB NdS W A e2 → Calls Tryz.prog 20 #[.slice A 2 2] W fun e w' => e = .returned (.int .i64 8) ∧ Below W.heap.size W w') := Lib.hid fun A W h => checkv A 2 2 e2 W h rfl (by decide) (fun _ => e_small.2) 8 e_bad.2.1
      have HS2 : Hid (∀ A c W, RdB NdS W A v5 → 5 ≤ c → Calls Tryz.prog 16 #[.slice A 5 c, .int .i64 2] W fun e w' => ∃ A c, e = .returned (.tuple #[.slice A 2 c, .int .i64 0]) ∧ NdOut W.heap.size W v2 A c w' ∧ Below W.heap.size W w') := Lib.hid fun A c W h hc => (sub10 A 5 c v5 2 W h rfl hc (by decide) (fun _ => v5_small)).mono fun e w' h => h.with v5_facts.2.2.2.1 rfl
      have HS1 : Hid (∀ A c W, RdB NdS W A v5 → 5 ≤ c → Calls Tryz.prog 16 #[.slice A 5 c, .int .i64 1] W fun e w' => ∃ A c, e = .returned (.tuple #[.slice A 0 c, .int .i64 2]) ∧ NdOut W.heap.size W [] A c w' ∧ Below W.heap.size W w') := Lib.hid fun A c W h hc => (sub10 A 5 c v5 1 W h rfl hc (by decide) (fun _ => v5_small)).mono fun e w' h => h.with v5_facts.2.2.2.2.1 rfl
      have HK0 : Hid (∀ A c W, RdB NdS W A v5 → Calls Tryz.prog 14 #[.slice A 5 c, .int .i64 0] W fun e w' => Below W.heap.size W w' ∧ ∃ A c, e = .returned (.tuple #[.slice A 3 c, .int .i64 0]) ∧ (A = none → c = 0) ∧ RdZ w' w'.heap.size A (zs [1, 2, 4])) := Lib.hid fun A c W h => kids10 A 5 c v5 0 W h rfl (by decide) (fun _ => v5_small) 0 v5_facts.1 [1, 2, 4] v5_facts.2.1
      have HK5 : Hid (∀ A c W, RdB NdS W A v5 → Calls Tryz.prog 14 #[.slice A 5 c, .int .i64 5] W fun e w' => Below W.heap.size W w' ∧ ∃ A c, e = .returned (.tuple #[.slice A 0 c, .int .i64 2]) ∧ (A = none → c = 0) ∧ RdZ w' w'.heap.size A (zs [])) := Lib.hid fun A c W h => kids10 A 5 c v5 5 W h rfl (by decide) (fun _ => v5_small) 2 v5_facts.2.2.2.2.2.1 [] v5_facts.2.2.2.2.2.2
      clear hy hz
      go_wp2_with (first
        | (go_at_call 13; (with_reducible refine (HP1.out).mono ?_); rintro e11 w11 ⟨A11, c11, rfl, -, -, -, -, hb11⟩; have HB11 : Hid (Below w.heap.size w w11) := Lib.hid (stp HBR.out hb11); have hE11 : Ev9 w11 := hE.to HB11.out; clear hb11)
        | (go_at_call 12; (with_reducible refine (HP2.out w11 (by assumption)).mono ?_); rintro e12 w12 ⟨rfl, hb12⟩; have HB12 : Hid (Below w.heap.size w w12) := Lib.hid (stp HB11.out hb12); have hE12 : Ev9 w12 := hE.to HB12.out; clear hb12)
        | (go_at_call 13; (with_reducible refine (HP3.out w12 (by assumption)).mono ?_); rintro e13 w13 ⟨A13, c13, rfl, hr13, hn13, hm13, hz13, hb13⟩; have HB13 : Hid (Below w.heap.size w w13) := Lib.hid (stp HB12.out hb13); have HR13 := Lib.hid hr13; have HC13 := Lib.hid hn13; clear hb13 hr13 hn13 hm13 hz13)
        | (go_at_call 14; (with_reducible refine (HK0.out A13 c13 w13 HR13.out).mono ?_); rintro e14 w14 ⟨hb14, A14, c14, rfl, -, hr14⟩; have HK14 := Lib.hid hb14; have HB14 : Hid (Below w.heap.size w w14) := Lib.hid (stp HB13.out hb14); have HZ14 := Lib.hid hr14; clear hb14 hr14)
        | (go_at_call 15; (with_reducible refine (words10 A13 5 c13 v5 0 w14 (HR13.out.on HK14.out) rfl (by decide) (fun _ => v5_small) 0 v5_facts.1 ⟨#[120, 122]⟩ v5_facts.2.2.1).mono ?_); rintro e15 w15 ⟨rfl, hb15⟩; have HK15 := Lib.hid (stp HK14.out hb15); have HY15 := Lib.hid hb15; have HB15 : Hid (Below w.heap.size w w15) := Lib.hid (stp HB14.out hb15); clear hb15)
        | (go_at_call 16; (with_reducible refine (HS2.out A13 c13 w15 (HR13.out.on HK15.out) HC13.out).mono ?_); rintro e16 w16 ⟨A16, c16, rfl, ho16, hb16⟩; have HK16 := Lib.hid (stp HK15.out hb16); have HY16 := Lib.hid (stp HY15.out hb16); have HO16 := Lib.hid ho16; have HB16 : Hid (Below w.heap.size w w16) := Lib.hid (stp HB15.out hb16); clear hb16 ho16)
        | (go_at_call 16; (with_reducible refine (HS1.out A13 c13 w16 (HR13.out.on HK16.out) HC13.out).mono ?_); rintro e17 w17 ⟨A17, c17, rfl, -, hb17⟩; have HK17 := Lib.hid (stp HK16.out hb17); have HY17 := Lib.hid (stp HY16.out hb17); have HO17 := Lib.hid (HO16.out.below hb17); have HB17 : Hid (Below w.heap.size w w17) := Lib.hid (stp HB16.out hb17); clear hb17)
        | (go_at_call 14; (with_reducible refine (HK5.out A13 c13 w17 (HR13.out.on HK17.out)).mono ?_); rintro e18 w18 ⟨hb18, A18, c18, rfl, -, -⟩; have HO18 := Lib.hid (HO17.out.below hb18); have HB18 : Hid (Below w.heap.size w w18) := Lib.hid (stp HB17.out hb18); obtain ⟨zb, zo, rfl, z0, z1, z2⟩ := HZC.out w18 w14 w18 A14 HZ14.out (stp HY17.out hb18); clear hb18)
        | (go_at_call 18; (with_reducible refine (elem10 ⟨#[98]⟩ 1 w18).mono ?_); rintro e19 w19 ⟨rfl, hb19⟩; have HO19 := Lib.hid (HO18.out.below hb19); have HB19 : Hid (Below w.heap.size w w19) := Lib.hid (stp HB18.out hb19); clear hb19)
        | (go_at_call 17; (with_reducible refine (rsame10 A16 _ 2 c16 2 2 v2 v2 _ (HO19.out.below (stpA (Below.refl _ _) _)).all rfl (v2_row w19 _) rfl (by decide) (by decide) (fun t ht => (v2_small t ht).attrs) (fun t ht => (v2_small t ht).attrs) true (decide_eq_true rfl)).mono ?_); rintro e20 w20 ⟨rfl, hb20⟩; have HB20 : Hid (Below w.heap.size w w20) := Lib.hid (stp (stpA HB19.out _) hb20); have hE20 : Ev9 w20 := hE.to HB20.out; clear hb20)
        | (go_at_call 19; (with_reducible refine (alive10 w20 (by assumption)).mono ?_); rintro e21 w21 ⟨rfl, hb21⟩; have HB21 : Hid (Below w.heap.size w w21) := Lib.hid (stp HB20.out hb21); clear hb21)
        | (go_at_call 20; (with_reducible refine (HC0.out w21).mono ?_); rintro e22 w22 ⟨rfl, hb22⟩; have HB22 : Hid (Below w.heap.size w w22) := Lib.hid (stp HB21.out hb22); clear hb22)
        | (go_at_call 18; (with_reducible refine (elem10 ⟨#[97]⟩ 1 w22).mono ?_); rintro e25 w25 ⟨rfl, hb25⟩; have HB25 : Hid (Below w.heap.size w w25) := Lib.hid (stp HB22.out hb25); clear hb25)
        | (go_at_call 20; (with_reducible refine (HC1.out _ _ (e1_row w25 _)).mono ?_); rintro e23 w23 ⟨rfl, hb23⟩; have HB23 : Hid (Below w.heap.size w w23) := Lib.hid (stp (stpA HB25.out _) hb23); clear hb23)
        | (go_at_call 18; (with_reducible refine (elem10 ⟨#[97]⟩ 0 w23).mono ?_); rintro e26 w26 ⟨rfl, hb26⟩; have HB26 : Hid (Below w.heap.size w w26) := Lib.hid (stp HB23.out hb26); clear hb26)
        | (go_at_call 18; (with_reducible refine (elem10 ⟨#[98]⟩ 0 w26).mono ?_); rintro e27 w27 ⟨rfl, hb27⟩; have HB27 : Hid (Below w.heap.size w w27) := Lib.hid (stp HB26.out hb27); clear hb27)
        | (go_at_call 20; (with_reducible refine (HC2.out _ _ (e2_row w27 _)).mono ?_); rintro e24 w24 ⟨rfl, hb24⟩; have HB24 : Hid (Below w.heap.size w w24) := Lib.hid (stp (stpA HB27.out _) hb24); clear hb24)
        | fail)
      go_ret
      exact ⟨rfl, HB24.out⟩

theorem gErr : Tryz.prog.globalNamed "strconv.ErrSyntax" = some 6 := by kernel_rfl
theorem gErrT : (Tryz.prog.globals[6]?).map (·.type) = some 74 := by kernel_rfl
theorem starE : "*" ++ "errors.errorString" = "*errors.errorString" := by decide
theorem rowE (u : TypeId) (h : Tryz.prog.typeName? 3 u = some "*errors.errorString") : u = 233 :=
  typeName_ptr_named (nm := "errors.errorString") (by rw [starE]; kernel_rfl) (by kernel_rfl) (by decide) u (by rw [starE]; exact h)
theorem erred {W : World} (h : laidMetH Tryz.prog Rows.treeNamesRow.laid W) : Ev W := by
  rw [MakeChecks.laidMetH_plain _ _ _ (by kernel_rfl)] at h
  have h2 := laidMet.filter (fun x => x.1 == "strconv.ErrSyntax") h
  have e : Rows.treeNamesRow.laid.filter (fun x => x.1 == "strconv.ErrSyntax") = [("strconv.ErrSyntax", Rows.laid_strconv_ErrSyntax)] := by kernel_rfl
  rw [e] at h2
  obtain ⟨a, s, h3, _⟩ := laid_sentinel (r := []) h2 gErr gErrT Tryz.underlying74 rowE Tryz.underlying233 Tryz.underlying235 rfl rfl Tryz.underlying9 (by kernel_rfl) (by kernel_rfl)
  exact ⟨_, _, by simpa using World.var?_cell gErr h3 0⟩
theorem reads_first {W : World} (h : laidMetH Tryz.prog Rows.treeNamesRow.laid W) : Lib.VarReads Tryz.prog W "unicode/utf8.first" Lib.firstData := by
  rw [MakeChecks.laidMetH_plain _ _ _ (by kernel_rfl)] at h
  have h2 := laidMet.filter (fun x => x.1 == "unicode/utf8.first") h
  have e : Rows.treeNamesRow.laid.filter (fun x => x.1 == "unicode/utf8.first") = [("unicode/utf8.first", Lib.firstData)] := by kernel_rfl
  rw [e] at h2
  exact Lib.laidMet.reads h2 (.head _)
theorem reads_acceptRanges {W : World} (h : laidMetH Tryz.prog Rows.treeNamesRow.laid W) : Lib.VarReads Tryz.prog W "unicode/utf8.acceptRanges" Lib.acceptData := by
  rw [MakeChecks.laidMetH_plain _ _ _ (by kernel_rfl)] at h
  have h2 := laidMet.filter (fun x => x.1 == "unicode/utf8.acceptRanges") h
  have e : Rows.treeNamesRow.laid.filter (fun x => x.1 == "unicode/utf8.acceptRanges") = [("unicode/utf8.acceptRanges", Lib.acceptData)] := by kernel_rfl
  rw [e] at h2
  exact Lib.laidMet.reads h2 (.head _)
theorem laid9 {W : World} (h : laidMetH Tryz.prog Rows.treeNamesRow.laid W) : Ev9 W := ⟨erred h, tabs9 (reads_first h) (reads_acceptRanges h)⟩
set_option maxRecDepth 100000 in
theorem lifted (os : Os) (started : os.Started) (H : Type) (enc : TypeId × Value → H) :
    ReturnsInHanded {} Tryz.checked os 3 .any (fun w args => (Rows.treeNamesSpec.pre enc Tryz.prog Tryz.f3 [] false w args ∧ laidMetH Tryz.prog Rows.treeNamesRow.laid w) ∧ sizedMet enc Tryz.prog Tryz.f3 (OpenSpec.ofChange Rows.treeNamesSpec) false w args) (Rows.treeNamesSpec.post enc Tryz.prog Tryz.f3 false true false false) := by
  refine returnsInHanded_of_change_and (C := Tryz.checked) (X := fun w _ => laidMetH Tryz.prog Rows.treeNamesRow.laid w) (fun _ _ _ hh h => h.of_heap hh) own started (by kernel_rfl) Tryz.func3
    (ChangeSpec.witness_shaped (enc := enc) (C := Tryz.checked) (os := os) (X := fun w _ => laidMetH Tryz.prog Rows.treeNamesRow.laid w) false (World.laidAll Tryz.prog os Rows.treeNamesRow.laid) #[] 8 (World.laidAll_os _ _ _) (World.shaped_of_ZipB (by kernel_rfl) (by kernel_rfl)) (by kernel_rfl) (by kernel_rfl) (by kernel_rfl)
      (by rw [MakeChecks.laidMetH_plain _ _ _ (by kernel_rfl)]; exact laidMet_laidAll _ (by kernel_rfl) (by kernel_rfl))) ?_
  intro W base args ds gs before hval0 hW _ _ hL _
  have hval : ∀ (j : Nat) t v, Tryz.f3.params[j]? = some t → args[j]? = some v → Value.okWide Tryz.prog W .any base t v := hval0
  have hW' := hW
  obtain ⟨p, q, hA0, hV, rfl, hfz, hnd⟩ := hW
  have hA : DataW.TrodAll enc Tryz.prog W 0 (fun _ => true) true Tryz.f3.params.toList args.toList ds p := hA0
  rw [Tryz.params3] at hA hval
  obtain ⟨rfl, rfl, rfl⟩ := trodAll_none hA
  obtain ⟨rfl, rfl⟩ := trodVars_none hV
  clear hA0 hval0
  refine (walk  W (laid9 hL)).mono fun e W' ⟨he, bel⟩ => ?_
  subst he
  exact ⟨_, rfl, _, _, _, [], _, [], hW', trodAll_mk1 (shut_bool Tryz.underlying4 _), hA, rfl, bel.frame _, fun h => by cases h⟩

theorem over : Rows.treeNamesRow.holds Tryz.pinned (OpenSpec.ofChange Rows.treeNamesSpec) :=
  OpenClaim.holds_of_wide 3 Tryz.f3 rfl rfl rfl rfl rfl rfl rfl ⟨rfl, rfl, rfl, rfl, rfl⟩ rfl rfl rfl rfl rfl (by kernel_rfl) Tryz.func3 (by kernel_rfl)
    (of_decide_eq_true (by kernel_rfl)) (by unfold Func.isWrapper; first | (rw [if_pos (by decide +kernel)]; kernel_rfl) | (rw [if_neg (by decide +kernel)]; exact ⟨rfl, rfl⟩))
    (fun os started H enc _ => lifted os started H enc)

theorem said : Rows.TreeNamesSaid := over
theorem plain (f : FuncId) (fn : Func) (hf : Tryz.pinned.checked.prog.funcNamed "tidewaiter/tidewaiterlaw10.TreeNames" = some f) (hfn : Tryz.pinned.checked.prog.funcs[f]? = some fn) :
    true = Tryz.pinned.checked.prog.looks [] ∧ ∀ (j : Nat) t, fn.params[j]? = some t → Tryz.pinned.checked.prog.wantsStandIn t = false := by
  obtain rfl : f = 3 := Option.some.inj ((show Tryz.prog.funcNamed "tidewaiter/tidewaiterlaw10.TreeNames" = some 3 by kernel_rfl).symm.trans hf) |>.symm
  obtain rfl : fn = Tryz.f3 := (Option.some.inj (Tryz.func3.symm.trans hfn)).symm
  refine ⟨by kernel_rfl, fun j t ht => ?_⟩
  rw [Tryz.params3] at ht
  simp at ht
theorem proved : Rows.TreeNamesCardSaid :=
  Claim7.holds_tied_plain_at .later [] _ _ _ _ said (fun _ h => by cases h) (by kernel_rfl) (fun _ h => by cases h) treeNames_row_tie rfl ⟨rfl, rfl⟩ (by kernel_rfl) rfl plain (by kernel_rfl)
end Go.Proofs.YtbjgfaflikgobaaGreatDoor.treeNames
