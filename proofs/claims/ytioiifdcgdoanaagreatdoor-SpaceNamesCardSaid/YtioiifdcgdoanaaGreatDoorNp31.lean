/-
  Texts of one seat, put together: SpaX, SpaY.
-/
import Derived.Test.YtioiifdcgdoanaaGreatDoorNp29
import Derived.Test.YtioiifdcgdoanaaGreatDoorNp30
namespace Go.Proofs.YtioiifdcgdoanaaGreatDoor
open Go.RowKit
namespace Hx
open Lx Tr Tx Nmb Es Ns
set_option linter.unusedVariables false
theorem NodesTo.no0 {l : List Nd} {z : Int} {w w' : World} {e : Ending} (h : NodesTo l z w e w') (hl : l = []) : ∃ A c, e = .returned (.tuple #[.slice A 0 c, .int .i64 z]) ∧ Below w.heap.size w w' := by
  obtain ⟨A, c, h1, h2⟩ := h.with (n := 0) (by rw [hl]; rfl)
  exact ⟨A, c, h1, h2.2⟩
end Hx
end Go.Proofs.YtioiifdcgdoanaaGreatDoor
namespace Go.Proofs.YtioiifdcgdoanaaGreatDoor
open Go.RowKit
namespace Hx
open Lx Tr Tx Nmb Es Ns
set_option maxRecDepth 100000
set_option maxHeartbeats 16000000
set_option linter.unusedVariables false
theorem odd11 (s : ByteArray) (v : List Nd) (nv : Nat) (w : World) (hs : s.size ≤ 2000) (h1 : rdTree s.data.toList = (v, 0)) (h2 : resolveR v = ([], 110)) (l1 : v.length = nv) (hv : (v.all (smallB 2000)) = true) (hlv : nv ≤ 512) (hE : Ev9 w := by first | assumption | exact Ev9.to (by assumption) (by assumption)) :
    Calls Tryz.prog 14 #[.string s] w fun e w' => e = .returned (.bool true) ∧ Below w.heap.size w w' := by
  have sv := smallB_to hv
  have HP1 := Lib.hid (lparse11 s w hs v nv h1 l1 hE)
  have HRS : Hid (∀ A c W, RdB NdS W A v → Calls Tryz.prog 20 #[.slice A nv c] W fun e w' => ∃ A c, e = .returned (.tuple #[.slice A 0 c, .int .i64 110]) ∧ Below W.heap.size W w') := Lib.hid fun A c W hW => (resolve_to A nv c v W hW l1 (by omega) (fun _ m hm => (sv m hm).up (by decide)) [] 110 h2).mono fun e w' hh => hh.no0 rfl
  clear hs h1 h2 l1 hv hlv sv hE
  go_enter Tryz.func14, Tryz.ntmps14
  go_wp2_with (first
    | (go_at_call 43; (with_reducible refine (HP1.out).mono ?_); rintro e1 w1 ⟨A1, c1, rfl, hr1, hb1⟩; have HR1 := Lib.hid hr1; have HB1 := Lib.hid hb1; clear hr1 hb1)
    | (go_at_call 20; (with_reducible refine (HRS.out _ _ w1 HR1.out).mono ?_); rintro e2 w2 ⟨A2, c2, rfl, hb2⟩; have HB2 := Lib.hid (stp HB1.out hb2); clear hb2)
    | fail)
  go_ret
  exact ⟨rfl, HB2.out⟩
theorem odd11_0 : rdTree (⟨#[60, 112, 58, 97, 47, 62]⟩ : ByteArray).data.toList = ([⟨1, [], [112, 58, 97], [], [], 0⟩], 0) ∧ resolveR [⟨1, [], [112, 58, 97], [], [], 0⟩] = ([], 110) ∧ (([⟨1, [], [112, 58, 97], [], [], 0⟩] : List Nd).all (smallB 2000)) = true := by decide +kernel
theorem odd11_1 : rdTree (⟨#[60, 97, 32, 120, 109, 108, 110, 115, 58, 120, 109, 108, 110, 115, 61, 39, 117, 39, 47, 62]⟩ : ByteArray).data.toList = ([⟨1, [], [97], [⟨[], [120, 109, 108, 110, 115, 58, 120, 109, 108, 110, 115], [117]⟩], [], 0⟩], 0) ∧ resolveR [⟨1, [], [97], [⟨[], [120, 109, 108, 110, 115, 58, 120, 109, 108, 110, 115], [117]⟩], [], 0⟩] = ([], 110) ∧ (([⟨1, [], [97], [⟨[], [120, 109, 108, 110, 115, 58, 120, 109, 108, 110, 115], [117]⟩], [], 0⟩] : List Nd).all (smallB 2000)) = true := by decide +kernel
theorem odd11_2 : rdTree (⟨#[60, 97, 32, 120, 109, 108, 110, 115, 58, 112, 61, 39, 39, 47, 62]⟩ : ByteArray).data.toList = ([⟨1, [], [97], [⟨[], [120, 109, 108, 110, 115, 58, 112], []⟩], [], 0⟩], 0) ∧ resolveR [⟨1, [], [97], [⟨[], [120, 109, 108, 110, 115, 58, 112], []⟩], [], 0⟩] = ([], 110) ∧ (([⟨1, [], [97], [⟨[], [120, 109, 108, 110, 115, 58, 112], []⟩], [], 0⟩] : List Nd).all (smallB 2000)) = true := by decide +kernel
theorem odd11_3 : rdTree (⟨#[60, 97, 32, 120, 109, 108, 110, 115, 58, 120, 109, 108, 61, 39, 117, 39, 47, 62]⟩ : ByteArray).data.toList = ([⟨1, [], [97], [⟨[], [120, 109, 108, 110, 115, 58, 120, 109, 108], [117]⟩], [], 0⟩], 0) ∧ resolveR [⟨1, [], [97], [⟨[], [120, 109, 108, 110, 115, 58, 120, 109, 108], [117]⟩], [], 0⟩] = ([], 110) ∧ (([⟨1, [], [97], [⟨[], [120, 109, 108, 110, 115, 58, 120, 109, 108], [117]⟩], [], 0⟩] : List Nd).all (smallB 2000)) = true := by decide +kernel
theorem odd11_4 : rdTree (⟨#[60, 97, 32, 120, 109, 108, 110, 115, 61, 39, 104, 116, 116, 112, 58, 47, 47, 119, 119, 119, 46, 119, 51, 46, 111, 114, 103, 47, 88, 77, 76, 47, 49, 57, 57, 56, 47, 110, 97, 109, 101, 115, 112, 97, 99, 101, 39, 47, 62]⟩ : ByteArray).data.toList = ([⟨1, [], [97], [⟨[], [120, 109, 108, 110, 115], [104, 116, 116, 112, 58, 47, 47, 119, 119, 119, 46, 119, 51, 46, 111, 114, 103, 47, 88, 77, 76, 47, 49, 57, 57, 56, 47, 110, 97, 109, 101, 115, 112, 97, 99, 101]⟩], [], 0⟩], 0) ∧ resolveR [⟨1, [], [97], [⟨[], [120, 109, 108, 110, 115], [104, 116, 116, 112, 58, 47, 47, 119, 119, 119, 46, 119, 51, 46, 111, 114, 103, 47, 88, 77, 76, 47, 49, 57, 57, 56, 47, 110, 97, 109, 101, 115, 112, 97, 99, 101]⟩], [], 0⟩] = ([], 110) ∧ (([⟨1, [], [97], [⟨[], [120, 109, 108, 110, 115], [104, 116, 116, 112, 58, 47, 47, 119, 119, 119, 46, 119, 51, 46, 111, 114, 103, 47, 88, 77, 76, 47, 49, 57, 57, 56, 47, 110, 97, 109, 101, 115, 112, 97, 99, 101]⟩], [], 0⟩] : List Nd).all (smallB 2000)) = true := by decide +kernel
theorem odd11_5 : rdTree (⟨#[60, 97, 32, 112, 58, 98, 61, 39, 49, 39, 47, 62]⟩ : ByteArray).data.toList = ([⟨1, [], [97], [⟨[], [112, 58, 98], [49]⟩], [], 0⟩], 0) ∧ resolveR [⟨1, [], [97], [⟨[], [112, 58, 98], [49]⟩], [], 0⟩] = ([], 110) ∧ (([⟨1, [], [97], [⟨[], [112, 58, 98], [49]⟩], [], 0⟩] : List Nd).all (smallB 2000)) = true := by decide +kernel
theorem odd11_6 : rdTree (⟨#[60, 97, 32, 120, 109, 108, 110, 115, 58, 112, 61, 39, 117, 39, 32, 120, 109, 108, 110, 115, 58, 113, 61, 39, 117, 39, 32, 112, 58, 98, 61, 39, 49, 39, 32, 113, 58, 98, 61, 39, 50, 39, 47, 62]⟩ : ByteArray).data.toList = ([⟨1, [], [97], [⟨[], [120, 109, 108, 110, 115, 58, 112], [117]⟩, ⟨[], [120, 109, 108, 110, 115, 58, 113], [117]⟩, ⟨[], [112, 58, 98], [49]⟩, ⟨[], [113, 58, 98], [50]⟩], [], 0⟩], 0) ∧ resolveR [⟨1, [], [97], [⟨[], [120, 109, 108, 110, 115, 58, 112], [117]⟩, ⟨[], [120, 109, 108, 110, 115, 58, 113], [117]⟩, ⟨[], [112, 58, 98], [49]⟩, ⟨[], [113, 58, 98], [50]⟩], [], 0⟩] = ([], 110) ∧ (([⟨1, [], [97], [⟨[], [120, 109, 108, 110, 115, 58, 112], [117]⟩, ⟨[], [120, 109, 108, 110, 115, 58, 113], [117]⟩, ⟨[], [112, 58, 98], [49]⟩, ⟨[], [113, 58, 98], [50]⟩], [], 0⟩] : List Nd).all (smallB 2000)) = true := by decide +kernel
theorem odd11_7 : rdTree (⟨#[60, 97, 32, 120, 109, 108, 110, 115, 58, 112, 61, 39, 104, 116, 116, 112, 58, 47, 47, 119, 119, 119, 46, 119, 51, 46, 111, 114, 103, 47, 50, 48, 48, 48, 47, 120, 109, 108, 110, 115, 47, 39, 47, 62]⟩ : ByteArray).data.toList = ([⟨1, [], [97], [⟨[], [120, 109, 108, 110, 115, 58, 112], [104, 116, 116, 112, 58, 47, 47, 119, 119, 119, 46, 119, 51, 46, 111, 114, 103, 47, 50, 48, 48, 48, 47, 120, 109, 108, 110, 115, 47]⟩], [], 0⟩], 0) ∧ resolveR [⟨1, [], [97], [⟨[], [120, 109, 108, 110, 115, 58, 112], [104, 116, 116, 112, 58, 47, 47, 119, 119, 119, 46, 119, 51, 46, 111, 114, 103, 47, 50, 48, 48, 48, 47, 120, 109, 108, 110, 115, 47]⟩], [], 0⟩] = ([], 110) ∧ (([⟨1, [], [97], [⟨[], [120, 109, 108, 110, 115, 58, 112], [104, 116, 116, 112, 58, 47, 47, 119, 119, 119, 46, 119, 51, 46, 111, 114, 103, 47, 50, 48, 48, 48, 47, 120, 109, 108, 110, 115, 47]⟩], [], 0⟩] : List Nd).all (smallB 2000)) = true := by decide +kernel
theorem odd11_8 : rdTree (⟨#[60, 97, 62, 60, 98, 32, 120, 109, 108, 110, 115, 58, 112, 61, 39, 117, 39, 47, 62, 60, 112, 58, 99, 47, 62, 60, 47, 97, 62]⟩ : ByteArray).data.toList = ([⟨1, [], [97], [], [], 2⟩, ⟨1, [], [98], [⟨[], [120, 109, 108, 110, 115, 58, 112], [117]⟩], [], 0⟩, ⟨1, [], [112, 58, 99], [], [], 0⟩], 0) ∧ resolveR [⟨1, [], [97], [], [], 2⟩, ⟨1, [], [98], [⟨[], [120, 109, 108, 110, 115, 58, 112], [117]⟩], [], 0⟩, ⟨1, [], [112, 58, 99], [], [], 0⟩] = ([], 110) ∧ (([⟨1, [], [97], [], [], 2⟩, ⟨1, [], [98], [⟨[], [120, 109, 108, 110, 115, 58, 112], [117]⟩], [], 0⟩, ⟨1, [], [112, 58, 99], [], [], 0⟩] : List Nd).all (smallB 2000)) = true := by decide +kernel
def twS : ByteArray := ⟨#[60, 120, 58, 97, 32, 120, 109, 108, 110, 115, 58, 120, 61, 39, 117, 39, 32, 120, 109, 108, 58, 108, 97, 110, 103, 61, 39, 101, 110, 39, 62, 60, 98, 47, 62, 60, 47, 120, 58, 97, 62]⟩
def twB : ByteArray := ⟨#[60, 97, 32, 120, 109, 108, 110, 115, 61, 39, 117, 39, 32, 120, 109, 108, 58, 108, 97, 110, 103, 61, 39, 101, 110, 39, 62, 60, 98, 32, 120, 109, 108, 110, 115, 61, 39, 39, 47, 62, 60, 47, 97, 62]⟩
def twA : List At := [⟨[104, 116, 116, 112, 58, 47, 47, 119, 119, 119, 46, 119, 51, 46, 111, 114, 103, 47, 88, 77, 76, 47, 49, 57, 57, 56, 47, 110, 97, 109, 101, 115, 112, 97, 99, 101], [108, 97, 110, 103], [101, 110]⟩]
def twU : List Nd := [⟨1, [117], [97], [⟨[104, 116, 116, 112, 58, 47, 47, 119, 119, 119, 46, 119, 51, 46, 111, 114, 103, 47, 88, 77, 76, 47, 49, 57, 57, 56, 47, 110, 97, 109, 101, 115, 112, 97, 99, 101], [108, 97, 110, 103], [101, 110]⟩], [], 1⟩, ⟨1, [], [98], [], [], 0⟩]
def twV : List Nd := [⟨1, [], [120, 58, 97], [⟨[], [120, 109, 108, 110, 115, 58, 120], [117]⟩, ⟨[], [120, 109, 108, 58, 108, 97, 110, 103], [101, 110]⟩], [], 1⟩, ⟨1, [], [98], [], [], 0⟩]
def twX : List Nd := [⟨1, [], [97], [⟨[], [120, 109, 108, 110, 115], [117]⟩, ⟨[], [120, 109, 108, 58, 108, 97, 110, 103], [101, 110]⟩], [], 1⟩, ⟨1, [], [98], [⟨[], [120, 109, 108, 110, 115], []⟩], [], 0⟩]
theorem tw11 : rdTree twS.data.toList = (twV, 0) ∧ resolveR twV = (twU, 0) ∧ bareR twU [] = (twX, 0) ∧ rdTree twB.data.toList = (twX, 0) ∧ (twV.all (smallB 2000)) = true ∧ twS.size ≤ 2000 ∧ twB.size ≤ 2000 := by decide +kernel
def nm1 : List Nd := [⟨1, [], [97, 58, 98], [], [], 0⟩]
def nm2 : List Nd := [⟨1, [], [97], [⟨[], [120, 109, 108, 110, 115], []⟩], [], 0⟩]
def nm3 : List Nd := [⟨1, [117], [97], [], [], 0⟩]
def nm4 : List Nd := [⟨1, [], [97], [], [], 0⟩]
theorem nm11 : bareR nm1 [] = ([], 8) ∧ bareR nm2 [] = ([], 8) ∧ bareR nm3 [117] = (nm4, 0) ∧ (nm1.all (smallB 2000)) = true ∧ (nm2.all (smallB 2000)) = true ∧ (nm3.all (smallB 2000)) = true := by decide +kernel
theorem names11 (w : World) (hE : Ev9 w) (hT : TbH w) :
    Calls Tryz.prog 3 #[] w fun e w' => e = .returned (.bool true) ∧ Below w.heap.size w w' := by
  have HO0 : Hid (∀ W, Below w.heap.size w W → Calls Tryz.prog 14 #[.string ⟨#[60, 112, 58, 97, 47, 62]⟩] W fun e w' => e = .returned (.bool true) ∧ Below W.heap.size W w') := Lib.hid fun W hW => odd11 ⟨#[60, 112, 58, 97, 47, 62]⟩ _ 1 W (by decide) odd11_0.1 odd11_0.2.1 rfl odd11_0.2.2 (by decide) (hE.to hW)
  have HO1 : Hid (∀ W, Below w.heap.size w W → Calls Tryz.prog 14 #[.string ⟨#[60, 97, 32, 120, 109, 108, 110, 115, 58, 120, 109, 108, 110, 115, 61, 39, 117, 39, 47, 62]⟩] W fun e w' => e = .returned (.bool true) ∧ Below W.heap.size W w') := Lib.hid fun W hW => odd11 ⟨#[60, 97, 32, 120, 109, 108, 110, 115, 58, 120, 109, 108, 110, 115, 61, 39, 117, 39, 47, 62]⟩ _ 1 W (by decide) odd11_1.1 odd11_1.2.1 rfl odd11_1.2.2 (by decide) (hE.to hW)
  have HO2 : Hid (∀ W, Below w.heap.size w W → Calls Tryz.prog 14 #[.string ⟨#[60, 97, 32, 120, 109, 108, 110, 115, 58, 112, 61, 39, 39, 47, 62]⟩] W fun e w' => e = .returned (.bool true) ∧ Below W.heap.size W w') := Lib.hid fun W hW => odd11 ⟨#[60, 97, 32, 120, 109, 108, 110, 115, 58, 112, 61, 39, 39, 47, 62]⟩ _ 1 W (by decide) odd11_2.1 odd11_2.2.1 rfl odd11_2.2.2 (by decide) (hE.to hW)
  have HO3 : Hid (∀ W, Below w.heap.size w W → Calls Tryz.prog 14 #[.string ⟨#[60, 97, 32, 120, 109, 108, 110, 115, 58, 120, 109, 108, 61, 39, 117, 39, 47, 62]⟩] W fun e w' => e = .returned (.bool true) ∧ Below W.heap.size W w') := Lib.hid fun W hW => odd11 ⟨#[60, 97, 32, 120, 109, 108, 110, 115, 58, 120, 109, 108, 61, 39, 117, 39, 47, 62]⟩ _ 1 W (by decide) odd11_3.1 odd11_3.2.1 rfl odd11_3.2.2 (by decide) (hE.to hW)
  have HO4 : Hid (∀ W, Below w.heap.size w W → Calls Tryz.prog 14 #[.string ⟨#[60, 97, 32, 120, 109, 108, 110, 115, 61, 39, 104, 116, 116, 112, 58, 47, 47, 119, 119, 119, 46, 119, 51, 46, 111, 114, 103, 47, 88, 77, 76, 47, 49, 57, 57, 56, 47, 110, 97, 109, 101, 115, 112, 97, 99, 101, 39, 47, 62]⟩] W fun e w' => e = .returned (.bool true) ∧ Below W.heap.size W w') := Lib.hid fun W hW => odd11 ⟨#[60, 97, 32, 120, 109, 108, 110, 115, 61, 39, 104, 116, 116, 112, 58, 47, 47, 119, 119, 119, 46, 119, 51, 46, 111, 114, 103, 47, 88, 77, 76, 47, 49, 57, 57, 56, 47, 110, 97, 109, 101, 115, 112, 97, 99, 101, 39, 47, 62]⟩ _ 1 W (by decide) odd11_4.1 odd11_4.2.1 rfl odd11_4.2.2 (by decide) (hE.to hW)
  have HO5 : Hid (∀ W, Below w.heap.size w W → Calls Tryz.prog 14 #[.string ⟨#[60, 97, 32, 112, 58, 98, 61, 39, 49, 39, 47, 62]⟩] W fun e w' => e = .returned (.bool true) ∧ Below W.heap.size W w') := Lib.hid fun W hW => odd11 ⟨#[60, 97, 32, 112, 58, 98, 61, 39, 49, 39, 47, 62]⟩ _ 1 W (by decide) odd11_5.1 odd11_5.2.1 rfl odd11_5.2.2 (by decide) (hE.to hW)
  have HO6 : Hid (∀ W, Below w.heap.size w W → Calls Tryz.prog 14 #[.string ⟨#[60, 97, 32, 120, 109, 108, 110, 115, 58, 112, 61, 39, 117, 39, 32, 120, 109, 108, 110, 115, 58, 113, 61, 39, 117, 39, 32, 112, 58, 98, 61, 39, 49, 39, 32, 113, 58, 98, 61, 39, 50, 39, 47, 62]⟩] W fun e w' => e = .returned (.bool true) ∧ Below W.heap.size W w') := Lib.hid fun W hW => odd11 ⟨#[60, 97, 32, 120, 109, 108, 110, 115, 58, 112, 61, 39, 117, 39, 32, 120, 109, 108, 110, 115, 58, 113, 61, 39, 117, 39, 32, 112, 58, 98, 61, 39, 49, 39, 32, 113, 58, 98, 61, 39, 50, 39, 47, 62]⟩ _ 1 W (by decide) odd11_6.1 odd11_6.2.1 rfl odd11_6.2.2 (by decide) (hE.to hW)
  have HO7 : Hid (∀ W, Below w.heap.size w W → Calls Tryz.prog 14 #[.string ⟨#[60, 97, 32, 120, 109, 108, 110, 115, 58, 112, 61, 39, 104, 116, 116, 112, 58, 47, 47, 119, 119, 119, 46, 119, 51, 46, 111, 114, 103, 47, 50, 48, 48, 48, 47, 120, 109, 108, 110, 115, 47, 39, 47, 62]⟩] W fun e w' => e = .returned (.bool true) ∧ Below W.heap.size W w') := Lib.hid fun W hW => odd11 ⟨#[60, 97, 32, 120, 109, 108, 110, 115, 58, 112, 61, 39, 104, 116, 116, 112, 58, 47, 47, 119, 119, 119, 46, 119, 51, 46, 111, 114, 103, 47, 50, 48, 48, 48, 47, 120, 109, 108, 110, 115, 47, 39, 47, 62]⟩ _ 1 W (by decide) odd11_7.1 odd11_7.2.1 rfl odd11_7.2.2 (by decide) (hE.to hW)
  have HO8 : Hid (∀ W, Below w.heap.size w W → Calls Tryz.prog 14 #[.string ⟨#[60, 97, 62, 60, 98, 32, 120, 109, 108, 110, 115, 58, 112, 61, 39, 117, 39, 47, 62, 60, 112, 58, 99, 47, 62, 60, 47, 97, 62]⟩] W fun e w' => e = .returned (.bool true) ∧ Below W.heap.size W w') := Lib.hid fun W hW => odd11 ⟨#[60, 97, 62, 60, 98, 32, 120, 109, 108, 110, 115, 58, 112, 61, 39, 117, 39, 47, 62, 60, 112, 58, 99, 47, 62, 60, 47, 97, 62]⟩ _ 3 W (by decide) odd11_8.1 odd11_8.2.1 rfl odd11_8.2.2 (by decide) (hE.to hW)
  have HIS : Hid (∀ W, Below w.heap.size w W → Calls Tryz.prog 15 #[.string ⟨#[60, 120, 58, 97, 32, 120, 109, 108, 110, 115, 58, 120, 61, 39, 117, 39, 32, 120, 109, 108, 58, 108, 97, 110, 103, 61, 39, 101, 110, 39, 62, 60, 98, 47, 62, 60, 47, 120, 58, 97, 62]⟩, .string ⟨#[60, 97, 32, 120, 109, 108, 110, 115, 61, 39, 117, 39, 32, 120, 109, 108, 58, 108, 97, 110, 103, 61, 39, 101, 110, 39, 62, 60, 98, 32, 120, 109, 108, 110, 115, 61, 39, 39, 47, 62, 60, 47, 97, 62]⟩, .slice (some ⟨W.heap.size + 1, 0, none⟩) 2 2] ((W.alloc (.cells #[.string ⟨#[104, 116, 116, 112, 58, 47, 47, 119, 119, 119, 46, 119, 51, 46, 111, 114, 103, 47, 88, 77, 76, 47, 49, 57, 57, 56, 47, 110, 97, 109, 101, 115, 112, 97, 99, 101]⟩, .string ⟨#[108, 97, 110, 103]⟩, .string ⟨#[101, 110]⟩] 25)).alloc (.cells #[.int .u8 1, .string ⟨#[117]⟩, .string ⟨#[97]⟩, .slice (some ⟨W.heap.size, 0, none⟩) 1 1, .string ⟨#[]⟩, .int .i64 1, .int .u8 1, .string ⟨#[]⟩, .string ⟨#[98]⟩, .slice none 0 0, .string ⟨#[]⟩, .int .i64 0] 28)) fun e w' => e = .returned (.bool true) ∧ Below W.heap.size W w') := Lib.hid fun W hW => by
    have hb1 : Below W.heap.size W (W.alloc (.cells #[.string ⟨#[104, 116, 116, 112, 58, 47, 47, 119, 119, 119, 46, 119, 51, 46, 111, 114, 103, 47, 88, 77, 76, 47, 49, 57, 57, 56, 47, 110, 97, 109, 101, 115, 112, 97, 99, 101]⟩, .string ⟨#[108, 97, 110, 103]⟩, .string ⟨#[101, 110]⟩] 25)) := stpA (Below.refl _ _) _
    have hb2 := stpA (Below.refl (W.alloc (.cells #[.string ⟨#[104, 116, 116, 112, 58, 47, 47, 119, 119, 119, 46, 119, 51, 46, 111, 114, 103, 47, 88, 77, 76, 47, 49, 57, 57, 56, 47, 110, 97, 109, 101, 115, 112, 97, 99, 101]⟩, .string ⟨#[108, 97, 110, 103]⟩, .string ⟨#[101, 110]⟩] 25)).heap.size (W.alloc (.cells #[.string ⟨#[104, 116, 116, 112, 58, 47, 47, 119, 119, 119, 46, 119, 51, 46, 111, 114, 103, 47, 88, 77, 76, 47, 49, 57, 57, 56, 47, 110, 97, 109, 101, 115, 112, 97, 99, 101]⟩, .string ⟨#[108, 97, 110, 103]⟩, .string ⟨#[101, 110]⟩] 25))) (.cells #[.int .u8 1, .string ⟨#[117]⟩, .string ⟨#[97]⟩, .slice (some ⟨W.heap.size, 0, none⟩) 1 1, .string ⟨#[]⟩, .int .i64 1, .int .u8 1, .string ⟨#[]⟩, .string ⟨#[98]⟩, .slice none 0 0, .string ⟨#[]⟩, .int .i64 0] 28)
    have h1 := kept_heap (heap_alloc_new W (.cells #[.string ⟨#[104, 116, 116, 112, 58, 47, 47, 119, 119, 119, 46, 119, 51, 46, 111, 114, 103, 47, 88, 77, 76, 47, 49, 57, 57, 56, 47, 110, 97, 109, 101, 115, 112, 97, 99, 101]⟩, .string ⟨#[108, 97, 110, 103]⟩, .string ⟨#[101, 110]⟩] 25)) hb2
    have h2 := heap_alloc_new (W.alloc (.cells #[.string ⟨#[104, 116, 116, 112, 58, 47, 47, 119, 119, 119, 46, 119, 51, 46, 111, 114, 103, 47, 88, 77, 76, 47, 49, 57, 57, 56, 47, 110, 97, 109, 101, 115, 112, 97, 99, 101]⟩, .string ⟨#[108, 97, 110, 103]⟩, .string ⟨#[101, 110]⟩] 25)) (.cells #[.int .u8 1, .string ⟨#[117]⟩, .string ⟨#[97]⟩, .slice (some ⟨W.heap.size, 0, none⟩) 1 1, .string ⟨#[]⟩, .int .i64 1, .int .u8 1, .string ⟨#[]⟩, .string ⟨#[98]⟩, .slice none 0 0, .string ⟨#[]⟩, .int .i64 0] 28)
    rw [World.size_alloc] at h2
    have hra := ats_heap (S := fun b => b < _) twA h1 rfl (lt_heap h1)
    have hru : RdB NdS _ (some ⟨W.heap.size + 1, 0, none⟩) twU := nds_heap [nbOf ⟨1, [117], [97], twA, [], 1⟩ (some ⟨W.heap.size, 0, none⟩), nbOf ⟨1, [], [98], [], [], 0⟩ none] h2 rfl (fun x hx => by
      rcases List.mem_cons.1 hx with rfl | hx
      · exact nbOf_in hra (fun h => by cases h) (by decide)
      · rw [List.mem_singleton.1 hx]
        exact nbOf_in (RdS.nil _ _ _) (fun _ => rfl) (by decide)) (lt_heap h2)
    exact (is11 twS twB twV twU twX (some ⟨W.heap.size + 1, 0, none⟩) 2 2 2 2 _ tw11.2.2.2.2.2.1 tw11.2.2.2.2.2.2 tw11.1 tw11.2.1 tw11.2.2.1 tw11.2.2.2.1 rfl rfl rfl tw11.2.2.2.2.1 (by decide) (by decide) (by decide) hru (hE.to (hW.trans ((stp hb1 hb2).mono hW.size))) (hT.to (hW.trans ((stp hb1 hb2).mono hW.size)))).mono fun e w' hh => ⟨hh.1, stp (stp hb1 hb2) hh.2⟩
  have HM1 : Hid (∀ W, Below w.heap.size w W → Calls Tryz.prog 16 #[.slice (some ⟨W.heap.size, 0, none⟩) 1 1, .string ⟨#[]⟩] (W.alloc (.cells #[.int .u8 1, .string ⟨#[]⟩, .string ⟨#[97, 58, 98]⟩, .slice none 0 0, .string ⟨#[]⟩, .int .i64 0] 28)) fun e w' => ∃ A c, e = .returned (.tuple #[.slice A 0 c, .int .i64 8]) ∧ Below W.heap.size W w') := Lib.hid fun W hW => by
    have hb1 : Below W.heap.size W (W.alloc (.cells #[.int .u8 1, .string ⟨#[]⟩, .string ⟨#[97, 58, 98]⟩, .slice none 0 0, .string ⟨#[]⟩, .int .i64 0] 28)) := stpA (Below.refl _ _) _
    have h1 := heap_alloc_new W (.cells #[.int .u8 1, .string ⟨#[]⟩, .string ⟨#[97, 58, 98]⟩, .slice none 0 0, .string ⟨#[]⟩, .int .i64 0] 28)
    have hru : RdB NdS _ (some ⟨W.heap.size, 0, none⟩) nm1 := nds_heap [nbOf ⟨1, [], [97, 58, 98], [], [], 0⟩ none] h1 rfl (fun x hx => by
      rw [List.mem_singleton.1 hx]
      exact nbOf_in (RdS.nil _ _ _) (fun _ => rfl) (by decide)) (lt_heap h1)
    refine (bare_to (some ⟨W.heap.size, 0, none⟩) 1 1 nm1 ⟨#[]⟩ _ hru rfl (by decide) (fun _ m hm => (smallB_to nm11.2.2.2.1 m hm).up (by decide)) (by decide) (hT.to (hW.trans (hb1.mono hW.size))) [] 8 nm11.1).mono fun e w' hh => ?_
    obtain ⟨A, c, e1, e2⟩ := hh.no0 rfl
    exact ⟨A, c, e1, stp hb1 e2⟩
  have HM2 : Hid (∀ W, Below w.heap.size w W → Calls Tryz.prog 16 #[.slice (some ⟨W.heap.size + 1, 0, none⟩) 1 1, .string ⟨#[]⟩] ((W.alloc (.cells #[.string ⟨#[]⟩, .string ⟨#[120, 109, 108, 110, 115]⟩, .string ⟨#[]⟩] 25)).alloc (.cells #[.int .u8 1, .string ⟨#[]⟩, .string ⟨#[97]⟩, .slice (some ⟨W.heap.size, 0, none⟩) 1 1, .string ⟨#[]⟩, .int .i64 0] 28)) fun e w' => ∃ A c, e = .returned (.tuple #[.slice A 0 c, .int .i64 8]) ∧ Below W.heap.size W w') := Lib.hid fun W hW => by
    have hb1 : Below W.heap.size W (W.alloc (.cells #[.string ⟨#[]⟩, .string ⟨#[120, 109, 108, 110, 115]⟩, .string ⟨#[]⟩] 25)) := stpA (Below.refl _ _) _
    have hb2 := stpA (Below.refl (W.alloc (.cells #[.string ⟨#[]⟩, .string ⟨#[120, 109, 108, 110, 115]⟩, .string ⟨#[]⟩] 25)).heap.size (W.alloc (.cells #[.string ⟨#[]⟩, .string ⟨#[120, 109, 108, 110, 115]⟩, .string ⟨#[]⟩] 25))) (.cells #[.int .u8 1, .string ⟨#[]⟩, .string ⟨#[97]⟩, .slice (some ⟨W.heap.size, 0, none⟩) 1 1, .string ⟨#[]⟩, .int .i64 0] 28)
    have h1 := kept_heap (heap_alloc_new W (.cells #[.string ⟨#[]⟩, .string ⟨#[120, 109, 108, 110, 115]⟩, .string ⟨#[]⟩] 25)) hb2
    have h2 := heap_alloc_new (W.alloc (.cells #[.string ⟨#[]⟩, .string ⟨#[120, 109, 108, 110, 115]⟩, .string ⟨#[]⟩] 25)) (.cells #[.int .u8 1, .string ⟨#[]⟩, .string ⟨#[97]⟩, .slice (some ⟨W.heap.size, 0, none⟩) 1 1, .string ⟨#[]⟩, .int .i64 0] 28)
    rw [World.size_alloc] at h2
    have hra := ats_heap (S := fun b => b < _) [⟨[], [120, 109, 108, 110, 115], []⟩] h1 rfl (lt_heap h1)
    have hru : RdB NdS _ (some ⟨W.heap.size + 1, 0, none⟩) nm2 := nds_heap [nbOf ⟨1, [], [97], [⟨[], [120, 109, 108, 110, 115], []⟩], [], 0⟩ (some ⟨W.heap.size, 0, none⟩)] h2 rfl (fun x hx => by
      rw [List.mem_singleton.1 hx]
      exact nbOf_in hra (fun h => by cases h) (by decide)) (lt_heap h2)
    refine (bare_to (some ⟨W.heap.size + 1, 0, none⟩) 1 1 nm2 ⟨#[]⟩ _ hru rfl (by decide) (fun _ m hm => (smallB_to nm11.2.2.2.2.1 m hm).up (by decide)) (by decide) (hT.to (hW.trans ((stp hb1 hb2).mono hW.size))) [] 8 nm11.2.1).mono fun e w' hh => ?_
    obtain ⟨A, c, e1, e2⟩ := hh.no0 rfl
    exact ⟨A, c, e1, stp (stp hb1 hb2) e2⟩
  have HM3 : Hid (∀ W, Below w.heap.size w W → Calls Tryz.prog 16 #[.slice (some ⟨W.heap.size, 0, none⟩) 1 1, .string ⟨#[117]⟩] (W.alloc (.cells #[.int .u8 1, .string ⟨#[117]⟩, .string ⟨#[97]⟩, .slice none 0 0, .string ⟨#[]⟩, .int .i64 0] 28)) fun e w' => ∃ A c, e = .returned (.tuple #[.slice A 1 c, .int .i64 0]) ∧ RdB NdS w' A nm4 ∧ Below W.heap.size W w') := Lib.hid fun W hW => by
    have hb1 : Below W.heap.size W (W.alloc (.cells #[.int .u8 1, .string ⟨#[117]⟩, .string ⟨#[97]⟩, .slice none 0 0, .string ⟨#[]⟩, .int .i64 0] 28)) := stpA (Below.refl _ _) _
    have h1 := heap_alloc_new W (.cells #[.int .u8 1, .string ⟨#[117]⟩, .string ⟨#[97]⟩, .slice none 0 0, .string ⟨#[]⟩, .int .i64 0] 28)
    have hru : RdB NdS _ (some ⟨W.heap.size, 0, none⟩) nm3 := nds_heap [nbOf ⟨1, [117], [97], [], [], 0⟩ none] h1 rfl (fun x hx => by
      rw [List.mem_singleton.1 hx]
      exact nbOf_in (RdS.nil _ _ _) (fun _ => rfl) (by decide)) (lt_heap h1)
    refine (bare_to (some ⟨W.heap.size, 0, none⟩) 1 1 nm3 ⟨#[117]⟩ _ hru rfl (by decide) (fun _ m hm => (smallB_to nm11.2.2.2.2.2 m hm).up (by decide)) (by decide) (hT.to (hW.trans (hb1.mono hW.size))) nm4 0 nm11.2.2.1).mono fun e w' hh => ?_
    obtain ⟨A, c, e1, e2, e3⟩ := hh.with (n := 1) rfl
    exact ⟨A, c, e1, e2, stp hb1 e3⟩
  have HAL : Hid (∀ W, Below w.heap.size w W → Calls Tryz.prog 17 #[] W fun e w' => e = .returned (.bool true) ∧ Below W.heap.size W w') := Lib.hid fun W hW => alive11 W (hE.to hW) (hT.to hW)
  have HB00 := Lib.hid (Below.refl w.heap.size w)
  clear hE hT
  go_enter Tryz.func3, Tryz.ntmps3
  go_wp2_with (first
    | (go_at_call 14; (with_reducible refine (HO0.out w HB00.out).mono ?_); rintro e1 v0 ⟨rfl, hb1⟩; have HV0 := Lib.hid (stp HB00.out hb1); clear hb1)
    | (go_at_call 14; (with_reducible refine (HO1.out v0 HV0.out).mono ?_); rintro e1 v1 ⟨rfl, hb1⟩; have HV1 := Lib.hid (stp HV0.out hb1); clear hb1)
    | (go_at_call 14; (with_reducible refine (HO2.out v1 HV1.out).mono ?_); rintro e1 v2 ⟨rfl, hb1⟩; have HV2 := Lib.hid (stp HV1.out hb1); clear hb1)
    | (go_at_call 14; (with_reducible refine (HO3.out v2 HV2.out).mono ?_); rintro e1 v3 ⟨rfl, hb1⟩; have HV3 := Lib.hid (stp HV2.out hb1); clear hb1)
    | (go_at_call 14; (with_reducible refine (HO4.out v3 HV3.out).mono ?_); rintro e1 v4 ⟨rfl, hb1⟩; have HV4 := Lib.hid (stp HV3.out hb1); clear hb1)
    | (go_at_call 14; (with_reducible refine (HO5.out v4 HV4.out).mono ?_); rintro e1 v5 ⟨rfl, hb1⟩; have HV5 := Lib.hid (stp HV4.out hb1); clear hb1)
    | (go_at_call 14; (with_reducible refine (HO6.out v5 HV5.out).mono ?_); rintro e1 v6 ⟨rfl, hb1⟩; have HV6 := Lib.hid (stp HV5.out hb1); clear hb1)
    | (go_at_call 14; (with_reducible refine (HO7.out v6 HV6.out).mono ?_); rintro e1 v7 ⟨rfl, hb1⟩; have HV7 := Lib.hid (stp HV6.out hb1); clear hb1)
    | (go_at_call 14; (with_reducible refine (HO8.out v7 HV7.out).mono ?_); rintro e1 v8 ⟨rfl, hb1⟩; have HV8 := Lib.hid (stp HV7.out hb1); clear hb1)
    | (go_at_call 15; (with_reducible refine (HIS.out v8 HV8.out).mono ?_); rintro e1 v9 ⟨rfl, hb1⟩; have HV9 := Lib.hid (stp HV8.out hb1); clear hb1)
    | (go_at_call 16; (with_reducible refine (HM1.out v9 HV9.out).mono ?_); rintro e1 v10 ⟨Am1, cm1, rfl, hb1⟩; have HV10 := Lib.hid (stp HV9.out hb1); clear hb1)
    | (go_at_call 16; (with_reducible refine (HM2.out v10 HV10.out).mono ?_); rintro e1 v11 ⟨Am2, cm2, rfl, hb1⟩; have HV11 := Lib.hid (stp HV10.out hb1); clear hb1)
    | (go_at_call 16; (with_reducible refine (HM3.out v11 HV11.out).mono ?_); rintro e1 v12 ⟨Am3, cm3, rfl, hr12, hb1⟩; have HR12 := Lib.hid hr12; have HV12 := Lib.hid (stp HV11.out hb1); clear hb1 hr12)
    | (go_at_call 17; (with_reducible refine (HAL.out v12 HV12.out).mono ?_); rintro e1 v13 ⟨rfl, hb1⟩; have HV13 := Lib.hid (stp HV12.out hb1); obtain ⟨b9, off9, x9, y9, z9, A9, c9, hA9, -, -, -, -, -, q93, -, -⟩ := nd_at (HR12.out.on hb1) (k := 0) (by decide); rw [Nat.zero_mul, Nat.add_zero] at q93; have q94 : v13.cell? ⟨b9, off9 + 3, none⟩ = some (.slice A9 0 c9) := q93; subst hA9; clear hb1 q93)
    | fail)
  go_ret
  exact ⟨rfl, HV13.out⟩
end Hx
end Go.Proofs.YtioiifdcgdoanaaGreatDoor
