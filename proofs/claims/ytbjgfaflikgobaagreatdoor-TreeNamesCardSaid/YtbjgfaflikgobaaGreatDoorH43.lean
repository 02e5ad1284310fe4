/-
  Texts of one seat, put together: TrnA.
-/
import Derived.Test.YtbjgfaflikgobaaGreatDoorH38
import Derived.Test.YtbjgfaflikgobaaGreatDoorH41
import Derived.Test.YtbjgfaflikgobaaGreatDoorH35
namespace Go.Proofs.YtbjgfaflikgobaaGreatDoor
open Go.RowKit
namespace Hx
open Lx Tr Tx Nmb Es
set_option linter.unusedVariables false
set_option maxHeartbeats 4000000 in
set_option maxRecDepth 100000 in
theorem odd_yes10 (s : ByteArray) (q : Int) (w : World) (hm : s.size ≤ 2000) (h : rdTree s.data.toList = ([], q)) (hE : Ev9 w := by first | assumption | exact Ev9.to (by assumption) (by assumption)) :
    Calls Tryz.prog 12 #[.string s, .int .i64 q] w fun e w' => e = .returned (.bool true) ∧ Below w.heap.size w w' := by
  have HP := Lib.hid (lparse10 s w hm [] q 0 h rfl)
  have fq : (q == q) = true := by simp
  clear h
  go_enter Tryz.func12, Tryz.ntmps12
  go_wp2_with (first
    | (go_at_call 13; (with_reducible refine (HP.out).mono ?_); rintro e1 w1 ⟨A1, c1, rfl, -, -, -, -, hb1⟩; have HB1 := Lib.hid hb1; clear hb1)
    | fail)
  go_ret
  exact ⟨rfl, HB1.out⟩
/-- So often. -/
def repL (u : List UInt8) : Nat → List UInt8
  | 0 => []
  | k + 1 => repL u k ++ u
def opL : List UInt8 := [60, 97, 62]
def shL : List UInt8 := [60, 47, 97, 62]
def nestV : List Nd := (List.replicate 11 ⟨1, [], [97], [], [], 1⟩) ++ [⟨1, [], [97], [], [], 0⟩]
set_option maxRecDepth 100000 in
theorem nest_12 : rdTree ((32 :: repL opL 12) ++ repL shL 12 ++ [10]) = (nestV, 0) := by decide +kernel
set_option maxRecDepth 100000 in
theorem nest_13 : rdTree (repL opL 12 ++ [60, 97, 47, 62] ++ repL shL 12) = ([], 100) := by decide +kernel
def v5 : List Nd := [⟨1, [], [97], [], [], 3⟩, ⟨2, [], [], [], [120], 0⟩, ⟨1, [], [98], [], [], 1⟩, ⟨2, [], [], [], [121], 0⟩, ⟨2, [], [], [], [122], 0⟩]
def v2 : List Nd := [⟨1, [], [98], [], [], 1⟩, ⟨2, [], [], [], [121], 0⟩]
set_option maxRecDepth 100000 in
theorem v5_read : rdTree [60, 97, 62, 120, 60, 98, 62, 121, 60, 47, 98, 62, 122, 60, 47, 97, 62] = (v5, 0) := by decide +kernel
theorem v5_small : ∀ n ∈ v5, SmallN n := by
  intro n hn
  simp [v5] at hn
  rcases hn with rfl | rfl | rfl | rfl | rfl <;> exact ⟨by decide, by decide, by decide, by decide, fun a h => by cases h⟩
theorem v2_small : ∀ n ∈ v2, SmallN n := by
  intro n hn
  simp [v2] at hn
  rcases hn with rfl | rfl <;> exact ⟨by decide, by decide, by decide, by decide, fun a h => by cases h⟩
set_option maxRecDepth 100000 in
theorem v5_facts : askedR v5 0 = 0 ∧ kidsR v5 0 = [1, 2, 4] ∧ wordsR v5 0 = [120, 122] ∧ subR v5 2 = (v2, 0) ∧ subR v5 1 = ([], 2) ∧ askedR v5 5 = 2 ∧ kidsR v5 5 = [] := by decide +kernel
theorem v2_row (w : World) (T : TypeId) : RdB NdS (w.alloc (.cells #[.int .u8 1, .string ⟨#[]⟩, .string ⟨#[98]⟩, .slice none 0 0, .string ⟨#[]⟩, .int .i64 1, .int .u8 2, .string ⟨#[]⟩, .string ⟨#[]⟩, .slice none 0 0, .string ⟨#[121]⟩, .int .i64 0] T)) (some ⟨w.heap.size, 0, none⟩) v2 :=
  rds_row v2 fun j hj => match j, hj with
    | 0, _ => ⟨_, ⟨⟨#[]⟩, ⟨#[98]⟩, ⟨#[]⟩, none, 0, rfl, nd_plain _ _ _ _ _ rfl rfl rfl rfl (show 1 < 256 by decide) ⟨show (-9223372036854775808 : Int) ≤ 1 by decide, show (1 : Int) ≤ 9223372036854775807 by decide⟩⟩, fun i hi => match i, hi with
      | 0, _ => rfl
      | 1, _ => rfl
      | 2, _ => rfl
      | 3, _ => rfl
      | 4, _ => rfl
      | 5, _ => rfl⟩
    | 1, _ => ⟨_, ⟨⟨#[]⟩, ⟨#[]⟩, ⟨#[121]⟩, none, 0, rfl, nd_plain _ _ _ _ _ rfl rfl rfl rfl (show 2 < 256 by decide) ⟨show (-9223372036854775808 : Int) ≤ 0 by decide, show (0 : Int) ≤ 9223372036854775807 by decide⟩⟩, fun i hi => match i, hi with
      | 0, _ => rfl
      | 1, _ => rfl
      | 2, _ => rfl
      | 3, _ => rfl
      | 4, _ => rfl
      | 5, _ => rfl⟩
def e1 : List Nd := [⟨1, [], [97], [], [], 1⟩]
def e2 : List Nd := [⟨1, [], [97], [], [], 0⟩, ⟨1, [], [98], [], [], 0⟩]
theorem e1_row (w : World) (T : TypeId) : RdB NdS (w.alloc (.cells #[.int .u8 1, .string ⟨#[]⟩, .string ⟨#[97]⟩, .slice none 0 0, .string ⟨#[]⟩, .int .i64 1] T)) (some ⟨w.heap.size, 0, none⟩) e1 :=
  rds_row e1 fun j hj => match j, hj with
    | 0, _ => ⟨_, ⟨⟨#[]⟩, ⟨#[97]⟩, ⟨#[]⟩, none, 0, rfl, nd_plain _ _ _ _ _ rfl rfl rfl rfl (show 1 < 256 by decide) ⟨show (-9223372036854775808 : Int) ≤ 1 by decide, show (1 : Int) ≤ 9223372036854775807 by decide⟩⟩, fun i hi => match i, hi with
      | 0, _ => rfl
      | 1, _ => rfl
      | 2, _ => rfl
      | 3, _ => rfl
      | 4, _ => rfl
      | 5, _ => rfl⟩
theorem e2_row (w : World) (T : TypeId) : RdB NdS (w.alloc (.cells #[.int .u8 1, .string ⟨#[]⟩, .string ⟨#[97]⟩, .slice none 0 0, .string ⟨#[]⟩, .int .i64 0, .int .u8 1, .string ⟨#[]⟩, .string ⟨#[98]⟩, .slice none 0 0, .string ⟨#[]⟩, .int .i64 0] T)) (some ⟨w.heap.size, 0, none⟩) e2 :=
  rds_row e2 fun j hj => match j, hj with
    | 0, _ => ⟨_, ⟨⟨#[]⟩, ⟨#[97]⟩, ⟨#[]⟩, none, 0, rfl, nd_plain _ _ _ _ _ rfl rfl rfl rfl (show 1 < 256 by decide) ⟨show (-9223372036854775808 : Int) ≤ 0 by decide, show (0 : Int) ≤ 9223372036854775807 by decide⟩⟩, fun i hi => match i, hi with
      | 0, _ => rfl
      | 1, _ => rfl
      | 2, _ => rfl
      | 3, _ => rfl
      | 4, _ => rfl
      | 5, _ => rfl⟩
    | 1, _ => ⟨_, ⟨⟨#[]⟩, ⟨#[98]⟩, ⟨#[]⟩, none, 0, rfl, nd_plain _ _ _ _ _ rfl rfl rfl rfl (show 1 < 256 by decide) ⟨show (-9223372036854775808 : Int) ≤ 0 by decide, show (0 : Int) ≤ 9223372036854775807 by decide⟩⟩, fun i hi => match i, hi with
      | 0, _ => rfl
      | 1, _ => rfl
      | 2, _ => rfl
      | 3, _ => rfl
      | 4, _ => rfl
      | 5, _ => rfl⟩
set_option maxRecDepth 100000 in
theorem e_bad : checkV e1 = 8 ∧ checkV e2 = 8 ∧ checkV [] = 8 := by decide +kernel
theorem e_small : (∀ n ∈ e1, SmallN n) ∧ ∀ n ∈ e2, SmallN n := by
  constructor <;> intro n hn
  · simp [e1] at hn
    rcases hn with rfl <;> exact ⟨by decide, by decide, by decide, by decide, fun a h => by cases h⟩
  · simp [e2] at hn
    rcases hn with rfl | rfl <;> exact ⟨by decide, by decide, by decide, by decide, fun a h => by cases h⟩
end Hx
end Go.Proofs.YtbjgfaflikgobaaGreatDoor
