/-
  LineJudges: for every text (as a program can hold it) just one line is judged 200, and the others as the chapter tells: the law returns true, and what was handed in stays as it was; no condition but that the library's listed tables hold what its text lays (the card ties them).
-/
import Derived.Test.YtagngohemlkkoaaDoorLinJ
import Derived.Test.YtagngohemlkkoaaDoorCards
import Derived.Test.YtagngohemlkkoaaDoorTie
import Derived.LaidMore
import Derived.LaidSub
import Derived.MakeChecks
import Derived.Stop.Joined
import Derived.Lib.LaidTab
import Derived.SevenTiedAt
import Derived.WalkKit
import Derived.ProofKit
import Derived.OpenShut
import Derived.ShutString
import Derived.ChangeOld
import Derived.Below
namespace Go.Proofs.YtagngohemlkkoaaDoor.lineJudges
open Go.ChangeShapes Go.WideShapes Go.ChangeAt Go.RowKit
open Go.ChangeMaps (open_string shut_string)
open Hx Ln As Nmb
set_option linter.unusedVariables false

theorem own : ownKnob Tryd.prog.godebug = none := by kernel_rfl
theorem laidOut : laidOutB Tryd.prog = true := by kernel_rfl

set_option linter.unusedVariables false
set_option linter.unusedSimpArgs false
set_option maxHeartbeats 8000000 in
set_option maxRecDepth 100000 in
theorem big1 (s : ByteArray) (w : World) (hT : Tb w) (h : 2000 < s.size) : Calls Tryd.prog 6 #[.string s] w fun e w' => e = .returned (.bool true) ∧ Below w.heap.size w w' := by
  have HA : Hid (∀ W, Below w.heap.size w W → Calls Tryd.prog 11 #[] W fun e w' => e = .returned (.bool true) ∧ Below W.heap.size W w') := Lib.hid fun W hW => alive15 W (hT.to hW)
  have d1 : decide ((2000 : Int) < (s.size : Int)) = true := decide_eq_true (by omega)
  clear h hT
  go_enter Tryd.func6, Tryd.ntmps6
  go_wp2_with (first
    | (go_at_call 11; (with_reducible refine (HA.out _ (Below.refl _ _)).mono ?_); rintro e w1 ⟨rfl, hb1⟩; have HB1 := Lib.hid (stp (Below.refl w.heap.size w) hb1); clear hb1)
    | fail)
  go_ret
  exact ⟨rfl, HB1.out⟩
set_option maxHeartbeats 8000000 in
set_option maxRecDepth 100000 in
theorem none_ (s : ByteArray) (w : World) (hT : Tb w) (h : s.size ≤ 2000) (hp : parseL s.data.toList = none) : Calls Tryd.prog 6 #[.string s] w fun e w' => e = .returned (.bool true) ∧ Below w.heap.size w w' := by
  have HA : Hid (∀ W, Below w.heap.size w W → Calls Tryd.prog 11 #[] W fun e w' => e = .returned (.bool true) ∧ Below W.heap.size W w') := Lib.hid fun W hW => alive15 W (hT.to hW)
  have d1 : decide ((2000 : Int) < (s.size : Int)) = false := decide_eq_false (by omega)
  have HP := Lib.hid fun W => par15 s ⟨#[]⟩ ⟨#[]⟩ 0 0 150 (by omega) (par_none hp) W
  have HJ := Lib.hid fun W => judge15 ⟨#[]⟩ ⟨#[]⟩ 0 0 0 8 W (by decide) (by decide) (judge_no zero_no)
  clear h hT hp
  go_enter Tryd.func6, Tryd.ntmps6
  go_wp2_with (first
    | (go_at_call 11; (with_reducible refine (HA.out _ (Below.refl _ _)).mono ?_); rintro e w1 ⟨rfl, hb1⟩; have HB1 := Lib.hid (stp (Below.refl w.heap.size w) hb1); clear hb1)
    | (go_at_call 12; (with_reducible refine (HP.out _).mono ?_); rintro e w2 ⟨rfl, hb2⟩; have HB2 := Lib.hid (stp HB1.out hb2); clear hb2)
    | (refine wpList_store_row rfl _ _ _ rfl w2.heap.size #[.string ⟨#[]⟩, .string ⟨#[]⟩, .int .i64 0, .int .i64 0] rfl rfl 30 zLn (heap_alloc_new w2 _) sizeLn rfl (oneLn _ _ _ _) ?_; rw [World.setRow_alloc_new]; obtain ⟨w3, hW3, hr3, hb3⟩ := opnV w2 (.cells #[.string ⟨#[]⟩, .string ⟨#[]⟩, .int .i64 0, .int .i64 0] 30); rw [hW3]; have HB3 := Lib.hid (stp HB2.out hb3); have HS3 := Lib.hid hr3; have pS_30 : w3.cell? ⟨w2.heap.size, 0, none⟩ = some (.string ⟨#[]⟩) := cell_of_row _ _ 0 _ _ _ HS3.out; have pS_31 : w3.cell? ⟨w2.heap.size, 1, none⟩ = some (.string ⟨#[]⟩) := cell_of_row _ _ 1 _ _ _ HS3.out; have pS_32 : w3.cell? ⟨w2.heap.size, 2, none⟩ = some (.int .i64 0) := cell_of_row _ _ 2 _ _ _ HS3.out; have pS_33 : w3.cell? ⟨w2.heap.size, 3, none⟩ = some (.int .i64 0) := cell_of_row _ _ 3 _ _ _ HS3.out; clear hW3 hr3 hb3)
    | (refine wpList_load_row rfl _ _ rfl w2.heap.size rfl 30 #[.string ⟨#[]⟩, .string ⟨#[]⟩, .int .i64 0, .int .i64 0] (0, 0) _ HS3.out Tryd.underlying30 rfl sizeLn ?_)
    | (go_at_call 10; (with_reducible refine (HJ.out _).mono ?_); rintro e w4 ⟨rfl, hb4⟩; have HB4 := Lib.hid (stp HB3.out hb4); have HS4 := Lib.hid (kept_heap HS3.out hb4); clear hb4)
    | fail)
  go_ret
  exact ⟨rfl, HB4.out⟩
theorem is_first {s m t : ByteArray} {g k : Nat} (hp : parseL s.data.toList = some (mkL m t g k)) (b : Bool) (h : decide (judgedL (mkL m t g k) = 200) = b) : decide (s.data.toList = (⟨#[80, 79, 83, 84, 32, 47, 104, 116, 116, 112, 45, 98, 105, 110, 100, 32, 72, 84, 84, 80, 47, 49, 46, 49]⟩ : ByteArray).data.toList) = b := by
  rw [← h]
  refine decide_eq_decide.2 ⟨fun e => ?_, fun e => ?_⟩
  · rw [e, lit_first] at hp
    rw [← Option.some.inj hp]
    exact judged_first
  · rw [← (parseL_iff.1 hp).2, ← (parseL_iff.1 lit_first).2]
    unfold judgedL mkL at e
    dsimp only at e
    split at e
    · cases e
    · split at e
      · cases e
      · split at e
        · cases e
        · rename_i q1 q2 q3
          rw [not_or] at q1
          have a1 : (g : Int) = 1 := by have := q1.1; omega
          have a2 : (k : Int) = 1 := by have := q1.2; omega
          have a3 : t.data.toList = one1 := by simpa using q2
          have a4 : m.data.toList = post := by simpa using q3
          unfold mkL
          rw [a1, a2, a3, a4]
          rfl
theorem st_of (n : Int) (h : isSt n = true) : ∃ su : ByteArray, statR n = (su.data.toList, 0) := by
  obtain ⟨su, e⟩ := ba_ex (statR n).1
  refine ⟨su, ?_⟩
  rw [e]
  unfold statR
  rw [if_pos h]
set_option maxHeartbeats 8000000 in
set_option maxRecDepth 100000 in
theorem some_a (s m t : ByteArray) (g k : Nat) (w : World) (hT : Tb w) (h : s.size ≤ 2000) (hp : parseL s.data.toList = some (mkL m t g k)) (hz : m.size + t.size ≤ s.size) (hj : judgedL (mkL m t g k) = 505) (q : ((g : Int) != 1) = true) : Calls Tryd.prog 6 #[.string s] w fun e w' => e = .returned (.bool true) ∧ Below w.heap.size w w' := by
  have HA : Hid (∀ W, Below w.heap.size w W → Calls Tryd.prog 11 #[] W fun e w' => e = .returned (.bool true) ∧ Below W.heap.size W w') := Lib.hid fun W hW => alive15 W (hT.to hW)
  have d1 : decide ((2000 : Int) < (s.size : Int)) = false := decide_eq_false (by omega)
  have HP := Lib.hid fun W => par15 s m t g k 0 (by omega) (par_some hp) W
  have HJ := Lib.hid fun W => judge15 m t g k 505 0 W (by omega) (by omega) (judge_yes (parseL_iff.1 hp).1 hj)
  obtain ⟨su, hsu⟩ := st_of 505 (by decide)
  have HS : Hid (∀ W, Below w.heap.size w W → Calls Tryd.prog 9 #[.int .i64 505] W fun e w' => e = .returned (.tuple #[.string su, .int .i64 0]) ∧ Below W.heap.size W w') := Lib.hid fun W hW => status15 505 su 0 W hsu (hT.to hW)
  have hf := is_first hp false (by rw [hj]; decide)
  have e1 := lit_b s ⟨#[80, 79, 83, 84, 32, 47, 104, 116, 116, 112, 45, 98, 105, 110, 100, 32, 72, 84, 84, 80, 47, 49, 46, 49]⟩ _ rfl false hf
  have x1 : (s.toList == [80, 79, 83, 84, 32, 47, 104, 116, 116, 112, 45, 98, 105, 110, 100, 32, 72, 84, 84, 80, 47, 49, 46, 49]) = false := by rw [← e1, ByteArray.toList_eq (⟨#[80, 79, 83, 84, 32, 47, 104, 116, 116, 112, 45, 98, 105, 110, 100, 32, 72, 84, 84, 80, 47, 49, 46, 49]⟩ : ByteArray)]
  clear hp hz hj hsu hf hT h
  go_enter Tryd.func6, Tryd.ntmps6
  go_wp2_with (first
    | (go_at_call 11; (with_reducible refine (HA.out _ (Below.refl _ _)).mono ?_); rintro e w1 ⟨rfl, hb1⟩; have HB1 := Lib.hid (stp (Below.refl w.heap.size w) hb1); clear hb1)
    | (go_at_call 12; (with_reducible refine (HP.out _).mono ?_); rintro e w2 ⟨rfl, hb2⟩; have HB2 := Lib.hid (stp HB1.out hb2); clear hb2)
    | (refine wpList_store_row rfl _ _ _ rfl w2.heap.size #[.string m, .string t, .int .i64 (g : Int), .int .i64 (k : Int)] rfl rfl 30 zLn (heap_alloc_new w2 _) sizeLn rfl (oneLn _ _ _ _) ?_; rw [World.setRow_alloc_new]; obtain ⟨w3, hW3, hr3, hb3⟩ := opnV w2 (.cells #[.string m, .string t, .int .i64 (g : Int), .int .i64 (k : Int)] 30); rw [hW3]; have HB3 := Lib.hid (stp HB2.out hb3); have HS3 := Lib.hid hr3; have pS_30 : w3.cell? ⟨w2.heap.size, 0, none⟩ = some (.string m) := cell_of_row _ _ 0 _ _ _ HS3.out; have pS_31 : w3.cell? ⟨w2.heap.size, 1, none⟩ = some (.string t) := cell_of_row _ _ 1 _ _ _ HS3.out; have pS_32 : w3.cell? ⟨w2.heap.size, 2, none⟩ = some (.int .i64 (g : Int)) := cell_of_row _ _ 2 _ _ _ HS3.out; have pS_33 : w3.cell? ⟨w2.heap.size, 3, none⟩ = some (.int .i64 (k : Int)) := cell_of_row _ _ 3 _ _ _ HS3.out; clear hW3 hr3 hb3)
    | (refine wpList_load_row rfl _ _ rfl w2.heap.size rfl 30 #[.string m, .string t, .int .i64 (g : Int), .int .i64 (k : Int)] (0, 0) _ HS3.out Tryd.underlying30 rfl sizeLn ?_)
    | (go_at_call 10; (with_reducible refine (HJ.out _).mono ?_); rintro e w4 ⟨rfl, hb4⟩; have HB4 := Lib.hid (stp HB3.out hb4); have HS4 := Lib.hid (kept_heap HS3.out hb4); clear hb4)
    | (go_at_call 9; (with_reducible refine (HS.out _ HB4.out).mono ?_); rintro e w5 ⟨rfl, hb5⟩; have HB5 := Lib.hid (stp HB4.out hb5); have HS5 := Lib.hid (kept_heap HS4.out hb5); have pS_50 : w5.cell? ⟨w2.heap.size, 0, none⟩ = some (.string m) := cell_of_row _ _ 0 _ _ _ HS5.out; have pS_51 : w5.cell? ⟨w2.heap.size, 1, none⟩ = some (.string t) := cell_of_row _ _ 1 _ _ _ HS5.out; have pS_52 : w5.cell? ⟨w2.heap.size, 2, none⟩ = some (.int .i64 (g : Int)) := cell_of_row _ _ 2 _ _ _ HS5.out; have pS_53 : w5.cell? ⟨w2.heap.size, 3, none⟩ = some (.int .i64 (k : Int)) := cell_of_row _ _ 3 _ _ _ HS5.out; clear hb5)
    | fail)
  go_ret
  exact ⟨rfl, HB5.out⟩
set_option maxHeartbeats 8000000 in
set_option maxRecDepth 100000 in
theorem some_b (s m t : ByteArray) (g k : Nat) (w : World) (hT : Tb w) (h : s.size ≤ 2000) (hp : parseL s.data.toList = some (mkL m t g k)) (hz : m.size + t.size ≤ s.size) (hj : judgedL (mkL m t g k) = 505) (q : ((g : Int) != 1) = false) (q2 : ((k : Int) != 1) = true) : Calls Tryd.prog 6 #[.string s] w fun e w' => e = .returned (.bool true) ∧ Below w.heap.size w w' := by
  have HA : Hid (∀ W, Below w.heap.size w W → Calls Tryd.prog 11 #[] W fun e w' => e = .returned (.bool true) ∧ Below W.heap.size W w') := Lib.hid fun W hW => alive15 W (hT.to hW)
  have d1 : decide ((2000 : Int) < (s.size : Int)) = false := decide_eq_false (by omega)
  have HP := Lib.hid fun W => par15 s m t g k 0 (by omega) (par_some hp) W
  have HJ := Lib.hid fun W => judge15 m t g k 505 0 W (by omega) (by omega) (judge_yes (parseL_iff.1 hp).1 hj)
  obtain ⟨su, hsu⟩ := st_of 505 (by decide)
  have HS : Hid (∀ W, Below w.heap.size w W → Calls Tryd.prog 9 #[.int .i64 505] W fun e w' => e = .returned (.tuple #[.string su, .int .i64 0]) ∧ Below W.heap.size W w') := Lib.hid fun W hW => status15 505 su 0 W hsu (hT.to hW)
  have hf := is_first hp false (by rw [hj]; decide)
  have e1 := lit_b s ⟨#[80, 79, 83, 84, 32, 47, 104, 116, 116, 112, 45, 98, 105, 110, 100, 32, 72, 84, 84, 80, 47, 49, 46, 49]⟩ _ rfl false hf
  have x1 : (s.toList == [80, 79, 83, 84, 32, 47, 104, 116, 116, 112, 45, 98, 105, 110, 100, 32, 72, 84, 84, 80, 47, 49, 46, 49]) = false := by rw [← e1, ByteArray.toList_eq (⟨#[80, 79, 83, 84, 32, 47, 104, 116, 116, 112, 45, 98, 105, 110, 100, 32, 72, 84, 84, 80, 47, 49, 46, 49]⟩ : ByteArray)]
  clear hp hz hj hsu hf hT h
  go_enter Tryd.func6, Tryd.ntmps6
  go_wp2_with (first
    | (go_at_call 11; (with_reducible refine (HA.out _ (Below.refl _ _)).mono ?_); rintro e w1 ⟨rfl, hb1⟩; have HB1 := Lib.hid (stp (Below.refl w.heap.size w) hb1); clear hb1)
    | (go_at_call 12; (with_reducible refine (HP.out _).mono ?_); rintro e w2 ⟨rfl, hb2⟩; have HB2 := Lib.hid (stp HB1.out hb2); clear hb2)
    | (refine wpList_store_row rfl _ _ _ rfl w2.heap.size #[.string m, .string t, .int .i64 (g : Int), .int .i64 (k : Int)] rfl rfl 30 zLn (heap_alloc_new w2 _) sizeLn rfl (oneLn _ _ _ _) ?_; rw [World.setRow_alloc_new]; obtain ⟨w3, hW3, hr3, hb3⟩ := opnV w2 (.cells #[.string m, .string t, .int .i64 (g : Int), .int .i64 (k : Int)] 30); rw [hW3]; have HB3 := Lib.hid (stp HB2.out hb3); have HS3 := Lib.hid hr3; have pS_30 : w3.cell? ⟨w2.heap.size, 0, none⟩ = some (.string m) := cell_of_row _ _ 0 _ _ _ HS3.out; have pS_31 : w3.cell? ⟨w2.heap.size, 1, none⟩ = some (.string t) := cell_of_row _ _ 1 _ _ _ HS3.out; have pS_32 : w3.cell? ⟨w2.heap.size, 2, none⟩ = some (.int .i64 (g : Int)) := cell_of_row _ _ 2 _ _ _ HS3.out; have pS_33 : w3.cell? ⟨w2.heap.size, 3, none⟩ = some (.int .i64 (k : Int)) := cell_of_row _ _ 3 _ _ _ HS3.out; clear hW3 hr3 hb3)
    | (refine wpList_load_row rfl _ _ rfl w2.heap.size rfl 30 #[.string m, .string t, .int .i64 (g : Int), .int .i64 (k : Int)] (0, 0) _ HS3.out Tryd.underlying30 rfl sizeLn ?_)
    | (go_at_call 10; (with_reducible refine (HJ.out _).mono ?_); rintro e w4 ⟨rfl, hb4⟩; have HB4 := Lib.hid (stp HB3.out hb4); have HS4 := Lib.hid (kept_heap HS3.out hb4); clear hb4)
    | (go_at_call 9; (with_reducible refine (HS.out _ HB4.out).mono ?_); rintro e w5 ⟨rfl, hb5⟩; have HB5 := Lib.hid (stp HB4.out hb5); have HS5 := Lib.hid (kept_heap HS4.out hb5); have pS_50 : w5.cell? ⟨w2.heap.size, 0, none⟩ = some (.string m) := cell_of_row _ _ 0 _ _ _ HS5.out; have pS_51 : w5.cell? ⟨w2.heap.size, 1, none⟩ = some (.string t) := cell_of_row _ _ 1 _ _ _ HS5.out; have pS_52 : w5.cell? ⟨w2.heap.size, 2, none⟩ = some (.int .i64 (g : Int)) := cell_of_row _ _ 2 _ _ _ HS5.out; have pS_53 : w5.cell? ⟨w2.heap.size, 3, none⟩ = some (.int .i64 (k : Int)) := cell_of_row _ _ 3 _ _ _ HS5.out; clear hb5)
    | fail)
  go_ret
  exact ⟨rfl, HB5.out⟩
set_option maxHeartbeats 8000000 in
set_option maxRecDepth 100000 in
theorem some_c (s m t : ByteArray) (g k : Nat) (w : World) (hT : Tb w) (h : s.size ≤ 2000) (hp : parseL s.data.toList = some (mkL m t g k)) (hz : m.size + t.size ≤ s.size) (hj : judgedL (mkL m t g k) = 404) (q : ((g : Int) != 1) = false) (q2 : ((k : Int) != 1) = false) (q3 : decide (t.data.toList = one1) = false) : Calls Tryd.prog 6 #[.string s] w fun e w' => e = .returned (.bool true) ∧ Below w.heap.size w w' := by
  have HA : Hid (∀ W, Below w.heap.size w W → Calls Tryd.prog 11 #[] W fun e w' => e = .returned (.bool true) ∧ Below W.heap.size W w') := Lib.hid fun W hW => alive15 W (hT.to hW)
  have d1 : decide ((2000 : Int) < (s.size : Int)) = false := decide_eq_false (by omega)
  have HP := Lib.hid fun W => par15 s m t g k 0 (by omega) (par_some hp) W
  have HJ := Lib.hid fun W => judge15 m t g k 404 0 W (by omega) (by omega) (judge_yes (parseL_iff.1 hp).1 hj)
  obtain ⟨su, hsu⟩ := st_of 404 (by decide)
  have HS : Hid (∀ W, Below w.heap.size w W → Calls Tryd.prog 9 #[.int .i64 404] W fun e w' => e = .returned (.tuple #[.string su, .int .i64 0]) ∧ Below W.heap.size W w') := Lib.hid fun W hW => status15 404 su 0 W hsu (hT.to hW)
  have hf := is_first hp false (by rw [hj]; decide)
  have e1 := lit_b s ⟨#[80, 79, 83, 84, 32, 47, 104, 116, 116, 112, 45, 98, 105, 110, 100, 32, 72, 84, 84, 80, 47, 49, 46, 49]⟩ _ rfl false hf
  have x1 : (s.toList == [80, 79, 83, 84, 32, 47, 104, 116, 116, 112, 45, 98, 105, 110, 100, 32, 72, 84, 84, 80, 47, 49, 46, 49]) = false := by rw [← e1, ByteArray.toList_eq (⟨#[80, 79, 83, 84, 32, 47, 104, 116, 116, 112, 45, 98, 105, 110, 100, 32, 72, 84, 84, 80, 47, 49, 46, 49]⟩ : ByteArray)]
  have e2 := lit_b t ⟨#[47, 104, 116, 116, 112, 45, 98, 105, 110, 100]⟩ one1 rfl false q3
  have e3 := lit_n t ⟨#[47, 104, 116, 116, 112, 45, 98, 105, 110, 100]⟩ one1 rfl false q3
  have x2 : (t.toList == [47, 104, 116, 116, 112, 45, 98, 105, 110, 100]) = false := by rw [← e2, ByteArray.toList_eq (⟨#[47, 104, 116, 116, 112, 45, 98, 105, 110, 100]⟩ : ByteArray)]
  clear hp hz hj hsu hf hT h q3
  go_enter Tryd.func6, Tryd.ntmps6
  go_wp2_with (first
    | (go_at_call 11; (with_reducible refine (HA.out _ (Below.refl _ _)).mono ?_); rintro e w1 ⟨rfl, hb1⟩; have HB1 := Lib.hid (stp (Below.refl w.heap.size w) hb1); clear hb1)
    | (go_at_call 12; (with_reducible refine (HP.out _).mono ?_); rintro e w2 ⟨rfl, hb2⟩; have HB2 := Lib.hid (stp HB1.out hb2); clear hb2)
    | (refine wpList_store_row rfl _ _ _ rfl w2.heap.size #[.string m, .string t, .int .i64 (g : Int), .int .i64 (k : Int)] rfl rfl 30 zLn (heap_alloc_new w2 _) sizeLn rfl (oneLn _ _ _ _) ?_; rw [World.setRow_alloc_new]; obtain ⟨w3, hW3, hr3, hb3⟩ := opnV w2 (.cells #[.string m, .string t, .int .i64 (g : Int), .int .i64 (k : Int)] 30); rw [hW3]; have HB3 := Lib.hid (stp HB2.out hb3); have HS3 := Lib.hid hr3; have pS_30 : w3.cell? ⟨w2.heap.size, 0, none⟩ = some (.string m) := cell_of_row _ _ 0 _ _ _ HS3.out; have pS_31 : w3.cell? ⟨w2.heap.size, 1, none⟩ = some (.string t) := cell_of_row _ _ 1 _ _ _ HS3.out; have pS_32 : w3.cell? ⟨w2.heap.size, 2, none⟩ = some (.int .i64 (g : Int)) := cell_of_row _ _ 2 _ _ _ HS3.out; have pS_33 : w3.cell? ⟨w2.heap.size, 3, none⟩ = some (.int .i64 (k : Int)) := cell_of_row _ _ 3 _ _ _ HS3.out; clear hW3 hr3 hb3)
    | (refine wpList_load_row rfl _ _ rfl w2.heap.size rfl 30 #[.string m, .string t, .int .i64 (g : Int), .int .i64 (k : Int)] (0, 0) _ HS3.out Tryd.underlying30 rfl sizeLn ?_)
    | (go_at_call 10; (with_reducible refine (HJ.out _).mono ?_); rintro e w4 ⟨rfl, hb4⟩; have HB4 := Lib.hid (stp HB3.out hb4); have HS4 := Lib.hid (kept_heap HS3.out hb4); clear hb4)
    | (go_at_call 9; (with_reducible refine (HS.out _ HB4.out).mono ?_); rintro e w5 ⟨rfl, hb5⟩; have HB5 := Lib.hid (stp HB4.out hb5); have HS5 := Lib.hid (kept_heap HS4.out hb5); have pS_50 : w5.cell? ⟨w2.heap.size, 0, none⟩ = some (.string m) := cell_of_row _ _ 0 _ _ _ HS5.out; have pS_51 : w5.cell? ⟨w2.heap.size, 1, none⟩ = some (.string t) := cell_of_row _ _ 1 _ _ _ HS5.out; have pS_52 : w5.cell? ⟨w2.heap.size, 2, none⟩ = some (.int .i64 (g : Int)) := cell_of_row _ _ 2 _ _ _ HS5.out; have pS_53 : w5.cell? ⟨w2.heap.size, 3, none⟩ = some (.int .i64 (k : Int)) := cell_of_row _ _ 3 _ _ _ HS5.out; clear hb5)
    | fail)
  go_ret
  exact ⟨rfl, HB5.out⟩
set_option maxHeartbeats 8000000 in
set_option maxRecDepth 100000 in
theorem some_d (s m t : ByteArray) (g k : Nat) (w : World) (hT : Tb w) (h : s.size ≤ 2000) (hp : parseL s.data.toList = some (mkL m t g k)) (hz : m.size + t.size ≤ s.size) (hj : judgedL (mkL m t g k) = 405) (q : ((g : Int) != 1) = false) (q2 : ((k : Int) != 1) = false) (q3 : decide (t.data.toList = one1) = true) : Calls Tryd.prog 6 #[.string s] w fun e w' => e = .returned (.bool true) ∧ Below w.heap.size w w' := by
  have HA : Hid (∀ W, Below w.heap.size w W → Calls Tryd.prog 11 #[] W fun e w' => e = .returned (.bool true) ∧ Below W.heap.size W w') := Lib.hid fun W hW => alive15 W (hT.to hW)
  have d1 : decide ((2000 : Int) < (s.size : Int)) = false := decide_eq_false (by omega)
  have HP := Lib.hid fun W => par15 s m t g k 0 (by omega) (par_some hp) W
  have HJ := Lib.hid fun W => judge15 m t g k 405 0 W (by omega) (by omega) (judge_yes (parseL_iff.1 hp).1 hj)
  obtain ⟨su, hsu⟩ := st_of 405 (by decide)
  have HS : Hid (∀ W, Below w.heap.size w W → Calls Tryd.prog 9 #[.int .i64 405] W fun e w' => e = .returned (.tuple #[.string su, .int .i64 0]) ∧ Below W.heap.size W w') := Lib.hid fun W hW => status15 405 su 0 W hsu (hT.to hW)
  have hf := is_first hp false (by rw [hj]; decide)
  have e1 := lit_b s ⟨#[80, 79, 83, 84, 32, 47, 104, 116, 116, 112, 45, 98, 105, 110, 100, 32, 72, 84, 84, 80, 47, 49, 46, 49]⟩ _ rfl false hf
  have x1 : (s.toList == [80, 79, 83, 84, 32, 47, 104, 116, 116, 112, 45, 98, 105, 110, 100, 32, 72, 84, 84, 80, 47, 49, 46, 49]) = false := by rw [← e1, ByteArray.toList_eq (⟨#[80, 79, 83, 84, 32, 47, 104, 116, 116, 112, 45, 98, 105, 110, 100, 32, 72, 84, 84, 80, 47, 49, 46, 49]⟩ : ByteArray)]
  have e2 := lit_b t ⟨#[47, 104, 116, 116, 112, 45, 98, 105, 110, 100]⟩ one1 rfl true q3
  have e3 := lit_n t ⟨#[47, 104, 116, 116, 112, 45, 98, 105, 110, 100]⟩ one1 rfl true q3
  have x2 : (t.toList == [47, 104, 116, 116, 112, 45, 98, 105, 110, 100]) = true := by rw [← e2, ByteArray.toList_eq (⟨#[47, 104, 116, 116, 112, 45, 98, 105, 110, 100]⟩ : ByteArray)]
  clear hp hz hj hsu hf hT h q3
  go_enter Tryd.func6, Tryd.ntmps6
  go_wp2_with (first
    | (go_at_call 11; (with_reducible refine (HA.out _ (Below.refl _ _)).mono ?_); rintro e w1 ⟨rfl, hb1⟩; have HB1 := Lib.hid (stp (Below.refl w.heap.size w) hb1); clear hb1)
    | (go_at_call 12; (with_reducible refine (HP.out _).mono ?_); rintro e w2 ⟨rfl, hb2⟩; have HB2 := Lib.hid (stp HB1.out hb2); clear hb2)
    | (refine wpList_store_row rfl _ _ _ rfl w2.heap.size #[.string m, .string t, .int .i64 (g : Int), .int .i64 (k : Int)] rfl rfl 30 zLn (heap_alloc_new w2 _) sizeLn rfl (oneLn _ _ _ _) ?_; rw [World.setRow_alloc_new]; obtain ⟨w3, hW3, hr3, hb3⟩ := opnV w2 (.cells #[.string m, .string t, .int .i64 (g : Int), .int .i64 (k : Int)] 30); rw [hW3]; have HB3 := Lib.hid (stp HB2.out hb3); have HS3 := Lib.hid hr3; have pS_30 : w3.cell? ⟨w2.heap.size, 0, none⟩ = some (.string m) := cell_of_row _ _ 0 _ _ _ HS3.out; have pS_31 : w3.cell? ⟨w2.heap.size, 1, none⟩ = some (.string t) := cell_of_row _ _ 1 _ _ _ HS3.out; have pS_32 : w3.cell? ⟨w2.heap.size, 2, none⟩ = some (.int .i64 (g : Int)) := cell_of_row _ _ 2 _ _ _ HS3.out; have pS_33 : w3.cell? ⟨w2.heap.size, 3, none⟩ = some (.int .i64 (k : Int)) := cell_of_row _ _ 3 _ _ _ HS3.out; clear hW3 hr3 hb3)
    | (refine wpList_load_row rfl _ _ rfl w2.heap.size rfl 30 #[.string m, .string t, .int .i64 (g : Int), .int .i64 (k : Int)] (0, 0) _ HS3.out Tryd.underlying30 rfl sizeLn ?_)
    | (go_at_call 10; (with_reducible refine (HJ.out _).mono ?_); rintro e w4 ⟨rfl, hb4⟩; have HB4 := Lib.hid (stp HB3.out hb4); have HS4 := Lib.hid (kept_heap HS3.out hb4); clear hb4)
    | (go_at_call 9; (with_reducible refine (HS.out _ HB4.out).mono ?_); rintro e w5 ⟨rfl, hb5⟩; have HB5 := Lib.hid (stp HB4.out hb5); have HS5 := Lib.hid (kept_heap HS4.out hb5); have pS_50 : w5.cell? ⟨w2.heap.size, 0, none⟩ = some (.string m) := cell_of_row _ _ 0 _ _ _ HS5.out; have pS_51 : w5.cell? ⟨w2.heap.size, 1, none⟩ = some (.string t) := cell_of_row _ _ 1 _ _ _ HS5.out; have pS_52 : w5.cell? ⟨w2.heap.size, 2, none⟩ = some (.int .i64 (g : Int)) := cell_of_row _ _ 2 _ _ _ HS5.out; have pS_53 : w5.cell? ⟨w2.heap.size, 3, none⟩ = some (.int .i64 (k : Int)) := cell_of_row _ _ 3 _ _ _ HS5.out; clear hb5)
    | fail)
  go_ret
  exact ⟨rfl, HB5.out⟩
set_option maxHeartbeats 8000000 in
set_option maxRecDepth 100000 in
theorem some_e (s m t : ByteArray) (g k : Nat) (w : World) (hT : Tb w) (h : s.size ≤ 2000) (hp : parseL s.data.toList = some (mkL m t g k)) (hz : m.size + t.size ≤ s.size) (hj : judgedL (mkL m t g k) = 200) (q : ((g : Int) != 1) = false) (q2 : ((k : Int) != 1) = false) (q3 : decide (t.data.toList = one1) = true) : Calls Tryd.prog 6 #[.string s] w fun e w' => e = .returned (.bool true) ∧ Below w.heap.size w w' := by
  have HA : Hid (∀ W, Below w.heap.size w W → Calls Tryd.prog 11 #[] W fun e w' => e = .returned (.bool true) ∧ Below W.heap.size W w') := Lib.hid fun W hW => alive15 W (hT.to hW)
  have d1 : decide ((2000 : Int) < (s.size : Int)) = false := decide_eq_false (by omega)
  have HP := Lib.hid fun W => par15 s m t g k 0 (by omega) (par_some hp) W
  have HJ := Lib.hid fun W => judge15 m t g k 200 0 W (by omega) (by omega) (judge_yes (parseL_iff.1 hp).1 hj)
  obtain ⟨su, hsu⟩ := st_of 200 (by decide)
  have HS : Hid (∀ W, Below w.heap.size w W → Calls Tryd.prog 9 #[.int .i64 200] W fun e w' => e = .returned (.tuple #[.string su, .int .i64 0]) ∧ Below W.heap.size W w') := Lib.hid fun W hW => status15 200 su 0 W hsu (hT.to hW)
  have hf := is_first hp true (by rw [hj]; decide)
  have e1 := lit_b s ⟨#[80, 79, 83, 84, 32, 47, 104, 116, 116, 112, 45, 98, 105, 110, 100, 32, 72, 84, 84, 80, 47, 49, 46, 49]⟩ _ rfl true hf
  have x1 : (s.toList == [80, 79, 83, 84, 32, 47, 104, 116, 116, 112, 45, 98, 105, 110, 100, 32, 72, 84, 84, 80, 47, 49, 46, 49]) = true := by rw [← e1, ByteArray.toList_eq (⟨#[80, 79, 83, 84, 32, 47, 104, 116, 116, 112, 45, 98, 105, 110, 100, 32, 72, 84, 84, 80, 47, 49, 46, 49]⟩ : ByteArray)]
  have e2 := lit_b t ⟨#[47, 104, 116, 116, 112, 45, 98, 105, 110, 100]⟩ one1 rfl true q3
  have e3 := lit_n t ⟨#[47, 104, 116, 116, 112, 45, 98, 105, 110, 100]⟩ one1 rfl true q3
  have x2 : (t.toList == [47, 104, 116, 116, 112, 45, 98, 105, 110, 100]) = true := by rw [← e2, ByteArray.toList_eq (⟨#[47, 104, 116, 116, 112, 45, 98, 105, 110, 100]⟩ : ByteArray)]
  clear hp hz hj hsu hf hT h q3
  go_enter Tryd.func6, Tryd.ntmps6
  go_wp2_with (first
    | (go_at_call 11; (with_reducible refine (HA.out _ (Below.refl _ _)).mono ?_); rintro e w1 ⟨rfl, hb1⟩; have HB1 := Lib.hid (stp (Below.refl w.heap.size w) hb1); clear hb1)
    | (go_at_call 12; (with_reducible refine (HP.out _).mono ?_); rintro e w2 ⟨rfl, hb2⟩; have HB2 := Lib.hid (stp HB1.out hb2); clear hb2)
    | (refine wpList_store_row rfl _ _ _ rfl w2.heap.size #[.string m, .string t, .int .i64 (g : Int), .int .i64 (k : Int)] rfl rfl 30 zLn (heap_alloc_new w2 _) sizeLn rfl (oneLn _ _ _ _) ?_; rw [World.setRow_alloc_new]; obtain ⟨w3, hW3, hr3, hb3⟩ := opnV w2 (.cells #[.string m, .string t, .int .i64 (g : Int), .int .i64 (k : Int)] 30); rw [hW3]; have HB3 := Lib.hid (stp HB2.out hb3); have HS3 := Lib.hid hr3; have pS_30 : w3.cell? ⟨w2.heap.size, 0, none⟩ = some (.string m) := cell_of_row _ _ 0 _ _ _ HS3.out; have pS_31 : w3.cell? ⟨w2.heap.size, 1, none⟩ = some (.string t) := cell_of_row _ _ 1 _ _ _ HS3.out; have pS_32 : w3.cell? ⟨w2.heap.size, 2, none⟩ = some (.int .i64 (g : Int)) := cell_of_row _ _ 2 _ _ _ HS3.out; have pS_33 : w3.cell? ⟨w2.heap.size, 3, none⟩ = some (.int .i64 (k : Int)) := cell_of_row _ _ 3 _ _ _ HS3.out; clear hW3 hr3 hb3)
    | (refine wpList_load_row rfl _ _ rfl w2.heap.size rfl 30 #[.string m, .string t, .int .i64 (g : Int), .int .i64 (k : Int)] (0, 0) _ HS3.out Tryd.underlying30 rfl sizeLn ?_)
    | (go_at_call 10; (with_reducible refine (HJ.out _).mono ?_); rintro e w4 ⟨rfl, hb4⟩; have HB4 := Lib.hid (stp HB3.out hb4); have HS4 := Lib.hid (kept_heap HS3.out hb4); clear hb4)
    | (go_at_call 9; (with_reducible refine (HS.out _ HB4.out).mono ?_); rintro e w5 ⟨rfl, hb5⟩; have HB5 := Lib.hid (stp HB4.out hb5); have HS5 := Lib.hid (kept_heap HS4.out hb5); have pS_50 : w5.cell? ⟨w2.heap.size, 0, none⟩ = some (.string m) := cell_of_row _ _ 0 _ _ _ HS5.out; have pS_51 : w5.cell? ⟨w2.heap.size, 1, none⟩ = some (.string t) := cell_of_row _ _ 1 _ _ _ HS5.out; have pS_52 : w5.cell? ⟨w2.heap.size, 2, none⟩ = some (.int .i64 (g : Int)) := cell_of_row _ _ 2 _ _ _ HS5.out; have pS_53 : w5.cell? ⟨w2.heap.size, 3, none⟩ = some (.int .i64 (k : Int)) := cell_of_row _ _ 3 _ _ _ HS5.out; clear hb5)
    | fail)
  go_ret
  exact ⟨rfl, HB5.out⟩
theorem walk (s : ByteArray) (w : World) (w0 : s.size ≤ maxLen) (hT : Tb w) : Calls Tryd.prog 6 #[.string s] w fun e w' => e = .returned (.bool true) ∧ Below w.heap.size w w' := by
  by_cases h1 : 2000 < s.size
  · exact big1 s w hT h1
  cases hp : parseL s.data.toList with
  | none => exact none_ s w hT (by omega) hp
  | some x =>
    obtain ⟨m, t, g, k, rfl, _, _, _, hz, _⟩ := some_mk hp
    by_cases a1 : (g : Int) = 1
    · have q : ((g : Int) != 1) = false := by simp [a1]
      by_cases a2 : (k : Int) = 1
      · have q2 : ((k : Int) != 1) = false := by simp [a2]
        by_cases a3 : t.data.toList = one1
        · by_cases a4 : m.data.toList = post
          · exact some_e s m t g k w hT (by omega) hp hz (by unfold judgedL mkL; dsimp only; rw [if_neg (fun h => h.elim (fun a => a a1) (fun a => a a2)), if_neg (fun h => h a3), if_neg (fun h => h a4)]) q q2 (decide_eq_true a3)
          · exact some_d s m t g k w hT (by omega) hp hz (by unfold judgedL mkL; dsimp only; rw [if_neg (fun h => h.elim (fun a => a a1) (fun a => a a2)), if_neg (fun h => h a3), if_pos a4]) q q2 (decide_eq_true a3)
        · exact some_c s m t g k w hT (by omega) hp hz (by unfold judgedL mkL; dsimp only; rw [if_neg (fun h => h.elim (fun a => a a1) (fun a => a a2)), if_pos a3]) q q2 (decide_eq_false a3)
      · exact some_b s m t g k w hT (by omega) hp hz (by unfold judgedL mkL; dsimp only; rw [if_pos (.inr a2)]) q (by simp [a2])
    · exact some_a s m t g k w hT (by omega) hp hz (by unfold judgedL mkL; dsimp only; rw [if_pos (.inl a1)]) (by simp [a1])

theorem gTab : Tryd.prog.globalNamed "internal/strconv.uint64pow10" = some 0 := by kernel_rfl
theorem gTabType : (Tryd.prog.globals[0]?).map (·.type) = some 94 := by kernel_rfl
/-- What the row's list gives. -/
theorem table {W : World} (h : laidMetH Tryd.prog Rows.lineJudgesRow.laid W) : Tb W := by
  rw [MakeChecks.laidMetH_plain _ _ _ (by kernel_rfl)] at h
  have h2 := laidMet.filter (fun x => x.1 == "internal/strconv.uint64pow10") h
  have e : Rows.lineJudgesRow.laid.filter (fun x => x.1 == "internal/strconv.uint64pow10") = [("internal/strconv.uint64pow10", Lib.tabData .u64 Lib.pow10Tab)] := by kernel_rfl
  rw [e] at h2
  exact Lib.tabIs_of_head (rest := []) gTab gTabType Tryd.underlying94 Tryd.underlying84 (by kernel_rfl) (by kernel_rfl) h2
theorem door_met (os : Os) (args : Array Value) : laidMetH Tryd.prog Rows.lineJudgesRow.laid ((World.doorLaid Tryd.prog 400 os).forCall (fun _ _ => 0) ⟨#[], args, []⟩).memory :=
  laidMetH_of_parts3 (fuel := 8) (laidMet_of_run' 8 (by kernel_rfl) (by kernel_rfl)) (by kernel_rfl) (by kernel_rfl)
set_option maxRecDepth 100000 in
theorem lifted (os : Os) (started : os.Started) (H : Type) (enc : TypeId × Value → H) :
    ReturnsInHanded {} Tryd.checked os 6 .any (fun w args => (Rows.lineJudgesSpec.pre enc Tryd.prog Tryd.f6 [] false w args ∧ laidMetH Tryd.prog Rows.lineJudgesRow.laid w) ∧ sizedMet enc Tryd.prog Tryd.f6 (OpenSpec.ofChange Rows.lineJudgesSpec) false w args) (Rows.lineJudgesSpec.post enc Tryd.prog Tryd.f6 false true false false) := by
  refine returnsInHanded_of_change_and (C := Tryd.checked) (X := fun w _ => laidMetH Tryd.prog Rows.lineJudgesRow.laid w) (fun _ _ _ hh h => h.of_heap hh) own started (by kernel_rfl) Tryd.func6
    (ChangeSpec.witness_shaped (enc := enc) (C := Tryd.checked) (os := os) (X := fun w _ => laidMetH Tryd.prog Rows.lineJudgesRow.laid w) false (World.doorLaid Tryd.prog 400 os) #[.string ByteArray.empty] 8 rfl (World.shaped_of_RefB (by kernel_rfl) (by kernel_rfl)) (by kernel_rfl) (by kernel_rfl) (by kernel_rfl) (door_met os _)) ?_
  intro W base args ds gs before hval0 hW _ hwt hL _
  have hval : ∀ (j : Nat) t v, Tryd.f6.params[j]? = some t → args[j]? = some v → Value.okWide Tryd.prog W .any base t v := hval0
  have hW' := hW
  obtain ⟨p, q, hA0, hV, rfl, hfz, hnd⟩ := hW
  have hA : DataW.TrodAll enc Tryd.prog W 0 (fun _ => true) true Tryd.f6.params.toList args.toList ds p := hA0
  rw [Tryd.params6] at hA hval
  obtain ⟨v0, vs0, d0, ds0, p0, q0, hargs, rfl, rfl, h0, r0⟩ := trodAll_cons hA
  obtain ⟨rfl, rfl, rfl⟩ := trodAll_nil r0
  obtain rfl : args = #[v0] := by cases args; simp_all
  obtain ⟨rfl, rfl⟩ := trodVars_none hV
  obtain ⟨a0, rfl, rfl, rfl, w0⟩ := open_string Tryd.underlying9 (hval 0 9 v0 rfl rfl) h0
  clear hA0 hval0
  refine (walk a0 W w0 (table hL)).mono fun e W' ⟨he, bel⟩ => ?_
  subst he
  exact ⟨_, rfl, _, _, _, [], _, [], hW', trodAll_mk1 (shut_bool Tryd.underlying4 _), (trodAll_cons_mk (shut_string Tryd.underlying9 w0) trodAll_mk0), rfl, bel.frame _, fun h => by cases h⟩

theorem over : Rows.lineJudgesRow.holds Tryd.pinned (OpenSpec.ofChange Rows.lineJudgesSpec) :=
  OpenClaim.holds_of_wide 6 Tryd.f6 rfl rfl rfl rfl rfl rfl rfl ⟨rfl, rfl, rfl, rfl, rfl⟩ rfl rfl rfl rfl rfl (by kernel_rfl) Tryd.func6 (by kernel_rfl)
    (of_decide_eq_true (by kernel_rfl)) (by unfold Func.isWrapper; first | (rw [if_pos (by decide +kernel)]; kernel_rfl) | (rw [if_neg (by decide +kernel)]; exact ⟨rfl, rfl⟩))
    (fun os started H enc _ => lifted os started H enc)

theorem said : Rows.LineJudgesSaid := over
theorem plain (f : FuncId) (fn : Func) (hf : Tryd.pinned.checked.prog.funcNamed "tidewaiter/tidewaiterlaw15.LineJudges" = some f) (hfn : Tryd.pinned.checked.prog.funcs[f]? = some fn) :
    false = Tryd.pinned.checked.prog.looks [] ∧ ∀ (j : Nat) t, fn.params[j]? = some t → Tryd.pinned.checked.prog.wantsStandIn t = false := by
  obtain rfl : f = 6 := Option.some.inj ((show Tryd.prog.funcNamed "tidewaiter/tidewaiterlaw15.LineJudges" = some 6 by kernel_rfl).symm.trans hf) |>.symm
  obtain rfl : fn = Tryd.f6 := (Option.some.inj (Tryd.func6.symm.trans hfn)).symm
  refine ⟨by kernel_rfl, fun j t ht => ?_⟩
  rw [Tryd.params6] at ht
  have hm : t ∈ [9] := by simpa using Array.mem_of_getElem? ht
  have hall : ([9].all fun u => !Tryd.prog.wantsStandIn u) = true := by kernel_rfl
  exact (show Tryd.prog.wantsStandIn t = false by simpa using List.all_eq_true.1 hall t hm)
theorem proved : Rows.LineJudgesCardSaid :=
  Claim7.holds_tied_plain_at .later [] _ _ _ _ said (fun _ h => by cases h) (by kernel_rfl) (fun _ h => by cases h) lineJudges_row_tie rfl ⟨rfl, rfl⟩ (by kernel_rfl) rfl plain (by kernel_rfl)
end Go.Proofs.YtagngohemlkkoaaDoor.lineJudges
