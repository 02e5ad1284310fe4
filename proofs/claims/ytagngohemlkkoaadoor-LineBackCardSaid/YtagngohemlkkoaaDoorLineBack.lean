/-
  LineBack: for every line and text (as a program can hold them) what is written is read as that line, and what is read is written as just this text: the law returns true, and what was handed in stays as it was; no condition but that the library's listed tables hold what its text lays (the card ties them).
-/
import Derived.Test.YtagngohemlkkoaaDoorLinJ
import Derived.Test.YtagngohemlkkoaaDoorCards
import Derived.Test.YtagngohemlkkoaaDoorTie
import Derived.LaidMore
import Derived.LaidSub
import Derived.MakeChecks
import Derived.Stop.Joined
import Derived.Lib.LaidTab
import Derived.SevenTiedAt
import Derived.WalkKit
import Derived.ProofKit
import Derived.OpenShut
import Derived.ShutString
import Derived.ChangeOld
import Derived.Below
namespace Go.Proofs.YtagngohemlkkoaaDoor.lineBack
open Go.ChangeShapes Go.WideShapes Go.ChangeAt Go.RowKit
open Go.ChangeMaps (open_string shut_string)
open Hx Ln As Nmb
set_option linter.unusedVariables false

theorem own : ownKnob Tryd.prog.godebug = none := by kernel_rfl
theorem laidOut : laidOutB Tryd.prog = true := by kernel_rfl

set_option linter.unusedVariables false
set_option linter.unusedSimpArgs false
set_option maxHeartbeats 8000000 in
set_option maxRecDepth 100000 in
theorem big1 (s m t : ByteArray) (g k : Int) (w : World) (hT : Tb w) (h : 2000 < s.size) : Calls Tryd.prog 5 #[.agg #[.string m, .string t, .int .i64 g, .int .i64 k], .string s] w fun e w' => e = .returned (.bool true) ∧ Below w.heap.size w w' := by
  have HA : Hid (∀ W, Below w.heap.size w W → Calls Tryd.prog 11 #[] W fun e w' => e = .returned (.bool true) ∧ Below W.heap.size W w') := Lib.hid fun W hW => alive15 W (hT.to hW)
  have d1 : decide ((2000 : Int) < (s.size : Int)) = true := decide_eq_true (by omega)
  clear h hT
  go_enter Tryd.func5, Tryd.ntmps5
  go_wp2_with (first
    | (go_at_call 11; (with_reducible refine (HA.out _ (stpA (Below.refl w.heap.size w) (.cells #[.string m, .string t, .int .i64 g, .int .i64 k] 30))).mono ?_); rintro e w1 ⟨rfl, hb1⟩; have HB1 := Lib.hid (stp (stpA (Below.refl w.heap.size w) (.cells #[.string m, .string t, .int .i64 g, .int .i64 k] 30)) hb1); have HL1 := Lib.hid (kept_heap (heap_alloc_new w (.cells #[.string m, .string t, .int .i64 g, .int .i64 k] 30)) hb1); have pL_10 : w1.cell? ⟨w.heap.size, 0, none⟩ = some (.string m) := cell_of_row _ _ 0 _ _ _ HL1.out; have pL_11 : w1.cell? ⟨w.heap.size, 1, none⟩ = some (.string t) := cell_of_row _ _ 1 _ _ _ HL1.out; have pL_12 : w1.cell? ⟨w.heap.size, 2, none⟩ = some (.int .i64 g) := cell_of_row _ _ 2 _ _ _ HL1.out; have pL_13 : w1.cell? ⟨w.heap.size, 3, none⟩ = some (.int .i64 k) := cell_of_row _ _ 3 _ _ _ HL1.out; clear hb1)
    | fail)
  go_ret
  exact ⟨rfl, HB1.out⟩
set_option maxHeartbeats 8000000 in
set_option maxRecDepth 100000 in
theorem big2 (s m t : ByteArray) (g k : Int) (w : World) (hT : Tb w) (h : ¬ 2000 < s.size) (h2 : 2000 < m.size + t.size) (hm : m.size ≤ 4611686018427387903) (ht : t.size ≤ 4611686018427387903) : Calls Tryd.prog 5 #[.agg #[.string m, .string t, .int .i64 g, .int .i64 k], .string s] w fun e w' => e = .returned (.bool true) ∧ Below w.heap.size w w' := by
  have HA : Hid (∀ W, Below w.heap.size w W → Calls Tryd.prog 11 #[] W fun e w' => e = .returned (.bool true) ∧ Below W.heap.size W w') := Lib.hid fun W hW => alive15 W (hT.to hW)
  have d1 : decide ((2000 : Int) < (s.size : Int)) = false := decide_eq_false (by omega)
  have d2 : decide ((2000 : Int) < (m.size : Int) + (t.size : Int)) = true := decide_eq_true (by omega)
  have u1 : IntKind.i64.wrap ((m.size : Int) + (t.size : Int)) = (m.size : Int) + (t.size : Int) := IntWalk.i64_in _ (by omega)
  clear h h2 hm ht hT
  go_enter Tryd.func5, Tryd.ntmps5
  go_wp2_with (first
    | (go_at_call 11; (with_reducible refine (HA.out _ (stpA (Below.refl w.heap.size w) (.cells #[.string m, .string t, .int .i64 g, .int .i64 k] 30))).mono ?_); rintro e w1 ⟨rfl, hb1⟩; have HB1 := Lib.hid (stp (stpA (Below.refl w.heap.size w) (.cells #[.string m, .string t, .int .i64 g, .int .i64 k] 30)) hb1); have HL1 := Lib.hid (kept_heap (heap_alloc_new w (.cells #[.string m, .string t, .int .i64 g, .int .i64 k] 30)) hb1); have pL_10 : w1.cell? ⟨w.heap.size, 0, none⟩ = some (.string m) := cell_of_row _ _ 0 _ _ _ HL1.out; have pL_11 : w1.cell? ⟨w.heap.size, 1, none⟩ = some (.string t) := cell_of_row _ _ 1 _ _ _ HL1.out; have pL_12 : w1.cell? ⟨w.heap.size, 2, none⟩ = some (.int .i64 g) := cell_of_row _ _ 2 _ _ _ HL1.out; have pL_13 : w1.cell? ⟨w.heap.size, 3, none⟩ = some (.int .i64 k) := cell_of_row _ _ 3 _ _ _ HL1.out; clear hb1)
    | fail)
  go_ret
  exact ⟨rfl, HB1.out⟩
set_option maxHeartbeats 8000000 in
set_option maxRecDepth 100000 in
theorem back_nz (s m t : ByteArray) (g k : Int) (w : World) (hs : s.size ≤ 2000) (h2 : m.size + t.size ≤ 2000) (hT : Tb w) (hy : mayL (mkL m t g k) = false) (hp : parseL s.data.toList = none) : Calls Tryd.prog 5 #[.agg #[.string m, .string t, .int .i64 g, .int .i64 k], .string s] w fun e w' => e = .returned (.bool true) ∧ Below w.heap.size w w' := by
  have HA : Hid (∀ W, Below w.heap.size w W → Calls Tryd.prog 11 #[] W fun e w' => e = .returned (.bool true) ∧ Below W.heap.size W w') := Lib.hid fun W hW => alive15 W (hT.to hW)
  have d1 : decide ((2000 : Int) < (s.size : Int)) = false := decide_eq_false (by omega)
  have d2 : decide ((2000 : Int) < (m.size : Int) + (t.size : Int)) = false := decide_eq_false (by omega)
  have u1 : IntKind.i64.wrap ((m.size : Int) + (t.size : Int)) = (m.size : Int) + (t.size : Int) := IntWalk.i64_in _ (by omega)
  have HW : Hid (∀ W, Below w.heap.size w W → Calls Tryd.prog 14 #[.agg #[.string m, .string t, .int .i64 g, .int .i64 k]] W fun e w' => e = .returned (.tuple #[.string ⟨#[]⟩, .int .i64 8]) ∧ Below W.heap.size W w') := Lib.hid fun W hW => write15 m t ⟨#[]⟩ g k 8 W (by omega) (by omega) (by unfold writeR15; rw [if_neg (by rw [hy]; simp)]) (hT.to hW)
  have HP2 := Lib.hid fun W => par15 s ⟨#[]⟩ ⟨#[]⟩ 0 0 150 (by omega) (par_none hp) W
  clear hs h2 hT hy hp
  go_enter Tryd.func5, Tryd.ntmps5
  go_wp2_with (first
    | (go_at_call 11; (with_reducible refine (HA.out _ (stpA (Below.refl w.heap.size w) (.cells #[.string m, .string t, .int .i64 g, .int .i64 k] 30))).mono ?_); rintro e w1 ⟨rfl, hb1⟩; have HB1 := Lib.hid (stp (stpA (Below.refl w.heap.size w) (.cells #[.string m, .string t, .int .i64 g, .int .i64 k] 30)) hb1); have HL1 := Lib.hid (kept_heap (heap_alloc_new w (.cells #[.string m, .string t, .int .i64 g, .int .i64 k] 30)) hb1); have pL_10 : w1.cell? ⟨w.heap.size, 0, none⟩ = some (.string m) := cell_of_row _ _ 0 _ _ _ HL1.out; have pL_11 : w1.cell? ⟨w.heap.size, 1, none⟩ = some (.string t) := cell_of_row _ _ 1 _ _ _ HL1.out; have pL_12 : w1.cell? ⟨w.heap.size, 2, none⟩ = some (.int .i64 g) := cell_of_row _ _ 2 _ _ _ HL1.out; have pL_13 : w1.cell? ⟨w.heap.size, 3, none⟩ = some (.int .i64 k) := cell_of_row _ _ 3 _ _ _ HL1.out; clear hb1)
    | (refine wpList_load_row rfl _ _ rfl w.heap.size rfl 30 #[.string m, .string t, .int .i64 g, .int .i64 k] (0, 0) _ HL1.out Tryd.underlying30 rfl sizeLn ?_)
    | (go_at_call 14; (with_reducible refine (HW.out _ HB1.out).mono ?_); rintro e w2 ⟨rfl, hb2⟩; have HB2 := Lib.hid (stp HB1.out hb2); have HL2 := Lib.hid (kept_heap HL1.out hb2); clear hb2)
    | (go_at_call 12; (with_reducible refine (HP2.out _).mono ?_); rintro e w3 ⟨rfl, hb3⟩; have HB3 := Lib.hid (stp HB2.out hb3); have HL3 := Lib.hid (kept_heap HL2.out hb3); clear hb3)
    | (refine wpList_store_row rfl _ _ _ rfl w3.heap.size #[.string ⟨#[]⟩, .string ⟨#[]⟩, .int .i64 0, .int .i64 0] rfl rfl 30 zLn (heap_alloc_new w3 _) sizeLn rfl (oneLn _ _ _ _) ?_; rw [World.setRow_alloc_new]; obtain ⟨w4, hW4, hr4, hb4⟩ := opnV w3 (.cells #[.string ⟨#[]⟩, .string ⟨#[]⟩, .int .i64 0, .int .i64 0] 30); rw [hW4]; have HB4 := Lib.hid (stp HB3.out hb4); have HL4 := Lib.hid (kept_heap HL3.out hb4); have HS4 := Lib.hid hr4; have pS_40 : w4.cell? ⟨w3.heap.size, 0, none⟩ = some (.string ⟨#[]⟩) := cell_of_row _ _ 0 _ _ _ HS4.out; have pS_41 : w4.cell? ⟨w3.heap.size, 1, none⟩ = some (.string ⟨#[]⟩) := cell_of_row _ _ 1 _ _ _ HS4.out; have pS_42 : w4.cell? ⟨w3.heap.size, 2, none⟩ = some (.int .i64 0) := cell_of_row _ _ 2 _ _ _ HS4.out; have pS_43 : w4.cell? ⟨w3.heap.size, 3, none⟩ = some (.int .i64 0) := cell_of_row _ _ 3 _ _ _ HS4.out; clear hW4 hr4 hb4)
    | fail)
  go_ret
  exact ⟨rfl, HB4.out⟩
set_option maxHeartbeats 8000000 in
set_option maxRecDepth 100000 in
theorem back_ns (s m t : ByteArray) (g k : Int) (w : World) (hs : s.size ≤ 2000) (h2 : m.size + t.size ≤ 2000) (hT : Tb w) (hy : mayL (mkL m t g k) = false) (pm pt : ByteArray) (pg pk : Nat) (hp : parseL s.data.toList = some (mkL pm pt pg pk)) (hps : pm.size + pt.size ≤ s.size) : Calls Tryd.prog 5 #[.agg #[.string m, .string t, .int .i64 g, .int .i64 k], .string s] w fun e w' => e = .returned (.bool true) ∧ Below w.heap.size w w' := by
  have HA : Hid (∀ W, Below w.heap.size w W → Calls Tryd.prog 11 #[] W fun e w' => e = .returned (.bool true) ∧ Below W.heap.size W w') := Lib.hid fun W hW => alive15 W (hT.to hW)
  have d1 : decide ((2000 : Int) < (s.size : Int)) = false := decide_eq_false (by omega)
  have d2 : decide ((2000 : Int) < (m.size : Int) + (t.size : Int)) = false := decide_eq_false (by omega)
  have u1 : IntKind.i64.wrap ((m.size : Int) + (t.size : Int)) = (m.size : Int) + (t.size : Int) := IntWalk.i64_in _ (by omega)
  have HW : Hid (∀ W, Below w.heap.size w W → Calls Tryd.prog 14 #[.agg #[.string m, .string t, .int .i64 g, .int .i64 k]] W fun e w' => e = .returned (.tuple #[.string ⟨#[]⟩, .int .i64 8]) ∧ Below W.heap.size W w') := Lib.hid fun W hW => write15 m t ⟨#[]⟩ g k 8 W (by omega) (by omega) (by unfold writeR15; rw [if_neg (by rw [hy]; simp)]) (hT.to hW)
  have HP2 := Lib.hid fun W => par15 s pm pt pg pk 0 (by omega) (par_some hp) W
  have HW2 : Hid (∀ W, Below w.heap.size w W → Calls Tryd.prog 14 #[.agg #[.string pm, .string pt, .int .i64 (pg : Int), .int .i64 (pk : Int)]] W fun e w' => e = .returned (.tuple #[.string s, .int .i64 0]) ∧ Below W.heap.size W w') := Lib.hid fun W hW => write15 pm pt s pg pk 0 W (by omega) (by omega) (by obtain ⟨q1, q2⟩ := parseL_iff.1 hp; unfold writeR15; rw [if_pos q1, q2]) (hT.to hW)
  clear hs h2 hT hy hp hps
  go_enter Tryd.func5, Tryd.ntmps5
  go_wp2_with (first
    | (go_at_call 11; (with_reducible refine (HA.out _ (stpA (Below.refl w.heap.size w) (.cells #[.string m, .string t, .int .i64 g, .int .i64 k] 30))).mono ?_); rintro e w1 ⟨rfl, hb1⟩; have HB1 := Lib.hid (stp (stpA (Below.refl w.heap.size w) (.cells #[.string m, .string t, .int .i64 g, .int .i64 k] 30)) hb1); have HL1 := Lib.hid (kept_heap (heap_alloc_new w (.cells #[.string m, .string t, .int .i64 g, .int .i64 k] 30)) hb1); have pL_10 : w1.cell? ⟨w.heap.size, 0, none⟩ = some (.string m) := cell_of_row _ _ 0 _ _ _ HL1.out; have pL_11 : w1.cell? ⟨w.heap.size, 1, none⟩ = some (.string t) := cell_of_row _ _ 1 _ _ _ HL1.out; have pL_12 : w1.cell? ⟨w.heap.size, 2, none⟩ = some (.int .i64 g) := cell_of_row _ _ 2 _ _ _ HL1.out; have pL_13 : w1.cell? ⟨w.heap.size, 3, none⟩ = some (.int .i64 k) := cell_of_row _ _ 3 _ _ _ HL1.out; clear hb1)
    | (refine wpList_load_row rfl _ _ rfl w.heap.size rfl 30 #[.string m, .string t, .int .i64 g, .int .i64 k] (0, 0) _ HL1.out Tryd.underlying30 rfl sizeLn ?_)
    | (go_at_call 14; (with_reducible refine (HW.out _ HB1.out).mono ?_); rintro e w2 ⟨rfl, hb2⟩; have HB2 := Lib.hid (stp HB1.out hb2); have HL2 := Lib.hid (kept_heap HL1.out hb2); clear hb2)
    | (go_at_call 12; (with_reducible refine (HP2.out _).mono ?_); rintro e w3 ⟨rfl, hb3⟩; have HB3 := Lib.hid (stp HB2.out hb3); have HL3 := Lib.hid (kept_heap HL2.out hb3); clear hb3)
    | (refine wpList_store_row rfl _ _ _ rfl w3.heap.size #[.string pm, .string pt, .int .i64 (pg : Int), .int .i64 (pk : Int)] rfl rfl 30 zLn (heap_alloc_new w3 _) sizeLn rfl (oneLn _ _ _ _) ?_; rw [World.setRow_alloc_new]; obtain ⟨w4, hW4, hr4, hb4⟩ := opnV w3 (.cells #[.string pm, .string pt, .int .i64 (pg : Int), .int .i64 (pk : Int)] 30); rw [hW4]; have HB4 := Lib.hid (stp HB3.out hb4); have HL4 := Lib.hid (kept_heap HL3.out hb4); have HS4 := Lib.hid hr4; have pS_40 : w4.cell? ⟨w3.heap.size, 0, none⟩ = some (.string pm) := cell_of_row _ _ 0 _ _ _ HS4.out; have pS_41 : w4.cell? ⟨w3.heap.size, 1, none⟩ = some (.string pt) := cell_of_row _ _ 1 _ _ _ HS4.out; have pS_42 : w4.cell? ⟨w3.heap.size, 2, none⟩ = some (.int .i64 (pg : Int)) := cell_of_row _ _ 2 _ _ _ HS4.out; have pS_43 : w4.cell? ⟨w3.heap.size, 3, none⟩ = some (.int .i64 (pk : Int)) := cell_of_row _ _ 3 _ _ _ HS4.out; clear hW4 hr4 hb4)
    | (refine wpList_load_row rfl _ _ rfl w3.heap.size rfl 30 #[.string pm, .string pt, .int .i64 (pg : Int), .int .i64 (pk : Int)] (0, 0) _ HS4.out Tryd.underlying30 rfl sizeLn ?_)
    | (go_at_call 14; (with_reducible refine (HW2.out _ HB4.out).mono ?_); rintro e w5 ⟨rfl, hb5⟩; have HB5 := Lib.hid (stp HB4.out hb5); have HL5 := Lib.hid (kept_heap HL4.out hb5); have HS5 := Lib.hid (kept_heap HS4.out hb5); clear hb5)
    | fail)
  go_ret
  exact ⟨rfl, HB5.out⟩
set_option maxHeartbeats 8000000 in
set_option maxRecDepth 100000 in
theorem back_yz (s m t : ByteArray) (g k : Nat) (w : World) (hs : s.size ≤ 2000) (h2 : m.size + t.size ≤ 2000) (hT : Tb w) (hy : mayL (mkL m t g k) = true) (hp : parseL s.data.toList = none) : Calls Tryd.prog 5 #[.agg #[.string m, .string t, .int .i64 (g : Int), .int .i64 (k : Int)], .string s] w fun e w' => e = .returned (.bool true) ∧ Below w.heap.size w w' := by
  have HA : Hid (∀ W, Below w.heap.size w W → Calls Tryd.prog 11 #[] W fun e w' => e = .returned (.bool true) ∧ Below W.heap.size W w') := Lib.hid fun W hW => alive15 W (hT.to hW)
  have d1 : decide ((2000 : Int) < (s.size : Int)) = false := decide_eq_false (by omega)
  have d2 : decide ((2000 : Int) < (m.size : Int) + (t.size : Int)) = false := decide_eq_false (by omega)
  have u1 : IntKind.i64.wrap ((m.size : Int) + (t.size : Int)) = (m.size : Int) + (t.size : Int) := IntWalk.i64_in _ (by omega)
  obtain ⟨wu, hwu⟩ := ba_ex (textL (mkL m t g k))
  have hwz : wu.size ≤ 1000000 := by
    have := text_len hy
    rw [← hwu, ba_len7] at this
    unfold mkL at this
    dsimp only at this
    rw [ba_len7, ba_len7] at this
    omega
  have HW : Hid (∀ W, Below w.heap.size w W → Calls Tryd.prog 14 #[.agg #[.string m, .string t, .int .i64 (g : Int), .int .i64 (k : Int)]] W fun e w' => e = .returned (.tuple #[.string wu, .int .i64 0]) ∧ Below W.heap.size W w') := Lib.hid fun W hW => write15 m t wu g k 0 W (by omega) (by omega) (by unfold writeR15; rw [if_pos hy, hwu]) (hT.to hW)
  have HP1 := Lib.hid fun W => par15 wu m t g k 0 hwz (par_some (by rw [hwu]; exact parse_text hy)) W
  have HTk := Lib.hid fun W => token7 m true W (by omega) (mayL_iff.1 hy).1
  have HP2 := Lib.hid fun W => par15 s ⟨#[]⟩ ⟨#[]⟩ 0 0 150 (by omega) (par_none hp) W
  clear hs h2 hT hy hp hwu hwz
  go_enter Tryd.func5, Tryd.ntmps5
  go_wp2_with (first
    | (go_at_call 11; (with_reducible refine (HA.out _ (stpA (Below.refl w.heap.size w) (.cells #[.string m, .string t, .int .i64 (g : Int), .int .i64 (k : Int)] 30))).mono ?_); rintro e w1 ⟨rfl, hb1⟩; have HB1 := Lib.hid (stp (stpA (Below.refl w.heap.size w) (.cells #[.string m, .string t, .int .i64 (g : Int), .int .i64 (k : Int)] 30)) hb1); have HL1 := Lib.hid (kept_heap (heap_alloc_new w (.cells #[.string m, .string t, .int .i64 (g : Int), .int .i64 (k : Int)] 30)) hb1); have pL_10 : w1.cell? ⟨w.heap.size, 0, none⟩ = some (.string m) := cell_of_row _ _ 0 _ _ _ HL1.out; have pL_11 : w1.cell? ⟨w.heap.size, 1, none⟩ = some (.string t) := cell_of_row _ _ 1 _ _ _ HL1.out; have pL_12 : w1.cell? ⟨w.heap.size, 2, none⟩ = some (.int .i64 (g : Int)) := cell_of_row _ _ 2 _ _ _ HL1.out; have pL_13 : w1.cell? ⟨w.heap.size, 3, none⟩ = some (.int .i64 (k : Int)) := cell_of_row _ _ 3 _ _ _ HL1.out; clear hb1)
    | (refine wpList_load_row rfl _ _ rfl w.heap.size rfl 30 #[.string m, .string t, .int .i64 (g : Int), .int .i64 (k : Int)] (0, 0) _ HL1.out Tryd.underlying30 rfl sizeLn ?_)
    | (go_at_call 14; (with_reducible refine (HW.out _ HB1.out).mono ?_); rintro e w2 ⟨rfl, hb2⟩; have HB2 := Lib.hid (stp HB1.out hb2); have HL2 := Lib.hid (kept_heap HL1.out hb2); clear hb2)
    | (go_at_call 12; (with_reducible refine (HP1.out _).mono ?_); rintro e w3 ⟨rfl, hb3⟩; have HB3 := Lib.hid (stp HB2.out hb3); have HL3 := Lib.hid (kept_heap HL2.out hb3); clear hb3)
    | (refine wpList_store_row rfl _ _ _ rfl w3.heap.size #[.string m, .string t, .int .i64 (g : Int), .int .i64 (k : Int)] rfl rfl 30 zLn (heap_alloc_new w3 _) sizeLn rfl (oneLn _ _ _ _) ?_; rw [World.setRow_alloc_new]; obtain ⟨w4, hW4, hr4, hb4⟩ := opnV w3 (.cells #[.string m, .string t, .int .i64 (g : Int), .int .i64 (k : Int)] 30); rw [hW4]; have HB4 := Lib.hid (stp HB3.out hb4); have HL4 := Lib.hid (kept_heap HL3.out hb4); have pL_40 : w4.cell? ⟨w.heap.size, 0, none⟩ = some (.string m) := cell_of_row _ _ 0 _ _ _ HL4.out; have pL_41 : w4.cell? ⟨w.heap.size, 1, none⟩ = some (.string t) := cell_of_row _ _ 1 _ _ _ HL4.out; have pL_42 : w4.cell? ⟨w.heap.size, 2, none⟩ = some (.int .i64 (g : Int)) := cell_of_row _ _ 2 _ _ _ HL4.out; have pL_43 : w4.cell? ⟨w.heap.size, 3, none⟩ = some (.int .i64 (k : Int)) := cell_of_row _ _ 3 _ _ _ HL4.out; have HM4 := Lib.hid hr4; have pM_40 : w4.cell? ⟨w3.heap.size, 0, none⟩ = some (.string m) := cell_of_row _ _ 0 _ _ _ HM4.out; have pM_41 : w4.cell? ⟨w3.heap.size, 1, none⟩ = some (.string t) := cell_of_row _ _ 1 _ _ _ HM4.out; have pM_42 : w4.cell? ⟨w3.heap.size, 2, none⟩ = some (.int .i64 (g : Int)) := cell_of_row _ _ 2 _ _ _ HM4.out; have pM_43 : w4.cell? ⟨w3.heap.size, 3, none⟩ = some (.int .i64 (k : Int)) := cell_of_row _ _ 3 _ _ _ HM4.out; clear hW4 hr4 hb4)
    | (go_at_call 18; (with_reducible refine (HTk.out _).mono ?_); rintro e w5 ⟨rfl, hb5⟩; have HB5 := Lib.hid (stp HB4.out hb5); have HL5 := Lib.hid (kept_heap HL4.out hb5); have HM5 := Lib.hid (kept_heap HM4.out hb5); clear hb5)
    | (go_at_call 12; (with_reducible refine (HP2.out _).mono ?_); rintro e w6 ⟨rfl, hb6⟩; have HB6 := Lib.hid (stp HB5.out hb6); have HL6 := Lib.hid (kept_heap HL5.out hb6); have HM6 := Lib.hid (kept_heap HM5.out hb6); clear hb6)
    | (refine wpList_store_row rfl _ _ _ rfl w6.heap.size #[.string ⟨#[]⟩, .string ⟨#[]⟩, .int .i64 0, .int .i64 0] rfl rfl 30 zLn (heap_alloc_new w6 _) sizeLn rfl (oneLn _ _ _ _) ?_; rw [World.setRow_alloc_new]; obtain ⟨w7, hW7, hr7, hb7⟩ := opnV w6 (.cells #[.string ⟨#[]⟩, .string ⟨#[]⟩, .int .i64 0, .int .i64 0] 30); rw [hW7]; have HB7 := Lib.hid (stp HB6.out hb7); have HL7 := Lib.hid (kept_heap HL6.out hb7); have HM7 := Lib.hid (kept_heap HM6.out hb7); have HS7 := Lib.hid hr7; have pS_70 : w7.cell? ⟨w6.heap.size, 0, none⟩ = some (.string ⟨#[]⟩) := cell_of_row _ _ 0 _ _ _ HS7.out; have pS_71 : w7.cell? ⟨w6.heap.size, 1, none⟩ = some (.string ⟨#[]⟩) := cell_of_row _ _ 1 _ _ _ HS7.out; have pS_72 : w7.cell? ⟨w6.heap.size, 2, none⟩ = some (.int .i64 0) := cell_of_row _ _ 2 _ _ _ HS7.out; have pS_73 : w7.cell? ⟨w6.heap.size, 3, none⟩ = some (.int .i64 0) := cell_of_row _ _ 3 _ _ _ HS7.out; clear hW7 hr7 hb7)
    | fail)
  go_ret
  exact ⟨rfl, HB7.out⟩
set_option maxHeartbeats 8000000 in
set_option maxRecDepth 100000 in
theorem back_ys (s m t : ByteArray) (g k : Nat) (w : World) (hs : s.size ≤ 2000) (h2 : m.size + t.size ≤ 2000) (hT : Tb w) (hy : mayL (mkL m t g k) = true) (pm pt : ByteArray) (pg pk : Nat) (hp : parseL s.data.toList = some (mkL pm pt pg pk)) (hps : pm.size + pt.size ≤ s.size) : Calls Tryd.prog 5 #[.agg #[.string m, .string t, .int .i64 (g : Int), .int .i64 (k : Int)], .string s] w fun e w' => e = .returned (.bool true) ∧ Below w.heap.size w w' := by
  have HA : Hid (∀ W, Below w.heap.size w W → Calls Tryd.prog 11 #[] W fun e w' => e = .returned (.bool true) ∧ Below W.heap.size W w') := Lib.hid fun W hW => alive15 W (hT.to hW)
  have d1 : decide ((2000 : Int) < (s.size : Int)) = false := decide_eq_false (by omega)
  have d2 : decide ((2000 : Int) < (m.size : Int) + (t.size : Int)) = false := decide_eq_false (by omega)
  have u1 : IntKind.i64.wrap ((m.size : Int) + (t.size : Int)) = (m.size : Int) + (t.size : Int) := IntWalk.i64_in _ (by omega)
  obtain ⟨wu, hwu⟩ := ba_ex (textL (mkL m t g k))
  have hwz : wu.size ≤ 1000000 := by
    have := text_len hy
    rw [← hwu, ba_len7] at this
    unfold mkL at this
    dsimp only at this
    rw [ba_len7, ba_len7] at this
    omega
  have HW : Hid (∀ W, Below w.heap.size w W → Calls Tryd.prog 14 #[.agg #[.string m, .string t, .int .i64 (g : Int), .int .i64 (k : Int)]] W fun e w' => e = .returned (.tuple #[.string wu, .int .i64 0]) ∧ Below W.heap.size W w') := Lib.hid fun W hW => write15 m t wu g k 0 W (by omega) (by omega) (by unfold writeR15; rw [if_pos hy, hwu]) (hT.to hW)
  have HP1 := Lib.hid fun W => par15 wu m t g k 0 hwz (par_some (by rw [hwu]; exact parse_text hy)) W
  have HTk := Lib.hid fun W => token7 m true W (by omega) (mayL_iff.1 hy).1
  have HP2 := Lib.hid fun W => par15 s pm pt pg pk 0 (by omega) (par_some hp) W
  have HW2 : Hid (∀ W, Below w.heap.size w W → Calls Tryd.prog 14 #[.agg #[.string pm, .string pt, .int .i64 (pg : Int), .int .i64 (pk : Int)]] W fun e w' => e = .returned (.tuple #[.string s, .int .i64 0]) ∧ Below W.heap.size W w') := Lib.hid fun W hW => write15 pm pt s pg pk 0 W (by omega) (by omega) (by obtain ⟨q1, q2⟩ := parseL_iff.1 hp; unfold writeR15; rw [if_pos q1, q2]) (hT.to hW)
  clear hs h2 hT hy hp hwu hwz hps
  go_enter Tryd.func5, Tryd.ntmps5
  go_wp2_with (first
    | (go_at_call 11; (with_reducible refine (HA.out _ (stpA (Below.refl w.heap.size w) (.cells #[.string m, .string t, .int .i64 (g : Int), .int .i64 (k : Int)] 30))).mono ?_); rintro e w1 ⟨rfl, hb1⟩; have HB1 := Lib.hid (stp (stpA (Below.refl w.heap.size w) (.cells #[.string m, .string t, .int .i64 (g : Int), .int .i64 (k : Int)] 30)) hb1); have HL1 := Lib.hid (kept_heap (heap_alloc_new w (.cells #[.string m, .string t, .int .i64 (g : Int), .int .i64 (k : Int)] 30)) hb1); have pL_10 : w1.cell? ⟨w.heap.size, 0, none⟩ = some (.string m) := cell_of_row _ _ 0 _ _ _ HL1.out; have pL_11 : w1.cell? ⟨w.heap.size, 1, none⟩ = some (.string t) := cell_of_row _ _ 1 _ _ _ HL1.out; have pL_12 : w1.cell? ⟨w.heap.size, 2, none⟩ = some (.int .i64 (g : Int)) := cell_of_row _ _ 2 _ _ _ HL1.out; have pL_13 : w1.cell? ⟨w.heap.size, 3, none⟩ = some (.int .i64 (k : Int)) := cell_of_row _ _ 3 _ _ _ HL1.out; clear hb1)
    | (refine wpList_load_row rfl _ _ rfl w.heap.size rfl 30 #[.string m, .string t, .int .i64 (g : Int), .int .i64 (k : Int)] (0, 0) _ HL1.out Tryd.underlying30 rfl sizeLn ?_)
    | (go_at_call 14; (with_reducible refine (HW.out _ HB1.out).mono ?_); rintro e w2 ⟨rfl, hb2⟩; have HB2 := Lib.hid (stp HB1.out hb2); have HL2 := Lib.hid (kept_heap HL1.out hb2); clear hb2)
    | (go_at_call 12; (with_reducible refine (HP1.out _).mono ?_); rintro e w3 ⟨rfl, hb3⟩; have HB3 := Lib.hid (stp HB2.out hb3); have HL3 := Lib.hid (kept_heap HL2.out hb3); clear hb3)
    | (refine wpList_store_row rfl _ _ _ rfl w3.heap.size #[.string m, .string t, .int .i64 (g : Int), .int .i64 (k : Int)] rfl rfl 30 zLn (heap_alloc_new w3 _) sizeLn rfl (oneLn _ _ _ _) ?_; rw [World.setRow_alloc_new]; obtain ⟨w4, hW4, hr4, hb4⟩ := opnV w3 (.cells #[.string m, .string t, .int .i64 (g : Int), .int .i64 (k : Int)] 30); rw [hW4]; have HB4 := Lib.hid (stp HB3.out hb4); have HL4 := Lib.hid (kept_heap HL3.out hb4); have pL_40 : w4.cell? ⟨w.heap.size, 0, none⟩ = some (.string m) := cell_of_row _ _ 0 _ _ _ HL4.out; have pL_41 : w4.cell? ⟨w.heap.size, 1, none⟩ = some (.string t) := cell_of_row _ _ 1 _ _ _ HL4.out; have pL_42 : w4.cell? ⟨w.heap.size, 2, none⟩ = some (.int .i64 (g : Int)) := cell_of_row _ _ 2 _ _ _ HL4.out; have pL_43 : w4.cell? ⟨w.heap.size, 3, none⟩ = some (.int .i64 (k : Int)) := cell_of_row _ _ 3 _ _ _ HL4.out; have HM4 := Lib.hid hr4; have pM_40 : w4.cell? ⟨w3.heap.size, 0, none⟩ = some (.string m) := cell_of_row _ _ 0 _ _ _ HM4.out; have pM_41 : w4.cell? ⟨w3.heap.size, 1, none⟩ = some (.string t) := cell_of_row _ _ 1 _ _ _ HM4.out; have pM_42 : w4.cell? ⟨w3.heap.size, 2, none⟩ = some (.int .i64 (g : Int)) := cell_of_row _ _ 2 _ _ _ HM4.out; have pM_43 : w4.cell? ⟨w3.heap.size, 3, none⟩ = some (.int .i64 (k : Int)) := cell_of_row _ _ 3 _ _ _ HM4.out; clear hW4 hr4 hb4)
    | (go_at_call 18; (with_reducible refine (HTk.out _).mono ?_); rintro e w5 ⟨rfl, hb5⟩; have HB5 := Lib.hid (stp HB4.out hb5); have HL5 := Lib.hid (kept_heap HL4.out hb5); have HM5 := Lib.hid (kept_heap HM4.out hb5); clear hb5)
    | (go_at_call 12; (with_reducible refine (HP2.out _).mono ?_); rintro e w6 ⟨rfl, hb6⟩; have HB6 := Lib.hid (stp HB5.out hb6); have HL6 := Lib.hid (kept_heap HL5.out hb6); have HM6 := Lib.hid (kept_heap HM5.out hb6); clear hb6)
    | (refine wpList_store_row rfl _ _ _ rfl w6.heap.size #[.string pm, .string pt, .int .i64 (pg : Int), .int .i64 (pk : Int)] rfl rfl 30 zLn (heap_alloc_new w6 _) sizeLn rfl (oneLn _ _ _ _) ?_; rw [World.setRow_alloc_new]; obtain ⟨w7, hW7, hr7, hb7⟩ := opnV w6 (.cells #[.string pm, .string pt, .int .i64 (pg : Int), .int .i64 (pk : Int)] 30); rw [hW7]; have HB7 := Lib.hid (stp HB6.out hb7); have HL7 := Lib.hid (kept_heap HL6.out hb7); have HM7 := Lib.hid (kept_heap HM6.out hb7); have HS7 := Lib.hid hr7; have pS_70 : w7.cell? ⟨w6.heap.size, 0, none⟩ = some (.string pm) := cell_of_row _ _ 0 _ _ _ HS7.out; have pS_71 : w7.cell? ⟨w6.heap.size, 1, none⟩ = some (.string pt) := cell_of_row _ _ 1 _ _ _ HS7.out; have pS_72 : w7.cell? ⟨w6.heap.size, 2, none⟩ = some (.int .i64 (pg : Int)) := cell_of_row _ _ 2 _ _ _ HS7.out; have pS_73 : w7.cell? ⟨w6.heap.size, 3, none⟩ = some (.int .i64 (pk : Int)) := cell_of_row _ _ 3 _ _ _ HS7.out; clear hW7 hr7 hb7)
    | (refine wpList_load_row rfl _ _ rfl w6.heap.size rfl 30 #[.string pm, .string pt, .int .i64 (pg : Int), .int .i64 (pk : Int)] (0, 0) _ HS7.out Tryd.underlying30 rfl sizeLn ?_)
    | (go_at_call 14; (with_reducible refine (HW2.out _ HB7.out).mono ?_); rintro e w8 ⟨rfl, hb8⟩; have HB8 := Lib.hid (stp HB7.out hb8); have HL8 := Lib.hid (kept_heap HL7.out hb8); have HM8 := Lib.hid (kept_heap HM7.out hb8); have HS8 := Lib.hid (kept_heap HS7.out hb8); clear hb8)
    | fail)
  go_ret
  exact ⟨rfl, HB8.out⟩
theorem walk (m t : ByteArray) (g k : Int) (s : ByteArray) (w : World) (w0 : m.size ≤ reachBytes) (z0 : t.size ≤ reachBytes) (w1 : s.size ≤ maxLen) (hT : Tb w) :
    Calls Tryd.prog 5 #[.agg #[.string m, .string t, .int .i64 g, .int .i64 k], .string s] w fun e w' => e = .returned (.bool true) ∧ Below w.heap.size w w' := by
  unfold reachBytes at w0 z0
  by_cases h1 : 2000 < s.size
  · exact big1 s m t g k w hT h1
  by_cases h2 : 2000 < m.size + t.size
  · exact big2 s m t g k w hT h1 h2 (by omega) (by omega)
  cases hy : mayL (mkL m t g k) with
  | false =>
    cases hp : parseL s.data.toList with
    | none => exact back_nz s m t g k w (by omega) (by omega) hT hy hp
    | some x =>
      obtain ⟨a, b, c, d, rfl, _, _, _, hz, _⟩ := some_mk hp
      exact back_ns s m t g k w (by omega) (by omega) hT hy a b c d hp hz
  | true =>
    obtain ⟨n1, n2, e1, e2, _, _⟩ := may_nat hy
    subst e1 e2
    cases hp : parseL s.data.toList with
    | none => exact back_yz s m t n1 n2 w (by omega) (by omega) hT hy hp
    | some x =>
      obtain ⟨a, b, c, d, rfl, _, _, _, hz, _⟩ := some_mk hp
      exact back_ys s m t n1 n2 w (by omega) (by omega) hT hy a b c d hp hz

theorem gTab : Tryd.prog.globalNamed "internal/strconv.uint64pow10" = some 0 := by kernel_rfl
theorem gTabType : (Tryd.prog.globals[0]?).map (·.type) = some 94 := by kernel_rfl
/-- What the row's list gives. -/
theorem table {W : World} (h : laidMetH Tryd.prog Rows.lineBackRow.laid W) : Tb W := by
  rw [MakeChecks.laidMetH_plain _ _ _ (by kernel_rfl)] at h
  have h2 := laidMet.filter (fun x => x.1 == "internal/strconv.uint64pow10") h
  have e : Rows.lineBackRow.laid.filter (fun x => x.1 == "internal/strconv.uint64pow10") = [("internal/strconv.uint64pow10", Lib.tabData .u64 Lib.pow10Tab)] := by kernel_rfl
  rw [e] at h2
  exact Lib.tabIs_of_head (rest := []) gTab gTabType Tryd.underlying94 Tryd.underlying84 (by kernel_rfl) (by kernel_rfl) h2
theorem door_met (os : Os) (args : Array Value) : laidMetH Tryd.prog Rows.lineBackRow.laid ((World.doorLaid Tryd.prog 400 os).forCall (fun _ _ => 0) ⟨#[], args, []⟩).memory :=
  laidMetH_of_parts3 (fuel := 8) (laidMet_of_run' 8 (by kernel_rfl) (by kernel_rfl)) (by kernel_rfl) (by kernel_rfl)
set_option maxRecDepth 100000 in
theorem lifted (os : Os) (started : os.Started) (H : Type) (enc : TypeId × Value → H) :
    ReturnsInHanded {} Tryd.checked os 5 .any (fun w args => (Rows.lineBackSpec.pre enc Tryd.prog Tryd.f5 [] false w args ∧ laidMetH Tryd.prog Rows.lineBackRow.laid w) ∧ sizedMet enc Tryd.prog Tryd.f5 (OpenSpec.ofChange Rows.lineBackSpec) false w args) (Rows.lineBackSpec.post enc Tryd.prog Tryd.f5 false true false false) := by
  refine returnsInHanded_of_change_and (C := Tryd.checked) (X := fun w _ => laidMetH Tryd.prog Rows.lineBackRow.laid w) (fun _ _ _ hh h => h.of_heap hh) own started (by kernel_rfl) Tryd.func5
    (ChangeSpec.witness_shaped (enc := enc) (C := Tryd.checked) (os := os) (X := fun w _ => laidMetH Tryd.prog Rows.lineBackRow.laid w) false (World.doorLaid Tryd.prog 400 os) #[.agg #[.string ByteArray.empty, .string ByteArray.empty, .int .i64 0, .int .i64 0], .string ByteArray.empty] 8 rfl (World.shaped_of_RefB (by kernel_rfl) (by kernel_rfl)) (by kernel_rfl) (by kernel_rfl) (by kernel_rfl) (door_met os _)) ?_
  intro W base args ds gs before hval0 hW _ hwt hL _
  have hval : ∀ (j : Nat) t v, Tryd.f5.params[j]? = some t → args[j]? = some v → Value.okWide Tryd.prog W .any base t v := hval0
  have hW' := hW
  obtain ⟨p, q, hA0, hV, rfl, hfz, hnd⟩ := hW
  have hA : DataW.TrodAll enc Tryd.prog W 0 (fun _ => true) true Tryd.f5.params.toList args.toList ds p := hA0
  rw [Tryd.params5] at hA hval
  obtain ⟨v0, vs0, d0, ds0, p0, q0, hargs, rfl, rfl, h0, r0⟩ := trodAll_cons hA
  obtain ⟨v1, vs1, d1, ds1, p1, q1, rfl, rfl, rfl, h1, r1⟩ := trodAll_cons r0
  obtain ⟨rfl, rfl, rfl⟩ := trodAll_nil r1
  obtain rfl : args = #[v0, v1] := by cases args; simp_all
  obtain ⟨rfl, rfl⟩ := trodVars_none hV
  obtain ⟨cs0, rfl, _⟩ := okWide_struct Tryd.underlying30 (hval 0 30 v0 rfl rfl)
  have k0 := h0
  have lt0 : ∀ x ∈ p0, x.block < W.heap.size := by obtain ⟨m, hm⟩ := k0; exact DataW.trod_lt m _ _ _ hm
  obtain ⟨f0, hf0⟩ := h0
  obtain ⟨x0, y0, g0, s0, e0, u0, u'0, a0⟩ := opens_line15 hf0
  obtain rfl : cs0 = #[.string x0, .string y0, .int .i64 g0, .int .i64 s0] := by cases cs0; simpa [Value.cells] using e0
  obtain rfl : d0 = .agg [.lit (.string x0.data.toList), .lit (.string y0.data.toList), u0, u'0] := a0
  obtain ⟨a1, rfl, rfl, rfl, w1⟩ := open_string Tryd.underlying9 (hval 1 9 v1 rfl rfl) h1
  have room0 : x0.size ≤ reachBytes ∧ y0.size ≤ reachBytes := by
    rw [Tryd.params5] at hwt
    have h := w_line (w_cons hwt).1
    rw [ba_len7, ba_len7] at h
    exact h
  clear hA0 hval0
  refine (walk x0 y0 g0 s0 a1 W (room0).1 (room0).2 w1 (table hL)).mono fun e W' ⟨he, bel⟩ => ?_
  subst he
  exact ⟨_, rfl, _, _, _, [], _, [], hW', trodAll_mk1 (shut_bool Tryd.underlying4 _), (trodAll_cons_mk (Below.trod laidOut (by kernel_rfl) (of_decide_eq_true (by kernel_rfl)) k0 bel lt0) (trodAll_cons_mk (shut_string Tryd.underlying9 w1) trodAll_mk0)), rfl, bel.frame _, fun h => by cases h⟩

theorem over : Rows.lineBackRow.holds Tryd.pinned (OpenSpec.ofChange Rows.lineBackSpec) :=
  OpenClaim.holds_of_wide 5 Tryd.f5 rfl rfl rfl rfl rfl rfl rfl ⟨rfl, rfl, rfl, rfl, rfl⟩ rfl rfl rfl rfl rfl (by kernel_rfl) Tryd.func5 (by kernel_rfl)
    (of_decide_eq_true (by kernel_rfl)) (by unfold Func.isWrapper; first | (rw [if_pos (by decide +kernel)]; kernel_rfl) | (rw [if_neg (by decide +kernel)]; exact ⟨rfl, rfl⟩))
    (fun os started H enc _ => lifted os started H enc)

theorem said : Rows.LineBackSaid := over
theorem plain (f : FuncId) (fn : Func) (hf : Tryd.pinned.checked.prog.funcNamed "tidewaiter/tidewaiterlaw15.LineBack" = some f) (hfn : Tryd.pinned.checked.prog.funcs[f]? = some fn) :
    false = Tryd.pinned.checked.prog.looks [] ∧ ∀ (j : Nat) t, fn.params[j]? = some t → Tryd.pinned.checked.prog.wantsStandIn t = false := by
  obtain rfl : f = 5 := Option.some.inj ((show Tryd.prog.funcNamed "tidewaiter/tidewaiterlaw15.LineBack" = some 5 by kernel_rfl).symm.trans hf) |>.symm
  obtain rfl : fn = Tryd.f5 := (Option.some.inj (Tryd.func5.symm.trans hfn)).symm
  refine ⟨by kernel_rfl, fun j t ht => ?_⟩
  rw [Tryd.params5] at ht
  have hm : t ∈ [30, 9] := by simpa using Array.mem_of_getElem? ht
  have hall : ([30, 9].all fun u => !Tryd.prog.wantsStandIn u) = true := by kernel_rfl
  exact (show Tryd.prog.wantsStandIn t = false by simpa using List.all_eq_true.1 hall t hm)
theorem proved : Rows.LineBackCardSaid :=
  Claim7.holds_tied_plain_at .later [] _ _ _ _ said (fun _ h => by cases h) (by kernel_rfl) (fun _ h => by cases h) lineBack_row_tie rfl ⟨rfl, rfl⟩ (by kernel_rfl) rfl plain (by kernel_rfl)
end Go.Proofs.YtagngohemlkkoaaDoor.lineBack
