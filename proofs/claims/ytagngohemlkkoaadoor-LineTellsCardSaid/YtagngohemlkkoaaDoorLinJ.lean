/-
  Helpers of the laws on lines.
-/
import Derived.Test.YtagngohemlkkoaaDoorLinI
import Derived.Test.YtagngohemlkkoaaDoorLinO
namespace Go.Proofs.YtagngohemlkkoaaDoor
open Go.RowKit
namespace Hx
open As Ln Nmb
set_option linter.unusedVariables false
set_option linter.unusedSimpArgs false
set_option maxHeartbeats 4000000 in
set_option maxRecDepth 100000 in
theorem odd15 (s : ByteArray) (w : World) (hm : s.size ≤ 1000000) (h : parseL s.data.toList = none) :
    Calls Tryd.prog 8 #[.string s] w fun e w' => e = .returned (.bool true) ∧ Below w.heap.size w w' := by
  have HP := Lib.hid fun W => par15 s ⟨#[]⟩ ⟨#[]⟩ 0 0 150 hm (by unfold parR; rw [h]) W
  clear hm h
  go_enter Tryd.func8, Tryd.ntmps8
  go_wp2_with (first
    | (go_at_call 12; (with_reducible refine (HP.out _).mono ?_); rintro e w1 ⟨rfl, hb1⟩; have HB1 := Lib.hid hb1; clear hb1)
    | (refine wpList_store_row rfl _ _ _ rfl w1.heap.size #[.string ⟨#[]⟩, .string ⟨#[]⟩, .int .i64 0, .int .i64 0] rfl rfl 30 zLn (heap_alloc_new w1 _) sizeLn rfl (oneLn _ _ _ _) ?_; rw [World.setRow_alloc_new]; obtain ⟨W2, hW2, hrW2, hbW2⟩ := opnV w1 (.cells #[.string ⟨#[]⟩, .string ⟨#[]⟩, .int .i64 0, .int .i64 0] 30); rw [hW2]; have HB2 := Lib.hid (stp HB1.out hbW2); have HRW2 := Lib.hid hrW2; obtain ⟨k0, k1, k2, k3⟩ := ln_at hrW2; clear hW2 hrW2 hbW2)
    | fail)
  go_ret
  exact ⟨rfl, HB2.out⟩
theorem par_some {s m t : ByteArray} {g k : Nat} (h : parseL s.data.toList = some (mkL m t g k)) : parR s.data.toList = (m.data.toList, t.data.toList, g, k, 0) := by
  unfold parR
  rw [h]
  rfl
theorem par_none {s : ByteArray} (h : parseL s.data.toList = none) : parR s.data.toList = ((⟨#[]⟩ : ByteArray).data.toList, (⟨#[]⟩ : ByteArray).data.toList, 0, 0, 150) := by
  unfold parR
  rw [h]
/-- What is told of a text is a line of texts and numbers. -/
theorem some_mk {s : ByteArray} {x : Li} (h : parseL s.data.toList = some x) : ∃ (m t : ByteArray) (g k : Nat), x = mkL m t g k ∧ g ≤ 9 ∧ k ≤ 9 ∧ mayL (mkL m t g k) = true ∧ m.size + t.size ≤ s.size ∧ textL (mkL m t g k) = s.data.toList := by
  obtain ⟨h1, h2⟩ := parseL_iff.1 h
  have hl := parse_len h
  obtain ⟨m, t, g, k⟩ := x
  obtain ⟨m, rfl⟩ := ba_ex m
  obtain ⟨t, rfl⟩ := ba_ex t
  obtain ⟨a, b, e1, e2, l1, l2⟩ := may_nat (m := m) (t := t) (g := g) (s := k) h1
  subst e1 e2
  dsimp only at hl
  rw [ba_len7, ba_len7, ba_len7] at hl
  exact ⟨m, t, a, b, rfl, l1, l2, h1, by omega, h2⟩
theorem judge_yes {x : Li} (h : mayL x = true) {n : Int} (hn : judgedL x = n) : judgeR x = (n, 0) := by unfold judgeR; rw [if_pos h, hn]
theorem judge_no {x : Li} (h : mayL x = false) : judgeR x = (0, 8) := by unfold judgeR; rw [if_neg (by rw [h]; simp)]
theorem zero_no : mayL (mkL ⟨#[]⟩ ⟨#[]⟩ 0 0) = false := by decide
set_option maxHeartbeats 4000000 in
set_option maxRecDepth 100000 in
theorem judges15 (s m t : ByteArray) (g k : Nat) (n : Int) (w : World) (hm : s.size ≤ 1000000) (h : parseL s.data.toList = some (mkL m t g k)) (hj : judgedL (mkL m t g k) = n) :
    Calls Tryd.prog 7 #[.string s, .int .i64 n] w fun e w' => e = .returned (.bool true) ∧ Below w.heap.size w w' := by
  have hl := parse_len h
  have hy := (parseL_iff.1 h).1
  unfold mkL at hl
  dsimp only at hl
  rw [ba_len7, ba_len7, ba_len7] at hl
  have HP := Lib.hid fun W => par15 s m t g k 0 hm (par_some h) W
  have HJ := Lib.hid fun W => judge15 m t g k n 0 W (by omega) (by omega) (judge_yes hy hj)
  clear hm h hj hl hy
  go_enter Tryd.func7, Tryd.ntmps7
  go_wp2_with (first
    | (go_at_call 12; (with_reducible refine (HP.out _).mono ?_); rintro e w1 ⟨rfl, hb1⟩; have HB1 := Lib.hid hb1; clear hb1)
    | (refine wpList_store_row rfl _ _ _ rfl w1.heap.size #[.string m, .string t, .int .i64 (g : Int), .int .i64 (k : Int)] rfl rfl 30 zLn (heap_alloc_new w1 _) sizeLn rfl (oneLn _ _ _ _) ?_; rw [World.setRow_alloc_new]; obtain ⟨W2, hW2, hrW2, hbW2⟩ := opnV w1 (.cells #[.string m, .string t, .int .i64 (g : Int), .int .i64 (k : Int)] 30); rw [hW2]; have HB2 := Lib.hid (stp HB1.out hbW2); have HRW2 := Lib.hid hrW2; obtain ⟨k_0, k_1, k_2, k_3⟩ := ln_at hrW2; clear hW2 hrW2 hbW2)
    | (refine wpList_load_row rfl _ _ rfl w1.heap.size rfl 30 #[.string m, .string t, .int .i64 (g : Int), .int .i64 (k : Int)] (0, 0) _ HRW2.out Tryd.underlying30 rfl sizeLn ?_)
    | (go_at_call 10; (with_reducible refine (HJ.out _).mono ?_); rintro e w3 ⟨rfl, hb3⟩; have HB3 := Lib.hid (stp HB2.out hb3); clear hb3)
    | fail)
  go_ret
  exact ⟨rfl, HB3.out⟩
theorem lit_first : parseL (⟨#[80, 79, 83, 84, 32, 47, 104, 116, 116, 112, 45, 98, 105, 110, 100, 32, 72, 84, 84, 80, 47, 49, 46, 49]⟩ : ByteArray).data.toList = some (mkL ⟨#[80, 79, 83, 84]⟩ ⟨#[47, 104, 116, 116, 112, 45, 98, 105, 110, 100]⟩ (1 : Nat) (1 : Nat)) := by kernel_rfl
theorem judged_first : judgedL (mkL ⟨#[80, 79, 83, 84]⟩ ⟨#[47, 104, 116, 116, 112, 45, 98, 105, 110, 100]⟩ (1 : Nat) (1 : Nat)) = 200 := by decide
theorem dg_404 : dg 404 = [52, 48, 52] := by rw [dg_more (by omega), dg_more (n := 404 / 10) (by omega), dg_small (by omega)]; rfl
theorem dg_505 : dg 505 = [53, 48, 53] := by rw [dg_more (by omega), dg_more (n := 505 / 10) (by omega), dg_small (by omega)]; rfl
theorem stat_404 : statR 404 = ((⟨#[72, 84, 84, 80, 47, 49, 46, 49, 32, 52, 48, 52, 32, 78, 111, 116, 32, 70, 111, 117, 110, 100, 13, 10]⟩ : ByteArray).data.toList, 0) := by
  unfold statR
  rw [if_pos (by decide), show (404 : Int).toNat = 404 from rfl, dg_404]
  rfl
theorem stat_505 : statR 505 = ((⟨#[72, 84, 84, 80, 47, 49, 46, 49, 32, 53, 48, 53, 32, 72, 84, 84, 80, 32, 86, 101, 114, 115, 105, 111, 110, 32, 78, 111, 116, 32, 83, 117, 112, 112, 111, 114, 116, 101, 100, 13, 10]⟩ : ByteArray).data.toList, 0) := by
  unfold statR
  rw [if_pos (by decide), show (505 : Int).toNat = 505 from rfl, dg_505]
  rfl
theorem stat_500 : statR 500 = ((⟨#[]⟩ : ByteArray).data.toList, 2) := by
  unfold statR
  rw [if_neg (by decide)]
set_option maxHeartbeats 4000000 in
set_option maxRecDepth 100000 in
theorem alive15 (w : World) (hT : Tb w) :
    Calls Tryd.prog 11 #[] w fun e w' => e = .returned (.bool true) ∧ Below w.heap.size w w' := by
  have HP := Lib.hid fun W => par15 ⟨#[80, 79, 83, 84, 32, 47, 104, 116, 116, 112, 45, 98, 105, 110, 100, 32, 72, 84, 84, 80, 47, 49, 46, 49]⟩ ⟨#[80, 79, 83, 84]⟩ ⟨#[47, 104, 116, 116, 112, 45, 98, 105, 110, 100]⟩ 1 1 0 (by decide) (par_some lit_first) W
  have HJ := Lib.hid fun W => judges15 ⟨#[80, 79, 83, 84, 32, 47, 104, 116, 116, 112, 45, 98, 105, 110, 100, 32, 72, 84, 84, 80, 47, 49, 46, 49]⟩ ⟨#[80, 79, 83, 84]⟩ ⟨#[47, 104, 116, 116, 112, 45, 98, 105, 110, 100]⟩ 1 1 200 W (by decide) lit_first judged_first
  have HS : Hid (∀ W, Below w.heap.size w W → Calls Tryd.prog 9 #[.int .i64 404] W fun e w' => e = .returned (.tuple #[.string ⟨#[72, 84, 84, 80, 47, 49, 46, 49, 32, 52, 48, 52, 32, 78, 111, 116, 32, 70, 111, 117, 110, 100, 13, 10]⟩, .int .i64 0]) ∧ Below W.heap.size W w') := Lib.hid fun W hW => status15 404 _ 0 W stat_404 (hT.to hW)
  clear hT
  go_enter Tryd.func11, Tryd.ntmps11
  go_wp2_with (first
    | (go_at_call 12; (with_reducible refine (HP.out _).mono ?_); rintro e w1 ⟨rfl, hb1⟩; have HB1 := Lib.hid hb1; clear hb1)
    | (refine wpList_store_row rfl _ _ _ rfl w1.heap.size #[.string ⟨#[80, 79, 83, 84]⟩, .string ⟨#[47, 104, 116, 116, 112, 45, 98, 105, 110, 100]⟩, .int .i64 1, .int .i64 1] rfl rfl 30 zLn (heap_alloc_new w1 _) sizeLn rfl (oneLn _ _ _ _) ?_; rw [World.setRow_alloc_new]; obtain ⟨W2, hW2, hrW2, hbW2⟩ := opnV w1 (.cells #[.string ⟨#[80, 79, 83, 84]⟩, .string ⟨#[47, 104, 116, 116, 112, 45, 98, 105, 110, 100]⟩, .int .i64 1, .int .i64 1] 30); rw [hW2]; have HB2 := Lib.hid (stp HB1.out hbW2); have HRW2 := Lib.hid hrW2; obtain ⟨k_0, k_1, k_2, k_3⟩ := ln_at hrW2; clear hW2 hrW2 hbW2)
    | (go_at_call 9; (with_reducible refine (HS.out _ HB2.out).mono ?_); rintro e w3 ⟨rfl, hb3⟩; have HB3 := Lib.hid (stp HB2.out hb3); obtain ⟨j0, j1, j2, j3⟩ := ln_at (kept_heap HRW2.out hb3); clear hb3)
    | (go_at_call 7; (with_reducible refine (HJ.out _).mono ?_); rintro e w4 ⟨rfl, hb4⟩; have HB4 := Lib.hid (stp HB3.out hb4); clear hb4)
    | fail)
  go_ret
  exact ⟨rfl, HB4.out⟩
end Hx
end Go.Proofs.YtagngohemlkkoaaDoor
