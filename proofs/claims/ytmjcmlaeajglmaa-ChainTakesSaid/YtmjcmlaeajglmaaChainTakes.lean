/-
  For every texts and flag the law of chain's Take, Fits and the digest answers true, and what came in reads as before; no conditions.
-/
import Derived.Test.YtmjcmlaeajglmaaChnH
import Derived.WalkKit
import Derived.ProofKit
import Derived.OpenShut
import Derived.ShutString
import Derived.ChangeOld
import Derived.Below
namespace Go.Proofs.Ytmjcmlaeajglmaa.chainTakes
open Go.ChangeShapes Go.WideShapes Go.ChangeAt Go.RowKit
open Go.ChangeMaps (open_string shut_string)
open Hx Wd Sh
set_option linter.unusedVariables false

theorem own : ownKnob Try.prog.godebug = none := by kernel_rfl
theorem laidOut : laidOutB Try.prog = true := by kernel_rfl

set_option linter.unusedVariables false
set_option maxHeartbeats 2000000 in
set_option maxRecDepth 100000 in
theorem walkOut (a0 a1 a2 : ByteArray) (a3 : Bool) (w : World) (h : 300 < a0.size ∨ 300 < a1.size ∨ 300 < a2.size) :
    Calls Try.prog 8 #[.string a0, .string a1, .string a2, .bool a3] w fun e w' => e = .returned (.bool true) ∧ Below w.heap.size w w' := by
  by_cases h0 : 300 < a0.size
  · have t0 : decide ((300 : Int) < (a0.size : Int)) = true := by simp; omega
    clear h h0
    go_enter Try.func8, Try.ntmps8
    go_wp2_with (first
      | (go_at_call 18; (with_reducible refine (alive_any4 w).mono ?_); rintro e w1 ⟨rfl, hb1⟩)
      | fail)
    go_ret
    exact ⟨rfl, hb1⟩
  · have t0 : decide ((300 : Int) < (a0.size : Int)) = false := by simp; omega
    by_cases h1 : 300 < a1.size
    · have t1 : decide ((300 : Int) < (a1.size : Int)) = true := by simp; omega
      clear h h0 h1
      go_enter Try.func8, Try.ntmps8
      go_wp2_with (first
        | (go_at_call 18; (with_reducible refine (alive_any4 w).mono ?_); rintro e w1 ⟨rfl, hb1⟩)
        | fail)
      go_ret
      exact ⟨rfl, hb1⟩
    · have t1 : decide ((300 : Int) < (a1.size : Int)) = false := by simp; omega
      have t2 : decide ((300 : Int) < (a2.size : Int)) = true := by simp; omega
      clear h h0 h1
      go_enter Try.func8, Try.ntmps8
      go_wp2_with (first
        | (go_at_call 18; (with_reducible refine (alive_any4 w).mono ?_); rintro e w1 ⟨rfl, hb1⟩)
        | fail)
      go_ret
      exact ⟨rfl, hb1⟩

set_option maxHeartbeats 4000000 in
set_option maxRecDepth 100000 in
theorem walkA (a0 a2 : ByteArray) (l : List UInt8) (has : Bool) (w : World) (s0 : a0.size ≤ 300) (s1 : l.length ≤ 300) (s2 : a2.size ≤ 300) (h1 : isK a0 = false) (c : Bool) (h2 : isK ⟨l.toArray⟩ = c) (d : Bool) (h3 : decide (keyB ⟨l.toArray⟩ = a0) = d) :
    Calls Try.prog 8 #[.string a0, .string ⟨l.toArray⟩, .string a2, .bool has] w fun e w' => e = .returned (.bool true) ∧ Below w.heap.size w w' := by
  have hfit : fitB a0 ⟨l.toArray⟩ = false := by rw [fit_parts a0 _ false c d h1 h2 h3]; simp
  have hS : takeS a0 ⟨l.toArray⟩ a2 has = ⟨#[]⟩ := by simp [takeS, hfit]
  have hE : takeE a0 ⟨l.toArray⟩ a2 has = 40 := by simp [takeE, hfit]
  obtain ⟨D, hD⟩ : ∃ D, dig l = D := ⟨_, rfl⟩
  have hDl : D.length = 20 := by rw [← hD]; exact dig_length l
  obtain ⟨ks, hk⟩ : ∃ ks, keyB ⟨l.toArray⟩ = ks := ⟨_, rfl⟩
  have hks : ks = ⟨(putL D).toArray⟩ := by rw [← hk, keyB_mk, hD]
  have HS1 : Hid ((Try.prog.info? 23).map (·.size) = some ((D.map encB).toArray).size) := by show _ = _; rw [List.size_toArray, List.length_map, hDl]; kernel_rfl
  have HS2 : Hid (z20.size = ((D.map encB).toArray).size) := by show (20 : Nat) = _; rw [List.size_toArray, List.length_map, hDl]
  have t0 : decide ((300 : Int) < (a0.size : Int)) = false := by simp; omega
  have t1 : decide ((300 : Int) < (l.length : Int)) = false := by simp; omega
  have t2 : decide ((300 : Int) < (a2.size : Int)) = false := by simp; omega
  have tl : (⟨l.toArray⟩ : ByteArray).size = l.length := by simp [ByteArray.size]
  have hm : l.length ≤ 16384 := by omega
  have HD := Lib.hid hD
  have HDL := Lib.hid hDl
  have HKS := Lib.hid hks
  have HFIT := Lib.hid hfit
  have HS := Lib.hid hS
  have HE := Lib.hid hE
  have H1 := Lib.hid h1
  have H2 := Lib.hid h2
  clear hD hDl hks hfit hS hE h1 h2 h3 hk s0 s1 s2
  go_enter Try.func8, Try.ntmps8
  go_wp2_with (first
    | (go_at_call 18; (with_reducible refine (alive_any4 w).mono ?_); rintro e w1 ⟨rfl, hb1⟩)
    | (go_at_call 20; (with_reducible refine (take_any a0 ⟨l.toArray⟩ a2 has w1 _ _ HS.out HE.out).mono ?_); rintro e w2 ⟨rfl, hb2⟩; obtain ⟨C, WB, hconv, hrd, hbc⟩ := str_bytes l w2; have HRD := Lib.hid hrd; have hb3 := stp (stp hb1 hb2) hbc; clear hrd hbc)
    | (go_at_call 10; (with_reducible refine (of_ok64 (some ⟨w2.heap.size, 0, none⟩) l.length C l WB HRD.out rfl (fun h => by cases h) hm D HD.out).mono ?_); rintro e w4 ⟨rfl, hb4⟩)
    | (refine wpList_store_row rfl _ _ _ rfl w4.heap.size ((D.map encB).toArray) rfl rfl 23 z20 (heap_alloc_new _ _) HS1.out HS2.out (map_one encB_one _) ?_; rw [World.setRow_alloc_new]; obtain ⟨W5, hW5, hs5, hx5, hb5⟩ := opn1 w4 (.cells (D.map encB).toArray 23); rw [hW5]; have HX5 := Lib.hid hx5; have hb6 := stp (stp hb3 hb4) hb5; clear hW5 hx5 hs5)
    | (go_at_call 28; (with_reducible refine (hexis_b a0 W5 _ H1.out).mono ?_); rintro e w6 ⟨rfl, hb7⟩)
    | (go_at_call 26; (with_reducible refine (fits_b a0 ⟨l.toArray⟩ w6 _ HFIT.out).mono ?_); rintro e w9 ⟨rfl, hb10⟩)
    | fail)
  go_ret
  exact ⟨rfl, stp (stp hb6 hb7) hb10⟩

set_option maxHeartbeats 4000000 in
set_option maxRecDepth 100000 in
theorem walkB (a0 a2 : ByteArray) (l : List UInt8) (has : Bool) (w : World) (s0 : a0.size ≤ 300) (s1 : l.length ≤ 300) (s2 : a2.size ≤ 300) (h1 : isK a0 = true) (h2 : isK ⟨l.toArray⟩ = false) (d : Bool) (h3 : decide (keyB ⟨l.toArray⟩ = a0) = d) :
    Calls Try.prog 8 #[.string a0, .string ⟨l.toArray⟩, .string a2, .bool has] w fun e w' => e = .returned (.bool true) ∧ Below w.heap.size w w' := by
  have hfit : fitB a0 ⟨l.toArray⟩ = false := by rw [fit_parts a0 _ true false d h1 h2 h3]; simp
  have hS : takeS a0 ⟨l.toArray⟩ a2 has = ⟨#[]⟩ := by simp [takeS, hfit]
  have hE : takeE a0 ⟨l.toArray⟩ a2 has = 40 := by simp [takeE, hfit]
  obtain ⟨D, hD⟩ : ∃ D, dig l = D := ⟨_, rfl⟩
  have hDl : D.length = 20 := by rw [← hD]; exact dig_length l
  obtain ⟨ks, hk⟩ : ∃ ks, keyB ⟨l.toArray⟩ = ks := ⟨_, rfl⟩
  have hks : ks = ⟨(putL D).toArray⟩ := by rw [← hk, keyB_mk, hD]
  have HS1 : Hid ((Try.prog.info? 23).map (·.size) = some ((D.map encB).toArray).size) := by show _ = _; rw [List.size_toArray, List.length_map, hDl]; kernel_rfl
  have HS2 : Hid (z20.size = ((D.map encB).toArray).size) := by show (20 : Nat) = _; rw [List.size_toArray, List.length_map, hDl]
  have t0 : decide ((300 : Int) < (a0.size : Int)) = false := by simp; omega
  have t1 : decide ((300 : Int) < (l.length : Int)) = false := by simp; omega
  have t2 : decide ((300 : Int) < (a2.size : Int)) = false := by simp; omega
  have tl : (⟨l.toArray⟩ : ByteArray).size = l.length := by simp [ByteArray.size]
  have hm : l.length ≤ 16384 := by omega
  have HD := Lib.hid hD
  have HDL := Lib.hid hDl
  have HKS := Lib.hid hks
  have HFIT := Lib.hid hfit
  have HS := Lib.hid hS
  have HE := Lib.hid hE
  have H1 := Lib.hid h1
  have H2 := Lib.hid h2
  clear hD hDl hks hfit hS hE h1 h2 h3 hk s0 s1 s2
  go_enter Try.func8, Try.ntmps8
  go_wp2_with (first
    | (go_at_call 18; (with_reducible refine (alive_any4 w).mono ?_); rintro e w1 ⟨rfl, hb1⟩)
    | (go_at_call 20; (with_reducible refine (take_any a0 ⟨l.toArray⟩ a2 has w1 _ _ HS.out HE.out).mono ?_); rintro e w2 ⟨rfl, hb2⟩; obtain ⟨C, WB, hconv, hrd, hbc⟩ := str_bytes l w2; have HRD := Lib.hid hrd; have hb3 := stp (stp hb1 hb2) hbc; clear hrd hbc)
    | (go_at_call 10; (with_reducible refine (of_ok64 (some ⟨w2.heap.size, 0, none⟩) l.length C l WB HRD.out rfl (fun h => by cases h) hm D HD.out).mono ?_); rintro e w4 ⟨rfl, hb4⟩)
    | (refine wpList_store_row rfl _ _ _ rfl w4.heap.size ((D.map encB).toArray) rfl rfl 23 z20 (heap_alloc_new _ _) HS1.out HS2.out (map_one encB_one _) ?_; rw [World.setRow_alloc_new]; obtain ⟨W5, hW5, hs5, hx5, hb5⟩ := opn1 w4 (.cells (D.map encB).toArray 23); rw [hW5]; have HX5 := Lib.hid hx5; have hb6 := stp (stp hb3 hb4) hb5; clear hW5 hx5 hs5)
    | (go_at_call 28; (with_reducible refine (hexis_b a0 W5 _ H1.out).mono ?_); rintro e w6 ⟨rfl, hb7⟩)
    | (go_at_call 28; (with_reducible refine (hexis_b ⟨l.toArray⟩ w6 _ H2.out).mono ?_); rintro e w7 ⟨rfl, hb8⟩)
    | (go_at_call 26; (with_reducible refine (fits_b a0 ⟨l.toArray⟩ w7 _ HFIT.out).mono ?_); rintro e w9 ⟨rfl, hb10⟩)
    | fail)
  go_ret
  exact ⟨rfl, stp (stp (stp hb6 hb7) hb8) hb10⟩

set_option maxHeartbeats 4000000 in
set_option maxRecDepth 100000 in
theorem walkC (a0 a2 : ByteArray) (l : List UInt8) (has : Bool) (w : World) (s0 : a0.size ≤ 300) (s1 : l.length ≤ 300) (s2 : a2.size ≤ 300) (h1 : isK a0 = true) (h2 : isK ⟨l.toArray⟩ = true) (h3 : decide (keyB ⟨l.toArray⟩ = a0) = false) :
    Calls Try.prog 8 #[.string a0, .string ⟨l.toArray⟩, .string a2, .bool has] w fun e w' => e = .returned (.bool true) ∧ Below w.heap.size w w' := by
  have hfit : fitB a0 ⟨l.toArray⟩ = false := by rw [fit_parts a0 _ true true false h1 h2 h3]; rfl
  have hS : takeS a0 ⟨l.toArray⟩ a2 has = ⟨#[]⟩ := by simp [takeS, hfit]
  have hE : takeE a0 ⟨l.toArray⟩ a2 has = 40 := by simp [takeE, hfit]
  obtain ⟨D, hD⟩ : ∃ D, dig l = D := ⟨_, rfl⟩
  have hDl : D.length = 20 := by rw [← hD]; exact dig_length l
  obtain ⟨ks, hk⟩ : ∃ ks, keyB ⟨l.toArray⟩ = ks := ⟨_, rfl⟩
  have hks : ks = ⟨(putL D).toArray⟩ := by rw [← hk, keyB_mk, hD]
  have HS1 : Hid ((Try.prog.info? 23).map (·.size) = some ((D.map encB).toArray).size) := by show _ = _; rw [List.size_toArray, List.length_map, hDl]; kernel_rfl
  have HS2 : Hid (z20.size = ((D.map encB).toArray).size) := by show (20 : Nat) = _; rw [List.size_toArray, List.length_map, hDl]
  have t0 : decide ((300 : Int) < (a0.size : Int)) = false := by simp; omega
  have t1 : decide ((300 : Int) < (l.length : Int)) = false := by simp; omega
  have t2 : decide ((300 : Int) < (a2.size : Int)) = false := by simp; omega
  have tl : (⟨l.toArray⟩ : ByteArray).size = l.length := by simp [ByteArray.size]
  have hm : l.length ≤ 16384 := by omega
  have hq : (ks.toList == a0.toList) = false := by rw [seq_b, ← hk]; exact h3
  have HD := Lib.hid hD
  have HDL := Lib.hid hDl
  have HKS := Lib.hid hks
  have HFIT := Lib.hid hfit
  have HS := Lib.hid hS
  have HE := Lib.hid hE
  have H1 := Lib.hid h1
  have H2 := Lib.hid h2
  clear hD hDl hks hfit hS hE h1 h2 h3 hk s0 s1 s2
  go_enter Try.func8, Try.ntmps8
  go_wp2_with (first
    | (go_at_call 18; (with_reducible refine (alive_any4 w).mono ?_); rintro e w1 ⟨rfl, hb1⟩)
    | (go_at_call 20; (with_reducible refine (take_any a0 ⟨l.toArray⟩ a2 has w1 _ _ HS.out HE.out).mono ?_); rintro e w2 ⟨rfl, hb2⟩; obtain ⟨C, WB, hconv, hrd, hbc⟩ := str_bytes l w2; have HRD := Lib.hid hrd; have hb3 := stp (stp hb1 hb2) hbc; clear hrd hbc)
    | (go_at_call 10; (with_reducible refine (of_ok64 (some ⟨w2.heap.size, 0, none⟩) l.length C l WB HRD.out rfl (fun h => by cases h) hm D HD.out).mono ?_); rintro e w4 ⟨rfl, hb4⟩)
    | (refine wpList_store_row rfl _ _ _ rfl w4.heap.size ((D.map encB).toArray) rfl rfl 23 z20 (heap_alloc_new _ _) HS1.out HS2.out (map_one encB_one _) ?_; rw [World.setRow_alloc_new]; obtain ⟨W5, hW5, hs5, hx5, hb5⟩ := opn1 w4 (.cells (D.map encB).toArray 23); rw [hW5]; have HX5 := Lib.hid hx5; have hb6 := stp (stp hb3 hb4) hb5; clear hW5 hx5 hs5)
    | (go_at_call 28; (with_reducible refine (hexis_b a0 W5 _ H1.out).mono ?_); rintro e w6 ⟨rfl, hb7⟩)
    | (go_at_call 28; (with_reducible refine (hexis_b ⟨l.toArray⟩ w6 _ H2.out).mono ?_); rintro e w7 ⟨rfl, hb8⟩)
    | (go_at_call 29; (with_reducible refine (put_key w4.heap.size D ks HDL.out HKS.out w7 (heap_kept (heap_kept HX5.out hb7) hb8)).mono ?_); rintro e w8 ⟨rfl, hb9⟩)
    | (go_at_call 26; (with_reducible refine (fits_b a0 ⟨l.toArray⟩ w8 _ HFIT.out).mono ?_); rintro e w9 ⟨rfl, hb10⟩)
    | fail)
  go_ret
  exact ⟨rfl, stp (stp (stp (stp hb6 hb7) hb8) hb9) hb10⟩

set_option maxHeartbeats 4000000 in
set_option maxRecDepth 100000 in
theorem walkD (a0 a2 : ByteArray) (l : List UInt8) (w : World) (s0 : a0.size ≤ 300) (s1 : l.length ≤ 300) (s2 : a2.size ≤ 300) (h1 : isK a0 = true) (h2 : isK ⟨l.toArray⟩ = true) (h3 : decide (keyB ⟨l.toArray⟩ = a0) = true) :
    Calls Try.prog 8 #[.string a0, .string ⟨l.toArray⟩, .string a2, .bool false] w fun e w' => e = .returned (.bool true) ∧ Below w.heap.size w w' := by
  have hfit : fitB a0 ⟨l.toArray⟩ = true := by rw [fit_parts a0 _ true true true h1 h2 h3]; rfl
  have hS : takeS a0 ⟨l.toArray⟩ a2 false = ⟨l.toArray⟩ := by simp [takeS, hfit]
  have hE : takeE a0 ⟨l.toArray⟩ a2 false = 0 := by simp [takeE, hfit]
  obtain ⟨D, hD⟩ : ∃ D, dig l = D := ⟨_, rfl⟩
  have hDl : D.length = 20 := by rw [← hD]; exact dig_length l
  obtain ⟨ks, hk⟩ : ∃ ks, keyB ⟨l.toArray⟩ = ks := ⟨_, rfl⟩
  have hks : ks = ⟨(putL D).toArray⟩ := by rw [← hk, keyB_mk, hD]
  have HS1 : Hid ((Try.prog.info? 23).map (·.size) = some ((D.map encB).toArray).size) := by show _ = _; rw [List.size_toArray, List.length_map, hDl]; kernel_rfl
  have HS2 : Hid (z20.size = ((D.map encB).toArray).size) := by show (20 : Nat) = _; rw [List.size_toArray, List.length_map, hDl]
  have t0 : decide ((300 : Int) < (a0.size : Int)) = false := by simp; omega
  have t1 : decide ((300 : Int) < (l.length : Int)) = false := by simp; omega
  have t2 : decide ((300 : Int) < (a2.size : Int)) = false := by simp; omega
  have tl : (⟨l.toArray⟩ : ByteArray).size = l.length := by simp [ByteArray.size]
  have hm : l.length ≤ 16384 := by omega
  have hq : (ks.toList == a0.toList) = true := by rw [seq_b, ← hk]; exact h3
  have HD := Lib.hid hD
  have HDL := Lib.hid hDl
  have HKS := Lib.hid hks
  have HFIT := Lib.hid hfit
  have HS := Lib.hid hS
  have HE := Lib.hid hE
  have H1 := Lib.hid h1
  have H2 := Lib.hid h2
  clear hD hDl hks hfit hS hE h1 h2 h3 hk s0 s1 s2
  go_enter Try.func8, Try.ntmps8
  go_wp2_with (first
    | (go_at_call 18; (with_reducible refine (alive_any4 w).mono ?_); rintro e w1 ⟨rfl, hb1⟩)
    | (go_at_call 20; (with_reducible refine (take_any a0 ⟨l.toArray⟩ a2 false w1 _ _ HS.out HE.out).mono ?_); rintro e w2 ⟨rfl, hb2⟩; obtain ⟨C, WB, hconv, hrd, hbc⟩ := str_bytes l w2; have HRD := Lib.hid hrd; have hb3 := stp (stp hb1 hb2) hbc; clear hrd hbc)
    | (go_at_call 10; (with_reducible refine (of_ok64 (some ⟨w2.heap.size, 0, none⟩) l.length C l WB HRD.out rfl (fun h => by cases h) hm D HD.out).mono ?_); rintro e w4 ⟨rfl, hb4⟩)
    | (refine wpList_store_row rfl _ _ _ rfl w4.heap.size ((D.map encB).toArray) rfl rfl 23 z20 (heap_alloc_new _ _) HS1.out HS2.out (map_one encB_one _) ?_; rw [World.setRow_alloc_new]; obtain ⟨W5, hW5, hs5, hx5, hb5⟩ := opn1 w4 (.cells (D.map encB).toArray 23); rw [hW5]; have HX5 := Lib.hid hx5; have hb6 := stp (stp hb3 hb4) hb5; clear hW5 hx5 hs5)
    | (go_at_call 28; (with_reducible refine (hexis_b a0 W5 _ H1.out).mono ?_); rintro e w6 ⟨rfl, hb7⟩)
    | (go_at_call 28; (with_reducible refine (hexis_b ⟨l.toArray⟩ w6 _ H2.out).mono ?_); rintro e w7 ⟨rfl, hb8⟩)
    | (go_at_call 29; (with_reducible refine (put_key w4.heap.size D ks HDL.out HKS.out w7 (heap_kept (heap_kept HX5.out hb7) hb8)).mono ?_); rintro e w8 ⟨rfl, hb9⟩)
    | (go_at_call 26; (with_reducible refine (fits_b a0 ⟨l.toArray⟩ w8 _ HFIT.out).mono ?_); rintro e w9 ⟨rfl, hb10⟩)
    | fail)
  go_ret
  exact ⟨rfl, stp (stp (stp (stp hb6 hb7) hb8) hb9) hb10⟩

set_option maxHeartbeats 4000000 in
set_option maxRecDepth 100000 in
theorem walkE (a0 a2 : ByteArray) (l : List UInt8) (w : World) (s0 : a0.size ≤ 300) (s1 : l.length ≤ 300) (s2 : a2.size ≤ 300) (h1 : isK a0 = true) (h2 : isK ⟨l.toArray⟩ = true) (h3 : decide (keyB ⟨l.toArray⟩ = a0) = true) (h4 : isK a2 = false) :
    Calls Try.prog 8 #[.string a0, .string ⟨l.toArray⟩, .string a2, .bool true] w fun e w' => e = .returned (.bool true) ∧ Below w.heap.size w w' := by
  have hfit : fitB a0 ⟨l.toArray⟩ = true := by rw [fit_parts a0 _ true true true h1 h2 h3]; rfl
  have hS : takeS a0 ⟨l.toArray⟩ a2 true = ⟨#[]⟩ := by simp [takeS, hfit, h4]
  have hE : takeE a0 ⟨l.toArray⟩ a2 true = 40 := by simp [takeE, hfit, h4]
  obtain ⟨D, hD⟩ : ∃ D, dig l = D := ⟨_, rfl⟩
  have hDl : D.length = 20 := by rw [← hD]; exact dig_length l
  obtain ⟨ks, hk⟩ : ∃ ks, keyB ⟨l.toArray⟩ = ks := ⟨_, rfl⟩
  have hks : ks = ⟨(putL D).toArray⟩ := by rw [← hk, keyB_mk, hD]
  have HS1 : Hid ((Try.prog.info? 23).map (·.size) = some ((D.map encB).toArray).size) := by show _ = _; rw [List.size_toArray, List.length_map, hDl]; kernel_rfl
  have HS2 : Hid (z20.size = ((D.map encB).toArray).size) := by show (20 : Nat) = _; rw [List.size_toArray, List.length_map, hDl]
  have t0 : decide ((300 : Int) < (a0.size : Int)) = false := by simp; omega
  have t1 : decide ((300 : Int) < (l.length : Int)) = false := by simp; omega
  have t2 : decide ((300 : Int) < (a2.size : Int)) = false := by simp; omega
  have tl : (⟨l.toArray⟩ : ByteArray).size = l.length := by simp [ByteArray.size]
  have hm : l.length ≤ 16384 := by omega
  have hq : (ks.toList == a0.toList) = true := by rw [seq_b, ← hk]; exact h3
  have HD := Lib.hid hD
  have HDL := Lib.hid hDl
  have HKS := Lib.hid hks
  have HFIT := Lib.hid hfit
  have HS := Lib.hid hS
  have HE := Lib.hid hE
  have H1 := Lib.hid h1
  have H2 := Lib.hid h2
  have H4 := Lib.hid h4
  clear hD hDl hks hfit hS hE h1 h2 h3 hk s0 s1 s2 h4
  go_enter Try.func8, Try.ntmps8
  go_wp2_with (first
    | (go_at_call 18; (with_reducible refine (alive_any4 w).mono ?_); rintro e w1 ⟨rfl, hb1⟩)
    | (go_at_call 20; (with_reducible refine (take_any a0 ⟨l.toArray⟩ a2 true w1 _ _ HS.out HE.out).mono ?_); rintro e w2 ⟨rfl, hb2⟩; obtain ⟨C, WB, hconv, hrd, hbc⟩ := str_bytes l w2; have HRD := Lib.hid hrd; have hb3 := stp (stp hb1 hb2) hbc; clear hrd hbc)
    | (go_at_call 10; (with_reducible refine (of_ok64 (some ⟨w2.heap.size, 0, none⟩) l.length C l WB HRD.out rfl (fun h => by cases h) hm D HD.out).mono ?_); rintro e w4 ⟨rfl, hb4⟩)
    | (refine wpList_store_row rfl _ _ _ rfl w4.heap.size ((D.map encB).toArray) rfl rfl 23 z20 (heap_alloc_new _ _) HS1.out HS2.out (map_one encB_one _) ?_; rw [World.setRow_alloc_new]; obtain ⟨W5, hW5, hs5, hx5, hb5⟩ := opn1 w4 (.cells (D.map encB).toArray 23); rw [hW5]; have HX5 := Lib.hid hx5; have hb6 := stp (stp hb3 hb4) hb5; clear hW5 hx5 hs5)
    | (go_at_call 28; (with_reducible refine (hexis_b a0 W5 _ H1.out).mono ?_); rintro e w6 ⟨rfl, hb7⟩)
    | (go_at_call 28; (with_reducible refine (hexis_b ⟨l.toArray⟩ w6 _ H2.out).mono ?_); rintro e w7 ⟨rfl, hb8⟩)
    | (go_at_call 29; (with_reducible refine (put_key w4.heap.size D ks HDL.out HKS.out w7 (heap_kept (heap_kept HX5.out hb7) hb8)).mono ?_); rintro e w8 ⟨rfl, hb9⟩)
    | (go_at_call 26; (with_reducible refine (fits_b a0 ⟨l.toArray⟩ w8 _ HFIT.out).mono ?_); rintro e w9 ⟨rfl, hb10⟩)
    | (go_at_call 28; (with_reducible refine (hexis_b a2 w9 _ H4.out).mono ?_); rintro e w10 ⟨rfl, hb11⟩)
    | fail)
  go_ret
  exact ⟨rfl, stp (stp (stp (stp (stp hb6 hb7) hb8) hb9) hb10) hb11⟩

set_option maxHeartbeats 4000000 in
set_option maxRecDepth 100000 in
theorem walkF (a0 a2 : ByteArray) (l : List UInt8) (w : World) (s0 : a0.size ≤ 300) (s1 : l.length ≤ 300) (s2 : a2.size ≤ 300) (h1 : isK a0 = true) (h2 : isK ⟨l.toArray⟩ = true) (h3 : decide (keyB ⟨l.toArray⟩ = a0) = true) (h4 : isK a2 = true) :
    Calls Try.prog 8 #[.string a0, .string ⟨l.toArray⟩, .string a2, .bool true] w fun e w' => e = .returned (.bool true) ∧ Below w.heap.size w w' := by
  have hfit : fitB a0 ⟨l.toArray⟩ = true := by rw [fit_parts a0 _ true true true h1 h2 h3]; rfl
  have hS : takeS a0 ⟨l.toArray⟩ a2 true = a2 := by simp [takeS, hfit, h4]
  have hE : takeE a0 ⟨l.toArray⟩ a2 true = 0 := by simp [takeE, hfit, h4]
  obtain ⟨D, hD⟩ : ∃ D, dig l = D := ⟨_, rfl⟩
  have hDl : D.length = 20 := by rw [← hD]; exact dig_length l
  obtain ⟨ks, hk⟩ : ∃ ks, keyB ⟨l.toArray⟩ = ks := ⟨_, rfl⟩
  have hks : ks = ⟨(putL D).toArray⟩ := by rw [← hk, keyB_mk, hD]
  have HS1 : Hid ((Try.prog.info? 23).map (·.size) = some ((D.map encB).toArray).size) := by show _ = _; rw [List.size_toArray, List.length_map, hDl]; kernel_rfl
  have HS2 : Hid (z20.size = ((D.map encB).toArray).size) := by show (20 : Nat) = _; rw [List.size_toArray, List.length_map, hDl]
  have t0 : decide ((300 : Int) < (a0.size : Int)) = false := by simp; omega
  have t1 : decide ((300 : Int) < (l.length : Int)) = false := by simp; omega
  have t2 : decide ((300 : Int) < (a2.size : Int)) = false := by simp; omega
  have tl : (⟨l.toArray⟩ : ByteArray).size = l.length := by simp [ByteArray.size]
  have hm : l.length ≤ 16384 := by omega
  have hq : (ks.toList == a0.toList) = true := by rw [seq_b, ← hk]; exact h3
  have HD := Lib.hid hD
  have HDL := Lib.hid hDl
  have HKS := Lib.hid hks
  have HFIT := Lib.hid hfit
  have HS := Lib.hid hS
  have HE := Lib.hid hE
  have H1 := Lib.hid h1
  have H2 := Lib.hid h2
  have H4 := Lib.hid h4
  clear hD hDl hks hfit hS hE h1 h2 h3 hk s0 s1 s2 h4
  go_enter Try.func8, Try.ntmps8
  go_wp2_with (first
    | (go_at_call 18; (with_reducible refine (alive_any4 w).mono ?_); rintro e w1 ⟨rfl, hb1⟩)
    | (go_at_call 20; (with_reducible refine (take_any a0 ⟨l.toArray⟩ a2 true w1 _ _ HS.out HE.out).mono ?_); rintro e w2 ⟨rfl, hb2⟩; obtain ⟨C, WB, hconv, hrd, hbc⟩ := str_bytes l w2; have HRD := Lib.hid hrd; have hb3 := stp (stp hb1 hb2) hbc; clear hrd hbc)
    | (go_at_call 10; (with_reducible refine (of_ok64 (some ⟨w2.heap.size, 0, none⟩) l.length C l WB HRD.out rfl (fun h => by cases h) hm D HD.out).mono ?_); rintro e w4 ⟨rfl, hb4⟩)
    | (refine wpList_store_row rfl _ _ _ rfl w4.heap.size ((D.map encB).toArray) rfl rfl 23 z20 (heap_alloc_new _ _) HS1.out HS2.out (map_one encB_one _) ?_; rw [World.setRow_alloc_new]; obtain ⟨W5, hW5, hs5, hx5, hb5⟩ := opn1 w4 (.cells (D.map encB).toArray 23); rw [hW5]; have HX5 := Lib.hid hx5; have hb6 := stp (stp hb3 hb4) hb5; clear hW5 hx5 hs5)
    | (go_at_call 28; (with_reducible refine (hexis_b a0 W5 _ H1.out).mono ?_); rintro e w6 ⟨rfl, hb7⟩)
    | (go_at_call 28; (with_reducible refine (hexis_b ⟨l.toArray⟩ w6 _ H2.out).mono ?_); rintro e w7 ⟨rfl, hb8⟩)
    | (go_at_call 29; (with_reducible refine (put_key w4.heap.size D ks HDL.out HKS.out w7 (heap_kept (heap_kept HX5.out hb7) hb8)).mono ?_); rintro e w8 ⟨rfl, hb9⟩)
    | (go_at_call 26; (with_reducible refine (fits_b a0 ⟨l.toArray⟩ w8 _ HFIT.out).mono ?_); rintro e w9 ⟨rfl, hb10⟩)
    | (go_at_call 28; (with_reducible refine (hexis_b a2 w9 _ H4.out).mono ?_); rintro e w10 ⟨rfl, hb11⟩)
    | fail)
  go_ret
  exact ⟨rfl, stp (stp (stp (stp (stp hb6 hb7) hb8) hb9) hb10) hb11⟩

theorem walk (a0 a1 a2 : ByteArray) (a3 : Bool) (w : World) (w0 : a0.size ≤ maxLen) (w1 : a1.size ≤ maxLen) (w2 : a2.size ≤ maxLen) :
    Calls Try.prog 8 #[.string a0, .string a1, .string a2, .bool a3] w fun e w' => e = .returned (.bool true) ∧ Below w.heap.size w w' := by
  by_cases h : 300 < a0.size ∨ 300 < a1.size ∨ 300 < a2.size
  · exact walkOut a0 a1 a2 a3 w h
  · obtain ⟨l, hl⟩ : ∃ l, a1.data.toList = l := ⟨_, rfl⟩
    obtain rfl : a1 = ⟨l.toArray⟩ := by rw [← hl]
    have s1 : l.length ≤ 300 := by rw [← hl, ba_len]; omega
    cases h1 : isK a0
    · exact walkA a0 a2 l a3 w (by omega) s1 (by omega) h1 _ rfl _ rfl
    · cases h2 : isK ⟨l.toArray⟩
      · exact walkB a0 a2 l a3 w (by omega) s1 (by omega) h1 h2 _ rfl
      · cases h3 : decide (keyB ⟨l.toArray⟩ = a0)
        · exact walkC a0 a2 l a3 w (by omega) s1 (by omega) h1 h2 h3
        · cases a3
          · exact walkD a0 a2 l w (by omega) s1 (by omega) h1 h2 h3
          · cases h4 : isK a2
            · exact walkE a0 a2 l w (by omega) s1 (by omega) h1 h2 h3 h4
            · exact walkF a0 a2 l w (by omega) s1 (by omega) h1 h2 h3 h4

set_option maxRecDepth 100000 in
theorem lifted (os : Os) (started : os.Started) (H : Type) (enc : TypeId × Value → H) :
    ReturnsInHanded {} Try.checked os 8 .any (Rows.chainTakesSpec.pre6 enc Try.prog Try.f8 Rows.chainTakesRow.domain false) (Rows.chainTakesSpec.post enc Try.prog Try.f8 false true false false) := by
  refine returnsInHanded_of_change (C := Try.checked) own started (by kernel_rfl) Try.func8
    (ChangeSpec.witness6 (enc := enc) (C := Try.checked) false ⟨#[], #[.string ByteArray.empty, .string ByteArray.empty, .string ByteArray.empty, .bool false], []⟩ 8 (by kernel_rfl) (by kernel_rfl) (by kernel_rfl) (by kernel_rfl)) ?_
  intro W base args ds gs before hval0 hW hcnd _
  have hval : ∀ (j : Nat) t v, Try.f8.params[j]? = some t → args[j]? = some v → Value.okWide Try.prog W .any base t v := hval0
  have hW' := hW
  obtain ⟨p, q, hA0, hV, rfl, hfz, hnd⟩ := hW
  have hA : DataW.TrodAll enc Try.prog W 0 (fun _ => true) true Try.f8.params.toList args.toList ds p := hA0
  rw [Try.params8] at hA hval
  obtain ⟨v0, vs0, d0, ds0, p0, q0, hargs, rfl, rfl, h0, r0⟩ := trodAll_cons hA
  obtain ⟨v1, vs1, d1, ds1, p1, q1, rfl, rfl, rfl, h1, r1⟩ := trodAll_cons r0
  obtain ⟨v2, vs2, d2, ds2, p2, q2, rfl, rfl, rfl, h2, r2⟩ := trodAll_cons r1
  obtain ⟨v3, vs3, d3, ds3, p3, q3, rfl, rfl, rfl, h3, r3⟩ := trodAll_cons r2
  obtain ⟨rfl, rfl, rfl⟩ := trodAll_nil r3
  obtain rfl : args = #[v0, v1, v2, v3] := by cases args; simp_all
  obtain ⟨rfl, rfl⟩ := trodVars_none hV
  obtain ⟨a0, rfl, rfl, rfl, w0⟩ := open_string Try.underlying9 (hval 0 9 v0 rfl rfl) h0
  obtain ⟨a1, rfl, rfl, rfl, w1⟩ := open_string Try.underlying9 (hval 1 9 v1 rfl rfl) h1
  obtain ⟨a2, rfl, rfl, rfl, w2⟩ := open_string Try.underlying9 (hval 2 9 v2 rfl rfl) h2
  obtain ⟨a3, rfl, rfl, rfl⟩ := open_bool Try.underlying4 (hval 3 4 v3 rfl rfl) h3
  clear hA0 hval0
  refine (walk a0 a1 a2 a3 W w0 w1 w2).mono fun e W' ⟨he, bel⟩ => ?_
  subst he
  exact ⟨_, rfl, _, _, _, [], _, [], hW', trodAll_mk1 (shut_bool Try.underlying4 _), (trodAll_cons_mk (shut_string Try.underlying9 w0) (trodAll_cons_mk (shut_string Try.underlying9 w1) (trodAll_cons_mk (shut_string Try.underlying9 w2) (trodAll_cons_mk (shut_bool Try.underlying4 _) trodAll_mk0)))), rfl, bel.frame _, fun h => by cases h⟩

theorem over : Rows.chainTakesRow.holds Try.pinned (OpenSpec.ofChange Rows.chainTakesSpec) :=
  OpenClaim.holds_of_wide 8 Try.f8 rfl rfl rfl rfl rfl rfl rfl ⟨rfl, rfl, rfl, rfl, rfl⟩ rfl rfl rfl rfl rfl (by kernel_rfl) Try.func8 (by kernel_rfl)
    (of_decide_eq_true (by kernel_rfl)) (by unfold Func.isWrapper; first | (rw [if_pos (by decide +kernel)]; kernel_rfl) | (rw [if_neg (by decide +kernel)]; exact ⟨rfl, rfl⟩))
    (fun os started H enc _ => lifted os started H enc)

theorem proved : Rows.ChainTakesSaid := over
end Go.Proofs.Ytmjcmlaeajglmaa.chainTakes
