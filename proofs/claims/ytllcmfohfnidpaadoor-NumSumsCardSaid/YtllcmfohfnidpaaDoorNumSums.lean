/-
  There and back by a sum is nothing.
-/
import Derived.Test.YtllcmfohfnidpaaDoorNumW
import Derived.Test.YtllcmfohfnidpaaDoorCards
import Derived.Test.YtllcmfohfnidpaaDoorTie
import Derived.LaidMore
import Derived.LaidSub
import Derived.MakeChecks
import Derived.Stop.Joined
import Derived.Lib.LaidTab
import Derived.SevenTiedAt
import Derived.WalkKit
import Derived.ProofKit
import Derived.OpenShut
import Derived.ShutString
import Derived.ChangeOld
import Derived.Below
namespace Go.Proofs.YtllcmfohfnidpaaDoor.numSums
open Go.ChangeShapes Go.WideShapes Go.ChangeAt Go.RowKit
open Go.ChangeMaps (open_string shut_string)
open Hx Nmb
set_option linter.unusedVariables false

theorem own : ownKnob Tryd.prog.godebug = none := by kernel_rfl
theorem laidOut : laidOutB Tryd.prog = true := by kernel_rfl

set_option linter.unusedVariables false
theorem sum_case {n m a b : Int} (h : sumR n m = (a, b)) : (b = 0 ∧ a = n + m ∧ 0 ≤ n ∧ n ≤ 9007199254740991 ∧ -9007199254740991 ≤ m ∧ m ≤ 9007199254740991 ∧ 0 ≤ n + m ∧ n + m ≤ 9007199254740991) ∨ (b = 2 ∧ a = 0) := by
  unfold sumR at h
  split at h
  · rename_i hc
    injection h with h1 h2
    exact .inl ⟨h2.symm, h1.symm, hc⟩
  · injection h with h1 h2
    exact .inr ⟨h2.symm, h1.symm⟩
theorem sum_yes {n m : Int} (h : 0 ≤ n ∧ n ≤ 9007199254740991 ∧ -9007199254740991 ≤ m ∧ m ≤ 9007199254740991 ∧ 0 ≤ n + m ∧ n + m ≤ 9007199254740991) : sumR n m = (n + m, 0) := by unfold sumR; rw [if_pos h]
theorem sum_neg {n m : Int} (h : n < 0) : sumR n m = (0, 2) := by unfold sumR; rw [if_neg (by omega)]
set_option maxHeartbeats 1000000 in
set_option maxRecDepth 100000 in
theorem walkBad (n m k : Int) (w : World) (hn : -9223372036854775808 ≤ n ∧ n ≤ 9223372036854775807) (hm : -9223372036854775808 ≤ m ∧ m ≤ 9223372036854775807) (hs : sumR n m = (0, 2)) (hT : Tb w := by first | assumption | exact Tb.to (by assumption) (by assumption)) :
    Calls Tryd.prog 7 #[.int .i64 n, .int .i64 m, .int .i64 k] w fun e w' => e = .returned (.bool true) ∧ Below w.heap.size w w' := by
  have HN := Lib.hid hn
  have HM := Lib.hid hm
  have HS := Lib.hid hs
  clear hn hm hs
  go_enter Tryd.func7, Tryd.ntmps7
  go_wp2_with (first
    | (go_at_call 13; (with_reducible refine (alive6 w).mono ?_); rintro e w1 ⟨rfl, hb1⟩)
    | (go_at_call 12; (with_reducible refine (sum6 n m w1 HN.out HM.out 0 2 HS.out).mono ?_); rintro e w2 ⟨rfl, hb2⟩; have hB2 := stp hb1 hb2)
    | fail)
  go_ret
  exact ⟨rfl, hB2⟩
set_option maxHeartbeats 4000000 in
set_option maxRecDepth 100000 in
theorem walkP_00 (n m k x a b : Int) (w : World) (hm1 : -9007199254740991 ≤ m) (hm2 : m ≤ 9007199254740991) (hn1 : 0 ≤ n) (hn2 : n ≤ 9007199254740991) (hx1 : 0 ≤ x) (hx2 : x ≤ 9007199254740991) (hk : -9223372036854775808 ≤ k ∧ k ≤ 9223372036854775807) (hs : sumR n m = (x, 0)) (h1 : sumR x (-m) = (n, 0)) (hsg : 0 ≤ m) (h2 : sumR m n = (x, 0)) (h3 : sumR x k = (a, 0)) (h4 : sumR n k = (b, 0)) (hbb1 : 0 ≤ b) (hbb2 : b ≤ 9007199254740991) (h5 : sumR b m = (a, 0)) (hT : Tb w := by first | assumption | exact Tb.to (by assumption) (by assumption)) :
    Calls Tryd.prog 7 #[.int .i64 n, .int .i64 m, .int .i64 k] w fun e w' => e = .returned (.bool true) ∧ Below w.heap.size w w' := by
  have d0 : decide (x < 0) = false := by simp; omega
  have d1 : decide (9007199254740991 < x) = false := by simp; omega
  have d2 : decide (0 ≤ m) = true := by simp; omega
  have BN : Hid (-9223372036854775808 ≤ n ∧ n ≤ 9223372036854775807) := Lib.hid (by omega)
  have BM : Hid (-9223372036854775808 ≤ m ∧ m ≤ 9223372036854775807) := Lib.hid (by omega)
  have BX : Hid (-9223372036854775808 ≤ x ∧ x ≤ 9223372036854775807) := Lib.hid (by omega)
  have BK : Hid (-9223372036854775808 ≤ k ∧ k ≤ 9223372036854775807) := Lib.hid (by omega)
  have BG : Hid (-9223372036854775808 ≤ (-m) ∧ (-m) ≤ 9223372036854775807) := Lib.hid (by omega)
  have H1 := Lib.hid h1
  have H2 := Lib.hid h2
  have H3 := Lib.hid h3
  have H4 := Lib.hid h4
  have HS := Lib.hid hs
  have H5 := Lib.hid h5
  have BB : Hid (-9223372036854775808 ≤ b ∧ b ≤ 9223372036854775807) := Lib.hid (by omega)
  clear h5
  clear h1 h2 h3 h4 hs
  go_enter Tryd.func7, Tryd.ntmps7
  go_wp2_with (first
    | (go_at_call 13; (with_reducible refine (alive6 w).mono ?_); rintro e w1 ⟨rfl, hb1⟩)
    | (go_at_call 12; (with_reducible refine (sum6 n m w1 BN.out BM.out x 0 HS.out).mono ?_); rintro e w2 ⟨rfl, hb2'⟩; have hB2 := stp hb1 hb2')
    | (go_at_call 12; (with_reducible refine (sum6 x (-m) w2 BX.out BG.out n 0 H1.out).mono ?_); rintro e w3 ⟨rfl, hb3'⟩; have hB3 := stp hB2 hb3')
    | (go_at_call 12; (with_reducible refine (sum6 m n w3 BM.out BN.out x 0 H2.out).mono ?_); rintro e w4 ⟨rfl, hb4'⟩; have hB4 := stp hB3 hb4')
    | (go_at_call 12; (with_reducible refine (sum6 x k w4 BX.out BK.out a 0 H3.out).mono ?_); rintro e w5 ⟨rfl, hb5'⟩; have hB5 := stp hB4 hb5')
    | (go_at_call 12; (with_reducible refine (sum6 n k w5 BN.out BK.out b 0 H4.out).mono ?_); rintro e w6 ⟨rfl, hb6'⟩; have hB6 := stp hB5 hb6')
    | (go_at_call 12; (with_reducible refine (sum6 b m w6 BB.out BM.out a 0 H5.out).mono ?_); rintro e w7 ⟨rfl, hb7'⟩; have hB7 := stp hB6 hb7')
    | fail)
  go_ret
  exact ⟨rfl, hB7⟩
set_option maxHeartbeats 4000000 in
set_option maxRecDepth 100000 in
theorem walkP_02 (n m k x a b : Int) (w : World) (hm1 : -9007199254740991 ≤ m) (hm2 : m ≤ 9007199254740991) (hn1 : 0 ≤ n) (hn2 : n ≤ 9007199254740991) (hx1 : 0 ≤ x) (hx2 : x ≤ 9007199254740991) (hk : -9223372036854775808 ≤ k ∧ k ≤ 9223372036854775807) (hs : sumR n m = (x, 0)) (h1 : sumR x (-m) = (n, 0)) (hsg : 0 ≤ m) (h2 : sumR m n = (x, 0)) (h3 : sumR x k = (a, 0)) (h4 : sumR n k = (b, 2)) (hT : Tb w := by first | assumption | exact Tb.to (by assumption) (by assumption)) :
    Calls Tryd.prog 7 #[.int .i64 n, .int .i64 m, .int .i64 k] w fun e w' => e = .returned (.bool true) ∧ Below w.heap.size w w' := by
  have d0 : decide (x < 0) = false := by simp; omega
  have d1 : decide (9007199254740991 < x) = false := by simp; omega
  have d2 : decide (0 ≤ m) = true := by simp; omega
  have BN : Hid (-9223372036854775808 ≤ n ∧ n ≤ 9223372036854775807) := Lib.hid (by omega)
  have BM : Hid (-9223372036854775808 ≤ m ∧ m ≤ 9223372036854775807) := Lib.hid (by omega)
  have BX : Hid (-9223372036854775808 ≤ x ∧ x ≤ 9223372036854775807) := Lib.hid (by omega)
  have BK : Hid (-9223372036854775808 ≤ k ∧ k ≤ 9223372036854775807) := Lib.hid (by omega)
  have BG : Hid (-9223372036854775808 ≤ (-m) ∧ (-m) ≤ 9223372036854775807) := Lib.hid (by omega)
  have H1 := Lib.hid h1
  have H2 := Lib.hid h2
  have H3 := Lib.hid h3
  have H4 := Lib.hid h4
  have HS := Lib.hid hs
  clear h1 h2 h3 h4 hs
  go_enter Tryd.func7, Tryd.ntmps7
  go_wp2_with (first
    | (go_at_call 13; (with_reducible refine (alive6 w).mono ?_); rintro e w1 ⟨rfl, hb1⟩)
    | (go_at_call 12; (with_reducible refine (sum6 n m w1 BN.out BM.out x 0 HS.out).mono ?_); rintro e w2 ⟨rfl, hb2'⟩; have hB2 := stp hb1 hb2')
    | (go_at_call 12; (with_reducible refine (sum6 x (-m) w2 BX.out BG.out n 0 H1.out).mono ?_); rintro e w3 ⟨rfl, hb3'⟩; have hB3 := stp hB2 hb3')
    | (go_at_call 12; (with_reducible refine (sum6 m n w3 BM.out BN.out x 0 H2.out).mono ?_); rintro e w4 ⟨rfl, hb4'⟩; have hB4 := stp hB3 hb4')
    | (go_at_call 12; (with_reducible refine (sum6 x k w4 BX.out BK.out a 0 H3.out).mono ?_); rintro e w5 ⟨rfl, hb5'⟩; have hB5 := stp hB4 hb5')
    | (go_at_call 12; (with_reducible refine (sum6 n k w5 BN.out BK.out b 2 H4.out).mono ?_); rintro e w6 ⟨rfl, hb6'⟩; have hB6 := stp hB5 hb6')
    | fail)
  go_ret
  exact ⟨rfl, hB6⟩
set_option maxHeartbeats 4000000 in
set_option maxRecDepth 100000 in
theorem walkP_20 (n m k x a b : Int) (w : World) (hm1 : -9007199254740991 ≤ m) (hm2 : m ≤ 9007199254740991) (hn1 : 0 ≤ n) (hn2 : n ≤ 9007199254740991) (hx1 : 0 ≤ x) (hx2 : x ≤ 9007199254740991) (hk : -9223372036854775808 ≤ k ∧ k ≤ 9223372036854775807) (hs : sumR n m = (x, 0)) (h1 : sumR x (-m) = (n, 0)) (hsg : 0 ≤ m) (h2 : sumR m n = (x, 0)) (h3 : sumR x k = (a, 2)) (h4 : sumR n k = (b, 0)) (hT : Tb w := by first | assumption | exact Tb.to (by assumption) (by assumption)) :
    Calls Tryd.prog 7 #[.int .i64 n, .int .i64 m, .int .i64 k] w fun e w' => e = .returned (.bool true) ∧ Below w.heap.size w w' := by
  have d0 : decide (x < 0) = false := by simp; omega
  have d1 : decide (9007199254740991 < x) = false := by simp; omega
  have d2 : decide (0 ≤ m) = true := by simp; omega
  have BN : Hid (-9223372036854775808 ≤ n ∧ n ≤ 9223372036854775807) := Lib.hid (by omega)
  have BM : Hid (-9223372036854775808 ≤ m ∧ m ≤ 9223372036854775807) := Lib.hid (by omega)
  have BX : Hid (-9223372036854775808 ≤ x ∧ x ≤ 9223372036854775807) := Lib.hid (by omega)
  have BK : Hid (-9223372036854775808 ≤ k ∧ k ≤ 9223372036854775807) := Lib.hid (by omega)
  have BG : Hid (-9223372036854775808 ≤ (-m) ∧ (-m) ≤ 9223372036854775807) := Lib.hid (by omega)
  have H1 := Lib.hid h1
  have H2 := Lib.hid h2
  have H3 := Lib.hid h3
  have H4 := Lib.hid h4
  have HS := Lib.hid hs
  clear h1 h2 h3 h4 hs
  go_enter Tryd.func7, Tryd.ntmps7
  go_wp2_with (first
    | (go_at_call 13; (with_reducible refine (alive6 w).mono ?_); rintro e w1 ⟨rfl, hb1⟩)
    | (go_at_call 12; (with_reducible refine (sum6 n m w1 BN.out BM.out x 0 HS.out).mono ?_); rintro e w2 ⟨rfl, hb2'⟩; have hB2 := stp hb1 hb2')
    | (go_at_call 12; (with_reducible refine (sum6 x (-m) w2 BX.out BG.out n 0 H1.out).mono ?_); rintro e w3 ⟨rfl, hb3'⟩; have hB3 := stp hB2 hb3')
    | (go_at_call 12; (with_reducible refine (sum6 m n w3 BM.out BN.out x 0 H2.out).mono ?_); rintro e w4 ⟨rfl, hb4'⟩; have hB4 := stp hB3 hb4')
    | (go_at_call 12; (with_reducible refine (sum6 x k w4 BX.out BK.out a 2 H3.out).mono ?_); rintro e w5 ⟨rfl, hb5'⟩; have hB5 := stp hB4 hb5')
    | (go_at_call 12; (with_reducible refine (sum6 n k w5 BN.out BK.out b 0 H4.out).mono ?_); rintro e w6 ⟨rfl, hb6'⟩; have hB6 := stp hB5 hb6')
    | fail)
  go_ret
  exact ⟨rfl, hB6⟩
set_option maxHeartbeats 4000000 in
set_option maxRecDepth 100000 in
theorem walkP_22 (n m k x a b : Int) (w : World) (hm1 : -9007199254740991 ≤ m) (hm2 : m ≤ 9007199254740991) (hn1 : 0 ≤ n) (hn2 : n ≤ 9007199254740991) (hx1 : 0 ≤ x) (hx2 : x ≤ 9007199254740991) (hk : -9223372036854775808 ≤ k ∧ k ≤ 9223372036854775807) (hs : sumR n m = (x, 0)) (h1 : sumR x (-m) = (n, 0)) (hsg : 0 ≤ m) (h2 : sumR m n = (x, 0)) (h3 : sumR x k = (a, 2)) (h4 : sumR n k = (b, 2)) (hT : Tb w := by first | assumption | exact Tb.to (by assumption) (by assumption)) :
    Calls Tryd.prog 7 #[.int .i64 n, .int .i64 m, .int .i64 k] w fun e w' => e = .returned (.bool true) ∧ Below w.heap.size w w' := by
  have d0 : decide (x < 0) = false := by simp; omega
  have d1 : decide (9007199254740991 < x) = false := by simp; omega
  have d2 : decide (0 ≤ m) = true := by simp; omega
  have BN : Hid (-9223372036854775808 ≤ n ∧ n ≤ 9223372036854775807) := Lib.hid (by omega)
  have BM : Hid (-9223372036854775808 ≤ m ∧ m ≤ 9223372036854775807) := Lib.hid (by omega)
  have BX : Hid (-9223372036854775808 ≤ x ∧ x ≤ 9223372036854775807) := Lib.hid (by omega)
  have BK : Hid (-9223372036854775808 ≤ k ∧ k ≤ 9223372036854775807) := Lib.hid (by omega)
  have BG : Hid (-9223372036854775808 ≤ (-m) ∧ (-m) ≤ 9223372036854775807) := Lib.hid (by omega)
  have H1 := Lib.hid h1
  have H2 := Lib.hid h2
  have H3 := Lib.hid h3
  have H4 := Lib.hid h4
  have HS := Lib.hid hs
  clear h1 h2 h3 h4 hs
  go_enter Tryd.func7, Tryd.ntmps7
  go_wp2_with (first
    | (go_at_call 13; (with_reducible refine (alive6 w).mono ?_); rintro e w1 ⟨rfl, hb1⟩)
    | (go_at_call 12; (with_reducible refine (sum6 n m w1 BN.out BM.out x 0 HS.out).mono ?_); rintro e w2 ⟨rfl, hb2'⟩; have hB2 := stp hb1 hb2')
    | (go_at_call 12; (with_reducible refine (sum6 x (-m) w2 BX.out BG.out n 0 H1.out).mono ?_); rintro e w3 ⟨rfl, hb3'⟩; have hB3 := stp hB2 hb3')
    | (go_at_call 12; (with_reducible refine (sum6 m n w3 BM.out BN.out x 0 H2.out).mono ?_); rintro e w4 ⟨rfl, hb4'⟩; have hB4 := stp hB3 hb4')
    | (go_at_call 12; (with_reducible refine (sum6 x k w4 BX.out BK.out a 2 H3.out).mono ?_); rintro e w5 ⟨rfl, hb5'⟩; have hB5 := stp hB4 hb5')
    | (go_at_call 12; (with_reducible refine (sum6 n k w5 BN.out BK.out b 2 H4.out).mono ?_); rintro e w6 ⟨rfl, hb6'⟩; have hB6 := stp hB5 hb6')
    | fail)
  go_ret
  exact ⟨rfl, hB6⟩
set_option maxHeartbeats 4000000 in
set_option maxRecDepth 100000 in
theorem walkM_00 (n m k x a b : Int) (w : World) (hm1 : -9007199254740991 ≤ m) (hm2 : m ≤ 9007199254740991) (hn1 : 0 ≤ n) (hn2 : n ≤ 9007199254740991) (hx1 : 0 ≤ x) (hx2 : x ≤ 9007199254740991) (hk : -9223372036854775808 ≤ k ∧ k ≤ 9223372036854775807) (hs : sumR n m = (x, 0)) (h1 : sumR x (-m) = (n, 0)) (hsg : m < 0) (h2 : sumR m n = (0, 2)) (h3 : sumR x k = (a, 0)) (h4 : sumR n k = (b, 0)) (hbb1 : 0 ≤ b) (hbb2 : b ≤ 9007199254740991) (h5 : sumR b m = (a, 0)) (hT : Tb w := by first | assumption | exact Tb.to (by assumption) (by assumption)) :
    Calls Tryd.prog 7 #[.int .i64 n, .int .i64 m, .int .i64 k] w fun e w' => e = .returned (.bool true) ∧ Below w.heap.size w w' := by
  have d0 : decide (x < 0) = false := by simp; omega
  have d1 : decide (9007199254740991 < x) = false := by simp; omega
  have d2 : decide (0 ≤ m) = false := by simp; omega
  have BN : Hid (-9223372036854775808 ≤ n ∧ n ≤ 9223372036854775807) := Lib.hid (by omega)
  have BM : Hid (-9223372036854775808 ≤ m ∧ m ≤ 9223372036854775807) := Lib.hid (by omega)
  have BX : Hid (-9223372036854775808 ≤ x ∧ x ≤ 9223372036854775807) := Lib.hid (by omega)
  have BK : Hid (-9223372036854775808 ≤ k ∧ k ≤ 9223372036854775807) := Lib.hid (by omega)
  have BG : Hid (-9223372036854775808 ≤ (-m) ∧ (-m) ≤ 9223372036854775807) := Lib.hid (by omega)
  have H1 := Lib.hid h1
  have H2 := Lib.hid h2
  have H3 := Lib.hid h3
  have H4 := Lib.hid h4
  have HS := Lib.hid hs
  have H5 := Lib.hid h5
  have BB : Hid (-9223372036854775808 ≤ b ∧ b ≤ 9223372036854775807) := Lib.hid (by omega)
  clear h5
  clear h1 h2 h3 h4 hs
  go_enter Tryd.func7, Tryd.ntmps7
  go_wp2_with (first
    | (go_at_call 13; (with_reducible refine (alive6 w).mono ?_); rintro e w1 ⟨rfl, hb1⟩)
    | (go_at_call 12; (with_reducible refine (sum6 n m w1 BN.out BM.out x 0 HS.out).mono ?_); rintro e w2 ⟨rfl, hb2'⟩; have hB2 := stp hb1 hb2')
    | (go_at_call 12; (with_reducible refine (sum6 x (-m) w2 BX.out BG.out n 0 H1.out).mono ?_); rintro e w3 ⟨rfl, hb3'⟩; have hB3 := stp hB2 hb3')
    | (go_at_call 12; (with_reducible refine (sum6 m n w3 BM.out BN.out 0 2 H2.out).mono ?_); rintro e w4 ⟨rfl, hb4'⟩; have hB4 := stp hB3 hb4')
    | (go_at_call 12; (with_reducible refine (sum6 x k w4 BX.out BK.out a 0 H3.out).mono ?_); rintro e w5 ⟨rfl, hb5'⟩; have hB5 := stp hB4 hb5')
    | (go_at_call 12; (with_reducible refine (sum6 n k w5 BN.out BK.out b 0 H4.out).mono ?_); rintro e w6 ⟨rfl, hb6'⟩; have hB6 := stp hB5 hb6')
    | (go_at_call 12; (with_reducible refine (sum6 b m w6 BB.out BM.out a 0 H5.out).mono ?_); rintro e w7 ⟨rfl, hb7'⟩; have hB7 := stp hB6 hb7')
    | fail)
  go_ret
  exact ⟨rfl, hB7⟩
set_option maxHeartbeats 4000000 in
set_option maxRecDepth 100000 in
theorem walkM_02 (n m k x a b : Int) (w : World) (hm1 : -9007199254740991 ≤ m) (hm2 : m ≤ 9007199254740991) (hn1 : 0 ≤ n) (hn2 : n ≤ 9007199254740991) (hx1 : 0 ≤ x) (hx2 : x ≤ 9007199254740991) (hk : -9223372036854775808 ≤ k ∧ k ≤ 9223372036854775807) (hs : sumR n m = (x, 0)) (h1 : sumR x (-m) = (n, 0)) (hsg : m < 0) (h2 : sumR m n = (0, 2)) (h3 : sumR x k = (a, 0)) (h4 : sumR n k = (b, 2)) (hT : Tb w := by first | assumption | exact Tb.to (by assumption) (by assumption)) :
    Calls Tryd.prog 7 #[.int .i64 n, .int .i64 m, .int .i64 k] w fun e w' => e = .returned (.bool true) ∧ Below w.heap.size w w' := by
  have d0 : decide (x < 0) = false := by simp; omega
  have d1 : decide (9007199254740991 < x) = false := by simp; omega
  have d2 : decide (0 ≤ m) = false := by simp; omega
  have BN : Hid (-9223372036854775808 ≤ n ∧ n ≤ 9223372036854775807) := Lib.hid (by omega)
  have BM : Hid (-9223372036854775808 ≤ m ∧ m ≤ 9223372036854775807) := Lib.hid (by omega)
  have BX : Hid (-9223372036854775808 ≤ x ∧ x ≤ 9223372036854775807) := Lib.hid (by omega)
  have BK : Hid (-9223372036854775808 ≤ k ∧ k ≤ 9223372036854775807) := Lib.hid (by omega)
  have BG : Hid (-9223372036854775808 ≤ (-m) ∧ (-m) ≤ 9223372036854775807) := Lib.hid (by omega)
  have H1 := Lib.hid h1
  have H2 := Lib.hid h2
  have H3 := Lib.hid h3
  have H4 := Lib.hid h4
  have HS := Lib.hid hs
  clear h1 h2 h3 h4 hs
  go_enter Tryd.func7, Tryd.ntmps7
  go_wp2_with (first
    | (go_at_call 13; (with_reducible refine (alive6 w).mono ?_); rintro e w1 ⟨rfl, hb1⟩)
    | (go_at_call 12; (with_reducible refine (sum6 n m w1 BN.out BM.out x 0 HS.out).mono ?_); rintro e w2 ⟨rfl, hb2'⟩; have hB2 := stp hb1 hb2')
    | (go_at_call 12; (with_reducible refine (sum6 x (-m) w2 BX.out BG.out n 0 H1.out).mono ?_); rintro e w3 ⟨rfl, hb3'⟩; have hB3 := stp hB2 hb3')
    | (go_at_call 12; (with_reducible refine (sum6 m n w3 BM.out BN.out 0 2 H2.out).mono ?_); rintro e w4 ⟨rfl, hb4'⟩; have hB4 := stp hB3 hb4')
    | (go_at_call 12; (with_reducible refine (sum6 x k w4 BX.out BK.out a 0 H3.out).mono ?_); rintro e w5 ⟨rfl, hb5'⟩; have hB5 := stp hB4 hb5')
    | (go_at_call 12; (with_reducible refine (sum6 n k w5 BN.out BK.out b 2 H4.out).mono ?_); rintro e w6 ⟨rfl, hb6'⟩; have hB6 := stp hB5 hb6')
    | fail)
  go_ret
  exact ⟨rfl, hB6⟩
set_option maxHeartbeats 4000000 in
set_option maxRecDepth 100000 in
theorem walkM_20 (n m k x a b : Int) (w : World) (hm1 : -9007199254740991 ≤ m) (hm2 : m ≤ 9007199254740991) (hn1 : 0 ≤ n) (hn2 : n ≤ 9007199254740991) (hx1 : 0 ≤ x) (hx2 : x ≤ 9007199254740991) (hk : -9223372036854775808 ≤ k ∧ k ≤ 9223372036854775807) (hs : sumR n m = (x, 0)) (h1 : sumR x (-m) = (n, 0)) (hsg : m < 0) (h2 : sumR m n = (0, 2)) (h3 : sumR x k = (a, 2)) (h4 : sumR n k = (b, 0)) (hT : Tb w := by first | assumption | exact Tb.to (by assumption) (by assumption)) :
    Calls Tryd.prog 7 #[.int .i64 n, .int .i64 m, .int .i64 k] w fun e w' => e = .returned (.bool true) ∧ Below w.heap.size w w' := by
  have d0 : decide (x < 0) = false := by simp; omega
  have d1 : decide (9007199254740991 < x) = false := by simp; omega
  have d2 : decide (0 ≤ m) = false := by simp; omega
  have BN : Hid (-9223372036854775808 ≤ n ∧ n ≤ 9223372036854775807) := Lib.hid (by omega)
  have BM : Hid (-9223372036854775808 ≤ m ∧ m ≤ 9223372036854775807) := Lib.hid (by omega)
  have BX : Hid (-9223372036854775808 ≤ x ∧ x ≤ 9223372036854775807) := Lib.hid (by omega)
  have BK : Hid (-9223372036854775808 ≤ k ∧ k ≤ 9223372036854775807) := Lib.hid (by omega)
  have BG : Hid (-9223372036854775808 ≤ (-m) ∧ (-m) ≤ 9223372036854775807) := Lib.hid (by omega)
  have H1 := Lib.hid h1
  have H2 := Lib.hid h2
  have H3 := Lib.hid h3
  have H4 := Lib.hid h4
  have HS := Lib.hid hs
  clear h1 h2 h3 h4 hs
  go_enter Tryd.func7, Tryd.ntmps7
  go_wp2_with (first
    | (go_at_call 13; (with_reducible refine (alive6 w).mono ?_); rintro e w1 ⟨rfl, hb1⟩)
    | (go_at_call 12; (with_reducible refine (sum6 n m w1 BN.out BM.out x 0 HS.out).mono ?_); rintro e w2 ⟨rfl, hb2'⟩; have hB2 := stp hb1 hb2')
    | (go_at_call 12; (with_reducible refine (sum6 x (-m) w2 BX.out BG.out n 0 H1.out).mono ?_); rintro e w3 ⟨rfl, hb3'⟩; have hB3 := stp hB2 hb3')
    | (go_at_call 12; (with_reducible refine (sum6 m n w3 BM.out BN.out 0 2 H2.out).mono ?_); rintro e w4 ⟨rfl, hb4'⟩; have hB4 := stp hB3 hb4')
    | (go_at_call 12; (with_reducible refine (sum6 x k w4 BX.out BK.out a 2 H3.out).mono ?_); rintro e w5 ⟨rfl, hb5'⟩; have hB5 := stp hB4 hb5')
    | (go_at_call 12; (with_reducible refine (sum6 n k w5 BN.out BK.out b 0 H4.out).mono ?_); rintro e w6 ⟨rfl, hb6'⟩; have hB6 := stp hB5 hb6')
    | fail)
  go_ret
  exact ⟨rfl, hB6⟩
set_option maxHeartbeats 4000000 in
set_option maxRecDepth 100000 in
theorem walkM_22 (n m k x a b : Int) (w : World) (hm1 : -9007199254740991 ≤ m) (hm2 : m ≤ 9007199254740991) (hn1 : 0 ≤ n) (hn2 : n ≤ 9007199254740991) (hx1 : 0 ≤ x) (hx2 : x ≤ 9007199254740991) (hk : -9223372036854775808 ≤ k ∧ k ≤ 9223372036854775807) (hs : sumR n m = (x, 0)) (h1 : sumR x (-m) = (n, 0)) (hsg : m < 0) (h2 : sumR m n = (0, 2)) (h3 : sumR x k = (a, 2)) (h4 : sumR n k = (b, 2)) (hT : Tb w := by first | assumption | exact Tb.to (by assumption) (by assumption)) :
    Calls Tryd.prog 7 #[.int .i64 n, .int .i64 m, .int .i64 k] w fun e w' => e = .returned (.bool true) ∧ Below w.heap.size w w' := by
  have d0 : decide (x < 0) = false := by simp; omega
  have d1 : decide (9007199254740991 < x) = false := by simp; omega
  have d2 : decide (0 ≤ m) = false := by simp; omega
  have BN : Hid (-9223372036854775808 ≤ n ∧ n ≤ 9223372036854775807) := Lib.hid (by omega)
  have BM : Hid (-9223372036854775808 ≤ m ∧ m ≤ 9223372036854775807) := Lib.hid (by omega)
  have BX : Hid (-9223372036854775808 ≤ x ∧ x ≤ 9223372036854775807) := Lib.hid (by omega)
  have BK : Hid (-9223372036854775808 ≤ k ∧ k ≤ 9223372036854775807) := Lib.hid (by omega)
  have BG : Hid (-9223372036854775808 ≤ (-m) ∧ (-m) ≤ 9223372036854775807) := Lib.hid (by omega)
  have H1 := Lib.hid h1
  have H2 := Lib.hid h2
  have H3 := Lib.hid h3
  have H4 := Lib.hid h4
  have HS := Lib.hid hs
  clear h1 h2 h3 h4 hs
  go_enter Tryd.func7, Tryd.ntmps7
  go_wp2_with (first
    | (go_at_call 13; (with_reducible refine (alive6 w).mono ?_); rintro e w1 ⟨rfl, hb1⟩)
    | (go_at_call 12; (with_reducible refine (sum6 n m w1 BN.out BM.out x 0 HS.out).mono ?_); rintro e w2 ⟨rfl, hb2'⟩; have hB2 := stp hb1 hb2')
    | (go_at_call 12; (with_reducible refine (sum6 x (-m) w2 BX.out BG.out n 0 H1.out).mono ?_); rintro e w3 ⟨rfl, hb3'⟩; have hB3 := stp hB2 hb3')
    | (go_at_call 12; (with_reducible refine (sum6 m n w3 BM.out BN.out 0 2 H2.out).mono ?_); rintro e w4 ⟨rfl, hb4'⟩; have hB4 := stp hB3 hb4')
    | (go_at_call 12; (with_reducible refine (sum6 x k w4 BX.out BK.out a 2 H3.out).mono ?_); rintro e w5 ⟨rfl, hb5'⟩; have hB5 := stp hB4 hb5')
    | (go_at_call 12; (with_reducible refine (sum6 n k w5 BN.out BK.out b 2 H4.out).mono ?_); rintro e w6 ⟨rfl, hb6'⟩; have hB6 := stp hB5 hb6')
    | fail)
  go_ret
  exact ⟨rfl, hB6⟩
theorem walk (n m k : Int) (w : World) (w0 : (Lit.int .i64 n).wf = true) (w1 : (Lit.int .i64 m).wf = true) (w2 : (Lit.int .i64 k).wf = true) (hT : Tb w := by first | assumption | exact Tb.to (by assumption) (by assumption)) :
    Calls Tryd.prog 7 #[.int .i64 n, .int .i64 m, .int .i64 k] w fun e w' => e = .returned (.bool true) ∧ Below w.heap.size w w' := by
  have hn := int_wf w0
  have hm := int_wf w1
  have hk := int_wf w2
  obtain ⟨x, e, hs⟩ : ∃ x e, sumR n m = (x, e) := ⟨_, _, rfl⟩
  rcases sum_case hs with ⟨rfl, rfl, c1, c2, c3, c4, c5, c6⟩ | ⟨rfl, rfl⟩
  · have h1 : sumR (n + m) (-m) = (n, 0) := by rw [sum_yes (by omega)]; congr 1; omega
    obtain ⟨a, p, h3⟩ : ∃ a p, sumR (n + m) k = (a, p) := ⟨_, _, rfl⟩
    obtain ⟨b, q, h4⟩ : ∃ b q, sumR n k = (b, q) := ⟨_, _, rfl⟩
    by_cases hp : 0 ≤ m
    · have h2 : sumR m n = (n + m, 0) := by rw [sum_yes (by omega)]; congr 1; omega
      rcases sum_case h3 with ⟨rfl, e3⟩ | ⟨rfl, _⟩ <;> rcases sum_case h4 with ⟨rfl, e4⟩ | ⟨rfl, _⟩
      · exact walkP_00 n m k _ a b w c3 c4 c1 c2 c5 c6 hk hs h1 hp h2 h3 h4 (by omega) (by omega) (by rw [sum_yes (by omega)]; congr 1; omega)
      · exact walkP_02 n m k _ a b w c3 c4 c1 c2 c5 c6 hk hs h1 hp h2 h3 h4
      · exact walkP_20 n m k _ a b w c3 c4 c1 c2 c5 c6 hk hs h1 hp h2 h3 h4
      · exact walkP_22 n m k _ a b w c3 c4 c1 c2 c5 c6 hk hs h1 hp h2 h3 h4
    · have h2 : sumR m n = (0, 2) := sum_neg (by omega)
      rcases sum_case h3 with ⟨rfl, e3⟩ | ⟨rfl, _⟩ <;> rcases sum_case h4 with ⟨rfl, e4⟩ | ⟨rfl, _⟩
      · exact walkM_00 n m k _ a b w c3 c4 c1 c2 c5 c6 hk hs h1 (by omega) h2 h3 h4 (by omega) (by omega) (by rw [sum_yes (by omega)]; congr 1; omega)
      · exact walkM_02 n m k _ a b w c3 c4 c1 c2 c5 c6 hk hs h1 (by omega) h2 h3 h4
      · exact walkM_20 n m k _ a b w c3 c4 c1 c2 c5 c6 hk hs h1 (by omega) h2 h3 h4
      · exact walkM_22 n m k _ a b w c3 c4 c1 c2 c5 c6 hk hs h1 (by omega) h2 h3 h4
  · exact walkBad n m k w hn hm hs

theorem gTab : Tryd.prog.globalNamed "internal/strconv.uint64pow10" = some 0 := by kernel_rfl
theorem gTabType : (Tryd.prog.globals[0]?).map (·.type) = some 58 := by kernel_rfl
/-- What the row's list gives. -/
theorem table {W : World} (h : laidMetH Tryd.prog Rows.numSumsRow.laid W) : Tb W := by
  rw [MakeChecks.laidMetH_plain _ _ _ (by kernel_rfl)] at h
  have h2 := laidMet.filter (fun x => x.1 == "internal/strconv.uint64pow10") h
  have e : Rows.numSumsRow.laid.filter (fun x => x.1 == "internal/strconv.uint64pow10") = [("internal/strconv.uint64pow10", Lib.tabData .u64 Lib.pow10Tab)] := by kernel_rfl
  rw [e] at h2
  exact Lib.tabIs_of_head (rest := []) gTab gTabType Tryd.underlying58 Tryd.underlying51 (by kernel_rfl) (by kernel_rfl) h2
theorem door_met (os : Os) (args : Array Value) : laidMetH Tryd.prog Rows.numSumsRow.laid ((World.doorLaid Tryd.prog 400 os).forCall (fun _ _ => 0) ⟨#[], args, []⟩).memory :=
  laidMetH_of_parts3 (fuel := 8) (laidMet_of_run' 8 (by kernel_rfl) (by kernel_rfl)) (by kernel_rfl) (by kernel_rfl)
set_option maxRecDepth 100000 in
theorem lifted (os : Os) (started : os.Started) (H : Type) (enc : TypeId × Value → H) :
    ReturnsInHanded {} Tryd.checked os 7 .any (fun w args => (Rows.numSumsSpec.pre enc Tryd.prog Tryd.f7 [] false w args ∧ laidMetH Tryd.prog Rows.numSumsRow.laid w) ∧ sizedMet enc Tryd.prog Tryd.f7 (OpenSpec.ofChange Rows.numSumsSpec) false w args) (Rows.numSumsSpec.post enc Tryd.prog Tryd.f7 false true false false) := by
  refine returnsInHanded_of_change_and (C := Tryd.checked) (X := fun w _ => laidMetH Tryd.prog Rows.numSumsRow.laid w) (fun _ _ _ hh h => h.of_heap hh) own started (by kernel_rfl) Tryd.func7
    (ChangeSpec.witness_shaped (enc := enc) (C := Tryd.checked) (os := os) (X := fun w _ => laidMetH Tryd.prog Rows.numSumsRow.laid w) false (World.doorLaid Tryd.prog 400 os) #[.int .i64 0, .int .i64 0, .int .i64 0] 8 rfl (World.shaped_of_RefB (by kernel_rfl) (by kernel_rfl)) (by kernel_rfl) (by kernel_rfl) (by kernel_rfl) (door_met os _)) ?_
  intro W base args ds gs before hval0 hW _ _ hL _
  have hval : ∀ (j : Nat) t v, Tryd.f7.params[j]? = some t → args[j]? = some v → Value.okWide Tryd.prog W .any base t v := hval0
  have hW' := hW
  obtain ⟨p, q, hA0, hV, rfl, hfz, hnd⟩ := hW
  have hA : DataW.TrodAll enc Tryd.prog W 0 (fun _ => true) true Tryd.f7.params.toList args.toList ds p := hA0
  rw [Tryd.params7] at hA hval
  obtain ⟨v0, vs0, d0, ds0, p0, q0, hargs, rfl, rfl, h0, r0⟩ := trodAll_cons hA
  obtain ⟨v1, vs1, d1, ds1, p1, q1, rfl, rfl, rfl, h1, r1⟩ := trodAll_cons r0
  obtain ⟨v2, vs2, d2, ds2, p2, q2, rfl, rfl, rfl, h2, r2⟩ := trodAll_cons r1
  obtain ⟨rfl, rfl, rfl⟩ := trodAll_nil r2
  obtain rfl : args = #[v0, v1, v2] := by cases args; simp_all
  obtain ⟨rfl, rfl⟩ := trodVars_none hV
  obtain ⟨a0, rfl, rfl, rfl, w0⟩ := open_int Tryd.underlying3 (hval 0 3 v0 rfl rfl) h0
  obtain ⟨a1, rfl, rfl, rfl, w1⟩ := open_int Tryd.underlying3 (hval 1 3 v1 rfl rfl) h1
  obtain ⟨a2, rfl, rfl, rfl, w2⟩ := open_int Tryd.underlying3 (hval 2 3 v2 rfl rfl) h2
  clear hA0 hval0
  refine (walk a0 a1 a2 W w0 w1 w2 (table hL)).mono fun e W' ⟨he, bel⟩ => ?_
  subst he
  exact ⟨_, rfl, _, _, _, [], _, [], hW', trodAll_mk1 (shut_bool Tryd.underlying4 _), (trodAll_cons_mk (shut_int Tryd.underlying3 w0) (trodAll_cons_mk (shut_int Tryd.underlying3 w1) (trodAll_cons_mk (shut_int Tryd.underlying3 w2) trodAll_mk0))), rfl, bel.frame _, fun h => by cases h⟩

theorem over : Rows.numSumsRow.holds Tryd.pinned (OpenSpec.ofChange Rows.numSumsSpec) :=
  OpenClaim.holds_of_wide 7 Tryd.f7 rfl rfl rfl rfl rfl rfl rfl ⟨rfl, rfl, rfl, rfl, rfl⟩ rfl rfl rfl rfl rfl (by kernel_rfl) Tryd.func7 (by kernel_rfl)
    (of_decide_eq_true (by kernel_rfl)) (by unfold Func.isWrapper; first | (rw [if_pos (by decide +kernel)]; kernel_rfl) | (rw [if_neg (by decide +kernel)]; exact ⟨rfl, rfl⟩))
    (fun os started H enc _ => lifted os started H enc)

theorem said : Rows.NumSumsSaid := over
theorem plain (f : FuncId) (fn : Func) (hf : Tryd.pinned.checked.prog.funcNamed "tidewaiter/tidewaiterlaw06.NumSums" = some f) (hfn : Tryd.pinned.checked.prog.funcs[f]? = some fn) :
    false = Tryd.pinned.checked.prog.looks [] ∧ ∀ (j : Nat) t, fn.params[j]? = some t → Tryd.pinned.checked.prog.wantsStandIn t = false := by
  obtain rfl : f = 7 := Option.some.inj ((show Tryd.prog.funcNamed "tidewaiter/tidewaiterlaw06.NumSums" = some 7 by kernel_rfl).symm.trans hf) |>.symm
  obtain rfl : fn = Tryd.f7 := (Option.some.inj (Tryd.func7.symm.trans hfn)).symm
  refine ⟨by kernel_rfl, fun j t ht => ?_⟩
  rw [Tryd.params7] at ht
  have hm : t ∈ [3, 3, 3] := by simpa using Array.mem_of_getElem? ht
  have hall : ([3, 3, 3].all fun u => !Tryd.prog.wantsStandIn u) = true := by kernel_rfl
  exact (show Tryd.prog.wantsStandIn t = false by simpa using List.all_eq_true.1 hall t hm)
theorem proved : Rows.NumSumsCardSaid :=
  Claim7.holds_tied_plain_at .later [] _ _ _ _ said (fun _ h => by cases h) (by kernel_rfl) (fun _ h => by cases h) numSums_row_tie rfl ⟨rfl, rfl⟩ (by kernel_rfl) rfl plain (by kernel_rfl)
end Go.Proofs.YtllcmfohfnidpaaDoor.numSums
