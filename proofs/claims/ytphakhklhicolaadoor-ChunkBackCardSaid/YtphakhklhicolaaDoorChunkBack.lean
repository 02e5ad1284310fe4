/-
  What is encoded is decoded, whatever stands behind, and each beginning of it, but the whole, is the beginning of contents, for any content, sizes, more and number; no condition but what the row lists.
-/
import Derived.Test.YtphakhklhicolaaDoorChkH
import Derived.Test.YtphakhklhicolaaDoorCards
import Derived.Test.YtphakhklhicolaaDoorTie
import Derived.LaidMore
import Derived.LaidSub
import Derived.MakeChecks
import Derived.Stop.Joined
import Derived.Lib.LaidTab
import Derived.SevenTiedAt
import Derived.WalkKit
import Derived.ProofKit
import Derived.OpenShut
import Derived.ShutString
import Derived.ChangeOld
import Derived.Below
namespace Go.Proofs.YtphakhklhicolaaDoor.chunkBack
open Go.ChangeShapes Go.WideShapes Go.ChangeAt Go.RowKit
open Go.ChangeMaps (open_string shut_string)
open Hx Ck
set_option linter.unusedVariables false

theorem own : ownKnob Tryd.prog.godebug = none := by kernel_rfl
theorem laidOut : laidOutB Tryd.prog = true := by kernel_rfl

set_option linter.unusedVariables false
set_option linter.unusedSimpArgs false
theorem enc_len (body : List UInt8) : ∀ (l : List Int) (a : Nat) (acc t : List UInt8), encF body a acc l = (t, 0) → a ≤ body.length → body.length ≤ 8192 → acc.length ≤ 12 * a → t.length ≤ 12 * body.length + 5
  | [], a, acc, t, h, ha, hb, hl => by
    unfold encF at h
    by_cases he : a = body.length
    · rw [if_pos he] at h
      rw [← (Prod.mk.inj h).1, List.length_append, show last5.length = 5 from rfl]
      omega
    · rw [if_neg he] at h
      cases h
  | x :: r, a, acc, t, h, ha, hb, hl => by
    unfold encF at h
    by_cases he : x < 1 ∨ (body.length : Int) - (a : Int) < x
    · rw [if_pos he] at h
      cases h
    · rw [if_neg he] at h
      have hd : ((body.drop a).take x.toNat).length = x.toNat := by rw [List.length_take, List.length_drop]; omega
      have hc := chunk_len (d := (body.drop a).take x.toNat) (fun k => by rw [k] at hd; simp at hd; omega) (by omega)
      refine enc_len body r (a + x.toNat) _ t h (by omega) hb ?_
      rw [List.length_append]
      omega
theorem enc_size {body t : List UInt8} {l : List Int} (h : encR body l = (t, 0)) : t.length ≤ 12 * body.length + 5 := by
  unfold encR at h
  by_cases he : 8192 < body.length ∨ body.length < l.length
  · rw [if_pos he] at h
    cases h
  · rw [if_neg he] at h
    exact enc_len body l 0 [] t h (Nat.zero_le _) (by omega) (Nat.le_refl _)
set_option maxHeartbeats 8000000 in
set_option maxRecDepth 100000 in
theorem big_s (s : ByteArray) (A : Option Addr) (n c : Nat) (m : ByteArray) (k : Int) (w : World) (h : 1000 < s.size) :
    Calls Tryd.prog 5 #[.string s, .slice A n c, .string m, .int .i64 k] w fun e w' => e = .returned (.bool true) ∧ Below w.heap.size w w' := by
  have HA : Hid (∀ W, Calls Tryd.prog 11 #[] W fun e w' => e = .returned (.bool true) ∧ Below W.heap.size W w') := Lib.hid fun W => alive16 W
  have d1 : decide ((1000 : Int) < (s.size : Int)) = true := decide_eq_true (by omega)
  go_enter Tryd.func5, Tryd.ntmps5
  go_wp2_with (first
    | (go_at_call 11; (with_reducible refine (HA.out _).mono ?_); rintro e w1 ⟨rfl, hb1⟩; have HB1 := Lib.hid hb1; clear hb1)
    | fail)
  go_ret
  exact ⟨rfl, HB1.out⟩
set_option maxHeartbeats 8000000 in
set_option maxRecDepth 100000 in
theorem big_l (s : ByteArray) (A : Option Addr) (n c : Nat) (m : ByteArray) (k : Int) (w : World) (h0 : s.size ≤ 1000) (h : 1000 < n) :
    Calls Tryd.prog 5 #[.string s, .slice A n c, .string m, .int .i64 k] w fun e w' => e = .returned (.bool true) ∧ Below w.heap.size w w' := by
  have HA : Hid (∀ W, Calls Tryd.prog 11 #[] W fun e w' => e = .returned (.bool true) ∧ Below W.heap.size W w') := Lib.hid fun W => alive16 W
  have d1 : decide ((1000 : Int) < (s.size : Int)) = false := decide_eq_false (by omega)
  have d2 : decide ((1000 : Int) < (n : Int)) = true := decide_eq_true (by omega)
  go_enter Tryd.func5, Tryd.ntmps5
  go_wp2_with (first
    | (go_at_call 11; (with_reducible refine (HA.out _).mono ?_); rintro e w1 ⟨rfl, hb1⟩; have HB1 := Lib.hid hb1; clear hb1)
    | fail)
  go_ret
  exact ⟨rfl, HB1.out⟩
set_option maxHeartbeats 8000000 in
set_option maxRecDepth 100000 in
theorem big_m (s : ByteArray) (A : Option Addr) (n c : Nat) (m : ByteArray) (k : Int) (w : World) (h0 : s.size ≤ 1000) (h1 : n ≤ 1000) (h : 1000 < m.size) :
    Calls Tryd.prog 5 #[.string s, .slice A n c, .string m, .int .i64 k] w fun e w' => e = .returned (.bool true) ∧ Below w.heap.size w w' := by
  have HA : Hid (∀ W, Calls Tryd.prog 11 #[] W fun e w' => e = .returned (.bool true) ∧ Below W.heap.size W w') := Lib.hid fun W => alive16 W
  have d1 : decide ((1000 : Int) < (s.size : Int)) = false := decide_eq_false (by omega)
  have d2 : decide ((1000 : Int) < (n : Int)) = false := decide_eq_false (by omega)
  have d3 : decide ((1000 : Int) < (m.size : Int)) = true := decide_eq_true (by omega)
  go_enter Tryd.func5, Tryd.ntmps5
  go_wp2_with (first
    | (go_at_call 11; (with_reducible refine (HA.out _).mono ?_); rintro e w1 ⟨rfl, hb1⟩; have HB1 := Lib.hid hb1; clear hb1)
    | fail)
  go_ret
  exact ⟨rfl, HB1.out⟩
set_option maxHeartbeats 8000000 in
set_option maxRecDepth 100000 in
theorem no_ (s : ByteArray) (A : Option Addr) (n c : Nat) (m : ByteArray) (k : Int) (w : World) (h0 : s.size ≤ 1000) (h1 : n ≤ 1000) (h2 : m.size ≤ 1000) (l : List Int) (hr : RdG encI w w.heap.size A l) (hn : l.length = n) (hT : Tb w) (h : encR s.data.toList l = ([], 2)) :
    Calls Tryd.prog 5 #[.string s, .slice A n c, .string m, .int .i64 k] w fun e w' => e = .returned (.bool true) ∧ Below w.heap.size w w' := by
  have HA : Hid (∀ W, Calls Tryd.prog 11 #[] W fun e w' => e = .returned (.bool true) ∧ Below W.heap.size W w') := Lib.hid fun W => alive16 W
  have d1 : decide ((1000 : Int) < (s.size : Int)) = false := decide_eq_false (by omega)
  have d2 : decide ((1000 : Int) < (n : Int)) = false := decide_eq_false (by omega)
  have d3 : decide ((1000 : Int) < (m.size : Int)) = false := decide_eq_false (by omega)
  have HTT := Lib.hid hT
  have HR := Lib.hid hr
  have HE := Lib.hid fun (t : ByteArray) (er : Int) (h : encR s.data.toList l = (t.data.toList, er)) (W : World) (hW : Below w.heap.size w W) => encode16 A n c l s t er W (HR.out.on hW) hn (by omega) (by omega) (HTT.out.to hW HTT.out.lt) h
  have HX := Lib.hid (HE.out ⟨#[]⟩ 2 h)
  clear hr hn hT h HE
  go_enter Tryd.func5, Tryd.ntmps5
  go_wp2_with (first
    | (go_at_call 11; (with_reducible refine (HA.out _).mono ?_); rintro e w1 ⟨rfl, hb1⟩; have HB1 := Lib.hid hb1; clear hb1)
    | (go_at_call 10; (with_reducible refine (HX.out _ HB1.out).mono ?_); rintro e w2 ⟨rfl, hb2⟩; have HB2 := Lib.hid (stp HB1.out hb2); clear hb2)
    | fail)
  go_ret
  exact ⟨rfl, HB2.out⟩
set_option maxHeartbeats 8000000 in
set_option maxRecDepth 100000 in
theorem neg_ (s : ByteArray) (A : Option Addr) (n c : Nat) (m : ByteArray) (k : Int) (w : World) (h0 : s.size ≤ 1000) (h1 : n ≤ 1000) (h2 : m.size ≤ 1000) (l : List Int) (hr : RdG encI w w.heap.size A l) (hn : l.length = n) (hT : Tb w) (t : ByteArray) (h : encR s.data.toList l = (t.data.toList, 0)) (hk : k < 0) :
    Calls Tryd.prog 5 #[.string s, .slice A n c, .string m, .int .i64 k] w fun e w' => e = .returned (.bool true) ∧ Below w.heap.size w w' := by
  have HA : Hid (∀ W, Calls Tryd.prog 11 #[] W fun e w' => e = .returned (.bool true) ∧ Below W.heap.size W w') := Lib.hid fun W => alive16 W
  have d1 : decide ((1000 : Int) < (s.size : Int)) = false := decide_eq_false (by omega)
  have d2 : decide ((1000 : Int) < (n : Int)) = false := decide_eq_false (by omega)
  have d3 : decide ((1000 : Int) < (m.size : Int)) = false := decide_eq_false (by omega)
  have HTT := Lib.hid hT
  have HR := Lib.hid hr
  have HE := Lib.hid fun (t : ByteArray) (er : Int) (h : encR s.data.toList l = (t.data.toList, er)) (W : World) (hW : Below w.heap.size w W) => encode16 A n c l s t er W (HR.out.on hW) hn (by omega) (by omega) (HTT.out.to hW HTT.out.lt) h
  have HX := Lib.hid (HE.out t 0 h)
  have hts : t.size ≤ 12005 := by have := enc_size h; rw [ba_len7, ba_len7] at this; omega
  obtain ⟨tm, htm⟩ : ∃ v, t ++ m = v := ⟨_, rfl⟩
  have stm : tm.size = t.size + m.size := by rw [← htm, ByteArray.size_append]
  have t1 : ∀ W, (Op.stringOp .add t m).run Tryd.prog W = .ok (.string tm) W := fun W => by rw [run_string_add_sum W t m (by omega), htm]
  have hdec : decL [] 0 tm.data.toList = (s.data.toList, t.size, true, 0) := by
    have := enc_back h m.data.toList
    rw [ba_len7] at this
    rw [← this, ← htm]
    simp
  have HI := Lib.hid fun W => is_yes W tm s t.size (by omega) hdec
  have k1 : decide (k < 0) = true := decide_eq_true hk
  clear hr hn hT h HE htm stm hdec
  go_enter Tryd.func5, Tryd.ntmps5
  go_wp2_with (first
    | (go_at_call 11; (with_reducible refine (HA.out _).mono ?_); rintro e w1 ⟨rfl, hb1⟩; have HB1 := Lib.hid hb1; clear hb1)
    | (go_at_call 10; (with_reducible refine (HX.out _ HB1.out).mono ?_); rintro e w2 ⟨rfl, hb2⟩; have HB2 := Lib.hid (stp HB1.out hb2); clear hb2)
    | (go_at_call 9; (with_reducible refine (HI.out _).mono ?_); rintro e w3 ⟨rfl, hb3⟩; have HB3 := Lib.hid (stp HB2.out hb3); clear hb3)
    | fail)
  go_ret
  exact ⟨rfl, HB3.out⟩
set_option maxHeartbeats 8000000 in
set_option maxRecDepth 100000 in
theorem out_ (s : ByteArray) (A : Option Addr) (n c : Nat) (m : ByteArray) (k : Int) (w : World) (h0 : s.size ≤ 1000) (h1 : n ≤ 1000) (h2 : m.size ≤ 1000) (l : List Int) (hr : RdG encI w w.heap.size A l) (hn : l.length = n) (hT : Tb w) (t : ByteArray) (h : encR s.data.toList l = (t.data.toList, 0)) (hk : ¬ k < 0) (hk2 : (t.size : Int) ≤ k) :
    Calls Tryd.prog 5 #[.string s, .slice A n c, .string m, .int .i64 k] w fun e w' => e = .returned (.bool true) ∧ Below w.heap.size w w' := by
  have HA : Hid (∀ W, Calls Tryd.prog 11 #[] W fun e w' => e = .returned (.bool true) ∧ Below W.heap.size W w') := Lib.hid fun W => alive16 W
  have d1 : decide ((1000 : Int) < (s.size : Int)) = false := decide_eq_false (by omega)
  have d2 : decide ((1000 : Int) < (n : Int)) = false := decide_eq_false (by omega)
  have d3 : decide ((1000 : Int) < (m.size : Int)) = false := decide_eq_false (by omega)
  have HTT := Lib.hid hT
  have HR := Lib.hid hr
  have HE := Lib.hid fun (t : ByteArray) (er : Int) (h : encR s.data.toList l = (t.data.toList, er)) (W : World) (hW : Below w.heap.size w W) => encode16 A n c l s t er W (HR.out.on hW) hn (by omega) (by omega) (HTT.out.to hW HTT.out.lt) h
  have HX := Lib.hid (HE.out t 0 h)
  have hts : t.size ≤ 12005 := by have := enc_size h; rw [ba_len7, ba_len7] at this; omega
  obtain ⟨tm, htm⟩ : ∃ v, t ++ m = v := ⟨_, rfl⟩
  have stm : tm.size = t.size + m.size := by rw [← htm, ByteArray.size_append]
  have t1 : ∀ W, (Op.stringOp .add t m).run Tryd.prog W = .ok (.string tm) W := fun W => by rw [run_string_add_sum W t m (by omega), htm]
  have hdec : decL [] 0 tm.data.toList = (s.data.toList, t.size, true, 0) := by
    have := enc_back h m.data.toList
    rw [ba_len7] at this
    rw [← this, ← htm]
    simp
  have HI := Lib.hid fun W => is_yes W tm s t.size (by omega) hdec
  have k1 : decide (k < 0) = false := decide_eq_false hk
  have k2 : decide ((t.size : Int) ≤ k) = true := decide_eq_true hk2
  clear hr hn hT h HE htm stm hdec
  go_enter Tryd.func5, Tryd.ntmps5
  go_wp2_with (first
    | (go_at_call 11; (with_reducible refine (HA.out _).mono ?_); rintro e w1 ⟨rfl, hb1⟩; have HB1 := Lib.hid hb1; clear hb1)
    | (go_at_call 10; (with_reducible refine (HX.out _ HB1.out).mono ?_); rintro e w2 ⟨rfl, hb2⟩; have HB2 := Lib.hid (stp HB1.out hb2); clear hb2)
    | (go_at_call 9; (with_reducible refine (HI.out _).mono ?_); rintro e w3 ⟨rfl, hb3⟩; have HB3 := Lib.hid (stp HB2.out hb3); clear hb3)
    | fail)
  go_ret
  exact ⟨rfl, HB3.out⟩
set_option maxHeartbeats 8000000 in
set_option maxRecDepth 100000 in
theorem in_ (s : ByteArray) (A : Option Addr) (n c : Nat) (m : ByteArray) (k : Int) (w : World) (h0 : s.size ≤ 1000) (h1 : n ≤ 1000) (h2 : m.size ≤ 1000) (l : List Int) (hr : RdG encI w w.heap.size A l) (hn : l.length = n) (hT : Tb w) (t : ByteArray) (h : encR s.data.toList l = (t.data.toList, 0)) (j : Nat) (hj : k = (j : Int)) (hk2 : j < t.size) :
    Calls Tryd.prog 5 #[.string s, .slice A n c, .string m, .int .i64 k] w fun e w' => e = .returned (.bool true) ∧ Below w.heap.size w w' := by
  have HA : Hid (∀ W, Calls Tryd.prog 11 #[] W fun e w' => e = .returned (.bool true) ∧ Below W.heap.size W w') := Lib.hid fun W => alive16 W
  subst hj
  have d1 : decide ((1000 : Int) < (s.size : Int)) = false := decide_eq_false (by omega)
  have d2 : decide ((1000 : Int) < (n : Int)) = false := decide_eq_false (by omega)
  have d3 : decide ((1000 : Int) < (m.size : Int)) = false := decide_eq_false (by omega)
  have HTT := Lib.hid hT
  have HR := Lib.hid hr
  have HE := Lib.hid fun (t : ByteArray) (er : Int) (h : encR s.data.toList l = (t.data.toList, er)) (W : World) (hW : Below w.heap.size w W) => encode16 A n c l s t er W (HR.out.on hW) hn (by omega) (by omega) (HTT.out.to hW HTT.out.lt) h
  have HX := Lib.hid (HE.out t 0 h)
  have hts : t.size ≤ 12005 := by have := enc_size h; rw [ba_len7, ba_len7] at this; omega
  obtain ⟨tm, htm⟩ : ∃ v, t ++ m = v := ⟨_, rfl⟩
  have stm : tm.size = t.size + m.size := by rw [← htm, ByteArray.size_append]
  have t1 : ∀ W, (Op.stringOp .add t m).run Tryd.prog W = .ok (.string tm) W := fun W => by rw [run_string_add_sum W t m (by omega), htm]
  have hdec : decL [] 0 tm.data.toList = (s.data.toList, t.size, true, 0) := by
    have := enc_back h m.data.toList
    rw [ba_len7] at this
    rw [← this, ← htm]
    simp
  have HI := Lib.hid fun W => is_yes W tm s t.size (by omega) hdec
  have k1 : decide ((j : Int) < 0) = false := decide_eq_false (by omega)
  have k2 : decide ((t.size : Int) ≤ (j : Int)) = false := decide_eq_false (by omega)
  have bj : (0 : Int) ≤ (j : Int) ∧ (j : Int) ≤ (t.size : Int) := by omega
  obtain ⟨z, hz⟩ : ∃ z, t.extract 0 j = z := ⟨_, rfl⟩
  have hzl : z.data.toList = t.data.toList.take j := by rw [← hz, Lib.extract_data, List.drop_zero, Nat.sub_zero]
  have hzs : z.size ≤ t.size := by rw [← ba_len7, hzl, ← ba_len7, List.length_take]; omega
  have HG := Lib.hid fun W => begun_yes W z (by omega) (by rw [hzl]; exact enc_begun h (by rw [ba_len7]; exact hk2))
  clear hr hn hT h HE htm stm hdec
  clear hzl hzs
  go_enter Tryd.func5, Tryd.ntmps5
  go_wp2_with (first
    | (go_at_call 11; (with_reducible refine (HA.out _).mono ?_); rintro e w1 ⟨rfl, hb1⟩; have HB1 := Lib.hid hb1; clear hb1)
    | (go_at_call 10; (with_reducible refine (HX.out _ HB1.out).mono ?_); rintro e w2 ⟨rfl, hb2⟩; have HB2 := Lib.hid (stp HB1.out hb2); clear hb2)
    | (go_at_call 9; (with_reducible refine (HI.out _).mono ?_); rintro e w3 ⟨rfl, hb3⟩; have HB3 := Lib.hid (stp HB2.out hb3); clear hb3)
    | (go_at_call 8; (with_reducible refine (HG.out _).mono ?_); rintro e w4 ⟨rfl, hb4⟩; have HB4 := Lib.hid (stp HB3.out hb4); clear hb4)
    | fail)
  go_ret
  exact ⟨rfl, HB4.out⟩
theorem walk (s : ByteArray) (A : Option Addr) (n c : Nat) (l : List Int) (m : ByteArray) (k : Int) (w : World) (w0 : s.size ≤ maxLen) (wr : RdZ w w.heap.size A l) (hn : l.length = n) (hc : n ≤ c) (hm : c ≤ maxLen) (hz : A = none → c = 0) (w2 : m.size ≤ maxLen) (w3 : (Lit.int .i64 k).wf = true) (hT : Tb w) :
    Calls Tryd.prog 5 #[.string s, .slice A n c, .string m, .int .i64 k] w fun e w' => e = .returned (.bool true) ∧ Below w.heap.size w w' := by
  by_cases h0 : 1000 < s.size
  · exact big_s s A n c m k w h0
  by_cases h1 : 1000 < n
  · exact big_l s A n c m k w (by omega) h1
  by_cases h2 : 1000 < m.size
  · exact big_m s A n c m k w (by omega) (by omega) h2
  obtain ⟨t, er, he⟩ : ∃ (t : ByteArray) (er : Int), encR s.data.toList l = (t.data.toList, er) := ⟨⟨(encR s.data.toList l).1.toArray⟩, _, rfl⟩
  rcases encR_lits s.data.toList l with h | ⟨ds, _, _, _, h⟩
  · exact no_ s A n c m k w (by omega) (by omega) (by omega) l wr hn hT h
  · have h3 : encR s.data.toList l = (t.data.toList, 0) := by rw [he]; congr 1; rw [h] at he; exact (Prod.mk.inj he).2.symm
    by_cases hk : k < 0
    · exact neg_ s A n c m k w (by omega) (by omega) (by omega) l wr hn hT t h3 hk
    by_cases hk2 : (t.size : Int) ≤ k
    · exact out_ s A n c m k w (by omega) (by omega) (by omega) l wr hn hT t h3 hk hk2
    exact in_ s A n c m k w (by omega) (by omega) (by omega) l wr hn hT t h3 k.toNat (by omega) (by omega)

def tabL : List Int := [0, 1, 56, 2, 57, 49, 28, 3, 61, 58, 42, 50, 38, 29, 17, 4, 62, 47, 59, 36, 45, 43, 51, 22, 53, 39, 33, 30, 24, 18, 12, 5, 63, 55, 48, 27, 60, 41, 37, 16, 46, 35, 44, 21, 52, 32, 23, 11, 54, 26, 40, 15, 34, 20, 31, 10, 25, 14, 19, 9, 13, 8, 7, 6]
theorem gTab : Tryd.prog.globalNamed "math/bits.deBruijn64tab" = some 2 := by kernel_rfl
theorem gTabType : (Tryd.prog.globals[2]?).map (·.type) = some 72 := by kernel_rfl
/-- What the row's list gives. -/
theorem table {W : World} (h : laidMetH Tryd.prog Rows.chunkBackRow.laid W) : Tb W := by
  rw [MakeChecks.laidMetH_plain _ _ _ (by kernel_rfl)] at h
  have h2 := laidMet.filter (fun x => x.1 == "math/bits.deBruijn64tab") h
  have e : Rows.chunkBackRow.laid.filter (fun x => x.1 == "math/bits.deBruijn64tab") = [("math/bits.deBruijn64tab", Lib.tabData .u8 tabL)] := by kernel_rfl
  rw [e] at h2
  exact (Lib.tabIs_of_head (rest := []) gTab gTabType Tryd.underlying72 Tryd.underlying5 (by kernel_rfl) (by kernel_rfl) h2).cell gTab 15 (by decide)
theorem door_met (os : Os) (args : Array Value) : laidMetH Tryd.prog Rows.chunkBackRow.laid ((World.doorLaid Tryd.prog 400 os).forCall (fun _ _ => 0) ⟨#[], args, []⟩).memory :=
  laidMetH_of_parts3 (fuel := 8) (laidMet_of_run' 8 (by kernel_rfl) (by kernel_rfl)) (by kernel_rfl) (by kernel_rfl)
set_option maxRecDepth 100000 in
theorem lifted (os : Os) (started : os.Started) (H : Type) (enc : TypeId × Value → H) :
    ReturnsInHanded {} Tryd.checked os 5 .any (fun w args => (Rows.chunkBackSpec.pre enc Tryd.prog Tryd.f5 [] false w args ∧ laidMetH Tryd.prog Rows.chunkBackRow.laid w) ∧ sizedMet enc Tryd.prog Tryd.f5 (OpenSpec.ofChange Rows.chunkBackSpec) false w args) (Rows.chunkBackSpec.post enc Tryd.prog Tryd.f5 false true false false) := by
  refine returnsInHanded_of_change_and (C := Tryd.checked) (X := fun w _ => laidMetH Tryd.prog Rows.chunkBackRow.laid w) (fun _ _ _ hh h => h.of_heap hh) own started (by kernel_rfl) Tryd.func5
    (ChangeSpec.witness_shaped (enc := enc) (C := Tryd.checked) (os := os) (X := fun w _ => laidMetH Tryd.prog Rows.chunkBackRow.laid w) false (World.doorLaid Tryd.prog 400 os) #[.string ByteArray.empty, .slice none 0 0, .string ByteArray.empty, .int .i64 0] 8 rfl (World.shaped_of_RefB (by kernel_rfl) (by kernel_rfl)) (by kernel_rfl) (by kernel_rfl) (by kernel_rfl) (door_met os _)) ?_
  intro W base args ds gs before hval0 hW _ hwt hL _
  have hval : ∀ (j : Nat) t v, Tryd.f5.params[j]? = some t → args[j]? = some v → Value.okWide Tryd.prog W .any base t v := hval0
  have hW' := hW
  obtain ⟨p, q, hA0, hV, rfl, hfz, hnd⟩ := hW
  have hA : DataW.TrodAll enc Tryd.prog W 0 (fun _ => true) true Tryd.f5.params.toList args.toList ds p := hA0
  rw [Tryd.params5] at hA hval
  obtain ⟨v0, vs0, d0, ds0, p0, q0, hargs, rfl, rfl, h0, r0⟩ := trodAll_cons hA
  obtain ⟨v1, vs1, d1, ds1, p1, q1, rfl, rfl, rfl, h1, r1⟩ := trodAll_cons r0
  obtain ⟨v2, vs2, d2, ds2, p2, q2, rfl, rfl, rfl, h2, r2⟩ := trodAll_cons r1
  obtain ⟨v3, vs3, d3, ds3, p3, q3, rfl, rfl, rfl, h3, r3⟩ := trodAll_cons r2
  obtain ⟨rfl, rfl, rfl⟩ := trodAll_nil r3
  obtain rfl : args = #[v0, v1, v2, v3] := by cases args; simp_all
  obtain ⟨rfl, rfl⟩ := trodVars_none hV
  obtain ⟨a0, rfl, rfl, rfl, w0⟩ := open_string Tryd.underlying9 (hval 0 9 v0 rfl rfl) h0
  obtain ⟨a1, len1, cap1, rfl⟩ := okWide_slice Tryd.underlying28 (hval 1 28 v1 rfl rfl)
  have k1 := h1
  have lt1 : ∀ x ∈ p1, x.block < W.heap.size := by obtain ⟨m, hm⟩ := k1; exact DataW.trod_lt m _ _ _ hm
  obtain ⟨l1, w1, n1, c1, m1, z1⟩ : ∃ l : List Int, RdZ W W.heap.size a1 l ∧ l.length = len1 ∧ len1 ≤ cap1 ∧ cap1 ≤ maxLen ∧ (a1 = none → cap1 = 0) := by
    obtain ⟨fuel, hf⟩ := h1
    rcases open_ints Tryd.underlying28 Tryd.underlying3 (by kernel_rfl) hf with ⟨hcs, _⟩ | ⟨x, l, c, zs, hcs, _, hl, hm, hz, _, hcell, hwz⟩
    · simp [Value.cells] at hcs
      obtain ⟨rfl, rfl, rfl⟩ := hcs
      exact ⟨[], RdG.nil _ _ _, rfl, Nat.le_refl _, Nat.zero_le _, fun _ => rfl⟩
    · simp [Value.cells] at hcs
      obtain ⟨rfl, rfl, rfl⟩ := hcs
      have hz' : zs.length = cap1 := by simpa using hz
      obtain ⟨l, hr, hn⟩ := rdZ_of_row hl hz' hcell hwz
      exact ⟨l, hr, hn, hl, hm, fun h => by cases h⟩
  obtain ⟨a2, rfl, rfl, rfl, w2⟩ := open_string Tryd.underlying9 (hval 2 9 v2 rfl rfl) h2
  obtain ⟨a3, rfl, rfl, rfl, w3⟩ := open_int Tryd.underlying3 (hval 3 3 v3 rfl rfl) h3
  clear hA0 hval0
  refine (walk a0 a1 len1 cap1 l1 a2 a3 W w0 w1 n1 c1 m1 z1 w2 w3 (table hL)).mono fun e W' ⟨he, bel⟩ => ?_
  subst he
  exact ⟨_, rfl, _, _, _, [], _, [], hW', trodAll_mk1 (shut_bool Tryd.underlying4 _), (trodAll_cons_mk (shut_string Tryd.underlying9 w0) (trodAll_cons_mk (Below.trod laidOut (by kernel_rfl) (of_decide_eq_true (by kernel_rfl)) k1 bel lt1) (trodAll_cons_mk (shut_string Tryd.underlying9 w2) (trodAll_cons_mk (shut_int Tryd.underlying3 w3) trodAll_mk0)))), rfl, bel.frame _, fun h => by cases h⟩

theorem over : Rows.chunkBackRow.holds Tryd.pinned (OpenSpec.ofChange Rows.chunkBackSpec) :=
  OpenClaim.holds_of_wide 5 Tryd.f5 rfl rfl rfl rfl rfl rfl rfl ⟨rfl, rfl, rfl, rfl, rfl⟩ rfl rfl rfl rfl rfl (by kernel_rfl) Tryd.func5 (by kernel_rfl)
    (of_decide_eq_true (by kernel_rfl)) (by unfold Func.isWrapper; first | (rw [if_pos (by decide +kernel)]; kernel_rfl) | (rw [if_neg (by decide +kernel)]; exact ⟨rfl, rfl⟩))
    (fun os started H enc _ => lifted os started H enc)

theorem said : Rows.ChunkBackSaid := over
theorem plain (f : FuncId) (fn : Func) (hf : Tryd.pinned.checked.prog.funcNamed "tidewaiter/tidewaiterlaw16.ChunkBack" = some f) (hfn : Tryd.pinned.checked.prog.funcs[f]? = some fn) :
    false = Tryd.pinned.checked.prog.looks [] ∧ ∀ (j : Nat) t, fn.params[j]? = some t → Tryd.pinned.checked.prog.wantsStandIn t = false := by
  obtain rfl : f = 5 := Option.some.inj ((show Tryd.prog.funcNamed "tidewaiter/tidewaiterlaw16.ChunkBack" = some 5 by kernel_rfl).symm.trans hf) |>.symm
  obtain rfl : fn = Tryd.f5 := (Option.some.inj (Tryd.func5.symm.trans hfn)).symm
  refine ⟨by kernel_rfl, fun j t ht => ?_⟩
  rw [Tryd.params5] at ht
  have hm : t ∈ [9, 28, 9, 3] := by simpa using Array.mem_of_getElem? ht
  have hall : ([9, 28, 9, 3].all fun u => !Tryd.prog.wantsStandIn u) = true := by kernel_rfl
  exact (show Tryd.prog.wantsStandIn t = false by simpa using List.all_eq_true.1 hall t hm)
theorem proved : Rows.ChunkBackCardSaid :=
  Claim7.holds_tied_plain_at .later [] _ _ _ _ said (fun _ h => by cases h) (by kernel_rfl) (fun _ h => by cases h) chunkBack_row_tie rfl ⟨rfl, rfl⟩ (by kernel_rfl) rfl plain (by kernel_rfl)
end Go.Proofs.YtphakhklhicolaaDoor.chunkBack
