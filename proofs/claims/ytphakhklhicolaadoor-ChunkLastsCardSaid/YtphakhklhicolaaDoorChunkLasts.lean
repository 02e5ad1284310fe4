/-
  What is done, or has an error, has that whatever stands behind, and what is done is encoded alike in chunks of some sizes, for any two texts; no condition but what the row lists.
-/
import Derived.Test.YtphakhklhicolaaDoorChkH
import Derived.Test.YtphakhklhicolaaDoorCards
import Derived.Test.YtphakhklhicolaaDoorTie
import Derived.LaidMore
import Derived.LaidSub
import Derived.MakeChecks
import Derived.Stop.Joined
import Derived.Lib.LaidTab
import Derived.SevenTiedAt
import Derived.WalkKit
import Derived.ProofKit
import Derived.OpenShut
import Derived.ShutString
import Derived.ChangeOld
import Derived.Below
namespace Go.Proofs.YtphakhklhicolaaDoor.chunkLasts
open Go.ChangeShapes Go.WideShapes Go.ChangeAt Go.RowKit
open Go.ChangeMaps (open_string shut_string)
open Hx Ck
set_option linter.unusedVariables false

theorem own : ownKnob Tryd.prog.godebug = none := by kernel_rfl
theorem laidOut : laidOutB Tryd.prog = true := by kernel_rfl

set_option linter.unusedVariables false
set_option linter.unusedSimpArgs false
set_option maxHeartbeats 8000000 in
set_option maxRecDepth 100000 in
theorem big_s (s m : ByteArray) (w : World) (h : 1000 < s.size) :
    Calls Tryd.prog 6 #[.string s, .string m] w fun e w' => e = .returned (.bool true) ∧ Below w.heap.size w w' := by
  have HA : Hid (∀ W, Calls Tryd.prog 11 #[] W fun e w' => e = .returned (.bool true) ∧ Below W.heap.size W w') := Lib.hid fun W => alive16 W
  have d1 : decide ((1000 : Int) < (s.size : Int)) = true := decide_eq_true (by omega)
  go_enter Tryd.func6, Tryd.ntmps6
  go_wp2_with (first
    | (go_at_call 11; (with_reducible refine (HA.out _).mono ?_); rintro e w1 ⟨rfl, hb1⟩; have HB1 := Lib.hid hb1; clear hb1)
    | fail)
  go_ret
  exact ⟨rfl, HB1.out⟩
set_option maxHeartbeats 8000000 in
set_option maxRecDepth 100000 in
theorem big_m (s m : ByteArray) (w : World) (h0 : s.size ≤ 1000) (h : 1000 < m.size) :
    Calls Tryd.prog 6 #[.string s, .string m] w fun e w' => e = .returned (.bool true) ∧ Below w.heap.size w w' := by
  have HA : Hid (∀ W, Calls Tryd.prog 11 #[] W fun e w' => e = .returned (.bool true) ∧ Below W.heap.size W w') := Lib.hid fun W => alive16 W
  have d1 : decide ((1000 : Int) < (s.size : Int)) = false := decide_eq_false (by omega)
  have d2 : decide ((1000 : Int) < (m.size : Int)) = true := decide_eq_true (by omega)
  go_enter Tryd.func6, Tryd.ntmps6
  go_wp2_with (first
    | (go_at_call 11; (with_reducible refine (HA.out _).mono ?_); rintro e w1 ⟨rfl, hb1⟩; have HB1 := Lib.hid hb1; clear hb1)
    | fail)
  go_ret
  exact ⟨rfl, HB1.out⟩
set_option maxHeartbeats 8000000 in
set_option maxRecDepth 100000 in
theorem bad (s m : ByteArray) (w : World) (h0 : s.size ≤ 1000) (h1 : m.size ≤ 1000) (er : Int) (he : er ≠ 0) (hd : decL [] 0 s.data.toList = ([], 0, false, er)) :
    Calls Tryd.prog 6 #[.string s, .string m] w fun e w' => e = .returned (.bool true) ∧ Below w.heap.size w w' := by
  have HA : Hid (∀ W, Calls Tryd.prog 11 #[] W fun e w' => e = .returned (.bool true) ∧ Below W.heap.size W w') := Lib.hid fun W => alive16 W
  have d1 : decide ((1000 : Int) < (s.size : Int)) = false := decide_eq_false (by omega)
  have d2 : decide ((1000 : Int) < (m.size : Int)) = false := decide_eq_false (by omega)
  obtain ⟨sm, hsm⟩ : ∃ v, s ++ m = v := ⟨_, rfl⟩
  have szm : sm.size = s.size + m.size := by rw [← hsm, ByteArray.size_append]
  have t1 : ∀ W, (Op.stringOp .add s m).run Tryd.prog W = .ok (.string sm) W := fun W => by rw [run_string_add_sum W s m (by omega), hsm]
  have hsl : sm.data.toList = s.data.toList ++ m.data.toList := by rw [← hsm]; simp
  have hd2 : decL [] 0 sm.data.toList = ([], 0, false, er) := by rw [hsl, dec_app _ _ _ _ _ (Nat.le_refl _) (.inr (by rw [hd]; exact he)), hd]
  have H1 := Lib.hid fun W => decode16 s ⟨#[]⟩ 0 false er W (by omega) hd
  have H2 := Lib.hid fun W => decode16 sm ⟨#[]⟩ 0 false er W (by omega) hd2
  have ne : (er != 0) = true := by simpa using he
  clear hd hd2 hsl hsm szm
  go_enter Tryd.func6, Tryd.ntmps6
  go_wp2_with (first
    | (go_at_call 11; (with_reducible refine (HA.out _).mono ?_); rintro e w1 ⟨rfl, hb1⟩; have HB1 := Lib.hid hb1; clear hb1)
    | (go_at_call 12; (with_reducible refine (H1.out _).mono ?_); rintro e w2 ⟨rfl, hb2⟩; have HB2 := Lib.hid (stp HB1.out hb2); clear hb2)
    | (go_at_call 12; (with_reducible refine (H2.out _).mono ?_); rintro e w3 ⟨rfl, hb3⟩; have HB3 := Lib.hid (stp HB2.out hb3); clear hb3)
    | fail)
  go_ret
  exact ⟨rfl, HB3.out⟩
set_option maxHeartbeats 8000000 in
set_option maxRecDepth 100000 in
theorem open_ (s m : ByteArray) (w : World) (h0 : s.size ≤ 1000) (h1 : m.size ≤ 1000) (hd : decL [] 0 s.data.toList = ([], 0, false, 0)) :
    Calls Tryd.prog 6 #[.string s, .string m] w fun e w' => e = .returned (.bool true) ∧ Below w.heap.size w w' := by
  have HA : Hid (∀ W, Calls Tryd.prog 11 #[] W fun e w' => e = .returned (.bool true) ∧ Below W.heap.size W w') := Lib.hid fun W => alive16 W
  have d1 : decide ((1000 : Int) < (s.size : Int)) = false := decide_eq_false (by omega)
  have d2 : decide ((1000 : Int) < (m.size : Int)) = false := decide_eq_false (by omega)
  obtain ⟨sm, hsm⟩ : ∃ v, s ++ m = v := ⟨_, rfl⟩
  have szm : sm.size = s.size + m.size := by rw [← hsm, ByteArray.size_append]
  have t1 : ∀ W, (Op.stringOp .add s m).run Tryd.prog W = .ok (.string sm) W := fun W => by rw [run_string_add_sum W s m (by omega), hsm]
  have hsl : sm.data.toList = s.data.toList ++ m.data.toList := by rw [← hsm]; simp
  obtain ⟨y, k, q, er, hd2⟩ : ∃ (y : ByteArray) (k : Nat) (q : Bool) (er : Int), decL [] 0 sm.data.toList = (y.data.toList, k, q, er) := ⟨⟨(decL [] 0 sm.data.toList).1.toArray⟩, _, _, _, rfl⟩
  have H1 := Lib.hid fun W => decode16 s ⟨#[]⟩ 0 false 0 W (by omega) hd
  have H2 := Lib.hid fun W => decode16 sm y k q er W (by omega) hd2
  clear hd hd2 hsl hsm szm
  go_enter Tryd.func6, Tryd.ntmps6
  go_wp2_with (first
    | (go_at_call 11; (with_reducible refine (HA.out _).mono ?_); rintro e w1 ⟨rfl, hb1⟩; have HB1 := Lib.hid hb1; clear hb1)
    | (go_at_call 12; (with_reducible refine (H1.out _).mono ?_); rintro e w2 ⟨rfl, hb2⟩; have HB2 := Lib.hid (stp HB1.out hb2); clear hb2)
    | (go_at_call 12; (with_reducible refine (H2.out _).mono ?_); rintro e w3 ⟨rfl, hb3⟩; have HB3 := Lib.hid (stp HB2.out hb3); clear hb3)
    | fail)
  go_ret
  exact ⟨rfl, HB3.out⟩
set_option maxHeartbeats 8000000 in
set_option maxRecDepth 100000 in
theorem done_0 (s m : ByteArray) (w : World) (h0 : s.size ≤ 1000) (h1 : m.size ≤ 1000) (hT : Tb w) (x t : ByteArray) (u : Nat) (hd : decL [] 0 s.data.toList = (x.data.toList, u, true, 0)) (hl : u ≤ s.data.toList.length ∧ x.data.toList.length + 5 ≤ u) (hen : encR x.data.toList [] = (t.data.toList, 0)) (htd : decL [] 0 t.data.toList = (x.data.toList, t.data.toList.length, true, 0)) (htu : t.data.toList.length ≤ u) (hz : x.size = 0) :
    Calls Tryd.prog 6 #[.string s, .string m] w fun e w' => e = .returned (.bool true) ∧ Below w.heap.size w w' := by
  have HA : Hid (∀ W, Calls Tryd.prog 11 #[] W fun e w' => e = .returned (.bool true) ∧ Below W.heap.size W w') := Lib.hid fun W => alive16 W
  have d1 : decide ((1000 : Int) < (s.size : Int)) = false := decide_eq_false (by omega)
  have d2 : decide ((1000 : Int) < (m.size : Int)) = false := decide_eq_false (by omega)
  obtain ⟨sm, hsm⟩ : ∃ v, s ++ m = v := ⟨_, rfl⟩
  have szm : sm.size = s.size + m.size := by rw [← hsm, ByteArray.size_append]
  have t1 : ∀ W, (Op.stringOp .add s m).run Tryd.prog W = .ok (.string sm) W := fun W => by rw [run_string_add_sum W s m (by omega), hsm]
  have hsl : sm.data.toList = s.data.toList ++ m.data.toList := by rw [← hsm]; simp
  have hd2 : decL [] 0 sm.data.toList = (x.data.toList, u, true, 0) := by rw [hsl, dec_app _ _ _ _ _ (Nat.le_refl _) (.inl (by rw [hd])), hd]
  have H1 := Lib.hid fun W => decode16 s x u true 0 W (by omega) hd
  have H2 := Lib.hid fun W => decode16 sm x u true 0 W (by omega) hd2
  have hx5 : x.size + 5 ≤ u := by have := hl.2; rw [ba_len7] at this; exact this
  have hus : u ≤ s.size := by have := hl.1; rw [ba_len7] at this; exact this
  have hts : t.size ≤ u := by rw [← ba_len7]; exact htu
  have e1 : decide ((u : Int) ≤ (s.size : Int)) = true := decide_eq_true (by omega)
  have e2 : decide ((x.size : Int) + 5 ≤ (u : Int)) = true := decide_eq_true (by omega)
  have e3 : decide ((t.size : Int) ≤ (u : Int)) = true := decide_eq_true (by omega)
  have bx : (0 : Int) ≤ (x.size : Int) ∧ (x.size : Int) ≤ 1000000 := by omega
  have htd' : decL [] 0 t.data.toList = (x.data.toList, t.size, true, 0) := by rw [htd, ba_len7]
  have H4 := Lib.hid fun W => is_yes W t x t.size (by omega) htd'
  have HTT := Lib.hid hT
  have d3 : decide ((0 : Int) < (x.size : Int)) = false := decide_eq_false (by omega)
  have H3 := Lib.hid fun W (hW : Below w.heap.size w W) => encode16 none 0 0 [] x t 0 W (RdG.nil _ _ _) rfl (by omega) (by omega) (HTT.out.to hW HTT.out.lt) hen
  clear hd hd2 hsl hsm szm htd htd' hen hT htu hl
  go_enter Tryd.func6, Tryd.ntmps6
  go_wp2_with (first
    | (go_at_call 11; (with_reducible refine (HA.out _).mono ?_); rintro e w1 ⟨rfl, hb1⟩; have HB1 := Lib.hid hb1; clear hb1)
    | (go_at_call 12; (with_reducible refine (H1.out _).mono ?_); rintro e w2 ⟨rfl, hb2⟩; have HB2 := Lib.hid (stp HB1.out hb2); clear hb2)
    | (go_at_call 12; (with_reducible refine (H2.out _).mono ?_); rintro e w3 ⟨rfl, hb3⟩; have HB3 := Lib.hid (stp HB2.out hb3); clear hb3)
    | (go_at_call 10; (with_reducible refine (H3.out _ HB3.out).mono ?_); rintro e w4 ⟨rfl, hb4⟩; have HB4 := Lib.hid (stp HB3.out hb4); clear hb4)
    | (go_at_call 9; (with_reducible refine (H4.out _).mono ?_); rintro e w5 ⟨rfl, hb5⟩; have HB5 := Lib.hid (stp HB4.out hb5); clear hb5)
    | fail)
  go_ret
  exact ⟨rfl, HB5.out⟩
set_option maxHeartbeats 8000000 in
set_option maxRecDepth 100000 in
theorem done_1 (s m : ByteArray) (w : World) (h0 : s.size ≤ 1000) (h1 : m.size ≤ 1000) (hT : Tb w) (x t : ByteArray) (u : Nat) (hd : decL [] 0 s.data.toList = (x.data.toList, u, true, 0)) (hl : u ≤ s.data.toList.length ∧ x.data.toList.length + 5 ≤ u) (hen : encR x.data.toList [(x.size : Int)] = (t.data.toList, 0)) (htd : decL [] 0 t.data.toList = (x.data.toList, t.data.toList.length, true, 0)) (htu : t.data.toList.length ≤ u) (hz : 0 < x.size) :
    Calls Tryd.prog 6 #[.string s, .string m] w fun e w' => e = .returned (.bool true) ∧ Below w.heap.size w w' := by
  have HA : Hid (∀ W, Calls Tryd.prog 11 #[] W fun e w' => e = .returned (.bool true) ∧ Below W.heap.size W w') := Lib.hid fun W => alive16 W
  have d1 : decide ((1000 : Int) < (s.size : Int)) = false := decide_eq_false (by omega)
  have d2 : decide ((1000 : Int) < (m.size : Int)) = false := decide_eq_false (by omega)
  obtain ⟨sm, hsm⟩ : ∃ v, s ++ m = v := ⟨_, rfl⟩
  have szm : sm.size = s.size + m.size := by rw [← hsm, ByteArray.size_append]
  have t1 : ∀ W, (Op.stringOp .add s m).run Tryd.prog W = .ok (.string sm) W := fun W => by rw [run_string_add_sum W s m (by omega), hsm]
  have hsl : sm.data.toList = s.data.toList ++ m.data.toList := by rw [← hsm]; simp
  have hd2 : decL [] 0 sm.data.toList = (x.data.toList, u, true, 0) := by rw [hsl, dec_app _ _ _ _ _ (Nat.le_refl _) (.inl (by rw [hd])), hd]
  have H1 := Lib.hid fun W => decode16 s x u true 0 W (by omega) hd
  have H2 := Lib.hid fun W => decode16 sm x u true 0 W (by omega) hd2
  have hx5 : x.size + 5 ≤ u := by have := hl.2; rw [ba_len7] at this; exact this
  have hus : u ≤ s.size := by have := hl.1; rw [ba_len7] at this; exact this
  have hts : t.size ≤ u := by rw [← ba_len7]; exact htu
  have e1 : decide ((u : Int) ≤ (s.size : Int)) = true := decide_eq_true (by omega)
  have e2 : decide ((x.size : Int) + 5 ≤ (u : Int)) = true := decide_eq_true (by omega)
  have e3 : decide ((t.size : Int) ≤ (u : Int)) = true := decide_eq_true (by omega)
  have bx : (0 : Int) ≤ (x.size : Int) ∧ (x.size : Int) ≤ 1000000 := by omega
  have htd' : decL [] 0 t.data.toList = (x.data.toList, t.size, true, 0) := by rw [htd, ba_len7]
  have H4 := Lib.hid fun W => is_yes W t x t.size (by omega) htd'
  have HTT := Lib.hid hT
  have d3 : decide ((0 : Int) < (x.size : Int)) = true := decide_eq_true (by omega)
  obtain ⟨i0, hi, hz0, hz1, hz2⟩ := info_parts infoI8
  have HI := Lib.hid hi
  have HZ0 := Lib.hid hz0
  have HZ1 := Lib.hid hz1
  have HZ2 := Lib.hid hz2
  have H3 := Lib.hid fun (A : Option Addr) (c : Nat) (W : World) (hr : RdG encI W W.heap.size A [(x.size : Int)]) (hW : Below w.heap.size w W) => encode16 A 1 c [(x.size : Int)] x t 0 W hr rfl (by omega) (by omega) (HTT.out.to hW HTT.out.lt) hen
  clear hd hd2 hsl hsm szm htd htd' hen hT htu hl hi hz0 hz1 hz2
  go_enter Tryd.func6, Tryd.ntmps6
  go_wp2_with (first
    | (go_at_call 11; (with_reducible refine (HA.out _).mono ?_); rintro e w1 ⟨rfl, hb1⟩; have HB1 := Lib.hid hb1; clear hb1)
    | (go_at_call 12; (with_reducible refine (H1.out _).mono ?_); rintro e w2 ⟨rfl, hb2⟩; have HB2 := Lib.hid (stp HB1.out hb2); clear hb2)
    | (go_at_call 12; (with_reducible refine (H2.out _).mono ?_); rintro e w3 ⟨rfl, hb3⟩; have HB3 := Lib.hid (stp HB2.out hb3); clear hb3)
    | (at_builtin; refine wpList_append_rdg (fun _ => rfl) rfl (.tmp 91) (.tmp 94) 28 rfl w3.heap.size 3 i0 (.int .i64 0) 8 Tryd.underlying28 HI.out HZ0.out HZ1.out HZ2.out (by decide) rfl _ 0 [] rfl (World.ownsRow_nil _ _ _ _) (w3.heap.size + 1) (some ⟨w3.heap.size, 0, none⟩) 1 1 [(x.size : Int)] rfl (RdG.new (enc := encI) w3 3 [(x.size : Int)]) rfl (fun h => by cases h) (by omega) (by rw [World.size_alloc]; omega) ?_
       intro v5 w5 hown5 hgr5
       obtain ⟨A5, c5, rfl⟩ := own_form hown5
       have HR5 := Lib.hid (RdG.of_own (enc := encI) hown5).1
       have HB5 : Hid (Below w.heap.size w w5) := Lib.hid ((stp HB3.out (stpA (Below.refl w3.heap.size w3) (.cells #[.int .i64 (x.size : Int)] 3))).grown hgr5 (by rw [World.size_alloc]; have := HB3.out.size; omega) (by intro g hg; cases hg))
       clear hown5 hgr5)
    | (go_at_call 10; (with_reducible refine (H3.out _ _ _ HR5.out HB5.out).mono ?_); rintro e w6 ⟨rfl, hb6⟩; have HB6 := Lib.hid (stp HB5.out hb6); clear hb6)
    | (go_at_call 9; (with_reducible refine (H4.out _).mono ?_); rintro e w7 ⟨rfl, hb7⟩; have HB7 := Lib.hid (stp HB6.out hb7); clear hb7)
    | fail)
  go_ret
  exact ⟨rfl, HB7.out⟩
theorem walk (s m : ByteArray) (w : World) (w0 : s.size ≤ maxLen) (w1 : m.size ≤ maxLen) (hT : Tb w) :
    Calls Tryd.prog 6 #[.string s, .string m] w fun e w' => e = .returned (.bool true) ∧ Below w.heap.size w w' := by
  by_cases h0 : 1000 < s.size
  · exact big_s s m w h0
  by_cases h1 : 1000 < m.size
  · exact big_m s m w (by omega) h1
  rcases dec_form _ s.data.toList [] 0 (Nat.le_refl _) with ⟨u, h2, _, h3, h4⟩ | ⟨er, h2, _⟩
  · obtain ⟨x, hx⟩ : ∃ x : ByteArray, x.data.toList = (decL [] 0 s.data.toList).1 := ⟨⟨(decL [] 0 s.data.toList).1.toArray⟩, rfl⟩
    rw [← hx] at h2
    obtain ⟨g1, g2, _, tl, g3, g4, g5⟩ := dec_done h2
    obtain ⟨t, rfl⟩ : ∃ t : ByteArray, t.data.toList = tl := ⟨⟨tl.toArray⟩, rfl⟩
    by_cases hz : x.size = 0
    · rw [if_pos (by rw [ba_len7]; exact hz)] at g3
      exact done_0 s m w (by omega) (by omega) hT x t u h2 ⟨g1, g2⟩ g3 g4 g5 hz
    · rw [if_neg (by rw [ba_len7]; exact hz), ba_len7] at g3
      exact done_1 s m w (by omega) (by omega) hT x t u h2 ⟨g1, g2⟩ g3 g4 g5 (by omega)
  · by_cases he : er = 0
    · subst he
      exact open_ s m w (by omega) (by omega) h2
    · exact bad s m w (by omega) (by omega) er he h2

def tabL : List Int := [0, 1, 56, 2, 57, 49, 28, 3, 61, 58, 42, 50, 38, 29, 17, 4, 62, 47, 59, 36, 45, 43, 51, 22, 53, 39, 33, 30, 24, 18, 12, 5, 63, 55, 48, 27, 60, 41, 37, 16, 46, 35, 44, 21, 52, 32, 23, 11, 54, 26, 40, 15, 34, 20, 31, 10, 25, 14, 19, 9, 13, 8, 7, 6]
theorem gTab : Tryd.prog.globalNamed "math/bits.deBruijn64tab" = some 2 := by kernel_rfl
theorem gTabType : (Tryd.prog.globals[2]?).map (·.type) = some 72 := by kernel_rfl
/-- What the row's list gives. -/
theorem table {W : World} (h : laidMetH Tryd.prog Rows.chunkLastsRow.laid W) : Tb W := by
  rw [MakeChecks.laidMetH_plain _ _ _ (by kernel_rfl)] at h
  have h2 := laidMet.filter (fun x => x.1 == "math/bits.deBruijn64tab") h
  have e : Rows.chunkLastsRow.laid.filter (fun x => x.1 == "math/bits.deBruijn64tab") = [("math/bits.deBruijn64tab", Lib.tabData .u8 tabL)] := by kernel_rfl
  rw [e] at h2
  exact (Lib.tabIs_of_head (rest := []) gTab gTabType Tryd.underlying72 Tryd.underlying5 (by kernel_rfl) (by kernel_rfl) h2).cell gTab 15 (by decide)
theorem door_met (os : Os) (args : Array Value) : laidMetH Tryd.prog Rows.chunkLastsRow.laid ((World.doorLaid Tryd.prog 400 os).forCall (fun _ _ => 0) ⟨#[], args, []⟩).memory :=
  laidMetH_of_parts3 (fuel := 8) (laidMet_of_run' 8 (by kernel_rfl) (by kernel_rfl)) (by kernel_rfl) (by kernel_rfl)
set_option maxRecDepth 100000 in
theorem lifted (os : Os) (started : os.Started) (H : Type) (enc : TypeId × Value → H) :
    ReturnsInHanded {} Tryd.checked os 6 .any (fun w args => (Rows.chunkLastsSpec.pre enc Tryd.prog Tryd.f6 [] false w args ∧ laidMetH Tryd.prog Rows.chunkLastsRow.laid w) ∧ sizedMet enc Tryd.prog Tryd.f6 (OpenSpec.ofChange Rows.chunkLastsSpec) false w args) (Rows.chunkLastsSpec.post enc Tryd.prog Tryd.f6 false true false false) := by
  refine returnsInHanded_of_change_and (C := Tryd.checked) (X := fun w _ => laidMetH Tryd.prog Rows.chunkLastsRow.laid w) (fun _ _ _ hh h => h.of_heap hh) own started (by kernel_rfl) Tryd.func6
    (ChangeSpec.witness_shaped (enc := enc) (C := Tryd.checked) (os := os) (X := fun w _ => laidMetH Tryd.prog Rows.chunkLastsRow.laid w) false (World.doorLaid Tryd.prog 400 os) #[.string ByteArray.empty, .string ByteArray.empty] 8 rfl (World.shaped_of_RefB (by kernel_rfl) (by kernel_rfl)) (by kernel_rfl) (by kernel_rfl) (by kernel_rfl) (door_met os _)) ?_
  intro W base args ds gs before hval0 hW _ hwt hL _
  have hval : ∀ (j : Nat) t v, Tryd.f6.params[j]? = some t → args[j]? = some v → Value.okWide Tryd.prog W .any base t v := hval0
  have hW' := hW
  obtain ⟨p, q, hA0, hV, rfl, hfz, hnd⟩ := hW
  have hA : DataW.TrodAll enc Tryd.prog W 0 (fun _ => true) true Tryd.f6.params.toList args.toList ds p := hA0
  rw [Tryd.params6] at hA hval
  obtain ⟨v0, vs0, d0, ds0, p0, q0, hargs, rfl, rfl, h0, r0⟩ := trodAll_cons hA
  obtain ⟨v1, vs1, d1, ds1, p1, q1, rfl, rfl, rfl, h1, r1⟩ := trodAll_cons r0
  obtain ⟨rfl, rfl, rfl⟩ := trodAll_nil r1
  obtain rfl : args = #[v0, v1] := by cases args; simp_all
  obtain ⟨rfl, rfl⟩ := trodVars_none hV
  obtain ⟨a0, rfl, rfl, rfl, w0⟩ := open_string Tryd.underlying9 (hval 0 9 v0 rfl rfl) h0
  obtain ⟨a1, rfl, rfl, rfl, w1⟩ := open_string Tryd.underlying9 (hval 1 9 v1 rfl rfl) h1
  clear hA0 hval0
  refine (walk a0 a1 W w0 w1 (table hL)).mono fun e W' ⟨he, bel⟩ => ?_
  subst he
  exact ⟨_, rfl, _, _, _, [], _, [], hW', trodAll_mk1 (shut_bool Tryd.underlying4 _), (trodAll_cons_mk (shut_string Tryd.underlying9 w0) (trodAll_cons_mk (shut_string Tryd.underlying9 w1) trodAll_mk0)), rfl, bel.frame _, fun h => by cases h⟩

theorem over : Rows.chunkLastsRow.holds Tryd.pinned (OpenSpec.ofChange Rows.chunkLastsSpec) :=
  OpenClaim.holds_of_wide 6 Tryd.f6 rfl rfl rfl rfl rfl rfl rfl ⟨rfl, rfl, rfl, rfl, rfl⟩ rfl rfl rfl rfl rfl (by kernel_rfl) Tryd.func6 (by kernel_rfl)
    (of_decide_eq_true (by kernel_rfl)) (by unfold Func.isWrapper; first | (rw [if_pos (by decide +kernel)]; kernel_rfl) | (rw [if_neg (by decide +kernel)]; exact ⟨rfl, rfl⟩))
    (fun os started H enc _ => lifted os started H enc)

theorem said : Rows.ChunkLastsSaid := over
theorem plain (f : FuncId) (fn : Func) (hf : Tryd.pinned.checked.prog.funcNamed "tidewaiter/tidewaiterlaw16.ChunkLasts" = some f) (hfn : Tryd.pinned.checked.prog.funcs[f]? = some fn) :
    false = Tryd.pinned.checked.prog.looks [] ∧ ∀ (j : Nat) t, fn.params[j]? = some t → Tryd.pinned.checked.prog.wantsStandIn t = false := by
  obtain rfl : f = 6 := Option.some.inj ((show Tryd.prog.funcNamed "tidewaiter/tidewaiterlaw16.ChunkLasts" = some 6 by kernel_rfl).symm.trans hf) |>.symm
  obtain rfl : fn = Tryd.f6 := (Option.some.inj (Tryd.func6.symm.trans hfn)).symm
  refine ⟨by kernel_rfl, fun j t ht => ?_⟩
  rw [Tryd.params6] at ht
  have hm : t ∈ [9, 9] := by simpa using Array.mem_of_getElem? ht
  have hall : ([9, 9].all fun u => !Tryd.prog.wantsStandIn u) = true := by kernel_rfl
  exact (show Tryd.prog.wantsStandIn t = false by simpa using List.all_eq_true.1 hall t hm)
theorem proved : Rows.ChunkLastsCardSaid :=
  Claim7.holds_tied_plain_at .later [] _ _ _ _ said (fun _ h => by cases h) (by kernel_rfl) (fun _ h => by cases h) chunkLasts_row_tie rfl ⟨rfl, rfl⟩ (by kernel_rfl) rfl plain (by kernel_rfl)
end Go.Proofs.YtphakhklhicolaaDoor.chunkLasts
