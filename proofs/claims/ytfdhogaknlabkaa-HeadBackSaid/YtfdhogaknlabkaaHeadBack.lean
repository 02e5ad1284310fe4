/-
  HeadBack: what is written is read as these fields; what is read, written again, is read as the same: for all fields (40 at most, 3,000 bytes) and every text of at most 3,000 bytes.
-/
import Derived.Test.YtfdhogaknlabkaaG18
import Derived.HandedShaped
import Derived.Shelf.Vars
import Derived.WalkKit
import Derived.ProofKit
import Derived.OpenShut
import Derived.ShutString
import Derived.ChangeOld
import Derived.Below
namespace Go.Proofs.Ytfdhogaknlabkaa.headBack
open Go.ChangeShapes Go.WideShapes Go.ChangeAt Go.RowKit
open Go.ChangeMaps (open_string shut_string)
open Hx Lx Hd
set_option linter.unusedVariables false

theorem own : ownKnob Try.prog.godebug = none := by kernel_rfl
theorem laidOut : laidOutB Try.prog = true := by kernel_rfl

set_option maxHeartbeats 8000000 in
set_option maxRecDepth 100000 in
theorem back_great (A : Option Addr) (n cp : Nat) (l : List Pr) (s : ByteArray) (w : World) (hr : RdC PrC w w.heap.size A l) (hn : l.length = n) (hx : n ≤ 9223372036854775807) (hX : Mx w) (hg : greatH l = true) : Calls Try.prog 6 #[.slice A n cp, .string s] w fun e w' => e = .returned (.bool true) ∧ Below w.heap.size w w' := by
  have HA := Lib.hid (alive14 w hX)
  have HG : Hid (∀ W, Below w.heap.size w W → Calls Try.prog 20 #[.slice A n cp] W fun e w' => e = .returned (.bool true) ∧ Below W.heap.size W w') := Lib.hid fun W hW => rgreat14 A n cp l W (hr.on hW) hn hx true hg
  clear hr hn hx hX hg
  go_enter Try.func6, Try.ntmps6
  go_wp2_with (first
    | (go_at_call 16; (with_reducible refine (HA.out).mono ?_); rintro e w1 ⟨rfl, hb1⟩; have HB1 := Lib.hid hb1; clear hb1)
    | (go_at_call 20; (with_reducible refine (HG.out w1 HB1.out).mono ?_); rintro e w2 ⟨rfl, hb2⟩; have HB2 := Lib.hid (stp HB1.out hb2); clear hb2)
    | fail)
  go_ret
  exact ⟨rfl, HB2.out⟩
set_option maxHeartbeats 8000000 in
set_option maxRecDepth 100000 in
theorem back_long (A : Option Addr) (n cp : Nat) (l : List Pr) (s : ByteArray) (w : World) (hr : RdC PrC w w.heap.size A l) (hn : l.length = n) (hx : n ≤ 9223372036854775807) (hX : Mx w) (hg : greatH l = false) (hs : 3000 < s.size) : Calls Try.prog 6 #[.slice A n cp, .string s] w fun e w' => e = .returned (.bool true) ∧ Below w.heap.size w w' := by
  have HA := Lib.hid (alive14 w hX)
  have HG : Hid (∀ W, Below w.heap.size w W → Calls Try.prog 20 #[.slice A n cp] W fun e w' => e = .returned (.bool false) ∧ Below W.heap.size W w') := Lib.hid fun W hW => rgreat14 A n cp l W (hr.on hW) hn hx false hg
  have d1 : decide ((3000 : Int) < (s.size : Int)) = true := decide_eq_true (by omega)
  clear hr hn hx hX hg hs
  go_enter Try.func6, Try.ntmps6
  go_wp2_with (first
    | (go_at_call 16; (with_reducible refine (HA.out).mono ?_); rintro e w1 ⟨rfl, hb1⟩; have HB1 := Lib.hid hb1; clear hb1)
    | (go_at_call 20; (with_reducible refine (HG.out w1 HB1.out).mono ?_); rintro e w2 ⟨rfl, hb2⟩; have HB2 := Lib.hid (stp HB1.out hb2); clear hb2)
    | fail)
  go_ret
  exact ⟨rfl, HB2.out⟩
set_option maxHeartbeats 8000000 in
set_option maxRecDepth 100000 in
theorem back_wp (A : Option Addr) (n cp : Nat) (l : List Pr) (s : ByteArray) (w : World) (hr : RdC PrC w w.heap.size A l) (hn : l.length = n) (hx : n ≤ 9223372036854775807) (hX : Mx w) (hg : greatH l = false) (hs : s.size ≤ 3000) (t : ByteArray) (hw : writeH l = (t.data.toList, 0)) (ps : List Pr) (hp : parseH s.data.toList = (ps, 0)) : Calls Try.prog 6 #[.slice A n cp, .string s] w fun e w' => e = .returned (.bool true) ∧ Below w.heap.size w w' := by
  have HA := Lib.hid (alive14 w hX)
  have HG : Hid (∀ W, Below w.heap.size w W → Calls Try.prog 20 #[.slice A n cp] W fun e w' => e = .returned (.bool false) ∧ Below W.heap.size W w') := Lib.hid fun W hW => rgreat14 A n cp l W (hr.on hW) hn hx false hg
  obtain ⟨g1, g2, g3⟩ := great_no14 hg
  have d1 : decide ((3000 : Int) < (s.size : Int)) = false := decide_eq_false (by omega)
  have hn40 : n ≤ 40 := by omega
  have HW : Hid (∀ W, Below w.heap.size w W → Calls Try.prog 21 #[.slice A n cp] W fun e w' => e = .returned (.tuple #[.string t, .int .i64 0]) ∧ Below W.heap.size W w') := Lib.hid fun W hW => write14 A n cp l W (hr.on hW) hn (by omega) g2 t 0 hw
  have hread : parseH t.data.toList = (l, 0) ∧ t.size ≤ 1000000 := by
    unfold writeH at hw
    split at hw
    · rename_i hall
      split at hw
      · injection hw with _ hw; cases hw
      · injection hw with hw _
        rw [← ba_l, ← hw]
        exact ⟨parse_write hall (by omega) (by omega), by omega⟩
    · injection hw with _ hw; cases hw
  have HR1 : Hid (∀ W, Below w.heap.size w W → Calls Try.prog 17 #[.string t, .slice A n cp] W fun e w' => e = .returned (.bool true) ∧ Below W.heap.size W w') := Lib.hid fun W hW => are14 t A n cp l W (hX.below hW) hread.2 (hr.on hW) hn hread.1
  obtain ⟨a1, a2⟩ := parse_again hp (by rw [ba_l]; omega)
  obtain ⟨a3, a4, a5, _⟩ := parse_ok hp
  rw [ba_l] at a5
  obtain ⟨y, hy⟩ : ∃ y : ByteArray, linesP ps = y.data.toList := ⟨⟨(linesP ps).toArray⟩, by simp⟩
  have hyl : y.size ≤ 1000000 := by rw [← ba_l, ← hy]; omega
  rw [hy] at a1 a2
  have hsm : SmP ps := fun p hp2 => by
    have h1 := line_le ps p hp2
    have h2 : (lineP p).length = p.name.length + p.value.length + 4 := by unfold lineP; simp; omega
    omega
  obtain ⟨m, hm⟩ : ∃ m, ps.length = m := ⟨_, rfl⟩
  have HP : Hid (∀ W, Below w.heap.size w W → Calls Try.prog 13 #[.string s] W fun e w' => Below W.heap.size W w' ∧ ∃ A c, e = .returned (.tuple #[.slice A m c, .int .i64 0]) ∧ RdC PrC w' w'.heap.size A ps) := Lib.hid fun W hW => (parse14 s ps 0 W (hX.below hW) (by omega) hp).mono fun e w' ⟨k1, A, c, k2, _, _, _, k3⟩ => ⟨k1, A, c, by rw [k2, hm], k3⟩
  have HW2 : Hid (∀ A c W, RdC PrC W W.heap.size A ps → Calls Try.prog 21 #[.slice A m c] W fun e w' => e = .returned (.tuple #[.string y, .int .i64 0]) ∧ Below W.heap.size W w') := Lib.hid fun A c W k => write14 A m c ps W k hm (by omega) hsm y 0 a1
  have HR2 : Hid (∀ A c W, Below w.heap.size w W → RdC PrC W W.heap.size A ps → Calls Try.prog 17 #[.string y, .slice A m c] W fun e w' => e = .returned (.bool true) ∧ Below W.heap.size W w') := Lib.hid fun A c W hW k => are14 y A m c ps W (hX.below hW) hyl k hm a2
  clear hr hn hx hX hg hs hw hp g1 g2 g3 hn40 hread a1 a2 a3 a4 a5 hy hyl hsm hm
  go_enter Try.func6, Try.ntmps6
  go_wp2_with (first
    | (go_at_call 16; (with_reducible refine (HA.out).mono ?_); rintro e w1 ⟨rfl, hb1⟩; have HB1 := Lib.hid hb1; clear hb1)
    | (go_at_call 20; (with_reducible refine (HG.out w1 HB1.out).mono ?_); rintro e w2 ⟨rfl, hb2⟩; have HB2 := Lib.hid (stp HB1.out hb2); clear hb2)
    | (go_at_call 21; (with_reducible refine (HW.out w2 HB2.out).mono ?_); rintro e w3 ⟨rfl, hb3⟩; have HB3 := Lib.hid (stp HB2.out hb3); clear hb3)
    | (go_at_call 17; (with_reducible refine (HR1.out w3 HB3.out).mono ?_); rintro e w4 ⟨rfl, hb4⟩; have HB4 := Lib.hid (stp HB3.out hb4); clear hb4)
    | (go_at_call 13; (with_reducible refine (HP.out w4 HB4.out).mono ?_); rintro e w5 ⟨hb5, A5, c5, rfl, hr5⟩; have HQ5 := Lib.hid hr5; have HB5 := Lib.hid (stp HB4.out hb5); clear hb5 hr5)
    | (go_at_call 21; (with_reducible refine (HW2.out A5 c5 w5 HQ5.out).mono ?_); rintro e w6 ⟨rfl, hb6⟩; have HQ6 := Lib.hid (HQ5.out.on hb6); have HB6 := Lib.hid (stp HB5.out hb6); clear hb6)
    | (go_at_call 17; (with_reducible refine (HR2.out A5 c5 w6 HB6.out HQ6.out).mono ?_); rintro e w7 ⟨rfl, hb7⟩; have HB7 := Lib.hid (stp HB6.out hb7); clear hb7)
    | fail)
  go_ret
  exact ⟨rfl, HB7.out⟩
set_option maxHeartbeats 8000000 in
set_option maxRecDepth 100000 in
theorem back_wq (A : Option Addr) (n cp : Nat) (l : List Pr) (s : ByteArray) (w : World) (hr : RdC PrC w w.heap.size A l) (hn : l.length = n) (hx : n ≤ 9223372036854775807) (hX : Mx w) (hg : greatH l = false) (hs : s.size ≤ 3000) (t : ByteArray) (hw : writeH l = (t.data.toList, 0)) (z : Int) (hz : (z != 0) = true) (hp : parseH s.data.toList = ([], z)) : Calls Try.prog 6 #[.slice A n cp, .string s] w fun e w' => e = .returned (.bool true) ∧ Below w.heap.size w w' := by
  have HA := Lib.hid (alive14 w hX)
  have HG : Hid (∀ W, Below w.heap.size w W → Calls Try.prog 20 #[.slice A n cp] W fun e w' => e = .returned (.bool false) ∧ Below W.heap.size W w') := Lib.hid fun W hW => rgreat14 A n cp l W (hr.on hW) hn hx false hg
  obtain ⟨g1, g2, g3⟩ := great_no14 hg
  have d1 : decide ((3000 : Int) < (s.size : Int)) = false := decide_eq_false (by omega)
  have hn40 : n ≤ 40 := by omega
  have HW : Hid (∀ W, Below w.heap.size w W → Calls Try.prog 21 #[.slice A n cp] W fun e w' => e = .returned (.tuple #[.string t, .int .i64 0]) ∧ Below W.heap.size W w') := Lib.hid fun W hW => write14 A n cp l W (hr.on hW) hn (by omega) g2 t 0 hw
  have hread : parseH t.data.toList = (l, 0) ∧ t.size ≤ 1000000 := by
    unfold writeH at hw
    split at hw
    · rename_i hall
      split at hw
      · injection hw with _ hw; cases hw
      · injection hw with hw _
        rw [← ba_l, ← hw]
        exact ⟨parse_write hall (by omega) (by omega), by omega⟩
    · injection hw with _ hw; cases hw
  have HR1 : Hid (∀ W, Below w.heap.size w W → Calls Try.prog 17 #[.string t, .slice A n cp] W fun e w' => e = .returned (.bool true) ∧ Below W.heap.size W w') := Lib.hid fun W hW => are14 t A n cp l W (hX.below hW) hread.2 (hr.on hW) hn hread.1
  have HP : Hid (∀ W, Below w.heap.size w W → Calls Try.prog 13 #[.string s] W fun e w' => Below W.heap.size W w' ∧ ∃ A c, e = .returned (.tuple #[.slice A 0 c, .int .i64 z])) := Lib.hid fun W hW => (parse14 s [] z W (hX.below hW) (by omega) hp).mono fun e w' ⟨k1, A, c, k2, _⟩ => ⟨k1, A, c, k2⟩
  clear hr hn hx hX hg hs hw hp g1 g2 g3 hn40 hread
  go_enter Try.func6, Try.ntmps6
  go_wp2_with (first
    | (go_at_call 16; (with_reducible refine (HA.out).mono ?_); rintro e w1 ⟨rfl, hb1⟩; have HB1 := Lib.hid hb1; clear hb1)
    | (go_at_call 20; (with_reducible refine (HG.out w1 HB1.out).mono ?_); rintro e w2 ⟨rfl, hb2⟩; have HB2 := Lib.hid (stp HB1.out hb2); clear hb2)
    | (go_at_call 21; (with_reducible refine (HW.out w2 HB2.out).mono ?_); rintro e w3 ⟨rfl, hb3⟩; have HB3 := Lib.hid (stp HB2.out hb3); clear hb3)
    | (go_at_call 17; (with_reducible refine (HR1.out w3 HB3.out).mono ?_); rintro e w4 ⟨rfl, hb4⟩; have HB4 := Lib.hid (stp HB3.out hb4); clear hb4)
    | (go_at_call 13; (with_reducible refine (HP.out w4 HB4.out).mono ?_); rintro e w5 ⟨hb5, A5, c5, rfl⟩; have HB5 := Lib.hid (stp HB4.out hb5); clear hb5)
    | fail)
  go_ret
  exact ⟨rfl, HB5.out⟩
set_option maxHeartbeats 8000000 in
set_option maxRecDepth 100000 in
theorem back_np (A : Option Addr) (n cp : Nat) (l : List Pr) (s : ByteArray) (w : World) (hr : RdC PrC w w.heap.size A l) (hn : l.length = n) (hx : n ≤ 9223372036854775807) (hX : Mx w) (hg : greatH l = false) (hs : s.size ≤ 3000) (t : ByteArray) (q : Int) (hq : (q == 0) = false) (hw : writeH l = (t.data.toList, q)) (ps : List Pr) (hp : parseH s.data.toList = (ps, 0)) : Calls Try.prog 6 #[.slice A n cp, .string s] w fun e w' => e = .returned (.bool true) ∧ Below w.heap.size w w' := by
  have HA := Lib.hid (alive14 w hX)
  have HG : Hid (∀ W, Below w.heap.size w W → Calls Try.prog 20 #[.slice A n cp] W fun e w' => e = .returned (.bool false) ∧ Below W.heap.size W w') := Lib.hid fun W hW => rgreat14 A n cp l W (hr.on hW) hn hx false hg
  obtain ⟨g1, g2, g3⟩ := great_no14 hg
  have d1 : decide ((3000 : Int) < (s.size : Int)) = false := decide_eq_false (by omega)
  have hn40 : n ≤ 40 := by omega
  have HW : Hid (∀ W, Below w.heap.size w W → Calls Try.prog 21 #[.slice A n cp] W fun e w' => e = .returned (.tuple #[.string t, .int .i64 q]) ∧ Below W.heap.size W w') := Lib.hid fun W hW => write14 A n cp l W (hr.on hW) hn (by omega) g2 t q hw
  obtain ⟨a1, a2⟩ := parse_again hp (by rw [ba_l]; omega)
  obtain ⟨a3, a4, a5, _⟩ := parse_ok hp
  rw [ba_l] at a5
  obtain ⟨y, hy⟩ : ∃ y : ByteArray, linesP ps = y.data.toList := ⟨⟨(linesP ps).toArray⟩, by simp⟩
  have hyl : y.size ≤ 1000000 := by rw [← ba_l, ← hy]; omega
  rw [hy] at a1 a2
  have hsm : SmP ps := fun p hp2 => by
    have h1 := line_le ps p hp2
    have h2 : (lineP p).length = p.name.length + p.value.length + 4 := by unfold lineP; simp; omega
    omega
  obtain ⟨m, hm⟩ : ∃ m, ps.length = m := ⟨_, rfl⟩
  have HP : Hid (∀ W, Below w.heap.size w W → Calls Try.prog 13 #[.string s] W fun e w' => Below W.heap.size W w' ∧ ∃ A c, e = .returned (.tuple #[.slice A m c, .int .i64 0]) ∧ RdC PrC w' w'.heap.size A ps) := Lib.hid fun W hW => (parse14 s ps 0 W (hX.below hW) (by omega) hp).mono fun e w' ⟨k1, A, c, k2, _, _, _, k3⟩ => ⟨k1, A, c, by rw [k2, hm], k3⟩
  have HW2 : Hid (∀ A c W, RdC PrC W W.heap.size A ps → Calls Try.prog 21 #[.slice A m c] W fun e w' => e = .returned (.tuple #[.string y, .int .i64 0]) ∧ Below W.heap.size W w') := Lib.hid fun A c W k => write14 A m c ps W k hm (by omega) hsm y 0 a1
  have HR2 : Hid (∀ A c W, Below w.heap.size w W → RdC PrC W W.heap.size A ps → Calls Try.prog 17 #[.string y, .slice A m c] W fun e w' => e = .returned (.bool true) ∧ Below W.heap.size W w') := Lib.hid fun A c W hW k => are14 y A m c ps W (hX.below hW) hyl k hm a2
  clear hr hn hx hX hg hs hw hp g1 g2 g3 hn40 a1 a2 a3 a4 a5 hy hyl hsm hm
  go_enter Try.func6, Try.ntmps6
  go_wp2_with (first
    | (go_at_call 16; (with_reducible refine (HA.out).mono ?_); rintro e w1 ⟨rfl, hb1⟩; have HB1 := Lib.hid hb1; clear hb1)
    | (go_at_call 20; (with_reducible refine (HG.out w1 HB1.out).mono ?_); rintro e w2 ⟨rfl, hb2⟩; have HB2 := Lib.hid (stp HB1.out hb2); clear hb2)
    | (go_at_call 21; (with_reducible refine (HW.out w2 HB2.out).mono ?_); rintro e w3 ⟨rfl, hb3⟩; have HB3 := Lib.hid (stp HB2.out hb3); clear hb3)
    | (go_at_call 13; (with_reducible refine (HP.out w3 HB3.out).mono ?_); rintro e w5 ⟨hb5, A5, c5, rfl, hr5⟩; have HQ5 := Lib.hid hr5; have HB5 := Lib.hid (stp HB3.out hb5); clear hb5 hr5)
    | (go_at_call 21; (with_reducible refine (HW2.out A5 c5 w5 HQ5.out).mono ?_); rintro e w6 ⟨rfl, hb6⟩; have HQ6 := Lib.hid (HQ5.out.on hb6); have HB6 := Lib.hid (stp HB5.out hb6); clear hb6)
    | (go_at_call 17; (with_reducible refine (HR2.out A5 c5 w6 HB6.out HQ6.out).mono ?_); rintro e w7 ⟨rfl, hb7⟩; have HB7 := Lib.hid (stp HB6.out hb7); clear hb7)
    | fail)
  go_ret
  exact ⟨rfl, HB7.out⟩
set_option maxHeartbeats 8000000 in
set_option maxRecDepth 100000 in
theorem back_nq (A : Option Addr) (n cp : Nat) (l : List Pr) (s : ByteArray) (w : World) (hr : RdC PrC w w.heap.size A l) (hn : l.length = n) (hx : n ≤ 9223372036854775807) (hX : Mx w) (hg : greatH l = false) (hs : s.size ≤ 3000) (t : ByteArray) (q : Int) (hq : (q == 0) = false) (hw : writeH l = (t.data.toList, q)) (z : Int) (hz : (z != 0) = true) (hp : parseH s.data.toList = ([], z)) : Calls Try.prog 6 #[.slice A n cp, .string s] w fun e w' => e = .returned (.bool true) ∧ Below w.heap.size w w' := by
  have HA := Lib.hid (alive14 w hX)
  have HG : Hid (∀ W, Below w.heap.size w W → Calls Try.prog 20 #[.slice A n cp] W fun e w' => e = .returned (.bool false) ∧ Below W.heap.size W w') := Lib.hid fun W hW => rgreat14 A n cp l W (hr.on hW) hn hx false hg
  obtain ⟨g1, g2, g3⟩ := great_no14 hg
  have d1 : decide ((3000 : Int) < (s.size : Int)) = false := decide_eq_false (by omega)
  have hn40 : n ≤ 40 := by omega
  have HW : Hid (∀ W, Below w.heap.size w W → Calls Try.prog 21 #[.slice A n cp] W fun e w' => e = .returned (.tuple #[.string t, .int .i64 q]) ∧ Below W.heap.size W w') := Lib.hid fun W hW => write14 A n cp l W (hr.on hW) hn (by omega) g2 t q hw
  have HP : Hid (∀ W, Below w.heap.size w W → Calls Try.prog 13 #[.string s] W fun e w' => Below W.heap.size W w' ∧ ∃ A c, e = .returned (.tuple #[.slice A 0 c, .int .i64 z])) := Lib.hid fun W hW => (parse14 s [] z W (hX.below hW) (by omega) hp).mono fun e w' ⟨k1, A, c, k2, _⟩ => ⟨k1, A, c, k2⟩
  clear hr hn hx hX hg hs hw hp g1 g2 g3 hn40
  go_enter Try.func6, Try.ntmps6
  go_wp2_with (first
    | (go_at_call 16; (with_reducible refine (HA.out).mono ?_); rintro e w1 ⟨rfl, hb1⟩; have HB1 := Lib.hid hb1; clear hb1)
    | (go_at_call 20; (with_reducible refine (HG.out w1 HB1.out).mono ?_); rintro e w2 ⟨rfl, hb2⟩; have HB2 := Lib.hid (stp HB1.out hb2); clear hb2)
    | (go_at_call 21; (with_reducible refine (HW.out w2 HB2.out).mono ?_); rintro e w3 ⟨rfl, hb3⟩; have HB3 := Lib.hid (stp HB2.out hb3); clear hb3)
    | (go_at_call 13; (with_reducible refine (HP.out w3 HB3.out).mono ?_); rintro e w5 ⟨hb5, A5, c5, rfl⟩; have HB5 := Lib.hid (stp HB3.out hb5); clear hb5)
    | fail)
  go_ret
  exact ⟨rfl, HB5.out⟩
theorem walk (A : Option Addr) (n cp : Nat) (l : List Pr) (s : ByteArray) (w : World) (hr : RdC PrC w w.heap.size A l) (hn : l.length = n) (hc : n ≤ cp) (hm : cp ≤ maxLen) (hz : A = none → cp = 0) (ws : s.size ≤ maxLen) (hX : Mx w) : Calls Try.prog 6 #[.slice A n cp, .string s] w fun e w' => e = .returned (.bool true) ∧ Below w.heap.size w w' := by
  have hx : n ≤ 9223372036854775807 := by unfold maxLen at hm; omega
  cases hg : greatH l with
  | true => exact back_great A n cp l s w hr hn hx hX hg
  | false =>
    by_cases hs : 3000 < s.size
    · exact back_long A n cp l s w hr hn hx hX hg hs
    · obtain ⟨tl, q, hw⟩ : ∃ t q, writeH l = (t, q) := ⟨_, _, rfl⟩
      have hw' : writeH l = ((⟨tl.toArray⟩ : ByteArray).data.toList, q) := by rw [hw]
      obtain ⟨ps, z, hp⟩ : ∃ ps z, parseH s.data.toList = (ps, z) := ⟨_, _, rfl⟩
      have hps : z = 0 ∨ (z ≠ 0 ∧ ps = []) := by
        have := parse_lits s.data.toList
        rw [hp] at this
        dsimp only at this
        rcases this with h | ⟨h1, h2⟩ | ⟨h1, h2⟩
        · exact .inl h
        · exact .inr ⟨by omega, h2⟩
        · exact .inr ⟨by omega, h2⟩
      by_cases hq : q = 0
      · subst hq
        rcases hps with rfl | ⟨h1, rfl⟩
        · exact back_wp A n cp l s w hr hn hx hX hg (by omega) _ hw' ps hp
        · exact back_wq A n cp l s w hr hn hx hX hg (by omega) _ hw' z (by simpa using h1) hp
      · rcases hps with rfl | ⟨h1, rfl⟩
        · exact back_np A n cp l s w hr hn hx hX hg (by omega) _ q (by simpa using hq) hw' ps hp
        · exact back_nq A n cp l s w hr hn hx hX hg (by omega) _ q (by simpa using hq) hw' z (by simpa using h1) hp

theorem mx {W : World} (h : W.ShapedOpen Try.prog) : Mx W := Go.Proofs.cell_of_shapedOpen_int (zero := #[.int .i64 0]) (t := 3) h (of_decide_eq_true (by kernel_rfl)) (by kernel_rfl) rfl (by kernel_rfl) (by kernel_rfl) Try.underlying3
set_option maxRecDepth 100000 in
theorem lifted (os : Os) (started : os.Started) (H : Type) (enc : TypeId × Value → H) :
    ReturnsInHanded {} Try.checked os 6 .any (Rows.headBackSpec.pre6 enc Try.prog Try.f6 Rows.headBackRow.domain false) (Rows.headBackSpec.post enc Try.prog Try.f6 false true false false) := by
  refine returnsInHanded_of_change_shaped (C := Try.checked) own started (by kernel_rfl) Try.func6
    (ChangeSpec.witness6 (enc := enc) (C := Try.checked) false ⟨#[], #[.slice none 0 0, .string ByteArray.empty], []⟩ 8 (by kernel_rfl) (by kernel_rfl) (by kernel_rfl) (by kernel_rfl)) ?_
  intro W base args ds gs before hval0 hW hcnd _ hsh _
  have hval : ∀ (j : Nat) t v, Try.f6.params[j]? = some t → args[j]? = some v → Value.okWide Try.prog W .any base t v := hval0
  have hW' := hW
  obtain ⟨p, q, hA0, hV, rfl, hfz, hnd⟩ := hW
  have hA : DataW.TrodAll enc Try.prog W 0 (fun _ => true) true Try.f6.params.toList args.toList ds p := hA0
  rw [Try.params6] at hA hval
  obtain ⟨v0, vs0, d0, ds0, p0, q0, hargs, rfl, rfl, h0, r0⟩ := trodAll_cons hA
  obtain ⟨v1, vs1, d1, ds1, p1, q1, rfl, rfl, rfl, h1, r1⟩ := trodAll_cons r0
  obtain ⟨rfl, rfl, rfl⟩ := trodAll_nil r1
  obtain rfl : args = #[v0, v1] := by cases args; simp_all
  obtain ⟨rfl, rfl⟩ := trodVars_none hV
  obtain ⟨a0, len0, cap0, rfl⟩ := okWide_slice Try.underlying28 (hval 0 28 v0 rfl rfl)
  have k0 := h0
  have lt0 : ∀ x ∈ p0, x.block < W.heap.size := by obtain ⟨m, hm⟩ := k0; exact DataW.trod_lt m _ _ _ hm
  obtain ⟨l0, w0, n0, c0, m0, z0⟩ : ∃ l : List Pr, RdC PrC W W.heap.size a0 l ∧ l.length = len0 ∧ len0 ≤ cap0 ∧ cap0 ≤ maxLen ∧ (a0 = none → cap0 = 0) := by
    obtain ⟨fuel, hf⟩ := h0
    obtain ⟨l, A, c, e1, e2, e3, e4, e5⟩ := opens_pairs14 _ _ _ _ _ _ hf
    simp [Value.cells] at e1
    obtain ⟨rfl, rfl, rfl⟩ := e1
    exact ⟨l, e5, rfl, e2, e3, e4⟩
  obtain ⟨a1, rfl, rfl, rfl, w1⟩ := open_string Try.underlying9 (hval 1 9 v1 rfl rfl) h1
  clear hA0 hval0
  refine (walk a0 len0 cap0 l0 a1 W w0 n0 c0 m0 z0 w1 (mx hsh)).mono fun e W' ⟨he, bel⟩ => ?_
  subst he
  exact ⟨_, rfl, _, _, _, [], _, [], hW', trodAll_mk1 (shut_bool Try.underlying4 _), (trodAll_cons_mk (Below.trod laidOut (by kernel_rfl) (of_decide_eq_true (by kernel_rfl)) k0 bel lt0) (trodAll_cons_mk (shut_string Try.underlying9 w1) trodAll_mk0)), rfl, bel.frame _, fun h => by cases h⟩

theorem over : Rows.headBackRow.holds Try.pinned (OpenSpec.ofChange Rows.headBackSpec) :=
  OpenClaim.holds_of_wide 6 Try.f6 rfl rfl rfl rfl rfl rfl rfl ⟨rfl, rfl, rfl, rfl, rfl⟩ rfl rfl rfl rfl rfl (by kernel_rfl) Try.func6 (by kernel_rfl)
    (of_decide_eq_true (by kernel_rfl)) (by unfold Func.isWrapper; first | (rw [if_pos (by decide +kernel)]; kernel_rfl) | (rw [if_neg (by decide +kernel)]; exact ⟨rfl, rfl⟩))
    (fun os started H enc _ => lifted os started H enc)

theorem proved : Rows.HeadBackSaid := over
end Go.Proofs.Ytfdhogaknlabkaa.headBack
