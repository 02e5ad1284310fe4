/-
  LexBack: what is written of tokens is read as these, and what is read, written again, is read as the same, for all tokens that are not more than the statement goes through and every text of at most 2,000 bytes.
-/
import Derived.Test.YtichboamakgabaaGreatDoorG25
import Derived.Test.YtichboamakgabaaGreatDoorCards
import Derived.Test.YtichboamakgabaaGreatDoorTie
import Derived.LaidMore
import Derived.LaidSub
import Derived.MakeChecks
import Derived.Stop.Joined
import Derived.Lib.LaidTab
import Derived.SevenTiedAt
import Derived.Lay
import Derived.Stop.LaidErr
import Derived.WalkKit
import Derived.ProofKit
import Derived.OpenShut
import Derived.ShutString
import Derived.ChangeOld
import Derived.Below
namespace Go.Proofs.YtichboamakgabaaGreatDoor.lexBack
open Go.ChangeShapes Go.WideShapes Go.ChangeAt Go.RowKit
open Go.ChangeMaps (open_string shut_string)
open Hx Lx Tx Nmb Es
set_option linter.unusedVariables false

theorem own : ownKnob Tryz.prog.godebug = none := by kernel_rfl
theorem laidOut : laidOutB Tryz.prog = true := by kernel_rfl

/-- What Great says no to. -/
theorem greatF_no {m : Nat} : ∀ (l : List Tk) (n : Nat), greatF m n l = false → ∀ t ∈ l, t.attrs.length ≤ 30 ∧ wTk t ≤ m
  | [], _, _, _, h => by cases h
  | a :: l, n, h, t, ht => by
    rw [greatF, Bool.or_eq_false_iff, Bool.or_eq_false_iff, decide_eq_false_iff_not, decide_eq_false_iff_not] at h
    rcases List.mem_cons.1 ht with e | e
    · subst e; omega
    · exact greatF_no l _ h.2 t e
theorem wPrs_mem : ∀ (l : List Pr) (p : Pr), p ∈ l → wPr p ≤ wPrs l
  | [], _, h => by cases h
  | a :: l, p, h => by
    have e : wPrs (a :: l) = wPr a + wPrs l := rfl
    rcases List.mem_cons.1 h with e2 | e2
    · subst e2; omega
    · have := wPrs_mem l p e2; omega
theorem great_no {l : List Tk} (h : greatT 2000 l = false) : l.length ≤ 600 ∧ ∀ t ∈ l, Small t := by
  unfold greatT at h
  rw [Bool.or_eq_false_iff, decide_eq_false_iff_not] at h
  obtain ⟨h1, h2⟩ := h
  rw [List.take_of_length_le (by omega)] at h1
  refine ⟨by omega, fun t ht => ?_⟩
  obtain ⟨k1, k2⟩ := greatF_no l 0 h1 t ht
  unfold wTk at k2
  rw [List.take_of_length_le (by omega)] at k2
  refine ⟨by omega, by omega, by omega, fun p hp => ?_⟩
  have := wPrs_mem _ p hp
  unfold wPr at this
  omega
set_option maxHeartbeats 2000000 in
set_option maxRecDepth 100000 in
theorem walkGreat (A : Option Addr) (n cp : Nat) (l : List Tk) (s : ByteArray) (w : World) (hr : RdC TkC w w.heap.size A l) (hn : l.length = n) (hmax : n ≤ 9223372036854775807) (hg : greatT 2000 l = true) (hE : Ev9 w := by first | assumption | exact Ev9.to (by assumption) (by assumption)) :
    Calls Tryz.prog 5 #[.slice A n cp, .string s] w fun e w' => e = .returned (.bool true) ∧ Below w.heap.size w w' := by
  have HGR : Hid (∀ W, Below w.heap.size w W → Calls Tryz.prog 21 #[.slice A n cp, .int .i64 2000] W fun e w' => e = .returned (.bool true) ∧ Below W.heap.size W w') := Lib.hid fun W hW => rgreat9 A n cp l 2000 W (hr.on hW) hn (by decide) hmax true hg
  clear hg hr hn hmax
  go_enter Tryz.func5, Tryz.ntmps5
  go_wp2_with (first
    | (go_at_call 13; (with_reducible refine (alive9 w (hE := hE.to (Below.refl _ _))).mono ?_); rintro e1 w1 ⟨rfl, hb1⟩; have HB1 := Lib.hid hb1; clear hb1)
    | (go_at_call 21; (with_reducible refine (HGR.out w1 HB1.out).mono ?_); rintro e2 w2 ⟨rfl, hb2⟩; have HB2 : Hid (Below w.heap.size w w2) := Lib.hid (bel_in9 HB1.out hb2); clear hb2)
    | fail)
  go_ret
  exact ⟨rfl, HB2.out⟩
set_option maxHeartbeats 2000000 in
set_option maxRecDepth 100000 in
theorem walkLong (A : Option Addr) (n cp : Nat) (l : List Tk) (s : ByteArray) (w : World) (hr : RdC TkC w w.heap.size A l) (hn : l.length = n) (hmax : n ≤ 9223372036854775807) (hg : greatT 2000 l = false) (hs : 2000 < s.size) (hE : Ev9 w := by first | assumption | exact Ev9.to (by assumption) (by assumption)) :
    Calls Tryz.prog 5 #[.slice A n cp, .string s] w fun e w' => e = .returned (.bool true) ∧ Below w.heap.size w w' := by
  have HGR : Hid (∀ W, Below w.heap.size w W → Calls Tryz.prog 21 #[.slice A n cp, .int .i64 2000] W fun e w' => e = .returned (.bool false) ∧ Below W.heap.size W w') := Lib.hid fun W hW => rgreat9 A n cp l 2000 W (hr.on hW) hn (by decide) hmax false hg
  have d1 : decide ((2000 : Int) < (s.size : Int)) = true := by simp; omega
  clear hg hr hn hmax hs
  go_enter Tryz.func5, Tryz.ntmps5
  go_wp2_with (first
    | (go_at_call 13; (with_reducible refine (alive9 w (hE := hE.to (Below.refl _ _))).mono ?_); rintro e1 w1 ⟨rfl, hb1⟩; have HB1 := Lib.hid hb1; clear hb1)
    | (go_at_call 21; (with_reducible refine (HGR.out w1 HB1.out).mono ?_); rintro e2 w2 ⟨rfl, hb2⟩; have HB2 : Hid (Below w.heap.size w w2) := Lib.hid (bel_in9 HB1.out hb2); clear hb2)
    | fail)
  go_ret
  exact ⟨rfl, HB2.out⟩
set_option maxHeartbeats 2000000 in
set_option maxRecDepth 100000 in
theorem walkOkOk (A : Option Addr) (n cp : Nat) (l : List Tk) (s : ByteArray) (w : World) (hr : RdC TkC w w.heap.size A l) (hn : l.length = n) (hmax : n ≤ 9223372036854775807) (hg : greatT 2000 l = false) (hs : s.size ≤ 2000) (x : ByteArray) (hj : joinR l = (x.data.toList, 0)) (ts : List Tk) (hl : lexR s.data.toList = (ts, 0, 0)) (hE : Ev9 w := by first | assumption | exact Ev9.to (by assumption) (by assumption)) :
    Calls Tryz.prog 5 #[.slice A n cp, .string s] w fun e w' => e = .returned (.bool true) ∧ Below w.heap.size w w' := by
  have HGR : Hid (∀ W, Below w.heap.size w W → Calls Tryz.prog 21 #[.slice A n cp, .int .i64 2000] W fun e w' => e = .returned (.bool false) ∧ Below W.heap.size W w') := Lib.hid fun W hW => rgreat9 A n cp l 2000 W (hr.on hW) hn (by decide) hmax false hg
  have d1 : decide ((2000 : Int) < (s.size : Int)) = false := by simp; omega
  obtain ⟨q1, q2⟩ := great_no hg
  have HJ1 : Hid (∀ W, Below w.heap.size w W → Calls Tryz.prog 10 #[.slice A n cp] W fun e' w' => e' = .returned (.tuple #[.string x, .int .i64 0]) ∧ Below W.heap.size W w') := Lib.hid fun W hW => join9 A n cp l W (hr.on hW) hn (by omega) q2 x 0 hj
  have hx := join_lex hj
  have hxs : x.size ≤ 16384 := by have := (lexR_ok hx).2.2.2.1; rwa [ba_l] at this
  have HA1 : Hid (∀ W, Below w.heap.size w W → Calls Tryz.prog 14 #[.string x, .slice A n cp] W fun e w' => e = .returned (.bool true) ∧ Below W.heap.size W w') := Lib.hid fun W hW => are_yes x A n cp l W (by omega) (hr.on hW) hn hx
  obtain ⟨k, hk⟩ : ∃ k, ts.length = k := ⟨_, rfl⟩
  obtain ⟨r1, r2, r3, r4, r5⟩ := lexR_all hl (by rw [ba_l]; exact hs)
  have hj2 := lex_join hl (by rw [ba_l]; exact hs)
  obtain ⟨y, hy⟩ : ∃ y : ByteArray, y.data.toList = ts.flatMap writeT := ⟨⟨(ts.flatMap writeT).toArray⟩, rfl⟩
  rw [← hy] at hj2
  have hy2 := join_lex hj2
  have hys : y.size ≤ 16384 := by have := (lexR_ok hy2).2.2.2.1; rwa [ba_l] at this
  have HLX : Hid (∀ W, Below w.heap.size w W → Calls Tryz.prog 9 #[.string s] W fun e w' => ∃ A c, e = .returned (.tuple #[.slice A k c, .int .i64 0, .int .i64 0]) ∧ TkIn ts A c w' ∧ Below W.heap.size W w') := Lib.hid fun W hW9 => hk ▸ lex9 s W (by omega) ts 0 0 hl
  have HJ2 : Hid (∀ A2 c2 W, TkIn ts A2 c2 W → Calls Tryz.prog 10 #[.slice A2 k c2] W fun e' w' => e' = .returned (.tuple #[.string y, .int .i64 0]) ∧ Below W.heap.size W w') := Lib.hid fun A2 c2 W h => join9 A2 k c2 ts W h.1 hk (by omega) (fun t ht => (r1 t ht).2) y 0 hj2
  have HA2 : Hid (∀ A2 c2 W, TkIn ts A2 c2 W → Below w.heap.size w W → Calls Tryz.prog 14 #[.string y, .slice A2 k c2] W fun e w' => e = .returned (.bool true) ∧ Below W.heap.size W w') := Lib.hid fun A2 c2 W h hW9 => are_yes y A2 k c2 ts W (by omega) h.1 hk hy2
  clear r1 r2 r3 r4 r5 hk hj2 hy hy2 hys
  clear q1 q2 hg hr hn hmax hs hj hl hx hxs
  go_enter Tryz.func5, Tryz.ntmps5
  go_wp2_with (first
    | (go_at_call 13; (with_reducible refine (alive9 w (hE := hE.to (Below.refl _ _))).mono ?_); rintro e1 w1 ⟨rfl, hb1⟩; have HB1 := Lib.hid hb1; clear hb1)
    | (go_at_call 21; (with_reducible refine (HGR.out w1 HB1.out).mono ?_); rintro e2 w2 ⟨rfl, hb2⟩; have HB2 : Hid (Below w.heap.size w w2) := Lib.hid (bel_in9 HB1.out hb2); clear hb2)
    | (go_at_call 10; (with_reducible refine (HJ1.out w2 HB2.out).mono ?_); rintro e3 w3 ⟨rfl, hb3⟩; have HB3 : Hid (Below w.heap.size w w3) := Lib.hid (bel_in9 HB2.out hb3); clear hb3)
    | (go_at_call 14; (with_reducible refine (HA1.out w3 HB3.out).mono ?_); rintro e4 w4 ⟨rfl, hb4⟩; have HB4 : Hid (Below w.heap.size w w4) := Lib.hid (bel_in9 HB3.out hb4); clear hb4)
    | (go_at_call 9; (with_reducible refine (HLX.out w4 HB4.out).mono ?_); rintro e5 w5 ⟨A2, c2, rfl, hi5, hb5⟩; have HB5 : Hid (Below w.heap.size w w5) := Lib.hid (bel_in9 HB4.out hb5); have HI5 := Lib.hid hi5; clear hi5 hb5)
    | (go_at_call 10; (with_reducible refine (HJ2.out A2 c2 w5 HI5.out).mono ?_); rintro e6 w6 ⟨rfl, hb6⟩; have HB6 : Hid (Below w.heap.size w w6) := Lib.hid (bel_in9 HB5.out hb6); have HI6 := Lib.hid (HI5.out.on hb6); clear hb6)
    | (go_at_call 14; (with_reducible refine (HA2.out A2 c2 w6 HI6.out HB6.out).mono ?_); rintro e7 w7 ⟨rfl, hb7⟩; have HB7 : Hid (Below w.heap.size w w7) := Lib.hid (bel_in9 HB6.out hb7); clear hb7)
    | fail)
  go_ret
  exact ⟨rfl, HB7.out⟩
set_option maxHeartbeats 2000000 in
set_option maxRecDepth 100000 in
theorem walkOkNo (A : Option Addr) (n cp : Nat) (l : List Tk) (s : ByteArray) (w : World) (hr : RdC TkC w w.heap.size A l) (hn : l.length = n) (hmax : n ≤ 9223372036854775807) (hg : greatT 2000 l = false) (hs : s.size ≤ 2000) (x : ByteArray) (hj : joinR l = (x.data.toList, 0)) (m er : Int) (her : er ≠ 0) (hl : lexR s.data.toList = ([], m, er)) (hE : Ev9 w := by first | assumption | exact Ev9.to (by assumption) (by assumption)) :
    Calls Tryz.prog 5 #[.slice A n cp, .string s] w fun e w' => e = .returned (.bool true) ∧ Below w.heap.size w w' := by
  have HGR : Hid (∀ W, Below w.heap.size w W → Calls Tryz.prog 21 #[.slice A n cp, .int .i64 2000] W fun e w' => e = .returned (.bool false) ∧ Below W.heap.size W w') := Lib.hid fun W hW => rgreat9 A n cp l 2000 W (hr.on hW) hn (by decide) hmax false hg
  have d1 : decide ((2000 : Int) < (s.size : Int)) = false := by simp; omega
  obtain ⟨q1, q2⟩ := great_no hg
  have HJ1 : Hid (∀ W, Below w.heap.size w W → Calls Tryz.prog 10 #[.slice A n cp] W fun e' w' => e' = .returned (.tuple #[.string x, .int .i64 0]) ∧ Below W.heap.size W w') := Lib.hid fun W hW => join9 A n cp l W (hr.on hW) hn (by omega) q2 x 0 hj
  have hx := join_lex hj
  have hxs : x.size ≤ 16384 := by have := (lexR_ok hx).2.2.2.1; rwa [ba_l] at this
  have HA1 : Hid (∀ W, Below w.heap.size w W → Calls Tryz.prog 14 #[.string x, .slice A n cp] W fun e w' => e = .returned (.bool true) ∧ Below W.heap.size W w') := Lib.hid fun W hW => are_yes x A n cp l W (by omega) (hr.on hW) hn hx
  have HLX : Hid (∀ W, Below w.heap.size w W → Calls Tryz.prog 9 #[.string s] W fun e w' => ∃ A c, e = .returned (.tuple #[.slice A 0 c, .int .i64 m, .int .i64 er]) ∧ TkIn [] A c w' ∧ Below W.heap.size W w') := Lib.hid fun W hW9 => lex9 s W (by omega) [] m er hl
  have g1 : (er != 0) = true := by simpa using her
  clear q1 q2 hg hr hn hmax hs hj hl hx hxs her
  go_enter Tryz.func5, Tryz.ntmps5
  go_wp2_with (first
    | (go_at_call 13; (with_reducible refine (alive9 w (hE := hE.to (Below.refl _ _))).mono ?_); rintro e1 w1 ⟨rfl, hb1⟩; have HB1 := Lib.hid hb1; clear hb1)
    | (go_at_call 21; (with_reducible refine (HGR.out w1 HB1.out).mono ?_); rintro e2 w2 ⟨rfl, hb2⟩; have HB2 : Hid (Below w.heap.size w w2) := Lib.hid (bel_in9 HB1.out hb2); clear hb2)
    | (go_at_call 10; (with_reducible refine (HJ1.out w2 HB2.out).mono ?_); rintro e3 w3 ⟨rfl, hb3⟩; have HB3 : Hid (Below w.heap.size w w3) := Lib.hid (bel_in9 HB2.out hb3); clear hb3)
    | (go_at_call 14; (with_reducible refine (HA1.out w3 HB3.out).mono ?_); rintro e4 w4 ⟨rfl, hb4⟩; have HB4 : Hid (Below w.heap.size w w4) := Lib.hid (bel_in9 HB3.out hb4); clear hb4)
    | (go_at_call 9; (with_reducible refine (HLX.out w4 HB4.out).mono ?_); rintro e5 w5 ⟨A2, c2, rfl, hi5, hb5⟩; have HB5 : Hid (Below w.heap.size w w5) := Lib.hid (bel_in9 HB4.out hb5); have HI5 := Lib.hid hi5; clear hi5 hb5)
    | fail)
  go_ret
  exact ⟨rfl, HB5.out⟩
set_option maxHeartbeats 2000000 in
set_option maxRecDepth 100000 in
theorem walkNoOk (A : Option Addr) (n cp : Nat) (l : List Tk) (s : ByteArray) (w : World) (hr : RdC TkC w w.heap.size A l) (hn : l.length = n) (hmax : n ≤ 9223372036854775807) (hg : greatT 2000 l = false) (hs : s.size ≤ 2000) (x : ByteArray) (e : Int) (he : e ≠ 0) (hj : joinR l = (x.data.toList, e)) (ts : List Tk) (hl : lexR s.data.toList = (ts, 0, 0)) (hE : Ev9 w := by first | assumption | exact Ev9.to (by assumption) (by assumption)) :
    Calls Tryz.prog 5 #[.slice A n cp, .string s] w fun e w' => e = .returned (.bool true) ∧ Below w.heap.size w w' := by
  have HGR : Hid (∀ W, Below w.heap.size w W → Calls Tryz.prog 21 #[.slice A n cp, .int .i64 2000] W fun e w' => e = .returned (.bool false) ∧ Below W.heap.size W w') := Lib.hid fun W hW => rgreat9 A n cp l 2000 W (hr.on hW) hn (by decide) hmax false hg
  have d1 : decide ((2000 : Int) < (s.size : Int)) = false := by simp; omega
  obtain ⟨q1, q2⟩ := great_no hg
  have HJ1 : Hid (∀ W, Below w.heap.size w W → Calls Tryz.prog 10 #[.slice A n cp] W fun e' w' => e' = .returned (.tuple #[.string x, .int .i64 e]) ∧ Below W.heap.size W w') := Lib.hid fun W hW => join9 A n cp l W (hr.on hW) hn (by omega) q2 x e hj
  have g0 : (e == 0) = false := by simpa using he
  obtain ⟨k, hk⟩ : ∃ k, ts.length = k := ⟨_, rfl⟩
  obtain ⟨r1, r2, r3, r4, r5⟩ := lexR_all hl (by rw [ba_l]; exact hs)
  have hj2 := lex_join hl (by rw [ba_l]; exact hs)
  obtain ⟨y, hy⟩ : ∃ y : ByteArray, y.data.toList = ts.flatMap writeT := ⟨⟨(ts.flatMap writeT).toArray⟩, rfl⟩
  rw [← hy] at hj2
  have hy2 := join_lex hj2
  have hys : y.size ≤ 16384 := by have := (lexR_ok hy2).2.2.2.1; rwa [ba_l] at this
  have HLX : Hid (∀ W, Below w.heap.size w W → Calls Tryz.prog 9 #[.string s] W fun e w' => ∃ A c, e = .returned (.tuple #[.slice A k c, .int .i64 0, .int .i64 0]) ∧ TkIn ts A c w' ∧ Below W.heap.size W w') := Lib.hid fun W hW9 => hk ▸ lex9 s W (by omega) ts 0 0 hl
  have HJ2 : Hid (∀ A2 c2 W, TkIn ts A2 c2 W → Calls Tryz.prog 10 #[.slice A2 k c2] W fun e' w' => e' = .returned (.tuple #[.string y, .int .i64 0]) ∧ Below W.heap.size W w') := Lib.hid fun A2 c2 W h => join9 A2 k c2 ts W h.1 hk (by omega) (fun t ht => (r1 t ht).2) y 0 hj2
  have HA2 : Hid (∀ A2 c2 W, TkIn ts A2 c2 W → Below w.heap.size w W → Calls Tryz.prog 14 #[.string y, .slice A2 k c2] W fun e w' => e = .returned (.bool true) ∧ Below W.heap.size W w') := Lib.hid fun A2 c2 W h hW9 => are_yes y A2 k c2 ts W (by omega) h.1 hk hy2
  clear r1 r2 r3 r4 r5 hk hj2 hy hy2 hys
  clear q1 q2 hg hr hn hmax hs hj hl he
  go_enter Tryz.func5, Tryz.ntmps5
  go_wp2_with (first
    | (go_at_call 13; (with_reducible refine (alive9 w (hE := hE.to (Below.refl _ _))).mono ?_); rintro e1 w1 ⟨rfl, hb1⟩; have HB1 := Lib.hid hb1; clear hb1)
    | (go_at_call 21; (with_reducible refine (HGR.out w1 HB1.out).mono ?_); rintro e2 w2 ⟨rfl, hb2⟩; have HB2 : Hid (Below w.heap.size w w2) := Lib.hid (bel_in9 HB1.out hb2); clear hb2)
    | (go_at_call 10; (with_reducible refine (HJ1.out w2 HB2.out).mono ?_); rintro e3 w3 ⟨rfl, hb3⟩; have HB3 : Hid (Below w.heap.size w w3) := Lib.hid (bel_in9 HB2.out hb3); clear hb3)
    | (go_at_call 9; (with_reducible refine (HLX.out w3 HB3.out).mono ?_); rintro e5 w5 ⟨A2, c2, rfl, hi5, hb5⟩; have HB5 : Hid (Below w.heap.size w w5) := Lib.hid (bel_in9 HB3.out hb5); have HI5 := Lib.hid hi5; clear hi5 hb5)
    | (go_at_call 10; (with_reducible refine (HJ2.out A2 c2 w5 HI5.out).mono ?_); rintro e6 w6 ⟨rfl, hb6⟩; have HB6 : Hid (Below w.heap.size w w6) := Lib.hid (bel_in9 HB5.out hb6); have HI6 := Lib.hid (HI5.out.on hb6); clear hb6)
    | (go_at_call 14; (with_reducible refine (HA2.out A2 c2 w6 HI6.out HB6.out).mono ?_); rintro e7 w7 ⟨rfl, hb7⟩; have HB7 : Hid (Below w.heap.size w w7) := Lib.hid (bel_in9 HB6.out hb7); clear hb7)
    | fail)
  go_ret
  exact ⟨rfl, HB7.out⟩
set_option maxHeartbeats 2000000 in
set_option maxRecDepth 100000 in
theorem walkNoNo (A : Option Addr) (n cp : Nat) (l : List Tk) (s : ByteArray) (w : World) (hr : RdC TkC w w.heap.size A l) (hn : l.length = n) (hmax : n ≤ 9223372036854775807) (hg : greatT 2000 l = false) (hs : s.size ≤ 2000) (x : ByteArray) (e : Int) (he : e ≠ 0) (hj : joinR l = (x.data.toList, e)) (m er : Int) (her : er ≠ 0) (hl : lexR s.data.toList = ([], m, er)) (hE : Ev9 w := by first | assumption | exact Ev9.to (by assumption) (by assumption)) :
    Calls Tryz.prog 5 #[.slice A n cp, .string s] w fun e w' => e = .returned (.bool true) ∧ Below w.heap.size w w' := by
  have HGR : Hid (∀ W, Below w.heap.size w W → Calls Tryz.prog 21 #[.slice A n cp, .int .i64 2000] W fun e w' => e = .returned (.bool false) ∧ Below W.heap.size W w') := Lib.hid fun W hW => rgreat9 A n cp l 2000 W (hr.on hW) hn (by decide) hmax false hg
  have d1 : decide ((2000 : Int) < (s.size : Int)) = false := by simp; omega
  obtain ⟨q1, q2⟩ := great_no hg
  have HJ1 : Hid (∀ W, Below w.heap.size w W → Calls Tryz.prog 10 #[.slice A n cp] W fun e' w' => e' = .returned (.tuple #[.string x, .int .i64 e]) ∧ Below W.heap.size W w') := Lib.hid fun W hW => join9 A n cp l W (hr.on hW) hn (by omega) q2 x e hj
  have g0 : (e == 0) = false := by simpa using he
  have HLX : Hid (∀ W, Below w.heap.size w W → Calls Tryz.prog 9 #[.string s] W fun e w' => ∃ A c, e = .returned (.tuple #[.slice A 0 c, .int .i64 m, .int .i64 er]) ∧ TkIn [] A c w' ∧ Below W.heap.size W w') := Lib.hid fun W hW9 => lex9 s W (by omega) [] m er hl
  have g1 : (er != 0) = true := by simpa using her
  clear q1 q2 hg hr hn hmax hs hj hl he her
  go_enter Tryz.func5, Tryz.ntmps5
  go_wp2_with (first
    | (go_at_call 13; (with_reducible refine (alive9 w (hE := hE.to (Below.refl _ _))).mono ?_); rintro e1 w1 ⟨rfl, hb1⟩; have HB1 := Lib.hid hb1; clear hb1)
    | (go_at_call 21; (with_reducible refine (HGR.out w1 HB1.out).mono ?_); rintro e2 w2 ⟨rfl, hb2⟩; have HB2 : Hid (Below w.heap.size w w2) := Lib.hid (bel_in9 HB1.out hb2); clear hb2)
    | (go_at_call 10; (with_reducible refine (HJ1.out w2 HB2.out).mono ?_); rintro e3 w3 ⟨rfl, hb3⟩; have HB3 : Hid (Below w.heap.size w w3) := Lib.hid (bel_in9 HB2.out hb3); clear hb3)
    | (go_at_call 9; (with_reducible refine (HLX.out w3 HB3.out).mono ?_); rintro e5 w5 ⟨A2, c2, rfl, hi5, hb5⟩; have HB5 : Hid (Below w.heap.size w w5) := Lib.hid (bel_in9 HB3.out hb5); have HI5 := Lib.hid hi5; clear hi5 hb5)
    | fail)
  go_ret
  exact ⟨rfl, HB5.out⟩
theorem walk (a0 : Option Addr) (len0 cap0 : Nat) (l0 : List Tk) (a1 : ByteArray) (w : World) (w0 : RdC TkC w w.heap.size a0 l0) (n0 : l0.length = len0) (c0 : len0 ≤ cap0) (m0 : cap0 ≤ maxLen) (z0 : a0 = none → cap0 = 0) (w1 : a1.size ≤ maxLen) (hE : Ev9 w := by first | assumption | exact Ev9.to (by assumption) (by assumption)) :
    Calls Tryz.prog 5 #[.slice a0 len0 cap0, .string a1] w fun e w' => e = .returned (.bool true) ∧ Below w.heap.size w w' := by
  have hmax : len0 ≤ 9223372036854775807 := by unfold maxLen at m0; omega
  cases hg : greatT 2000 l0 with
  | true => exact walkGreat a0 len0 cap0 l0 a1 w w0 n0 hmax hg
  | false =>
    by_cases hs : 2000 < a1.size
    · exact walkLong a0 len0 cap0 l0 a1 w w0 n0 hmax hg hs
    have hs : a1.size ≤ 2000 := by omega
    obtain ⟨xl, e, hj⟩ : ∃ xl e, joinR l0 = (xl, e) := ⟨_, _, rfl⟩
    obtain ⟨x, hx⟩ : ∃ x : ByteArray, x.data.toList = xl := ⟨⟨xl.toArray⟩, rfl⟩
    subst hx
    obtain ⟨ts, m, er, hl⟩ : ∃ ts m er, lexR a1.data.toList = (ts, m, er) := ⟨_, _, _, rfl⟩
    by_cases her : er = 0
    · subst her
      have hm0 := (lexR_ok hl).1
      subst hm0
      by_cases he : e = 0
      · subst he
        exact walkOkOk a0 len0 cap0 l0 a1 w w0 n0 hmax hg hs x hj ts hl
      · exact walkNoOk a0 len0 cap0 l0 a1 w w0 n0 hmax hg hs x e he hj ts hl
    · rw [(lexR_bad hl her).1] at hl
      by_cases he : e = 0
      · subst he
        exact walkOkNo a0 len0 cap0 l0 a1 w w0 n0 hmax hg hs x hj m er her hl
      · exact walkNoNo a0 len0 cap0 l0 a1 w w0 n0 hmax hg hs x e he hj m er her hl

theorem gErr : Tryz.prog.globalNamed "strconv.ErrSyntax" = some 3 := by kernel_rfl
theorem gErrT : (Tryz.prog.globals[3]?).map (·.type) = some 72 := by kernel_rfl
theorem starE : "*" ++ "errors.errorString" = "*errors.errorString" := by decide
theorem rowE (u : TypeId) (h : Tryz.prog.typeName? 3 u = some "*errors.errorString") : u = 156 :=
  typeName_ptr_named (nm := "errors.errorString") (by rw [starE]; kernel_rfl) (by kernel_rfl) (by decide) u (by rw [starE]; exact h)
theorem erred {W : World} (h : laidMetH Tryz.prog Rows.lexBackRow.laid W) : Ev W := by
  rw [MakeChecks.laidMetH_plain _ _ _ (by kernel_rfl)] at h
  have h2 := laidMet.filter (fun x => x.1 == "strconv.ErrSyntax") h
  have e : Rows.lexBackRow.laid.filter (fun x => x.1 == "strconv.ErrSyntax") = [("strconv.ErrSyntax", Rows.laid_strconv_ErrSyntax)] := by kernel_rfl
  rw [e] at h2
  obtain ⟨a, s, h3, _⟩ := laid_sentinel (r := []) h2 gErr gErrT Tryz.underlying72 rowE Tryz.underlying156 Tryz.underlying158 rfl rfl Tryz.underlying9 (by kernel_rfl) (by kernel_rfl)
  exact ⟨_, _, by simpa using World.var?_cell gErr h3 0⟩
theorem reads_first {W : World} (h : laidMetH Tryz.prog Rows.lexBackRow.laid W) : Lib.VarReads Tryz.prog W "unicode/utf8.first" Lib.firstData := by
  rw [MakeChecks.laidMetH_plain _ _ _ (by kernel_rfl)] at h
  have h2 := laidMet.filter (fun x => x.1 == "unicode/utf8.first") h
  have e : Rows.lexBackRow.laid.filter (fun x => x.1 == "unicode/utf8.first") = [("unicode/utf8.first", Lib.firstData)] := by kernel_rfl
  rw [e] at h2
  exact Lib.laidMet.reads h2 (.head _)
theorem reads_acceptRanges {W : World} (h : laidMetH Tryz.prog Rows.lexBackRow.laid W) : Lib.VarReads Tryz.prog W "unicode/utf8.acceptRanges" Lib.acceptData := by
  rw [MakeChecks.laidMetH_plain _ _ _ (by kernel_rfl)] at h
  have h2 := laidMet.filter (fun x => x.1 == "unicode/utf8.acceptRanges") h
  have e : Rows.lexBackRow.laid.filter (fun x => x.1 == "unicode/utf8.acceptRanges") = [("unicode/utf8.acceptRanges", Lib.acceptData)] := by kernel_rfl
  rw [e] at h2
  exact Lib.laidMet.reads h2 (.head _)
theorem laid9 {W : World} (h : laidMetH Tryz.prog Rows.lexBackRow.laid W) : Ev9 W := ⟨erred h, tabs9 (reads_first h) (reads_acceptRanges h)⟩
set_option maxRecDepth 100000 in
theorem lifted (os : Os) (started : os.Started) (H : Type) (enc : TypeId × Value → H) :
    ReturnsInHanded {} Tryz.checked os 5 .any (fun w args => (Rows.lexBackSpec.pre enc Tryz.prog Tryz.f5 [] false w args ∧ laidMetH Tryz.prog Rows.lexBackRow.laid w) ∧ sizedMet enc Tryz.prog Tryz.f5 (OpenSpec.ofChange Rows.lexBackSpec) false w args) (Rows.lexBackSpec.post enc Tryz.prog Tryz.f5 false true false false) := by
  refine returnsInHanded_of_change_and (C := Tryz.checked) (X := fun w _ => laidMetH Tryz.prog Rows.lexBackRow.laid w) (fun _ _ _ hh h => h.of_heap hh) own started (by kernel_rfl) Tryz.func5
    (ChangeSpec.witness_shaped (enc := enc) (C := Tryz.checked) (os := os) (X := fun w _ => laidMetH Tryz.prog Rows.lexBackRow.laid w) false (World.laidAll Tryz.prog os Rows.lexBackRow.laid) #[.slice none 0 0, .string ByteArray.empty] 8 (World.laidAll_os _ _ _) (World.shaped_of_ZipB (by kernel_rfl) (by kernel_rfl)) (by kernel_rfl) (by kernel_rfl) (by kernel_rfl)
      (by rw [MakeChecks.laidMetH_plain _ _ _ (by kernel_rfl)]; exact laidMet_laidAll _ (by kernel_rfl) (by kernel_rfl))) ?_
  intro W base args ds gs before hval0 hW _ _ hL _
  have hval : ∀ (j : Nat) t v, Tryz.f5.params[j]? = some t → args[j]? = some v → Value.okWide Tryz.prog W .any base t v := hval0
  have hW' := hW
  obtain ⟨p, q, hA0, hV, rfl, hfz, hnd⟩ := hW
  have hA : DataW.TrodAll enc Tryz.prog W 0 (fun _ => true) true Tryz.f5.params.toList args.toList ds p := hA0
  rw [Tryz.params5] at hA hval
  obtain ⟨v0, vs0, d0, ds0, p0, q0, hargs, rfl, rfl, h0, r0⟩ := trodAll_cons hA
  obtain ⟨v1, vs1, d1, ds1, p1, q1, rfl, rfl, rfl, h1, r1⟩ := trodAll_cons r0
  obtain ⟨rfl, rfl, rfl⟩ := trodAll_nil r1
  obtain rfl : args = #[v0, v1] := by cases args; simp_all
  obtain ⟨rfl, rfl⟩ := trodVars_none hV
  obtain ⟨a0, len0, cap0, rfl⟩ := okWide_slice Tryz.underlying23 (hval 0 23 v0 rfl rfl)
  have k0 := h0
  have lt0 : ∀ x ∈ p0, x.block < W.heap.size := by obtain ⟨m, hm⟩ := k0; exact DataW.trod_lt m _ _ _ hm
  obtain ⟨l0, w0, n0, c0, m0, z0⟩ : ∃ l : List Tk, RdC TkC W W.heap.size a0 l ∧ l.length = len0 ∧ len0 ≤ cap0 ∧ cap0 ≤ maxLen ∧ (a0 = none → cap0 = 0) := by
    obtain ⟨fuel, hf⟩ := h0
    obtain ⟨l, A, c, e1, e2, e3, e4, e5⟩ := opens_tokens _ _ _ _ _ _ hf
    simp [Value.cells] at e1
    obtain ⟨rfl, rfl, rfl⟩ := e1
    exact ⟨l, e5, rfl, e2, e3, e4⟩
  obtain ⟨a1, rfl, rfl, rfl, w1⟩ := open_string Tryz.underlying9 (hval 1 9 v1 rfl rfl) h1
  clear hA0 hval0
  refine (walk a0 len0 cap0 l0 a1 W w0 n0 c0 m0 z0 w1 (laid9 hL)).mono fun e W' ⟨he, bel⟩ => ?_
  subst he
  exact ⟨_, rfl, _, _, _, [], _, [], hW', trodAll_mk1 (shut_bool Tryz.underlying4 _), (trodAll_cons_mk (Below.trod laidOut (by kernel_rfl) (of_decide_eq_true (by kernel_rfl)) k0 bel lt0) (trodAll_cons_mk (shut_string Tryz.underlying9 w1) trodAll_mk0)), rfl, bel.frame _, fun h => by cases h⟩

theorem over : Rows.lexBackRow.holds Tryz.pinned (OpenSpec.ofChange Rows.lexBackSpec) :=
  OpenClaim.holds_of_wide 5 Tryz.f5 rfl rfl rfl rfl rfl rfl rfl ⟨rfl, rfl, rfl, rfl, rfl⟩ rfl rfl rfl rfl rfl (by kernel_rfl) Tryz.func5 (by kernel_rfl)
    (of_decide_eq_true (by kernel_rfl)) (by unfold Func.isWrapper; first | (rw [if_pos (by decide +kernel)]; kernel_rfl) | (rw [if_neg (by decide +kernel)]; exact ⟨rfl, rfl⟩))
    (fun os started H enc _ => lifted os started H enc)

theorem said : Rows.LexBackSaid := over
theorem plain (f : FuncId) (fn : Func) (hf : Tryz.pinned.checked.prog.funcNamed "tidewaiter/tidewaiterlaw09.LexBack" = some f) (hfn : Tryz.pinned.checked.prog.funcs[f]? = some fn) :
    true = Tryz.pinned.checked.prog.looks [] ∧ ∀ (j : Nat) t, fn.params[j]? = some t → Tryz.pinned.checked.prog.wantsStandIn t = false := by
  obtain rfl : f = 5 := Option.some.inj ((show Tryz.prog.funcNamed "tidewaiter/tidewaiterlaw09.LexBack" = some 5 by kernel_rfl).symm.trans hf) |>.symm
  obtain rfl : fn = Tryz.f5 := (Option.some.inj (Tryz.func5.symm.trans hfn)).symm
  refine ⟨by kernel_rfl, fun j t ht => ?_⟩
  rw [Tryz.params5] at ht
  have hm : t ∈ [23, 9] := by simpa using Array.mem_of_getElem? ht
  have hall : ([23, 9].all fun u => !Tryz.prog.wantsStandIn u) = true := by kernel_rfl
  exact (show Tryz.prog.wantsStandIn t = false by simpa using List.all_eq_true.1 hall t hm)
theorem proved : Rows.LexBackCardSaid :=
  Claim7.holds_tied_plain_at .later [] _ _ _ _ said (fun _ h => by cases h) (by kernel_rfl) (fun _ h => by cases h) lexBack_row_tie rfl ⟨rfl, rfl⟩ (by kernel_rfl) rfl plain (by kernel_rfl)
end Go.Proofs.YtichboamakgabaaGreatDoor.lexBack
