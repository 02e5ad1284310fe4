/-
  LexNames: the limits' and errors' numbers, and the chapter's examples.
-/
import Derived.Test.YtichboamakgabaaGreatDoorG25
import Derived.Test.YtichboamakgabaaGreatDoorCards
import Derived.Test.YtichboamakgabaaGreatDoorTie
import Derived.LaidMore
import Derived.LaidSub
import Derived.MakeChecks
import Derived.Stop.Joined
import Derived.Lib.LaidTab
import Derived.SevenTiedAt
import Derived.Lay
import Derived.Stop.LaidErr
import Derived.WalkKit
import Derived.ProofKit
import Derived.OpenShut
import Derived.ShutString
import Derived.ChangeOld
import Derived.Below
namespace Go.Proofs.YtichboamakgabaaGreatDoor.lexNames
open Go.ChangeShapes Go.WideShapes Go.ChangeAt Go.RowKit
open Go.ChangeMaps (open_string shut_string)
open Hx Lx Tx Nmb Es
set_option linter.unusedVariables false

theorem own : ownKnob Tryz.prog.godebug = none := by kernel_rfl
theorem laidOut : laidOutB Tryz.prog = true := by kernel_rfl

set_option maxRecDepth 100000 in
theorem nm_o0 (w : World) (hE : Ev9 w := by first | assumption | exact Ev9.to (by assumption) (by assumption)) : Calls Tryz.prog 8 #[.string ⟨#[60, 97, 32, 98, 61, 34, 49, 34, 99, 61, 34, 50, 34, 62]⟩, .int .i64 0] w fun e w' => e = .returned (.bool true) ∧ Below w.heap.size w w' := odd_yes9 _ 0 w (by decide) (by decide +kernel)
set_option maxRecDepth 100000 in
theorem nm_o1 (w : World) (hE : Ev9 w := by first | assumption | exact Ev9.to (by assumption) (by assumption)) : Calls Tryz.prog 8 #[.string ⟨#[60, 97, 32, 98, 61, 34, 49, 34, 32, 98, 61, 34, 50, 34, 62]⟩, .int .i64 0] w fun e w' => e = .returned (.bool true) ∧ Below w.heap.size w w' := odd_yes9 _ 0 w (by decide) (by decide +kernel)
set_option maxRecDepth 100000 in
theorem nm_o2 (w : World) (hE : Ev9 w := by first | assumption | exact Ev9.to (by assumption) (by assumption)) : Calls Tryz.prog 8 #[.string ⟨#[60, 33, 45, 45, 32, 45, 45, 62]⟩, .int .i64 0] w fun e w' => e = .returned (.bool true) ∧ Below w.heap.size w w' := odd_yes9 _ 0 w (by decide) (by decide +kernel)
set_option maxRecDepth 100000 in
theorem nm_o3 (w : World) (hE : Ev9 w := by first | assumption | exact Ev9.to (by assumption) (by assumption)) : Calls Tryz.prog 8 #[.string ⟨#[60, 97]⟩, .int .i64 0] w fun e w' => e = .returned (.bool true) ∧ Below w.heap.size w w' := odd_yes9 _ 0 w (by decide) (by decide +kernel)
set_option maxRecDepth 100000 in
theorem nm_o4 (w : World) (hE : Ev9 w := by first | assumption | exact Ev9.to (by assumption) (by assumption)) : Calls Tryz.prog 8 #[.string ⟨#[60, 32, 97, 62]⟩, .int .i64 0] w fun e w' => e = .returned (.bool true) ∧ Below w.heap.size w w' := odd_yes9 _ 0 w (by decide) (by decide +kernel)
set_option maxRecDepth 100000 in
theorem nm_o5 (w : World) (hE : Ev9 w := by first | assumption | exact Ev9.to (by assumption) (by assumption)) : Calls Tryz.prog 8 #[.string ⟨#[60, 63, 120, 109, 108, 63, 62]⟩, .int .i64 0] w fun e w' => e = .returned (.bool true) ∧ Below w.heap.size w w' := odd_yes9 _ 0 w (by decide) (by decide +kernel)
set_option maxRecDepth 100000 in
theorem nm_o6 (w : World) (hE : Ev9 w := by first | assumption | exact Ev9.to (by assumption) (by assumption)) : Calls Tryz.prog 8 #[.string ⟨#[120, 60, 97, 32, 98, 61, 49, 62]⟩, .int .i64 1] w fun e w' => e = .returned (.bool true) ∧ Below w.heap.size w w' := odd_yes9 _ 1 w (by decide) (by decide +kernel)
set_option maxRecDepth 100000 in
theorem nm_o7 (w : World) (hE : Ev9 w := by first | assumption | exact Ev9.to (by assumption) (by assumption)) : Calls Tryz.prog 8 #[.string ⟨#[60, 97, 47, 62, 38]⟩, .int .i64 4] w fun e w' => e = .returned (.bool true) ∧ Below w.heap.size w w' := odd_yes9 _ 4 w (by decide) (by decide +kernel)
set_option maxRecDepth 100000 in
theorem nm_o8 (w : World) (hE : Ev9 w := by first | assumption | exact Ev9.to (by assumption) (by assumption)) : Calls Tryz.prog 8 #[.string ⟨#[60, 58, 97, 62]⟩, .int .i64 0] w fun e w' => e = .returned (.bool true) ∧ Below w.heap.size w w' := odd_yes9 _ 0 w (by decide) (by decide +kernel)
set_option maxRecDepth 100000 in
theorem nm_o9 (w : World) (hE : Ev9 w := by first | assumption | exact Ev9.to (by assumption) (by assumption)) : Calls Tryz.prog 8 #[.string ⟨#[60, 97, 58, 98, 58, 99, 62]⟩, .int .i64 0] w fun e w' => e = .returned (.bool true) ∧ Below w.heap.size w w' := odd_yes9 _ 0 w (by decide) (by decide +kernel)
/-- Many attributes. -/
def atr : Nat → List UInt8
  | 0 => []
  | k + 1 => atr k ++ [32, 97, UInt8.ofNat (97 + k), 61, 39, 39]
set_option maxRecDepth 100000 in
theorem atr_17 : lexR (60 :: 97 :: (atr 17 ++ [47, 62])) = ([], 0, 4) := by decide +kernel
theorem row_pair (w : World) (x v : ByteArray) (p : Pr) (hx : x.data.toList = p.name) (hv : v.data.toList = p.value) (T : TypeId) : RdC PrC (w.alloc (.cells #[.string x, .string v] T)) (w.alloc (.cells #[.string x, .string v] T)).heap.size (some ⟨w.heap.size, 0, none⟩) [p] :=
  rdc_row [p] fun j hj => match j, hj with
    | 0, _ => ⟨[.string x, .string v], ⟨x, v, rfl, hx, hv⟩, fun i hi => match i, hi with
      | 0, _ => rfl
      | 1, _ => rfl⟩
theorem row_tok (w : World) (x u : ByteArray) (A : Option Addr) (t : Tk) (kd : Int) (n c : Nat) (hk : (t.kind : Int) = kd) (hk2 : t.kind < 256) (hx : x.data.toList = t.name) (hu : u.data.toList = t.text) (hn : t.attrs.length = n) (hc : n ≤ c) (hm : c ≤ maxLen) (hA : A = none → c = 0) (hr : RdC PrC w w.heap.size A t.attrs) (T : TypeId) :
    RdC TkC (w.alloc (.cells #[.int .u8 kd, .string x, .slice A n c, .string u] T)) (w.alloc (.cells #[.int .u8 kd, .string x, .slice A n c, .string u] T)).heap.size (some ⟨w.heap.size, 0, none⟩) [t] := by
  subst hk hn
  exact rdc_row [t] fun j hj => match j, hj with
    | 0, _ => ⟨[.int .u8 (t.kind : Int), .string x, .slice A t.attrs.length c, .string u], ⟨x, A, c, u, rfl, hk2, hx, hu, hc, hm, hA, hr.on ((Below.refl _ _).alloc (Nat.le_refl _) _)⟩, fun i hi => match i, hi with
      | 0, _ => rfl
      | 1, _ => rfl
      | 2, _ => rfl
      | 3, _ => rfl⟩
def tkQ : Tk := ⟨1, [97], [⟨[98], [34, 10]⟩], []⟩
def tkX : Tk := ⟨1, [97], [⟨[98], [120, 32, 121]⟩], []⟩
def tk2 : List Tk := [⟨4, [], [], [97]⟩, ⟨4, [], [], [98]⟩]
theorem tk2_row (w : World) (T : TypeId) : RdC TkC (w.alloc (.cells #[.int .u8 4, .string ⟨#[]⟩, .slice none 0 0, .string ⟨#[97]⟩, .int .u8 4, .string ⟨#[]⟩, .slice none 0 0, .string ⟨#[98]⟩] T)) (w.alloc (.cells #[.int .u8 4, .string ⟨#[]⟩, .slice none 0 0, .string ⟨#[97]⟩, .int .u8 4, .string ⟨#[]⟩, .slice none 0 0, .string ⟨#[98]⟩] T)).heap.size (some ⟨w.heap.size, 0, none⟩) tk2 :=
  rdc_row tk2 fun j hj => match j, hj with
    | 0, _ => ⟨[.int .u8 4, .string ⟨#[]⟩, .slice none 0 0, .string ⟨#[97]⟩], ⟨_, none, 0, _, rfl, (show (4 : Nat) < 256 by decide), rfl, rfl, (show (0 : Nat) ≤ 0 by decide), by decide, fun _ => rfl, RdC.nil _ _ _⟩, fun i hi => match i, hi with
      | 0, _ => rfl
      | 1, _ => rfl
      | 2, _ => rfl
      | 3, _ => rfl⟩
    | 1, _ => ⟨[.int .u8 4, .string ⟨#[]⟩, .slice none 0 0, .string ⟨#[98]⟩], ⟨_, none, 0, _, rfl, (show (4 : Nat) < 256 by decide), rfl, rfl, (show (0 : Nat) ≤ 0 by decide), by decide, fun _ => rfl, RdC.nil _ _ _⟩, fun i hi => match i, hi with
      | 0, _ => rfl
      | 1, _ => rfl
      | 2, _ => rfl
      | 3, _ => rfl⟩
theorem small_nil (t : Tk) (h1 : t.name.length ≤ 1000000) (h2 : t.text.length ≤ 1000000) (h3 : t.attrs.length ≤ 1000000) (h4 : ∀ p ∈ t.attrs, p.name.length ≤ 1000000 ∧ p.value.length ≤ 1000000) : Small t := ⟨h1, h2, h3, h4⟩
theorem nm_jq (w : World) (A : Option Addr) (h : RdC TkC w w.heap.size A [tkQ]) : Calls Tryz.prog 10 #[.slice A 1 1] w fun e' w' => e' = .returned (.tuple #[.string ⟨#[60, 97, 32, 98, 61, 34, 38, 113, 117, 111, 116, 59, 38, 35, 49, 48, 59, 34, 62]⟩, .int .i64 0]) ∧ Below w.heap.size w w' :=
  join9 A 1 1 [tkQ] w h rfl (by decide) (fun t ht => by rw [List.mem_singleton.1 ht]; exact ⟨by decide, by decide, by decide, by decide⟩) ⟨#[60, 97, 32, 98, 61, 34, 38, 113, 117, 111, 116, 59, 38, 35, 49, 48, 59, 34, 62]⟩ 0 (by decide +kernel)
theorem nm_j2 (w : World) (A : Option Addr) (h : RdC TkC w w.heap.size A tk2) : Calls Tryz.prog 10 #[.slice A 2 2] w fun e' w' => e' = .returned (.tuple #[.string ⟨#[]⟩, .int .i64 8]) ∧ Below w.heap.size w w' :=
  join9 A 2 2 tk2 w h rfl (by decide) (fun t ht => by
    rcases List.mem_cons.1 ht with e | e
    · rw [e]; exact ⟨by decide, by decide, by decide, by decide⟩
    · rw [List.mem_singleton.1 e]; exact ⟨by decide, by decide, by decide, by decide⟩) ⟨#[]⟩ 8 (by decide +kernel)
theorem nm_c1 (w : World) : Calls Tryz.prog 12 #[.agg #[.int .u8 1, .string ⟨#[49, 97]⟩, .slice none 0 0, .string ⟨#[]⟩]] w fun e w' => e = .returned (.int .i64 8) ∧ Below w.heap.size w w' :=
  check9 ⟨1, [49, 97], [], []⟩ ⟨#[49, 97]⟩ ⟨#[]⟩ none 0 w ⟨rfl, rfl, RdC.nil _ _ _, by decide, by decide, by decide, by decide, by simp⟩ 8 (by decide +kernel)
theorem nm_c2 (w : World) : Calls Tryz.prog 12 #[.agg #[.int .u8 4, .string ⟨#[]⟩, .slice none 0 0, .string ⟨#[]⟩]] w fun e w' => e = .returned (.int .i64 8) ∧ Below w.heap.size w w' :=
  check9 ⟨4, [], [], []⟩ ⟨#[]⟩ ⟨#[]⟩ none 0 w ⟨rfl, rfl, RdC.nil _ _ _, by decide, by decide, by decide, by decide, by simp⟩ 8 (by decide +kernel)
theorem nm_c3 (w : World) : Calls Tryz.prog 12 #[.agg #[.int .u8 0, .string ⟨#[]⟩, .slice none 0 0, .string ⟨#[]⟩]] w fun e w' => e = .returned (.int .i64 8) ∧ Below w.heap.size w w' :=
  check9 ⟨0, [], [], []⟩ ⟨#[]⟩ ⟨#[]⟩ none 0 w ⟨rfl, rfl, RdC.nil _ _ _, by decide, by decide, by decide, by decide, by simp⟩ 8 (by decide +kernel)
theorem nm_a0 (w : World) (hE : Ev9 w := by first | assumption | exact Ev9.to (by assumption) (by assumption)) : Calls Tryz.prog 14 #[.string ⟨#[]⟩, .slice none 0 0] w fun e w' => e = .returned (.bool true) ∧ Below w.heap.size w w' := are_yes ⟨#[]⟩ none 0 0 [] w (by decide) (RdC.nil _ _ _) rfl (by decide +kernel)
theorem nm_ax (w : World) (A : Option Addr) (h : RdC TkC w w.heap.size A [tkX]) (hE : Ev9 w := by first | assumption | exact Ev9.to (by assumption) (by assumption)) : Calls Tryz.prog 14 #[.string ⟨#[60, 97, 32, 98, 61, 39, 120, 10, 121, 39, 62]⟩, .slice A 1 1] w fun e w' => e = .returned (.bool true) ∧ Below w.heap.size w w' := are_yes ⟨#[60, 97, 32, 98, 61, 39, 120, 10, 121, 39, 62]⟩ A 1 1 [tkX] w (by decide) h rfl (by decide +kernel)
set_option maxHeartbeats 8000000 in
set_option maxRecDepth 100000 in
theorem walk (w : World) (hE : Ev9 w := by first | assumption | exact Ev9.to (by assumption) (by assumption)) : Calls Tryz.prog 3 #[] w fun e w' => e = .returned (.bool true) ∧ Below w.heap.size w w' := by
  have HAL : Hid (∀ (W : World) (o : Obj), Below W.heap.size W (W.alloc o)) := Lib.hid fun W o => (Below.refl _ _).alloc (Nat.le_refl _) o
  go_enter Tryz.func3, Tryz.ntmps3
  go_wp2_with (first
    | (go_at_call 8; (with_reducible refine (nm_o0 w (hE := hE.to (Below.refl _ _))).mono ?_); rintro e1 w1 ⟨rfl, hb1⟩; have HB1 : Hid (Below w.heap.size w w1) := Lib.hid (hb1); clear hb1)
    | (go_at_call 8; (with_reducible refine (nm_o1 w1 (hE := hE.to HB1.out)).mono ?_); rintro e2 w2 ⟨rfl, hb2⟩; have HB2 : Hid (Below w.heap.size w w2) := Lib.hid (bel_in9 HB1.out hb2); clear hb2)
    | (go_at_call 8; (with_reducible refine (nm_o2 w2 (hE := hE.to HB2.out)).mono ?_); rintro e3 w3 ⟨rfl, hb3⟩; have HB3 : Hid (Below w.heap.size w w3) := Lib.hid (bel_in9 HB2.out hb3); clear hb3)
    | (go_at_call 8; (with_reducible refine (nm_o3 w3 (hE := hE.to HB3.out)).mono ?_); rintro e4 w4 ⟨rfl, hb4⟩; have HB4 : Hid (Below w.heap.size w w4) := Lib.hid (bel_in9 HB3.out hb4); clear hb4)
    | (go_at_call 8; (with_reducible refine (nm_o4 w4 (hE := hE.to HB4.out)).mono ?_); rintro e5 w5 ⟨rfl, hb5⟩; have HB5 : Hid (Below w.heap.size w w5) := Lib.hid (bel_in9 HB4.out hb5); clear hb5)
    | (go_at_call 8; (with_reducible refine (nm_o5 w5 (hE := hE.to HB5.out)).mono ?_); rintro e6 w6 ⟨rfl, hb6⟩; have HB6 : Hid (Below w.heap.size w w6) := Lib.hid (bel_in9 HB5.out hb6); clear hb6)
    | (go_at_call 8; (with_reducible refine (nm_o6 w6 (hE := hE.to HB6.out)).mono ?_); rintro e7 w7 ⟨rfl, hb7⟩; have HB7 : Hid (Below w.heap.size w w7) := Lib.hid (bel_in9 HB6.out hb7); clear hb7)
    | (go_at_call 8; (with_reducible refine (nm_o7 w7 (hE := hE.to HB7.out)).mono ?_); rintro e8 w8 ⟨rfl, hb8⟩; have HB8 : Hid (Below w.heap.size w w8) := Lib.hid (bel_in9 HB7.out hb8); clear hb8)
    | (go_at_call 8; (with_reducible refine (nm_o8 w8 (hE := hE.to HB8.out)).mono ?_); rintro e9 w9 ⟨rfl, hb9⟩; have HB9 : Hid (Below w.heap.size w w9) := Lib.hid (bel_in9 HB8.out hb9); clear hb9)
    | (go_at_call 8; (with_reducible refine (nm_o9 w9 (hE := hE.to HB9.out)).mono ?_); rintro e10 w10 ⟨rfl, hb10⟩; have HB10 : Hid (Below w.heap.size w w10) := Lib.hid (bel_in9 HB9.out hb10); clear hb10)
    | fail)
  go_loopg [2, 3] 512 (fun gg vs vi wr => ∃ (k : Nat) (y : ByteArray), k + gg = 512 ∧ vi = .int .i64 k ∧ vs = .string y ∧ Hid (y.data.toList = rep4 k) ∧ y.size = 4 * k ∧ wr = w10)
  case atStart => exact ⟨0, ⟨#[]⟩, by omega, rfl, rfl, Lib.hid rfl, rfl, rfl⟩
  case round =>
    obtain ⟨k, y, hk, rfl, rfl, hy, hys, rfl⟩ := hrel
    by_cases hlt : k < 512
    · have bk : (k : Int) < 512 := by omega
      have l5 : ¬ 9223372036854775807 < y.size + 4 := by omega
      have HNX : Hid ((y ++ (⟨#[60, 97, 47, 62]⟩ : ByteArray)).data.toList = rep4 (k + 1)) := Lib.hid (by rw [ba_app, hy.out, rep4_snoc]; rfl)
      have HNS : Hid ((y ++ (⟨#[60, 97, 47, 62]⟩ : ByteArray)).size = 4 * (k + 1)) := Lib.hid (by rw [← ba_l, ba_app, List.length_append, ba_l, hys]; rfl)
      clear hy hys
      go_wp2_with fail
      go_roundg (gk - 1)
      case rel => exact ⟨k + 1, _, by omega, by go_num, rfl, HNX, HNS.out, rfl⟩
      case measure => omega
    · obtain rfl : 512 = k := by omega
      have l5 : ¬ 9223372036854775807 < y.size + 4 := by omega
      have HY := hy
      have HL1 : Hid (∀ W, Below w.heap.size w W → Calls Tryz.prog 9 #[.string (y ++ (⟨#[60, 97, 47, 62]⟩ : ByteArray))] W fun e w' => ∃ A c, e = .returned (.tuple #[.slice A 0 c, .int .i64 2048, .int .i64 4]) ∧ TkIn [] A c w' ∧ Below W.heap.size W w') := Lib.hid fun W hW9 => lex9 _ W (by rw [← ba_l, ba_app, List.length_append, ba_l, hys]; decide) [] 2048 4 (by rw [ba_app, hy.out]; exact (rep4_snoc 512) ▸ many_513)
      have HL2 : Hid (∀ W, Below w.heap.size w W → Calls Tryz.prog 9 #[.string y] W fun e w' => ∃ A c, e = .returned (.tuple #[.slice A 512 c, .int .i64 0, .int .i64 0]) ∧ TkIn (List.replicate 512 bareT) A c w' ∧ Below W.heap.size W w') := Lib.hid fun W hW9 => lex9 y W (by omega) (List.replicate 512 bareT) 0 0 (by rw [hy.out]; exact many_512)
      clear hy hys HY
      go_wp2_with (first
        | (go_at_call 9; (with_reducible refine (HL1.out wr HB10.out).mono ?_); rintro e11 w11 ⟨A1, c1, rfl, hi1, hb11⟩; have HB11 : Hid (Below w.heap.size w w11) := Lib.hid (bel_in9 HB10.out hb11); clear hi1 hb11)
        | (go_at_call 9; (with_reducible refine (HL2.out w11 HB11.out).mono ?_); rintro e12 w12 ⟨A2, c2, rfl, hi2, hb12⟩; have HB12 : Hid (Below w.heap.size w w12) := Lib.hid (bel_in9 HB11.out hb12); clear hi2 hb12)
        | fail)
      go_loopg [10, 11] 17 (fun gg vs vi wr => ∃ (k : Nat) (z : ByteArray), k + gg = 17 ∧ vi = .int .i64 k ∧ vs = .string z ∧ Hid (z.data.toList = atr k) ∧ z.size = 6 * k ∧ Below w.heap.size w wr)
      case atStart => exact ⟨0, ⟨#[]⟩, by omega, rfl, rfl, Lib.hid rfl, rfl, HB12.out⟩
      case round =>
        obtain ⟨k, z, hk, rfl, rfl, hz, hzs, hbw⟩ := hrel
        have HBW := Lib.hid hbw
        by_cases hlt : k < 17
        · have bk : (k : Int) < 17 := by omega
          obtain ⟨cz, hcz⟩ : ∃ cz : Int, 97 + (k : Int) = cz := ⟨_, rfl⟩
          have s1 : IntKind.i64.wrap cz = cz := IntWalk.i64_in _ (by omega)
          have s2 : IntKind.u8.wrap cz = cz := by rw [IntKind.wrap_u8]; omega
          obtain ⟨c, hc⟩ : ∃ c : UInt8, UInt8.ofNat (97 + k) = c := ⟨_, rfl⟩
          have hcn : (c.toNat : Int) = cz := by
            rw [← hc]
            simp
            omega
          have cv : (convert 27 9 (.slice (some ⟨wr.heap.size, 0, none⟩) 1 1)).run Tryz.prog (wr.alloc (.cells #[.int .u8 cz] 5)) = .ok (.string ⟨#[c]⟩) (wr.alloc (.cells #[.int .u8 cz] 5)) :=
            conv_str (l := [c]) (B := (wr.alloc (.cells #[.int .u8 cz] 5)).heap.size) (fun _ => ⟨wr.heap.size, 0, rfl, by simp, fun j hj => by
              have : j = 0 := by simpa using hj
              subst this
              rw [← hcn]
              simp⟩) rfl Tryz.underlying27 Tryz.underlying5 Tryz.underlying9
          have l1 : ¬ 9223372036854775807 < z.size + 2 := by omega
          have l2 : ¬ 9223372036854775807 < z.size + 2 + 1 := by omega
          have l3 : ¬ 9223372036854775807 < z.size + 2 + 1 + 3 := by omega
          have HNX : Hid ((z ++ (⟨#[32, 97]⟩ : ByteArray) ++ ⟨#[c]⟩ ++ ⟨#[61, 39, 39]⟩).data.toList = atr (k + 1)) := Lib.hid (by rw [ba_app, ba_app, ba_app, hz.out, atr, hc]; simp)
          have HNS : Hid ((z ++ (⟨#[32, 97]⟩ : ByteArray) ++ ⟨#[c]⟩ ++ ⟨#[61, 39, 39]⟩).size = 6 * (k + 1)) := Lib.hid (by
            rw [← ba_l]
            simp only [ba_app, List.length_append, ba_l]
            show z.size + 2 + 1 + 3 = _
            omega)
          have HBN : Hid (Below w.heap.size w (wr.alloc (.cells #[.int .u8 cz] 5))) := Lib.hid (bel_in9 hbw (HAL.out wr _))
          clear hbw hz hzs hc hcn
          go_wp2_with fail
          go_roundg (gk - 1)
          case rel => exact ⟨k + 1, _, by omega, by go_num, rfl, HNX, HNS.out, HBN.out⟩
          case measure => omega
        · obtain rfl : 17 = k := by omega
          have l1 : ¬ 9223372036854775807 < 2 + z.size := by omega
          have l2 : ¬ 9223372036854775807 < 2 + z.size + 2 := by omega
          have HL3 : Hid (∀ W, Below w.heap.size w W → Calls Tryz.prog 9 #[.string ((⟨#[60, 97]⟩ : ByteArray) ++ z ++ ⟨#[47, 62]⟩)] W fun e w' => ∃ A c, e = .returned (.tuple #[.slice A 0 c, .int .i64 0, .int .i64 4]) ∧ TkIn [] A c w' ∧ Below W.heap.size W w') := Lib.hid fun W hW9 => lex9 _ W (by
            rw [← ba_l]
            simp only [ba_app, List.length_append, ba_l, hzs]
            decide) [] 0 4 (by rw [ba_app, ba_app, hz.out]; exact atr_17)
          clear hbw hz hzs
          go_wp2_with (first
            | (go_at_call 9; (with_reducible refine (HL3.out wr HBW.out).mono ?_); rintro e13 w13 ⟨A3, c3, rfl, hi3, hb13⟩; have HB13 : Hid (Below w.heap.size w w13) := Lib.hid (bel_in9 HBW.out hb13); clear hi3 hb13)
            | (go_at_call 11; (with_reducible refine (open9 _ (some ⟨w13.heap.size, 0, none⟩) _ _ _).mono ?_); rintro e14 w14 ⟨rfl, hb14⟩; have HB14 : Hid (Below w.heap.size w w14) := Lib.hid (bel_in9 (bel_in9 HB13.out (HAL.out w13 _)) hb14); have HP14 : Hid (RdC PrC w14 w14.heap.size (some ⟨w13.heap.size, 0, none⟩) tkQ.attrs) := Lib.hid ((row_pair w13 ⟨#[98]⟩ ⟨#[34, 10]⟩ ⟨[98], [34, 10]⟩ rfl rfl _).on hb14); clear hb14)
            | (go_at_call 10; (with_reducible refine (nm_jq _ _ (row_tok w14 ⟨#[97]⟩ ⟨#[]⟩ (some ⟨w13.heap.size, 0, none⟩) tkQ 1 1 1 rfl (by decide) rfl rfl rfl (by decide) (by decide) (by simp) HP14.out _)).mono ?_); rintro e15 w15 ⟨rfl, hb15⟩; have HB15 : Hid (Below w.heap.size w w15) := Lib.hid (bel_in9 (bel_in9 HB14.out (HAL.out w14 _)) hb15); clear hb15)
            | (go_at_call 10; (with_reducible refine (nm_j2 _ _ (tk2_row w15 _)).mono ?_); rintro e16 w16 ⟨rfl, hb16⟩; have HB16 : Hid (Below w.heap.size w w16) := Lib.hid (bel_in9 (bel_in9 HB15.out (HAL.out w15 _)) hb16); clear hb16)
            | (go_at_call 11; (with_reducible refine (open9 _ none _ _ w16).mono ?_); rintro e17 w17 ⟨rfl, hb17⟩; have HB17 : Hid (Below w.heap.size w w17) := Lib.hid (bel_in9 HB16.out hb17); clear hb17)
            | (go_at_call 12; (with_reducible refine (nm_c1 w17).mono ?_); rintro e18 w18 ⟨rfl, hb18⟩; have HB18 : Hid (Below w.heap.size w w18) := Lib.hid (bel_in9 HB17.out hb18); clear hb18)
            | (go_at_call 12; (with_reducible refine (nm_c2 w18).mono ?_); rintro e19 w19 ⟨rfl, hb19⟩; have HB19 : Hid (Below w.heap.size w w19) := Lib.hid (bel_in9 HB18.out hb19); clear hb19)
            | (go_at_call 12; (with_reducible refine (nm_c3 w19).mono ?_); rintro e20 w20 ⟨rfl, hb20⟩; have HB20 : Hid (Below w.heap.size w w20) := Lib.hid (bel_in9 HB19.out hb20); clear hb20)
            | (go_at_call 13; (with_reducible refine (alive9 w20 (hE := hE.to HB20.out)).mono ?_); rintro e21 w21 ⟨rfl, hb21⟩; have HB21 : Hid (Below w.heap.size w w21) := Lib.hid (bel_in9 HB20.out hb21); clear hb21)
            | (go_at_call 14; (with_reducible refine (nm_a0 w21 (hE := hE.to HB21.out)).mono ?_); rintro e22 w22 ⟨rfl, hb22⟩; have HB22 : Hid (Below w.heap.size w w22) := Lib.hid (bel_in9 HB21.out hb22); clear hb22)
            | (go_at_call 11; (with_reducible refine (open9 _ (some ⟨w22.heap.size, 0, none⟩) _ _ _).mono ?_); rintro e23 w23 ⟨rfl, hb23⟩; have HB23 : Hid (Below w.heap.size w w23) := Lib.hid (bel_in9 (bel_in9 HB22.out (HAL.out w22 _)) hb23); have HP23 : Hid (RdC PrC w23 w23.heap.size (some ⟨w22.heap.size, 0, none⟩) tkX.attrs) := Lib.hid ((row_pair w22 ⟨#[98]⟩ ⟨#[120, 32, 121]⟩ ⟨[98], [120, 32, 121]⟩ rfl rfl _).on hb23); clear hb23)
            | (go_at_call 14; (with_reducible refine (nm_ax _ _ (row_tok w23 ⟨#[97]⟩ ⟨#[]⟩ (some ⟨w22.heap.size, 0, none⟩) tkX 1 1 1 rfl (by decide) rfl rfl rfl (by decide) (by decide) (by simp) HP23.out _) (hE := hE.to (bel_in9 HB23.out (HAL.out w23 _)))).mono ?_); rintro e24 w24 ⟨rfl, hb24⟩; have HB24 : Hid (Below w.heap.size w w24) := Lib.hid (bel_in9 (bel_in9 HB23.out (HAL.out w23 _)) hb24); clear hb24)
            | fail)
          go_ret
          exact ⟨rfl, HB24.out⟩

theorem gErr : Tryz.prog.globalNamed "strconv.ErrSyntax" = some 3 := by kernel_rfl
theorem gErrT : (Tryz.prog.globals[3]?).map (·.type) = some 72 := by kernel_rfl
theorem starE : "*" ++ "errors.errorString" = "*errors.errorString" := by decide
theorem rowE (u : TypeId) (h : Tryz.prog.typeName? 3 u = some "*errors.errorString") : u = 156 :=
  typeName_ptr_named (nm := "errors.errorString") (by rw [starE]; kernel_rfl) (by kernel_rfl) (by decide) u (by rw [starE]; exact h)
theorem erred {W : World} (h : laidMetH Tryz.prog Rows.lexNamesRow.laid W) : Ev W := by
  rw [MakeChecks.laidMetH_plain _ _ _ (by kernel_rfl)] at h
  have h2 := laidMet.filter (fun x => x.1 == "strconv.ErrSyntax") h
  have e : Rows.lexNamesRow.laid.filter (fun x => x.1 == "strconv.ErrSyntax") = [("strconv.ErrSyntax", Rows.laid_strconv_ErrSyntax)] := by kernel_rfl
  rw [e] at h2
  obtain ⟨a, s, h3, _⟩ := laid_sentinel (r := []) h2 gErr gErrT Tryz.underlying72 rowE Tryz.underlying156 Tryz.underlying158 rfl rfl Tryz.underlying9 (by kernel_rfl) (by kernel_rfl)
  exact ⟨_, _, by simpa using World.var?_cell gErr h3 0⟩
theorem reads_first {W : World} (h : laidMetH Tryz.prog Rows.lexNamesRow.laid W) : Lib.VarReads Tryz.prog W "unicode/utf8.first" Lib.firstData := by
  rw [MakeChecks.laidMetH_plain _ _ _ (by kernel_rfl)] at h
  have h2 := laidMet.filter (fun x => x.1 == "unicode/utf8.first") h
  have e : Rows.lexNamesRow.laid.filter (fun x => x.1 == "unicode/utf8.first") = [("unicode/utf8.first", Lib.firstData)] := by kernel_rfl
  rw [e] at h2
  exact Lib.laidMet.reads h2 (.head _)
theorem reads_acceptRanges {W : World} (h : laidMetH Tryz.prog Rows.lexNamesRow.laid W) : Lib.VarReads Tryz.prog W "unicode/utf8.acceptRanges" Lib.acceptData := by
  rw [MakeChecks.laidMetH_plain _ _ _ (by kernel_rfl)] at h
  have h2 := laidMet.filter (fun x => x.1 == "unicode/utf8.acceptRanges") h
  have e : Rows.lexNamesRow.laid.filter (fun x => x.1 == "unicode/utf8.acceptRanges") = [("unicode/utf8.acceptRanges", Lib.acceptData)] := by kernel_rfl
  rw [e] at h2
  exact Lib.laidMet.reads h2 (.head _)
theorem laid9 {W : World} (h : laidMetH Tryz.prog Rows.lexNamesRow.laid W) : Ev9 W := ⟨erred h, tabs9 (reads_first h) (reads_acceptRanges h)⟩
set_option maxRecDepth 100000 in
theorem lifted (os : Os) (started : os.Started) (H : Type) (enc : TypeId × Value → H) :
    ReturnsInHanded {} Tryz.checked os 3 .any (fun w args => (Rows.lexNamesSpec.pre enc Tryz.prog Tryz.f3 [] false w args ∧ laidMetH Tryz.prog Rows.lexNamesRow.laid w) ∧ sizedMet enc Tryz.prog Tryz.f3 (OpenSpec.ofChange Rows.lexNamesSpec) false w args) (Rows.lexNamesSpec.post enc Tryz.prog Tryz.f3 false true false false) := by
  refine returnsInHanded_of_change_and (C := Tryz.checked) (X := fun w _ => laidMetH Tryz.prog Rows.lexNamesRow.laid w) (fun _ _ _ hh h => h.of_heap hh) own started (by kernel_rfl) Tryz.func3
    (ChangeSpec.witness_shaped (enc := enc) (C := Tryz.checked) (os := os) (X := fun w _ => laidMetH Tryz.prog Rows.lexNamesRow.laid w) false (World.laidAll Tryz.prog os Rows.lexNamesRow.laid) #[] 8 (World.laidAll_os _ _ _) (World.shaped_of_ZipB (by kernel_rfl) (by kernel_rfl)) (by kernel_rfl) (by kernel_rfl) (by kernel_rfl)
      (by rw [MakeChecks.laidMetH_plain _ _ _ (by kernel_rfl)]; exact laidMet_laidAll _ (by kernel_rfl) (by kernel_rfl))) ?_
  intro W base args ds gs before hval0 hW _ _ hL _
  have hval : ∀ (j : Nat) t v, Tryz.f3.params[j]? = some t → args[j]? = some v → Value.okWide Tryz.prog W .any base t v := hval0
  have hW' := hW
  obtain ⟨p, q, hA0, hV, rfl, hfz, hnd⟩ := hW
  have hA : DataW.TrodAll enc Tryz.prog W 0 (fun _ => true) true Tryz.f3.params.toList args.toList ds p := hA0
  rw [Tryz.params3] at hA hval
  obtain ⟨rfl, rfl, rfl⟩ := trodAll_none hA
  obtain ⟨rfl, rfl⟩ := trodVars_none hV
  clear hA0 hval0
  refine (walk  W (laid9 hL)).mono fun e W' ⟨he, bel⟩ => ?_
  subst he
  exact ⟨_, rfl, _, _, _, [], _, [], hW', trodAll_mk1 (shut_bool Tryz.underlying4 _), hA, rfl, bel.frame _, fun h => by cases h⟩

theorem over : Rows.lexNamesRow.holds Tryz.pinned (OpenSpec.ofChange Rows.lexNamesSpec) :=
  OpenClaim.holds_of_wide 3 Tryz.f3 rfl rfl rfl rfl rfl rfl rfl ⟨rfl, rfl, rfl, rfl, rfl⟩ rfl rfl rfl rfl rfl (by kernel_rfl) Tryz.func3 (by kernel_rfl)
    (of_decide_eq_true (by kernel_rfl)) (by unfold Func.isWrapper; first | (rw [if_pos (by decide +kernel)]; kernel_rfl) | (rw [if_neg (by decide +kernel)]; exact ⟨rfl, rfl⟩))
    (fun os started H enc _ => lifted os started H enc)

theorem said : Rows.LexNamesSaid := over
theorem plain (f : FuncId) (fn : Func) (hf : Tryz.pinned.checked.prog.funcNamed "tidewaiter/tidewaiterlaw09.LexNames" = some f) (hfn : Tryz.pinned.checked.prog.funcs[f]? = some fn) :
    true = Tryz.pinned.checked.prog.looks [] ∧ ∀ (j : Nat) t, fn.params[j]? = some t → Tryz.pinned.checked.prog.wantsStandIn t = false := by
  obtain rfl : f = 3 := Option.some.inj ((show Tryz.prog.funcNamed "tidewaiter/tidewaiterlaw09.LexNames" = some 3 by kernel_rfl).symm.trans hf) |>.symm
  obtain rfl : fn = Tryz.f3 := (Option.some.inj (Tryz.func3.symm.trans hfn)).symm
  refine ⟨by kernel_rfl, fun j t ht => ?_⟩
  rw [Tryz.params3] at ht
  simp at ht
theorem proved : Rows.LexNamesCardSaid :=
  Claim7.holds_tied_plain_at .later [] _ _ _ _ said (fun _ h => by cases h) (by kernel_rfl) (fun _ h => by cases h) lexNames_row_tie rfl ⟨rfl, rfl⟩ (by kernel_rfl) rfl plain (by kernel_rfl)
end Go.Proofs.YtichboamakgabaaGreatDoor.lexNames
