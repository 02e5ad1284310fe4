/-
  Texts of one seat, put together: LexA, LexE, LexNa, LexL.
-/
import Derived.Test.YtichboamakgabaaGreatDoorG24
namespace Go.Proofs.YtichboamakgabaaGreatDoor
open Go.RowKit
namespace Hx
open Lx Tx Nmb Es
set_option linter.unusedVariables false
set_option maxHeartbeats 1000000 in
set_option maxRecDepth 100000 in
theorem are_yes (s : ByteArray) (A : Option Addr) (n cp : Nat) (l : List Tk) (w : World) (hm : s.size ≤ 1000000) (hr : RdC TkC w w.heap.size A l) (hn : l.length = n) (h : lexR s.data.toList = (l, 0, 0)) (hE : Ev9 w := by first | assumption | exact Ev9.to (by assumption) (by assumption)) :
    Calls Tryz.prog 14 #[.string s, .slice A n cp] w fun e w' => e = .returned (.bool true) ∧ Below w.heap.size w w' := by
  obtain ⟨h1, h2⟩ := lexR_small h
  have HL : Hid (Calls Tryz.prog 9 #[.string s] w fun e w' => ∃ A c, e = .returned (.tuple #[.slice A n c, .int .i64 0, .int .i64 0]) ∧ TkIn l A c w' ∧ Below w.heap.size w w') := Lib.hid (hn ▸ lex9 s w hm l 0 0 h)
  have HS : Hid (∀ A2 c2 w1, TkIn l A2 c2 w1 → Below w.heap.size w w1 → Calls Tryz.prog 16 #[.slice A2 n c2, .slice A n cp] w1 fun e w' => e = .returned (.bool true) ∧ Below w1.heap.size w1 w') := Lib.hid fun A2 c2 w1 k1 k2 => by
    have hh : ∀ t ∈ l, t.attrs.length ≤ 1000000 := fun t ht => Nat.le_trans (h2 t ht) (by decide)
    exact rsame9 A2 A n c2 n cp l l w1 k1.1 hn (hr.on k2) hn (by omega) (by omega) hh hh true (decide_eq_true rfl)
  clear hm hr hn h h1 h2
  go_enter Tryz.func14, Tryz.ntmps14
  go_wp2_with (first
    | (go_at_call 9; (with_reducible refine (HL.out).mono ?_); rintro e1 w1 ⟨A2, c2, rfl, hin, hb1⟩; have HIN := Lib.hid hin; have HB1 := Lib.hid hb1; clear hin hb1)
    | (go_at_call 16; (with_reducible refine (HS.out A2 c2 w1 HIN.out HB1.out).mono ?_); rintro e2 w2 ⟨rfl, hb2⟩)
    | fail)
  go_ret
  exact ⟨rfl, stp HB1.out hb2⟩
set_option maxHeartbeats 1000000 in
set_option maxRecDepth 100000 in
theorem odd_yes9 (s : ByteArray) (k : Int) (w : World) (hm : s.size ≤ 1000000) (h : lexR s.data.toList = ([], k, 80)) (hE : Ev9 w := by first | assumption | exact Ev9.to (by assumption) (by assumption)) :
    Calls Tryz.prog 8 #[.string s, .int .i64 k] w fun e w' => e = .returned (.bool true) ∧ Below w.heap.size w w' := by
  have HL : Hid (Calls Tryz.prog 9 #[.string s] w fun e w' => ∃ A c, e = .returned (.tuple #[.slice A 0 c, .int .i64 k, .int .i64 80]) ∧ TkIn [] A c w' ∧ Below w.heap.size w w') := Lib.hid (lex9 s w hm [] k 80 h)
  clear hm h
  go_enter Tryz.func8, Tryz.ntmps8
  go_wp2_with (first
    | (go_at_call 9; (with_reducible refine (HL.out).mono ?_); rintro e1 w1 ⟨A2, c2, rfl, hin, hb1⟩; have HB1 := Lib.hid hb1; clear hin hb1)
    | fail)
  go_ret
  exact ⟨rfl, HB1.out⟩
set_option maxRecDepth 100000 in
theorem open9 (x : ByteArray) (A : Option Addr) (n c : Nat) (w : World) :
    Calls Tryz.prog 11 #[.string x, .slice A n c] w fun e w' => e = .returned (.agg #[.int .u8 1, .string x, .slice A n c, .string ⟨#[]⟩]) ∧ Below w.heap.size w w' := by
  go_enter Tryz.func11, Tryz.ntmps11
  go_wp2_with fail
  refine bodyPost_ret (v := .agg #[.int .u8 1, .string x, .slice A n c, .string ⟨#[]⟩]) ?_ rfl ⟨rfl, (Below.refl _ _).alloc (Nat.le_refl _) _⟩
  simp [results, Tryz.results11, go_sem]
theorem rdc_row {α : Type} {C : Cod α} {w : World} {cs : Array Value} {T : TypeId} (l : List α)
    (hcs : ∀ (j : Nat) (h : j < l.length), ∃ x : List Value, C.R (w.alloc (.cells cs T)) (w.alloc (.cells cs T)).heap.size x (l[j]'h) ∧ ∀ (i : Nat) (hi : i < x.length), cs[j * C.k + i]? = some (x[i]'hi)) :
    RdC C (w.alloc (.cells cs T)) (w.alloc (.cells cs T)).heap.size (some ⟨w.heap.size, 0, none⟩) l := by
  intro _
  refine ⟨w.heap.size, 0, rfl, by simp, fun j hj => ?_⟩
  obtain ⟨x, h1, h2⟩ := hcs j hj
  refine ⟨x, h1, fun i hi => ?_⟩
  have := h2 i hi
  simp only [Nat.zero_add]
  simpa using this
def al1 : List Tk := [⟨1, [97], [⟨[98], [49]⟩, ⟨[99], [120]⟩], []⟩]
def al2 : List Tk := [⟨3, [120, 58, 97], [], []⟩, ⟨4, [], [], [116, 60]⟩, ⟨2, [98], [], []⟩]
def ps1 : List Pr := [⟨[98], [49]⟩, ⟨[99], [120]⟩]
theorem al_pairs (w : World) (T : TypeId) : RdC PrC (w.alloc (.cells #[.string ⟨#[98]⟩, .string ⟨#[49]⟩, .string ⟨#[99]⟩, .string ⟨#[120]⟩] T)) (w.alloc (.cells #[.string ⟨#[98]⟩, .string ⟨#[49]⟩, .string ⟨#[99]⟩, .string ⟨#[120]⟩] T)).heap.size (some ⟨w.heap.size, 0, none⟩) ps1 :=
  rdc_row ps1 fun j hj => match j, hj with
    | 0, _ => ⟨[.string ⟨#[98]⟩, .string ⟨#[49]⟩], ⟨_, _, rfl, rfl, rfl⟩, fun i hi => match i, hi with
      | 0, _ => rfl
      | 1, _ => rfl⟩
    | 1, _ => ⟨[.string ⟨#[99]⟩, .string ⟨#[120]⟩], ⟨_, _, rfl, rfl, rfl⟩, fun i hi => match i, hi with
      | 0, _ => rfl
      | 1, _ => rfl⟩
theorem al_tok1 (w : World) (A : Option Addr) (T : TypeId) (h : RdC PrC w w.heap.size A ps1) (hA : A ≠ none) :
    RdC TkC (w.alloc (.cells #[.int .u8 1, .string ⟨#[97]⟩, .slice A 2 2, .string ⟨#[]⟩] T)) (w.alloc (.cells #[.int .u8 1, .string ⟨#[97]⟩, .slice A 2 2, .string ⟨#[]⟩] T)).heap.size (some ⟨w.heap.size, 0, none⟩) al1 :=
  rdc_row al1 fun j hj => match j, hj with
    | 0, _ => ⟨[.int .u8 1, .string ⟨#[97]⟩, .slice A 2 2, .string ⟨#[]⟩], ⟨_, A, 2, _, rfl, (show (1 : Nat) < 256 by decide), rfl, rfl, (show (2 : Nat) ≤ 2 by decide), by decide, fun e => absurd e hA, h.on ((Below.refl _ _).alloc (Nat.le_refl _) _)⟩, fun i hi => match i, hi with
      | 0, _ => rfl
      | 1, _ => rfl
      | 2, _ => rfl
      | 3, _ => rfl⟩
theorem al_tok2 (w : World) (T : TypeId) :
    RdC TkC (w.alloc (.cells #[.int .u8 3, .string ⟨#[120, 58, 97]⟩, .slice none 0 0, .string ⟨#[]⟩, .int .u8 4, .string ⟨#[]⟩, .slice none 0 0, .string ⟨#[116, 60]⟩, .int .u8 2, .string ⟨#[98]⟩, .slice none 0 0, .string ⟨#[]⟩] T))
      (w.alloc (.cells #[.int .u8 3, .string ⟨#[120, 58, 97]⟩, .slice none 0 0, .string ⟨#[]⟩, .int .u8 4, .string ⟨#[]⟩, .slice none 0 0, .string ⟨#[116, 60]⟩, .int .u8 2, .string ⟨#[98]⟩, .slice none 0 0, .string ⟨#[]⟩] T)).heap.size (some ⟨w.heap.size, 0, none⟩) al2 :=
  rdc_row al2 fun j hj => match j, hj with
    | 0, _ => ⟨[.int .u8 3, .string ⟨#[120, 58, 97]⟩, .slice none 0 0, .string ⟨#[]⟩], ⟨_, none, 0, _, rfl, (show (3 : Nat) < 256 by decide), rfl, rfl, (show (0 : Nat) ≤ 0 by decide), by decide, fun _ => rfl, RdC.nil _ _ _⟩, fun i hi => match i, hi with
      | 0, _ => rfl
      | 1, _ => rfl
      | 2, _ => rfl
      | 3, _ => rfl⟩
    | 1, _ => ⟨[.int .u8 4, .string ⟨#[]⟩, .slice none 0 0, .string ⟨#[116, 60]⟩], ⟨_, none, 0, _, rfl, (show (4 : Nat) < 256 by decide), rfl, rfl, (show (0 : Nat) ≤ 0 by decide), by decide, fun _ => rfl, RdC.nil _ _ _⟩, fun i hi => match i, hi with
      | 0, _ => rfl
      | 1, _ => rfl
      | 2, _ => rfl
      | 3, _ => rfl⟩
    | 2, _ => ⟨[.int .u8 2, .string ⟨#[98]⟩, .slice none 0 0, .string ⟨#[]⟩], ⟨_, none, 0, _, rfl, (show (2 : Nat) < 256 by decide), rfl, rfl, (show (0 : Nat) ≤ 0 by decide), by decide, fun _ => rfl, RdC.nil _ _ _⟩, fun i hi => match i, hi with
      | 0, _ => rfl
      | 1, _ => rfl
      | 2, _ => rfl
      | 3, _ => rfl⟩
set_option maxRecDepth 100000 in
theorem al_lex1 : lexR (⟨#[60, 97, 32, 98, 61, 39, 49, 39, 32, 99, 32, 61, 32, 34, 120, 34, 62]⟩ : ByteArray).data.toList = (al1, 0, 0) := by decide +kernel
set_option maxRecDepth 100000 in
theorem al_lex2 : lexR (⟨#[60, 120, 58, 97, 47, 62, 116, 38, 108, 116, 59, 60, 47, 98, 32, 62]⟩ : ByteArray).data.toList = (al2, 0, 0) := by decide +kernel
theorem al_a1 (A : Option Addr) (cp : Nat) (w : World) (h : RdC TkC w w.heap.size A al1) (hE : Ev9 w := by first | assumption | exact Ev9.to (by assumption) (by assumption)) :
    Calls Tryz.prog 14 #[.string ⟨#[60, 97, 32, 98, 61, 39, 49, 39, 32, 99, 32, 61, 32, 34, 120, 34, 62]⟩, .slice A 1 cp] w fun e w' => e = .returned (.bool true) ∧ Below w.heap.size w w' := are_yes _ A 1 cp al1 w (by decide) h rfl al_lex1
theorem al_a2 (A : Option Addr) (cp : Nat) (w : World) (h : RdC TkC w w.heap.size A al2) (hE : Ev9 w := by first | assumption | exact Ev9.to (by assumption) (by assumption)) :
    Calls Tryz.prog 14 #[.string ⟨#[60, 120, 58, 97, 47, 62, 116, 38, 108, 116, 59, 60, 47, 98, 32, 62]⟩, .slice A 3 cp] w fun e w' => e = .returned (.bool true) ∧ Below w.heap.size w w' := are_yes _ A 3 cp al2 w (by decide) h rfl al_lex2
set_option maxHeartbeats 2000000 in
set_option maxRecDepth 100000 in
theorem alive9 (w : World) (hE : Ev9 w := by first | assumption | exact Ev9.to (by assumption) (by assumption)) : Calls Tryz.prog 13 #[] w fun e w' => e = .returned (.bool true) ∧ Below w.heap.size w w' := by
  have HB : Hid (∀ (W : World) (o : Obj), Below W.heap.size W (W.alloc o)) := Lib.hid fun W o => (Below.refl _ _).alloc (Nat.le_refl _) o
  go_enter Tryz.func13, Tryz.ntmps13
  go_wp2_with (first
    | (go_at_call 11; (with_reducible refine (open9 _ _ _ _ _).mono ?_); rintro e1 w1 ⟨rfl, hb1⟩; have HP1 : Hid (RdC PrC w1 w1.heap.size (some ⟨w.heap.size, 0, none⟩) ps1) := Lib.hid ((al_pairs w _).on hb1); have HB1 : Hid (Below w.heap.size w w1) := Lib.hid (bel_in9 (HB.out w _) hb1); clear hb1)
    | (go_at_call 14; (with_reducible refine (al_a1 _ _ _ (al_tok1 w1 _ _ HP1.out (by simp)) (hE := hE.to (bel_in9 HB1.out (HB.out w1 _)))).mono ?_); rintro e2 w2 ⟨rfl, hb2⟩; have HB2 : Hid (Below w.heap.size w w2) := Lib.hid (bel_in9 (bel_in9 HB1.out (HB.out w1 _)) hb2); clear hb2)
    | (go_at_call 14; (with_reducible refine (al_a2 _ _ _ (al_tok2 w2 _) (hE := hE.to (bel_in9 HB2.out (HB.out w2 _)))).mono ?_); rintro e3 w3 ⟨rfl, hb3⟩; have HB3 : Hid (Below w.heap.size w w3) := Lib.hid (bel_in9 (bel_in9 HB2.out (HB.out w2 _)) hb3); clear hb3)
    | fail)
  go_ret
  exact ⟨rfl, HB3.out⟩
end Hx
end Go.Proofs.YtichboamakgabaaGreatDoor
namespace Go.Proofs.YtichboamakgabaaGreatDoor
open Go.RowKit
namespace Hx
open Lx Tx Nmb Es
set_option linter.unusedVariables false
theorem flat_mem {α : Type} (f : α → List UInt8) : ∀ (l : List α) (a : α), a ∈ l → (f a).length ≤ (l.flatMap f).length
  | [], _, h => by cases h
  | b :: l, a, h => by
    rw [List.flatMap_cons, List.length_append]
    rcases List.mem_cons.1 h with e | e
    · rw [e]; omega
    · have := flat_mem f l a e; omega
theorem writeA_ge (p : Pr) : p.name.length + p.value.length ≤ (writeA p).length := by
  have := (escL_len true p.value).1
  unfold writeA
  simp only [List.length_cons, List.length_append, List.length_nil]
  omega
theorem small_may {t : Tk} (h : mayT t = true) (hl : (writeT t).length ≤ 1000000) : Small t := by
  have ha := mayT_attrs h
  rcases mayT_cases h with ⟨b, hk, h1, h2, h3⟩ | ⟨hk, h1, h2, h3⟩ | ⟨hk, h1, h2, h3, h4⟩
  · unfold writeT at hl
    rw [if_neg (by rw [hk]; cases b <;> decide), if_neg (by rw [hk]; cases b <;> decide)] at hl
    simp only [List.length_cons, List.length_append] at hl
    refine ⟨by omega, by rw [h3]; simp, by omega, fun p hp => ?_⟩
    have k1 := flat_mem writeA _ p hp
    have k2 := writeA_ge p
    omega
  · unfold writeT at hl
    rw [if_neg (by omega), if_pos hk] at hl
    simp only [List.length_cons, List.length_append, List.length_nil] at hl
    exact ⟨by omega, by rw [h3]; simp, by omega, by rw [h2]; simp⟩
  · unfold writeT at hl
    rw [if_pos hk] at hl
    have := (escL_len false t.text).1
    exact ⟨by rw [h1]; simp, by omega, by omega, by rw [h2]; simp⟩
theorem lexR_all {l : List UInt8} {ts : List Tk} {n : Int} (h : lexR l = (ts, n, 0)) (hl : l.length ≤ 2000) :
    (∀ t ∈ ts, mayT t = true ∧ Small t) ∧ apart ts = true ∧ ts.length ≤ 512 ∧ ts.length ≤ l.length ∧ (ts.flatMap writeT).length ≤ 12000 := by
  obtain ⟨_, hI, hP, h16, h512, hat⟩ := lexR_ok h
  obtain ⟨k1, k2, k3⟩ := hI.text hP h16
  refine ⟨fun t ht => ?_, k2, h512, hI.len, by omega⟩
  have hm : mayT t = true := k1 t ht (hat t ht)
  have := flat_mem writeT ts t ht
  exact ⟨hm, small_may hm (by omega)⟩
end Hx
end Go.Proofs.YtichboamakgabaaGreatDoor
namespace Go.Proofs.YtichboamakgabaaGreatDoor
open Go.RowKit
namespace Hx
open Lx Tx Nmb Es
set_option linter.unusedVariables false
/-- So many tags "<a/>". -/
def bare4 : List UInt8 := [60, 97, 47, 62]
def bareT : Tk := ⟨3, [97], [], []⟩
def rep4 : Nat → List UInt8
  | 0 => []
  | k + 1 => bare4 ++ rep4 k
theorem rep4_len (k : Nat) : (rep4 k).length = 4 * k := by
  induction k with
  | zero => rfl
  | succ k ih => rw [rep4, List.length_append, ih]; show 4 + 4 * k = _; omega
theorem rep4_snoc (k : Nat) : rep4 (k + 1) = rep4 k ++ bare4 := by
  induction k with
  | zero => rfl
  | succ k ih => rw [rep4, ih, ← List.append_assoc, ← rep4, ih]
theorem one_bare (z : List UInt8) : oneL (bare4 ++ z) = some (bareT, z) :=
  (oneL_tag _ _ _).2 ((tagL_iff _ _ _).2 (.inr ⟨true, [47, 62] ++ z, rfl, by decide, .bare [] [] z (by simp), rfl⟩))
theorem rep4_I (k : Nat) : LexI (List.replicate k bareT) (rep4 k) := by
  induction k with
  | zero => exact .nil
  | succ k ih => exact .cons bareT _ _ _ (one_bare _) ih
theorem rep4_P (k : Nat) : isP (rep4 k) = true := by
  induction k with
  | zero => rfl
  | succ k ih => exact isP_app (by decide) ih
theorem many_512 : lexR (rep4 512) = (List.replicate 512 bareT, 0, 0) :=
  lexR_of (rep4_I 512) (rep4_P 512) (by rw [rep4_len]; decide) (by rw [List.length_replicate]; exact Nat.le_refl _) (fun t ht => by rw [List.eq_of_mem_replicate ht]; decide)
theorem many_err : ∀ (k n : Nat), n + k = 512 → lexG n (rep4 (k + 1)) = .error (4, 4)
  | 0, n, h => by
    have := lexG_many (l := rep4 1) (p := 0) (n := n) (t := bareT) (r := []) (by decide) (one_bare []) (.inl (by omega))
    exact this
  | k + 1, n, h => by
    have h0 : (0 : Nat) < (rep4 (k + 1 + 1)).length := by rw [rep4_len]; omega
    have := lexG_next (l := rep4 (k + 1 + 1)) (p := 0) (n := n) (t := bareT) (r := rep4 (k + 1)) h0 (one_bare _) (by
      rintro (e | e)
      · omega
      · exact absurd e (by decide))
    have h2 := many_err k (n + 1) (by omega)
    rw [h2] at this
    exact this
theorem many_513 : lexR (rep4 513) = ([], 2048, 4) := by
  rw [lexR_in (by rw [rep4_len]; decide) (rep4_P 513), many_err 512 0 (by omega)]
  show ([], ((rep4 513).length : Int) - 4, 4) = _
  rw [rep4_len]
  rfl
end Hx
end Go.Proofs.YtichboamakgabaaGreatDoor
namespace Go.Proofs.YtichboamakgabaaGreatDoor
open Go.RowKit
namespace Hx
open Lx Tx Nmb Es
set_option linter.unusedVariables false
theorem told_v : toldL [118] = some [118] := by decide
theorem hasL_nil (x : List UInt8) : hasL [] x = false := rfl
theorem val_v (q : UInt8) (h : q = 34 ∨ q = 39) (r : List UInt8) : valL (q :: 118 :: q :: r) = some ([118], r) :=
  (valL_iff _ _ _).2 ⟨q, [118], rfl, h, by rcases h with rfl | rfl <;> decide, told_v⟩
theorem attr_v {name g : List UInt8} (hf : fullL name = true) (hg : ∀ c ∈ g, blk c = true) (g2 : List UInt8) (hg2 : ∀ c ∈ g2, blk c = true) (q : UInt8) (h : q = 34 ∨ q = 39) (r : List UInt8) :
    attrL (name ++ (g ++ 61 :: (g2 ++ q :: 118 :: q :: r))) = some (⟨name, [118]⟩, r) :=
  (attrL_iff _ _ _).2 ⟨g, g2, q :: 118 :: q :: r, rfl, hf, hg, hg2, val_v q h r⟩
/-- The three tags. -/
def tagA (name g : List UInt8) : List UInt8 := 60 :: (name ++ ((32 :: g) ++ (name ++ (g ++ 61 :: (g ++ 39 :: 118 :: 39 :: (g ++ [62]))))))
def tagB (name g : List UInt8) : List UInt8 := 60 :: (name ++ ([10] ++ (name ++ (g ++ 61 :: ([] ++ 34 :: 118 :: 34 :: (g ++ [47, 62]))))))
def tagC (name g : List UInt8) : List UInt8 := 60 :: 47 :: (name ++ (g ++ [62]))
theorem one_A {name g : List UInt8} (hf : fullL name = true) (hg : ∀ c ∈ g, blk c = true) : oneL (tagA name g) = some (⟨1, name, [⟨name, [118]⟩], []⟩, []) := by
  refine (oneL_tag _ _ _).2 ((tagL_iff _ _ _).2 (.inr ⟨false, _, rfl, hf, ?_, rfl⟩))
  refine .attr [] (32 :: g) _ (g ++ [62]) ⟨name, [118]⟩ false _ [] ?_ (by simp) (attr_v hf hg g hg 39 (.inr rfl) _) (hasL_nil _) (.shut _ g [] hg)
  intro c hc
  rcases List.mem_cons.1 hc with e | e
  · subst e; rfl
  · exact hg c e
theorem one_B {name g : List UInt8} (hf : fullL name = true) (hg : ∀ c ∈ g, blk c = true) : oneL (tagB name g) = some (⟨3, name, [⟨name, [118]⟩], []⟩, []) := by
  refine (oneL_tag _ _ _).2 ((tagL_iff _ _ _).2 (.inr ⟨true, _, rfl, hf, ?_, rfl⟩))
  exact .attr [] [10] _ (g ++ [47, 62]) ⟨name, [118]⟩ true _ [] (by decide) (by simp) (attr_v hf hg [] (by simp) 34 (.inl rfl) _) (hasL_nil _) (.bare _ g [] hg)
theorem one_C {name g : List UInt8} (hf : fullL name = true) (hg : ∀ c ∈ g, blk c = true) : oneL (tagC name g) = some (⟨2, name, [], []⟩, []) :=
  (oneL_tag _ _ _).2 ((tagL_iff _ _ _).2 (.inl ⟨g, rfl, hf, hg, rfl⟩))
theorem blk_may {c : UInt8} (h : blk c = true) : c.toNat < 128 ∧ may (c.toNat : Int) = true := by
  have h2 : c.toNat = 32 ∨ c.toNat = 9 ∨ c.toNat = 10 ∨ c.toNat = 13 := by
    unfold blk at h
    simp only [Bool.or_eq_true, beq_iff_eq] at h
    rcases h with ((h | h) | h) | h <;> subst h <;> decide
  rcases h2 with h | h | h | h <;> rw [h] <;> decide
theorem isP_blks {g : List UInt8} (hg : ∀ c ∈ g, blk c = true) : isP g = true := isP_signs g fun c hc => blk_may (hg c hc)
theorem isP_c {a : List UInt8} {c : UInt8} (h : c.toNat < 128 ∧ may (c.toNat : Int) = true) (ha : isP a = true) : isP (c :: a) = true := isP_app (isP_one h.1 h.2) ha
theorem isP_A {name g : List UInt8} (hf : fullL name = true) (hg : ∀ c ∈ g, blk c = true) : isP (tagA name g) = true :=
  isP_c (by decide) (isP_app (fullL_text hf) (isP_app (isP_c (by decide) (isP_blks hg)) (isP_app (fullL_text hf) (isP_app (isP_blks hg) (isP_c (by decide) (isP_app (isP_blks hg) (isP_c (by decide) (isP_c (by decide) (isP_c (by decide) (isP_app (isP_blks hg) (by decide)))))))))))
theorem isP_B {name g : List UInt8} (hf : fullL name = true) (hg : ∀ c ∈ g, blk c = true) : isP (tagB name g) = true :=
  isP_c (by decide) (isP_app (fullL_text hf) (isP_app (by decide) (isP_app (fullL_text hf) (isP_app (isP_blks hg) (isP_c (by decide) (isP_app (by decide) (isP_c (by decide) (isP_c (by decide) (isP_c (by decide) (isP_app (isP_blks hg) (by decide)))))))))))
theorem isP_C {name g : List UInt8} (hf : fullL name = true) (hg : ∀ c ∈ g, blk c = true) : isP (tagC name g) = true :=
  isP_c (by decide) (isP_c (by decide) (isP_app (fullL_text hf) (isP_app (isP_blks hg) (by decide))))
theorem lex_one {l : List UInt8} {t : Tk} (h : oneL l = some (t, [])) (hp : isP l = true) (hl : l.length ≤ 16384) (ha : t.attrs.length ≤ 16) : lexR l = ([t], 0, 0) :=
  lexR_of (.cons t [] l [] h .nil) hp hl (by simp) (fun x hx => by rw [List.mem_singleton.1 hx]; exact ha)
theorem lex_A {name g : List UInt8} (hf : fullL name = true) (hg : ∀ c ∈ g, blk c = true) (h1 : name.length ≤ 100) (h2 : g.length ≤ 100) : lexR (tagA name g) = ([⟨1, name, [⟨name, [118]⟩], []⟩], 0, 0) :=
  lex_one (one_A hf hg) (isP_A hf hg) (by simp [tagA]; omega) (by simp)
theorem lex_B {name g : List UInt8} (hf : fullL name = true) (hg : ∀ c ∈ g, blk c = true) (h1 : name.length ≤ 100) (h2 : g.length ≤ 100) : lexR (tagB name g) = ([⟨3, name, [⟨name, [118]⟩], []⟩], 0, 0) :=
  lex_one (one_B hf hg) (isP_B hf hg) (by simp [tagB]; omega) (by simp)
theorem lex_C {name g : List UInt8} (hf : fullL name = true) (hg : ∀ c ∈ g, blk c = true) (h1 : name.length ≤ 100) (h2 : g.length ≤ 100) : lexR (tagC name g) = ([⟨2, name, [], []⟩], 0, 0) :=
  lex_one (one_C hf hg) (isP_C hf hg) (by simp [tagC]; omega) (by simp)
end Hx
end Go.Proofs.YtichboamakgabaaGreatDoor
