/-
  Texts of one seat, put together: EscA, TextP, TextQ, EscB, LeaA, LeaB.
-/
import Derived.Test.YtbjgfaflikgobaaDoorH01
import Derived.Test.YtbjgfaflikgobaaDoorH00
import Derived.Test.YtbjgfaflikgobaaDoorH04
import Derived.Laws.RangeAny
import Derived.Lib.OthersKept
import Derived.Deep.LoopGhost
import Derived.Test.YtbjgfaflikgobaaDoorH09
import Derived.Test.YtbjgfaflikgobaaDoorH02
import Derived.Test.YtbjgfaflikgobaaDoorShelf
import Derived.Lib.IndexLaws
import Derived.RegionTactic
namespace Go.Proofs.YtbjgfaflikgobaaDoor
open Go.RowKit
namespace Hx
open Tx Nmb Es
set_option linter.unusedVariables false
/-- What is written for a byte: the reference; whether just where it is quoted. -/
def sgV (l : List UInt8) (q : Bool) : Value := .agg #[.string ⟨l.toArray⟩, .bool q]
def sgK (c : Int) : Value := .int .u8 c
def SG : Array MapEntry := #[⟨sgK 38, sgV [38, 97, 109, 112, 59] false, 0⟩, ⟨sgK 60, sgV [38, 108, 116, 59] false, 1⟩, ⟨sgK 62, sgV [38, 103, 116, 59] false, 2⟩, ⟨sgK 13, sgV [38, 35, 49, 51, 59] false, 3⟩,
  ⟨sgK 34, sgV [38, 113, 117, 111, 116, 59] true, 4⟩, ⟨sgK 9, sgV [38, 35, 57, 59] true, 5⟩, ⟨sgK 10, sgV [38, 35, 49, 48, 59] true, 6⟩]
/-- What the map tells of a byte: which reference, whether just where it is quoted, whether any. -/
def sgT (c : UInt8) : ByteArray × Bool × Bool :=
  if c = 38 then (⟨#[38, 97, 109, 112, 59]⟩, false, true) else if c = 60 then (⟨#[38, 108, 116, 59]⟩, false, true) else if c = 62 then (⟨#[38, 103, 116, 59]⟩, false, true) else if c = 13 then (⟨#[38, 35, 49, 51, 59]⟩, false, true)
  else if c = 34 then (⟨#[38, 113, 117, 111, 116, 59]⟩, true, true) else if c = 9 then (⟨#[38, 35, 57, 59]⟩, true, true) else if c = 10 then (⟨#[38, 35, 49, 48, 59]⟩, true, true) else (⟨#[]⟩, false, false)
def sgF (c : UInt8) : Option (Nat × Value) :=
  if c = 38 then some (0, sgV [38, 97, 109, 112, 59] false) else if c = 60 then some (1, sgV [38, 108, 116, 59] false) else if c = 62 then some (2, sgV [38, 103, 116, 59] false) else if c = 13 then some (3, sgV [38, 35, 49, 51, 59] false)
  else if c = 34 then some (4, sgV [38, 113, 117, 111, 116, 59] true) else if c = 9 then some (5, sgV [38, 35, 57, 59] true) else if c = 10 then some (6, sgV [38, 35, 49, 48, 59] true) else none
end Hx
end Go.Proofs.YtbjgfaflikgobaaDoor
namespace Go.Proofs.YtbjgfaflikgobaaDoor
open Go.RowKit
namespace Hx
open Tx
set_option linter.unusedVariables false
set_option maxHeartbeats 1000000 in
set_option maxRecDepth 100000 in
/-- text.May. -/
theorem may5w (n : Int) (b : Bool) (w : World) (hb : may n = b) :
    Calls Tryd.prog 54 #[.int .i64 n] w fun e w' => e = .returned (.bool b) ∧ w = w' := by
  by_cases a : n = 9
  · subst a
    obtain rfl : true = b := hb
    go_enter Tryd.func54, Tryd.ntmps54
    go_wp2
    go_ret
    exact ⟨rfl, rfl⟩
  have q1 : (n == 9) = false := by simpa using a
  by_cases a2 : n = 10
  · subst a2
    obtain rfl : true = b := hb
    go_enter Tryd.func54, Tryd.ntmps54
    go_wp2
    go_ret
    exact ⟨rfl, rfl⟩
  have q2 : (n == 10) = false := by simpa using a2
  by_cases a3 : n = 13
  · subst a3
    obtain rfl : true = b := hb
    go_enter Tryd.func54, Tryd.ntmps54
    go_wp2
    go_ret
    exact ⟨rfl, rfl⟩
  have q3 : (n == 13) = false := by simpa using a3
  by_cases a6 : n = 65534
  · subst a6
    obtain rfl : false = b := hb
    go_enter Tryd.func54, Tryd.ntmps54
    go_wp2
    go_ret
    exact ⟨rfl, rfl⟩
  have q6 : (n == 65534) = false := by simpa using a6
  by_cases a7 : n = 65535
  · subst a7
    obtain rfl : false = b := hb
    go_enter Tryd.func54, Tryd.ntmps54
    go_wp2
    go_ret
    exact ⟨rfl, rfl⟩
  have q7 : (n == 65535) = false := by simpa using a7
  by_cases a4 : 55296 ≤ n
  · have d4 : decide (55296 ≤ n) = true := by simpa using a4
    have d8 : decide (32 ≤ n) = true := by simp; omega
    by_cases a5 : n ≤ 57343
    · have d5 : decide (n ≤ 57343) = true := by simpa using a5
      obtain rfl : false = b := by
        rw [← hb, may_high (by omega)]
        have e1 : decide (n < 55296) = false := by simp; omega
        have e2 : decide (57343 < n) = false := by simp; omega
        rw [e1, e2]; simp
      clear hb a4 a5
      go_enter Tryd.func54, Tryd.ntmps54
      go_wp2
      go_ret
      exact ⟨rfl, rfl⟩
    · have d5 : decide (n ≤ 57343) = false := by simpa using a5
      have hb2 : decide (n ≤ 1114111) = b := by
        rw [← hb, may_high (by omega)]
        have e1 : decide (n < 55296) = false := by simp; omega
        have e2 : decide (57343 < n) = true := by simp; omega
        rw [e1, e2]; simp [a6, a7]
      clear hb a4 a5 a a2 a3 a6 a7
      go_enter Tryd.func54, Tryd.ntmps54
      go_wp2
      go_ret
      exact ⟨rfl, rfl⟩
  · have d4 : decide (55296 ≤ n) = false := by simpa using a4
    by_cases a8 : 32 ≤ n
    · have d8 : decide (32 ≤ n) = true := by simpa using a8
      have d9 : decide (n ≤ 1114111) = true := by simp; omega
      obtain rfl : true = b := by
        rw [← hb, may_high (by omega), d9]
        have e1 : decide (n < 55296) = true := by simp; omega
        rw [e1]; simp [a6, a7]
      clear hb a4 a8 a a2 a3 a6 a7
      go_enter Tryd.func54, Tryd.ntmps54
      go_wp2
      go_ret
      exact ⟨rfl, rfl⟩
    · have d8 : decide (32 ≤ n) = false := by simpa using a8
      obtain rfl : false = b := by
        rw [← hb, may_low (by omega)]
        simp [a, a2, a3]
      clear hb a4 a8 a a2 a3 a6 a7
      go_enter Tryd.func54, Tryd.ntmps54
      go_wp2
      go_ret
      exact ⟨rfl, rfl⟩
set_option maxHeartbeats 1000000 in
set_option maxRecDepth 100000 in
/-- strings.HasPrefix, of a prefix that is there, or not. -/
theorem slpre (s p : ByteArray) (q : Bool) (w : World) (hq : (decide (p.size ≤ s.size) && decide ((s.extract 0 p.size) = p)) = q) :
    Calls Tryd.prog 61 #[.string s, .string p] w fun e w' => e = .returned (.bool q) ∧ w = w' := by
  by_cases h : p.size ≤ s.size
  · have d0 : decide ((p.size : Int) ≤ (s.size : Int)) = true := by simp; omega
    have e : ((s.extract 0 p.size).toList == p.toList) = q := by rw [seq_b5, ← hq]; simp [h]
    clear hq
    go_enter Tryd.func61, Tryd.ntmps61
    go_wp2
    go_ret
    exact ⟨rfl, rfl⟩
  · have d0 : decide ((p.size : Int) ≤ (s.size : Int)) = false := by simp; omega
    obtain rfl : false = q := by rw [← hq]; simp [h]
    clear hq
    go_enter Tryd.func61, Tryd.ntmps61
    go_wp2
    go_ret
    exact ⟨rfl, rfl⟩
set_option maxRecDepth 100000 in
theorem pre5 (s p : ByteArray) (q : Bool) (w : World) (hq : (decide (p.size ≤ s.size) && decide ((s.extract 0 p.size) = p)) = q) :
    Calls Tryd.prog 53 #[.string s, .string p] w fun e w' => e = .returned (.bool q) ∧ w = w' := by
  have HQ := Lib.hid hq
  clear hq
  go_enter Tryd.func53, Tryd.ntmps53
  go_wp2_with (go_at_call 61; (with_reducible refine (slpre s p q w HQ.out).mono ?_); rintro e w1 ⟨rfl, rfl⟩)
  go_ret
  exact ⟨rfl, rfl⟩
/-- The bytes of the code point that stands for none. -/
def stnd : ByteArray := ⟨#[239, 191, 189]⟩
theorem enc_stnd : enc 65533 = [239, 191, 189] := by decide +kernel
theorem extract_take (s : ByteArray) (n : Nat) : s.extract 0 n = ⟨(s.data.toList.take n).toArray⟩ := by
  have := ByteArray.extract_mk s.data.toList 0 n
  rw [← ba_eq5] at this
  rw [this]
  simp
theorem stnd_pre (l : List UInt8) : (decide (stnd.size ≤ (⟨l.toArray⟩ : ByteArray).size) && decide (((⟨l.toArray⟩ : ByteArray).extract 0 stnd.size) = stnd)) = decide (l.take 3 = [239, 191, 189]) := by
  rw [extract_take]
  show (decide (3 ≤ l.length) && decide ((⟨(l.take 3).toArray⟩ : ByteArray) = ⟨#[239, 191, 189]⟩)) = _
  rw [Bool.eq_iff_iff]
  simp only [Bool.and_eq_true, decide_eq_true_eq]
  constructor
  · rintro ⟨_, h⟩
    have := congrArg (fun x : ByteArray => x.data.toList) h
    simpa using this
  · intro h
    refine ⟨?_, by rw [h]⟩
    have := congrArg List.length h
    rw [List.length_take] at this
    simp at this
    omega
/-- The rune that a range tells of bytes. -/
def runeL (l : List UInt8) : Nat := match decL l with | some p => p.1 | none => 65533
theorem dec_stnd (l : List UInt8) : l.take 3 = [239, 191, 189] ↔ decL l = some (65533, 3) := by
  constructor
  · intro h
    have e : l = enc 65533 ++ l.drop 3 := by rw [enc_stnd, ← h, List.take_append_drop]
    rw [e, dec_enc 65533 (by decide), enc_stnd]
    rfl
  · intro h
    obtain ⟨_, _, r, e⟩ := dec_sound l _ _ h
    rw [e, enc_stnd]
    rfl
theorem runeL_le (l : List UInt8) : runeL l ≤ 1114111 := by
  unfold runeL
  cases h : decL l with
  | none => simp
  | some p =>
    obtain ⟨p, k⟩ := p
    exact sv_le (dec_sound l _ _ h).1
theorem one_rune (l : List UInt8) : (one l).isSome = if runeL l = 65533 then decide (l.take 3 = [239, 191, 189]) else may (runeL l) := by
  unfold runeL one
  cases h : decL l with
  | none =>
    have : ¬ l.take 3 = [239, 191, 189] := by rw [dec_stnd, h]; simp
    simp [this]
  | some p =>
    obtain ⟨p, k⟩ := p
    simp only
    by_cases hp : p = 65533
    · subst hp
      have hs := (dec_sound l _ _ h).2.1
      rw [enc_stnd] at hs
      obtain rfl : k = 3 := hs
      rw [if_pos rfl, decide_eq_true ((dec_stnd l).2 h)]
      decide
    · rw [if_neg hp]
      cases hm : may p <;> simp [hm]
set_option maxHeartbeats 1000000 in
set_option maxRecDepth 100000 in
/-- text.begins. -/
theorem begins5 (l : List UInt8) (s : ByteArray) (c : Nat) (b : Bool) (w : World) (hs : s = ⟨l.toArray⟩) (hc : runeL l = c) (hb : (one l).isSome = b) :
    Calls Tryd.prog 39 #[.string s, .int .i32 c] w fun e w' => e = .returned (.bool b) ∧ w = w' := by
  have hle := runeL_le l
  rw [one_rune, hc] at hb
  rw [hc] at hle
  have g1 : IntKind.i64.wrap (c : Int) = (c : Int) := IntWalk.i64_in _ (by omega)
  have hpre := stnd_pre l
  rw [← hs] at hpre
  by_cases h : c = 65533
  · rw [if_pos h] at hb
    rw [hb] at hpre
    have HP : Hid (∀ W : World, Calls Tryd.prog 53 #[.string s, .string ⟨#[239, 191, 189]⟩] W fun e w' => e = .returned (.bool b) ∧ W = w') := fun W => pre5 s stnd b W hpre
    subst h
    clear hle hc hb hs hpre
    cases b
    · go_enter Tryd.func39, Tryd.ntmps39
      go_wp2_with (go_at_call 53; (with_reducible refine (HP.out _).mono ?_); rintro e w1 ⟨rfl, rfl⟩)
      go_ret
      exact ⟨rfl, rfl⟩
    · go_enter Tryd.func39, Tryd.ntmps39
      go_wp2_with (first
        | (go_at_call 53; (with_reducible refine (HP.out _).mono ?_); rintro e w1 ⟨rfl, rfl⟩)
        | (go_at_call 54; (with_reducible refine (may5w 65533 true w rfl).mono ?_); rintro e w1 ⟨rfl, rfl⟩)
        | fail)
      go_ret
      exact ⟨rfl, rfl⟩
  · rw [if_neg h] at hb
    have d0 : ((c : Int) == 65533) = false := by simp; omega
    have HB := Lib.hid hb
    clear hle hc hb hs hpre h
    go_enter Tryd.func39, Tryd.ntmps39
    go_wp2_with (first
      | (go_at_call 54; (with_reducible refine (may5w c b w HB.out).mono ?_); rintro e w1 ⟨rfl, rfl⟩)
      | fail)
    go_ret
    exact ⟨rfl, rfl⟩
end Hx
end Go.Proofs.YtbjgfaflikgobaaDoor
namespace Go.Proofs.YtbjgfaflikgobaaDoor
open Go.RowKit
namespace Hx
open Tx
set_option linter.unusedVariables false
theorem drop_len (s : ByteArray) (a : Nat) : (s.data.toList.drop a).length = s.size - a := by rw [List.length_drop, ba_len5]
/-- One step of a range over bytes, at a place where a code point that may be begins. -/
theorem step_some (s : ByteArray) (a p k : Nat) (ha : a < s.size) (ho : one (s.data.toList.drop a) = some (p, k)) :
    Utf8.decode s a = (p, k) ∧ runeL (s.data.toList.drop a) = p ∧ 1 ≤ k ∧ a + k ≤ s.size ∧ pts (s.data.toList.drop a) = (pts (s.data.toList.drop (a + k))).map (p :: ·) := by
  have hne : s.data.toList.drop a ≠ [] := by
    intro h
    have := drop_len s a
    rw [h] at this
    simp at this
    omega
  have hd : decL (s.data.toList.drop a) = some (p, k) := by
    unfold one at ho
    rw [Option.filter_eq_some_iff] at ho
    exact ho.1
  obtain ⟨h1, h2, _⟩ := one_le ho
  rw [drop_len] at h2
  refine ⟨?_, ?_, h1, by omega, ?_⟩
  · rw [decode_eq s a ha, hd]
  · rw [runeL, hd]
  · rw [pts_step _ hne, ho]
    show Option.map _ (pts (List.drop k (List.drop a s.data.toList))) = _
    rw [List.drop_drop]
theorem step_rune (s : ByteArray) (a : Nat) (ha : a < s.size) : (Utf8.decode s a).1 = runeL (s.data.toList.drop a) := by
  rw [decode_eq s a ha, runeL]
  cases decL (s.data.toList.drop a) <;> rfl
theorem step_none (s : ByteArray) (a : Nat) (ha : a < s.size) (ho : one (s.data.toList.drop a) = none) : pts (s.data.toList.drop a) = none := by
  have hne : s.data.toList.drop a ≠ [] := by
    intro h
    have := drop_len s a
    rw [h] at this
    simp at this
    omega
  rw [pts_step _ hne, ho]
theorem pts_end (s : ByteArray) (a : Nat) (h : ¬ a < s.size) : pts (s.data.toList.drop a) = some [] := by
  rw [List.drop_of_length_le (by rw [ba_len5]; omega)]
  rfl
theorem below_iter (w : World) (s : ByteArray) (p : Nat) : Below w.heap.size w (w.iter s p) := stpA (Below.refl _ _) _
set_option maxHeartbeats 1000000 in
set_option maxRecDepth 100000 in
/-- text.Check. -/
theorem check5 (s : ByteArray) (w : World) (hm : s.size ≤ 1000000) (q : Int) (h : chkE s = q) : Calls Tryd.prog 28 #[.string s] w fun e w' => e = .returned (.int .i64 q) ∧ Below w.heap.size w w' := by
  unfold chkE at h
  by_cases h1 : 16384 < s.size
  · rw [if_pos h1] at h
    subst h
    have d0 : decide ((16384 : Int) < (s.size : Int)) = true := by simp; omega
    clear hm
    go_enter Tryd.func28, Tryd.ntmps28
    go_wp2_with fail
    go_ret
    exact ⟨rfl, Below.refl _ _⟩
  · rw [if_neg h1] at h
    have d0 : decide ((16384 : Int) < (s.size : Int)) = false := by simp; omega
    have d1 : ¬ (16384 < s.size) := h1
    have HQ := Lib.hid h
    clear h hm
    go_enter Tryd.func28, Tryd.ntmps28
    go_wp2_with fail
    go_loopg [3, 4] s.size (fun g x y wr => ∃ pos : Nat, s.size ≤ pos + g ∧ wr = w.iter s pos ∧ (pts (s.data.toList.drop pos)).isSome = (pts s.data.toList).isSome)
    case atStart => exact ⟨0, by omega, rfl, rfl⟩
    case round =>
      obtain ⟨pos, hg, rfl, hp⟩ := hrel
      have HP := Lib.hid hp
      clear hp
      by_cases hlt : pos < s.size
      · have hnx : ∀ ty, (Instr.next (.pointer (some ⟨w.heap.size, 0, none⟩)) true ty).run Tryd.prog (w.iter s pos) = _ := fun ty => run_next_any w s pos ty hlt
        have b0 : (0 : Int) ≤ (pos : Int) ∧ (pos : Int) ≤ (s.size : Int) := by omega
        have b1 : pos ≤ s.size := by omega
        obtain ⟨c, hc⟩ : ∃ c, runeL (s.data.toList.drop pos) = c := ⟨_, rfl⟩
        have HX := Lib.hid (extract_drop s pos)
        have HC := Lib.hid hc
        rw [step_rune s pos hlt, hc] at hnx
        cases ho : one (s.data.toList.drop pos) with
        | none =>
          have hq := HQ.out
          rw [← HP.out, step_none s pos hlt ho] at hq
          obtain rfl : (50 : Int) = q := hq
          have HO : Hid ((one (s.data.toList.drop pos)).isSome = false) := by show _ = _; rw [ho]; rfl
          clear hc ho
          go_wp2_with (go_at_call 39; (with_reducible refine (begins5 (s.data.toList.drop pos) _ c false _ HX.out HC.out HO.out).mono ?_); rintro e w1 ⟨rfl, rfl⟩)
          go_ret
          exact ⟨rfl, below_iter w s _⟩
        | some x =>
          obtain ⟨p, k⟩ := x
          obtain ⟨e1, e2, e3, e4, e5⟩ := step_some s pos p k hlt ho
          have HO : Hid ((one (s.data.toList.drop pos)).isSome = true) := by show _ = _; rw [ho]; rfl
          rw [e1] at hnx
          have HN : Hid ((pts (s.data.toList.drop (pos + k))).isSome = (pts s.data.toList).isSome) := by
            show _ = _
            rw [← HP.out, e5]
            simp
          clear hc ho e1 e2 e5
          go_wp2_with (go_at_call 39; (with_reducible refine (begins5 (s.data.toList.drop pos) _ c true _ HX.out HC.out HO.out).mono ?_); rintro e w1 ⟨rfl, rfl⟩)
          go_roundg (gk - 1)
          case rel => exact ⟨pos + k, by omega, rfl, HN.out⟩
          case measure => omega
      · have hnx : ∀ ty, (Instr.next (.pointer (some ⟨w.heap.size, 0, none⟩)) true ty).run Tryd.prog (w.iter s pos) = _ := fun ty => run_next_end w s pos ty hlt
        have hq := HQ.out
        rw [← HP.out, pts_end s pos hlt] at hq
        obtain rfl : (0 : Int) = q := hq
        go_wp2_with fail
        go_ret
        exact ⟨rfl, below_iter w s _⟩
end Hx
end Go.Proofs.YtbjgfaflikgobaaDoor
namespace Go.Proofs.YtbjgfaflikgobaaDoor
open Go.RowKit
namespace Hx
open Tx Nmb Es
set_option linter.unusedVariables false
end Hx
end Go.Proofs.YtbjgfaflikgobaaDoor
namespace Go.Proofs.YtbjgfaflikgobaaDoor
namespace Lx
open Tx Nmb Es
set_option linter.unusedVariables false
/-- Are the names new, behind others? -/
def fresh : List Pr → List Pr → Bool
  | _, [] => true
  | acc, p :: r => !hasL acc p.name && fresh (acc ++ [p]) r
/-- How many different names there are. -/
def dis : List Pr → List Pr → Nat
  | _, [] => 0
  | acc, p :: r => (if hasL acc p.name then 0 else 1) + dis (acc ++ [p]) r
theorem dis_snoc : ∀ (l acc : List Pr) (p : Pr), dis acc (l ++ [p]) = dis acc l + (if hasL (acc ++ l) p.name then 0 else 1) := by
  intro l
  induction l with
  | nil => intro acc p; simp [dis]
  | cons q l ih =>
    intro acc p
    rw [List.cons_append]
    show (if hasL acc q.name then 0 else 1) + dis (acc ++ [q]) (l ++ [p]) = ((if hasL acc q.name then 0 else 1) + dis (acc ++ [q]) l) + _
    rw [ih, List.append_assoc, List.singleton_append, Nat.add_assoc]
theorem dis_le : ∀ (l acc : List Pr), dis acc l ≤ l.length ∧ (dis acc l = l.length ↔ fresh acc l = true) := by
  intro l
  induction l with
  | nil => intro acc; simp [dis, fresh]
  | cons q l ih =>
    intro acc
    obtain ⟨h1, h2⟩ := ih (acc ++ [q])
    unfold dis fresh
    rw [List.length_cons]
    cases hh : hasL acc q.name
    · simp
      refine ⟨by omega, ?_⟩
      rw [← h2]
      omega
    · simp
      omega
theorem attrsF_fresh : ∀ (l acc : List Pr), attrsF acc l = (fresh acc l && l.all fun p => fullL p.name && okT p.value) := by
  intro l
  induction l with
  | nil => intro acc; rfl
  | cons p l ih =>
    intro acc
    unfold attrsF fresh
    rw [ih, List.all_cons]
    cases fullL p.name <;> cases hasL acc p.name <;> cases okT p.value <;> simp
/-- The tag whose name stands ahead of a text, names that come twice let through. -/
def tagN : Nat → List UInt8 → Option (Bool × List Pr × List UInt8)
  | 0, _ => none
  | f + 1, l => match l.dropWhile blk with
    | [] => none
    | c :: x => if c = 62 then some (false, [], x) else if c = 47 ∧ x.head? = some 62 then some (true, [], x.tail) else
      match attrL (c :: x) with
      | none => none
      | some (p, y) => if l.length = (c :: x).length then none else (tagN f y).map fun q => (q.1, p :: q.2.1, q.2.2)
def tagH (l : List UInt8) : Option (Bool × List Pr × List UInt8) := tagN (l.length + 1) l
/-- No end of a tag stands here. -/
def noEnd9 (l : List UInt8) : Prop := l.head? ≠ some 62 ∧ l.take 2 ≠ [47, 62]
/-- What is not a sign. -/
def ne (q c : UInt8) : Bool := c != q
end Lx
end Go.Proofs.YtbjgfaflikgobaaDoor
namespace Go.Proofs.YtbjgfaflikgobaaDoor
open Go.RowKit
namespace Hx
open Lx
set_option linter.unusedVariables false
theorem cut_uniq {c : UInt8} : ∀ {a a' b b' : List UInt8}, a ++ c :: b = a' ++ c :: b' → c ∉ a → c ∉ a' → a = a' ∧ b = b' := by
  intro a
  induction a with
  | nil =>
    intro a' b b' h _ h2
    cases a' with
    | nil => injection h with _ h; exact ⟨rfl, h⟩
    | cons d a' => injection h with h _; exact absurd (by rw [h]; simp) h2
  | cons d a ih =>
    intro a' b b' h h1 h2
    cases a' with
    | nil => injection h with h _; exact absurd (by rw [← h]; simp) h1
    | cons d' a' =>
      injection h with e h
      rw [List.mem_cons, not_or] at h1 h2
      obtain ⟨q1, q2⟩ := ih h h1.2 h2.2
      exact ⟨by rw [e, q1], q2⟩
theorem xix_cases (l : List UInt8) (c : UInt8) : (Lib.indexByte l c = -1 ∧ c ∉ l) ∨ ∃ i : Nat, Lib.indexByte l c = (i : Int) ∧ i < l.length ∧ l = l.take i ++ c :: l.drop (i + 1) ∧ c ∉ l.take i := by
  have hge := Lib.indexByte_ge l c
  by_cases h : Lib.indexByte l c = -1
  · left
    refine ⟨h, fun hc => ?_⟩
    obtain ⟨k, hk⟩ := List.mem_iff_getElem?.1 hc
    exact Lib.indexByte_none h k hk
  · right
    obtain ⟨i, hi⟩ : ∃ i : Nat, Lib.indexByte l c = (i : Int) := ⟨(Lib.indexByte l c).toNat, by omega⟩
    obtain ⟨h1, h2⟩ := Lib.indexByte_some hi
    obtain ⟨hlt, hc⟩ := List.getElem?_eq_some_iff.1 h1
    refine ⟨i, hi, hlt, ?_, fun hm => ?_⟩
    · conv => lhs; rw [← List.take_append_drop i l]
      rw [List.drop_eq_getElem_cons hlt, hc]
    · obtain ⟨k, hk⟩ := List.mem_iff_getElem?.1 hm
      rw [List.getElem?_take] at hk
      split at hk
      · exact h2 k (by assumption) hk
      · cases hk
theorem cutC_some9 {l : List UInt8} (h : (58 : UInt8) ∈ l) : (cutC l).isSome = true := by
  induction l with
  | nil => cases h
  | cons c l ih =>
    show (if c = 58 then _ else _ : Option _).isSome = true
    split
    · rfl
    · rename_i hc
      rcases List.mem_cons.1 h with e | e
      · exact absurd e.symm hc
      · show (Option.map _ (cutC l)).isSome = true
        rw [Option.isSome_map]
        exact ih e
/-- What Cut answers. -/
def XCutAt (p r : ByteArray) (b : Bool) (w : World) (e : Ending) (w' : World) : Prop := e = .returned (.tuple #[.string p, .string r, .bool b]) ∧ Below w.heap.size w w'
theorem xib_58 (s : ByteArray) (q : Int) (w : World) (h : Lib.indexByte s.data.toList 58 = q) :
    Calls Tryd.prog 68 #[.string s, .int .u8 ↑((⟨#[58]⟩ : ByteArray)[0]'(by decide)).toNat] w fun e w' => e = .returned (.int .i64 q) ∧ w = w' := by
  refine (Tryd.stringslite_IndexByte s _ w).mono fun e w' ⟨h1, h2⟩ => ⟨?_, h2.symm⟩
  rw [h1, ← h]
  rfl
set_option maxRecDepth 100000 in
theorem xindex_58 (s : ByteArray) (q : Int) (w : World) (h : Lib.indexByte s.data.toList 58 = q) :
    Calls Tryd.prog 60 #[.string s, .string ⟨#[58]⟩] w fun e w' => e = .returned (.int .i64 q) ∧ w = w' := by
  have H := Lib.hid h
  cases hq : ([58] == s.toList) with
  | true =>
    obtain rfl : (0 : Int) = q := by
      have e : s.data.toList = [58] := by
        rw [beq_iff_eq, ByteArray.toList_eq] at hq
        exact hq.symm
      rw [← h, e]
      rfl
    clear h
    go_enter Tryd.func60, Tryd.ntmps60
    go_wp2_with fail
    go_ret
    exact ⟨rfl, rfl⟩
  | false =>
    clear h
    go_enter Tryd.func60, Tryd.ntmps60
    go_wp2_with (first
      | (go_at_call 68; (with_reducible refine (xib_58 s q w H.out).mono ?_); rintro e w1 ⟨rfl, rfl⟩)
      | fail)
    go_ret
    exact ⟨rfl, rfl⟩
set_option maxRecDepth 100000 in
theorem xslcut_no_58 (s : ByteArray) (w : World) (h : Lib.indexByte s.data.toList 58 = -1) :
    Calls Tryd.prog 50 #[.string s, .string ⟨#[58]⟩] w (XCutAt s ⟨#[]⟩ false w) := by
  have H := Lib.hid h
  clear h
  go_enter Tryd.func50, Tryd.ntmps50
  go_wp2_with (first
    | (go_at_call 60; (with_reducible refine (xindex_58 s (-1) w H.out).mono ?_); rintro e w1 ⟨rfl, rfl⟩)
    | fail)
  go_ret3
  exact ⟨rfl, Below.refl _ _⟩
set_option maxRecDepth 100000 in
theorem xslcut_yes_58 (s p r : ByteArray) (i j n : Nat) (w : World) (hm : s.size ≤ 1000000) (h : Lib.indexByte s.data.toList 58 = (i : Int)) (hi : i < s.size) (hj : i + 1 = j) (hn : s.size = n) (hp : s.extract 0 i = p) (hr : s.extract j n = r) :
    Calls Tryd.prog 50 #[.string s, .string ⟨#[58]⟩] w (XCutAt p r true w) := by
  have H := Lib.hid h
  have b1 : (0 : Int) ≤ (i : Int) ∧ (i : Int) ≤ (s.size : Int) := by omega
  have b2 : (0 : Int) ≤ (j : Int) ∧ (j : Int) ≤ (s.size : Int) := by omega
  have s1 : IntKind.i64.wrap ((i : Int) + 1) = (j : Int) := by rw [IntWalk.i64_in _ (by omega)]; omega
  have d1 : decide ((0 : Int) ≤ (i : Int)) = true := by simp
  rw [← hn] at hr
  clear h hm hi hj hn
  go_enter Tryd.func50, Tryd.ntmps50
  go_wp2_with (first
    | (go_at_call 60; (with_reducible refine (xindex_58 s (i : Int) w H.out).mono ?_); rintro e w1 ⟨rfl, rfl⟩)
    | fail)
  go_region
  go_wp2_with fail
  go_ret3
  exact ⟨rfl, (show Below w.heap.size w w.drew from ⟨rfl, rfl, rfl, Nat.le_refl _, fun _ _ => rfl⟩)⟩
set_option maxRecDepth 100000 in
theorem xcut_no_58 (s : ByteArray) (w : World) (h : Lib.indexByte s.data.toList 58 = -1) :
    Calls Tryd.prog 36 #[.string s, .string ⟨#[58]⟩] w (XCutAt s ⟨#[]⟩ false w) := by
  have H := Lib.hid h
  clear h
  go_enter Tryd.func36, Tryd.ntmps36
  go_wp2_with (first
    | (go_at_call 50; (with_reducible refine (xslcut_no_58 s w H.out).mono ?_); rintro e w1 ⟨rfl, hb1⟩)
    | fail)
  go_ret3
  exact ⟨rfl, hb1⟩
set_option maxRecDepth 100000 in
theorem xcut_yes_58 (s p r : ByteArray) (i j n : Nat) (w : World) (hm : s.size ≤ 1000000) (h : Lib.indexByte s.data.toList 58 = (i : Int)) (hi : i < s.size) (hj : i + 1 = j) (hn : s.size = n) (hp : s.extract 0 i = p) (hr : s.extract j n = r) :
    Calls Tryd.prog 36 #[.string s, .string ⟨#[58]⟩] w (XCutAt p r true w) := by
  have H : Hid (Calls Tryd.prog 50 #[.string s, .string ⟨#[58]⟩] w (XCutAt p r true w)) := xslcut_yes_58 s p r i j n w hm h hi hj hn hp hr
  clear hm h hi hj hn hp hr
  go_enter Tryd.func36, Tryd.ntmps36
  go_wp2_with (first
    | (go_at_call 50; (with_reducible refine (H.out).mono ?_); rintro e w1 ⟨rfl, hb1⟩)
    | fail)
  go_ret3
  exact ⟨rfl, hb1⟩
/-- .. over lists. -/
theorem xcut_58_none (s : ByteArray) (w : World) (h : (58 : UInt8) ∉ s.data.toList) :
    Calls Tryd.prog 36 #[.string s, .string ⟨#[58]⟩] w (XCutAt s ⟨#[]⟩ false w) := by
  rcases xix_cases s.data.toList 58 with ⟨h1, _⟩ | ⟨i, _, hi, e, _⟩
  · exact xcut_no_58 s w h1
  · exfalso; apply h; rw [e]; simp
theorem xcut_58_some (s p r : ByteArray) (w : World) (hm : s.size ≤ 1000000) (h : s.data.toList = p.data.toList ++ 58 :: r.data.toList) (hp : (58 : UInt8) ∉ p.data.toList) :
    Calls Tryd.prog 36 #[.string s, .string ⟨#[58]⟩] w (XCutAt p r true w) := by
  rcases xix_cases s.data.toList 58 with ⟨_, h1⟩ | ⟨i, h1, hi, e, hn⟩
  · exfalso; apply h1; rw [h]; simp
  · have hsz := ba_l s
    obtain ⟨e1, e2⟩ := cut_uniq (e.symm.trans h) hn hp
    refine xcut_yes_58 s p r i (i + 1) s.size w hm h1 (by rw [← hsz]; exact hi) rfl rfl ?_ ?_
    · apply ba_x
      rw [extract_l s 0 i (by rw [← hsz]; omega), List.drop_zero, Nat.sub_zero, e1]
    · apply ba_x
      rw [extract_l s (i + 1) s.size (Nat.le_refl _), List.take_of_length_le (by rw [List.length_drop, hsz]; omega), e2]
set_option maxHeartbeats 1000000 in
set_option maxRecDepth 100000 in
theorem begins9 (c : UInt8) (w : World) (b : Bool) (h : ltr c = b) :
    Calls Tryd.prog 51 #[.int .u8 c.toNat] w fun e w' => e = .returned (.bool b) ∧ w = w' := by
  have hlim := c.toNat_lt
  rcases (show (0 ≤ c.toNat ∧ c.toNat ≤ 64) ∨ (65 ≤ c.toNat ∧ c.toNat ≤ 90) ∨ (91 ≤ c.toNat ∧ c.toNat ≤ 94) ∨ (95 ≤ c.toNat ∧ c.toNat ≤ 95) ∨ (96 ≤ c.toNat ∧ c.toNat ≤ 96) ∨ (97 ≤ c.toNat ∧ c.toNat ≤ 122) ∨ (123 ≤ c.toNat ∧ c.toNat ≤ 255) by omega) with ⟨q1, q2⟩ | ⟨q1, q2⟩ | ⟨q1, q2⟩ | ⟨q1, q2⟩ | ⟨q1, q2⟩ | ⟨q1, q2⟩ | ⟨q1, q2⟩
  · obtain rfl : false = b := by
      rw [← h]
      unfold ltr
      have e95 : (c == 95) = false := by rw [Bool.eq_iff_iff]; simp [← UInt8.toNat_inj]; omega
      rw [e95]
      simp <;> omega
    clear h
    have feq95 : ((c.toNat : Int) == 95) = false := by simp; omega
    have fge97 : decide ((97 : Int) ≤ (c.toNat : Int)) = false := decide_eq_false (by omega)
    have fle122 : decide ((c.toNat : Int) ≤ 122) = true := decide_eq_true (by omega)
    have fge65 : decide ((65 : Int) ≤ (c.toNat : Int)) = false := decide_eq_false (by omega)
    have fle90 : decide ((c.toNat : Int) ≤ 90) = true := decide_eq_true (by omega)
    go_enter Tryd.func51, Tryd.ntmps51
    go_wp2_with fail
    go_ret
    exact ⟨rfl, rfl⟩
  · obtain rfl : true = b := by
      rw [← h]
      unfold ltr
      have e95 : (c == 95) = false := by rw [Bool.eq_iff_iff]; simp [← UInt8.toNat_inj]; omega
      rw [e95]
      simp <;> omega
    clear h
    have feq95 : ((c.toNat : Int) == 95) = false := by simp; omega
    have fge97 : decide ((97 : Int) ≤ (c.toNat : Int)) = false := decide_eq_false (by omega)
    have fle122 : decide ((c.toNat : Int) ≤ 122) = true := decide_eq_true (by omega)
    have fge65 : decide ((65 : Int) ≤ (c.toNat : Int)) = true := decide_eq_true (by omega)
    have fle90 : decide ((c.toNat : Int) ≤ 90) = true := decide_eq_true (by omega)
    go_enter Tryd.func51, Tryd.ntmps51
    go_wp2_with fail
    go_ret
    exact ⟨rfl, rfl⟩
  · obtain rfl : false = b := by
      rw [← h]
      unfold ltr
      have e95 : (c == 95) = false := by rw [Bool.eq_iff_iff]; simp [← UInt8.toNat_inj]; omega
      rw [e95]
      simp <;> omega
    clear h
    have feq95 : ((c.toNat : Int) == 95) = false := by simp; omega
    have fge97 : decide ((97 : Int) ≤ (c.toNat : Int)) = false := decide_eq_false (by omega)
    have fle122 : decide ((c.toNat : Int) ≤ 122) = true := decide_eq_true (by omega)
    have fge65 : decide ((65 : Int) ≤ (c.toNat : Int)) = true := decide_eq_true (by omega)
    have fle90 : decide ((c.toNat : Int) ≤ 90) = false := decide_eq_false (by omega)
    go_enter Tryd.func51, Tryd.ntmps51
    go_wp2_with fail
    go_ret
    exact ⟨rfl, rfl⟩
  · obtain rfl : true = b := by
      rw [← h]
      unfold ltr
      have e95 : (c == 95) = true := by rw [Bool.eq_iff_iff]; simp [← UInt8.toNat_inj]; omega
      rw [e95]
      simp <;> omega
    clear h
    have feq95 : ((c.toNat : Int) == 95) = true := by simp; omega
    have fge97 : decide ((97 : Int) ≤ (c.toNat : Int)) = false := decide_eq_false (by omega)
    have fle122 : decide ((c.toNat : Int) ≤ 122) = true := decide_eq_true (by omega)
    have fge65 : decide ((65 : Int) ≤ (c.toNat : Int)) = true := decide_eq_true (by omega)
    have fle90 : decide ((c.toNat : Int) ≤ 90) = false := decide_eq_false (by omega)
    go_enter Tryd.func51, Tryd.ntmps51
    go_wp2_with fail
    go_ret
    exact ⟨rfl, rfl⟩
  · obtain rfl : false = b := by
      rw [← h]
      unfold ltr
      have e95 : (c == 95) = false := by rw [Bool.eq_iff_iff]; simp [← UInt8.toNat_inj]; omega
      rw [e95]
      simp <;> omega
    clear h
    have feq95 : ((c.toNat : Int) == 95) = false := by simp; omega
    have fge97 : decide ((97 : Int) ≤ (c.toNat : Int)) = false := decide_eq_false (by omega)
    have fle122 : decide ((c.toNat : Int) ≤ 122) = true := decide_eq_true (by omega)
    have fge65 : decide ((65 : Int) ≤ (c.toNat : Int)) = true := decide_eq_true (by omega)
    have fle90 : decide ((c.toNat : Int) ≤ 90) = false := decide_eq_false (by omega)
    go_enter Tryd.func51, Tryd.ntmps51
    go_wp2_with fail
    go_ret
    exact ⟨rfl, rfl⟩
  · obtain rfl : true = b := by
      rw [← h]
      unfold ltr
      have e95 : (c == 95) = false := by rw [Bool.eq_iff_iff]; simp [← UInt8.toNat_inj]; omega
      rw [e95]
      simp <;> omega
    clear h
    have feq95 : ((c.toNat : Int) == 95) = false := by simp; omega
    have fge97 : decide ((97 : Int) ≤ (c.toNat : Int)) = true := decide_eq_true (by omega)
    have fle122 : decide ((c.toNat : Int) ≤ 122) = true := decide_eq_true (by omega)
    have fge65 : decide ((65 : Int) ≤ (c.toNat : Int)) = true := decide_eq_true (by omega)
    have fle90 : decide ((c.toNat : Int) ≤ 90) = false := decide_eq_false (by omega)
    go_enter Tryd.func51, Tryd.ntmps51
    go_wp2_with fail
    go_ret
    exact ⟨rfl, rfl⟩
  · obtain rfl : false = b := by
      rw [← h]
      unfold ltr
      have e95 : (c == 95) = false := by rw [Bool.eq_iff_iff]; simp [← UInt8.toNat_inj]; omega
      rw [e95]
      simp <;> omega
    clear h
    have feq95 : ((c.toNat : Int) == 95) = false := by simp; omega
    have fge97 : decide ((97 : Int) ≤ (c.toNat : Int)) = true := decide_eq_true (by omega)
    have fle122 : decide ((c.toNat : Int) ≤ 122) = false := decide_eq_false (by omega)
    have fge65 : decide ((65 : Int) ≤ (c.toNat : Int)) = true := decide_eq_true (by omega)
    have fle90 : decide ((c.toNat : Int) ≤ 90) = false := decide_eq_false (by omega)
    go_enter Tryd.func51, Tryd.ntmps51
    go_wp2_with fail
    go_ret
    exact ⟨rfl, rfl⟩
theorem nch_not9 {c : UInt8} (h : ltr c = false) : nch c = (decide (48 ≤ c.toNat) && decide (c.toNat ≤ 57) || c == 46 || c == 45) := by unfold nch; rw [h]; simp
set_option maxHeartbeats 2000000 in
set_option maxRecDepth 100000 in
theorem goesOn9 (c : UInt8) (w : World) (b : Bool) (h : nch c = b) :
    Calls Tryd.prog 52 #[.int .u8 c.toNat] w fun e w' => e = .returned (.bool b) ∧ w = w' := by
  cases hl : ltr c with
  | true =>
    have HL := Lib.hid hl
    obtain rfl : true = b := by rw [← h, nch_of_ltr hl]
    clear h hl
    go_enter Tryd.func52, Tryd.ntmps52
    go_wp2_with (first
      | (go_at_call 51; (with_reducible refine (begins9 c _ true HL.out).mono ?_); rintro e1 w1 ⟨rfl, rfl⟩)
      | fail)
    go_ret
    exact ⟨rfl, rfl⟩
  | false =>
    have HL := Lib.hid hl
    rw [nch_not9 hl] at h
    clear hl
    have hlim := c.toNat_lt
    rcases (show (0 ≤ c.toNat ∧ c.toNat ≤ 44) ∨ (45 ≤ c.toNat ∧ c.toNat ≤ 45) ∨ (46 ≤ c.toNat ∧ c.toNat ≤ 46) ∨ (47 ≤ c.toNat ∧ c.toNat ≤ 47) ∨ (48 ≤ c.toNat ∧ c.toNat ≤ 57) ∨ (58 ≤ c.toNat ∧ c.toNat ≤ 255) by omega) with ⟨q1, q2⟩ | ⟨q1, q2⟩ | ⟨q1, q2⟩ | ⟨q1, q2⟩ | ⟨q1, q2⟩ | ⟨q1, q2⟩
    · obtain rfl : false = b := by
        rw [← h]
        have e45 : (c == 45) = false := by rw [Bool.eq_iff_iff]; simp [← UInt8.toNat_inj]; omega
        have e46 : (c == 46) = false := by rw [Bool.eq_iff_iff]; simp [← UInt8.toNat_inj]; omega
        rw [e45, e46]
        simp <;> omega
      clear h
      have feq46 : ((c.toNat : Int) == 46) = false := by simp; omega
      have feq45 : ((c.toNat : Int) == 45) = false := by simp; omega
      have fge48 : decide ((48 : Int) ≤ (c.toNat : Int)) = false := decide_eq_false (by omega)
      have fle57 : decide ((c.toNat : Int) ≤ 57) = true := decide_eq_true (by omega)
      go_enter Tryd.func52, Tryd.ntmps52
      go_wp2_with (first
        | (go_at_call 51; (with_reducible refine (begins9 c _ false HL.out).mono ?_); rintro e1 w1 ⟨rfl, rfl⟩)
        | fail)
      go_ret
      exact ⟨rfl, rfl⟩
    · obtain rfl : true = b := by
        rw [← h]
        have e45 : (c == 45) = true := by rw [Bool.eq_iff_iff]; simp [← UInt8.toNat_inj]; omega
        have e46 : (c == 46) = false := by rw [Bool.eq_iff_iff]; simp [← UInt8.toNat_inj]; omega
        rw [e45, e46]
        simp <;> omega
      clear h
      have feq46 : ((c.toNat : Int) == 46) = false := by simp; omega
      have feq45 : ((c.toNat : Int) == 45) = true := by simp; omega
      have fge48 : decide ((48 : Int) ≤ (c.toNat : Int)) = false := decide_eq_false (by omega)
      have fle57 : decide ((c.toNat : Int) ≤ 57) = true := decide_eq_true (by omega)
      go_enter Tryd.func52, Tryd.ntmps52
      go_wp2_with (first
        | (go_at_call 51; (with_reducible refine (begins9 c _ false HL.out).mono ?_); rintro e1 w1 ⟨rfl, rfl⟩)
        | fail)
      go_ret
      exact ⟨rfl, rfl⟩
    · obtain rfl : true = b := by
        rw [← h]
        have e45 : (c == 45) = false := by rw [Bool.eq_iff_iff]; simp [← UInt8.toNat_inj]; omega
        have e46 : (c == 46) = true := by rw [Bool.eq_iff_iff]; simp [← UInt8.toNat_inj]; omega
        rw [e45, e46]
        simp <;> omega
      clear h
      have feq46 : ((c.toNat : Int) == 46) = true := by simp; omega
      have feq45 : ((c.toNat : Int) == 45) = false := by simp; omega
      have fge48 : decide ((48 : Int) ≤ (c.toNat : Int)) = false := decide_eq_false (by omega)
      have fle57 : decide ((c.toNat : Int) ≤ 57) = true := decide_eq_true (by omega)
      go_enter Tryd.func52, Tryd.ntmps52
      go_wp2_with (first
        | (go_at_call 51; (with_reducible refine (begins9 c _ false HL.out).mono ?_); rintro e1 w1 ⟨rfl, rfl⟩)
        | fail)
      go_ret
      exact ⟨rfl, rfl⟩
    · obtain rfl : false = b := by
        rw [← h]
        have e45 : (c == 45) = false := by rw [Bool.eq_iff_iff]; simp [← UInt8.toNat_inj]; omega
        have e46 : (c == 46) = false := by rw [Bool.eq_iff_iff]; simp [← UInt8.toNat_inj]; omega
        rw [e45, e46]
        simp <;> omega
      clear h
      have feq46 : ((c.toNat : Int) == 46) = false := by simp; omega
      have feq45 : ((c.toNat : Int) == 45) = false := by simp; omega
      have fge48 : decide ((48 : Int) ≤ (c.toNat : Int)) = false := decide_eq_false (by omega)
      have fle57 : decide ((c.toNat : Int) ≤ 57) = true := decide_eq_true (by omega)
      go_enter Tryd.func52, Tryd.ntmps52
      go_wp2_with (first
        | (go_at_call 51; (with_reducible refine (begins9 c _ false HL.out).mono ?_); rintro e1 w1 ⟨rfl, rfl⟩)
        | fail)
      go_ret
      exact ⟨rfl, rfl⟩
    · obtain rfl : true = b := by
        rw [← h]
        have e45 : (c == 45) = false := by rw [Bool.eq_iff_iff]; simp [← UInt8.toNat_inj]; omega
        have e46 : (c == 46) = false := by rw [Bool.eq_iff_iff]; simp [← UInt8.toNat_inj]; omega
        rw [e45, e46]
        simp <;> omega
      clear h
      have feq46 : ((c.toNat : Int) == 46) = false := by simp; omega
      have feq45 : ((c.toNat : Int) == 45) = false := by simp; omega
      have fge48 : decide ((48 : Int) ≤ (c.toNat : Int)) = true := decide_eq_true (by omega)
      have fle57 : decide ((c.toNat : Int) ≤ 57) = true := decide_eq_true (by omega)
      go_enter Tryd.func52, Tryd.ntmps52
      go_wp2_with (first
        | (go_at_call 51; (with_reducible refine (begins9 c _ false HL.out).mono ?_); rintro e1 w1 ⟨rfl, rfl⟩)
        | fail)
      go_ret
      exact ⟨rfl, rfl⟩
    · obtain rfl : false = b := by
        rw [← h]
        have e45 : (c == 45) = false := by rw [Bool.eq_iff_iff]; simp [← UInt8.toNat_inj]; omega
        have e46 : (c == 46) = false := by rw [Bool.eq_iff_iff]; simp [← UInt8.toNat_inj]; omega
        rw [e45, e46]
        simp <;> omega
      clear h
      have feq46 : ((c.toNat : Int) == 46) = false := by simp; omega
      have feq45 : ((c.toNat : Int) == 45) = false := by simp; omega
      have fge48 : decide ((48 : Int) ≤ (c.toNat : Int)) = true := decide_eq_true (by omega)
      have fle57 : decide ((c.toNat : Int) ≤ 57) = false := decide_eq_false (by omega)
      go_enter Tryd.func52, Tryd.ntmps52
      go_wp2_with (first
        | (go_at_call 51; (with_reducible refine (begins9 c _ false HL.out).mono ?_); rintro e1 w1 ⟨rfl, rfl⟩)
        | fail)
      go_ret
      exact ⟨rfl, rfl⟩
theorem nameL_first {l : List UInt8} (h : 0 < l.length) : nameL l = (ltr (l[0]'h) && l.all nch) := by
  cases l with
  | nil => simp at h
  | cons c r =>
    show (ltr c && r.all nch) = (ltr c && (nch c && r.all nch))
    cases hc : ltr c
    · rfl
    · rw [nch_of_ltr hc]; rfl
set_option maxHeartbeats 4000000 in
set_option maxRecDepth 100000 in
theorem name9q (s : ByteArray) (w : World) (hm : s.size ≤ 1000000) (b : Bool) (h : nameL s.data.toList = b) :
    Calls Tryd.prog 37 #[.string s] w fun e w' => e = .returned (.bool b) ∧ w = w' := by
  have HM := Lib.hid hm
  by_cases h0 : s.size = 0
  · obtain rfl : false = b := by rw [← h, List.eq_nil_of_length_eq_zero ((ba_l s).trans h0)]; rfl
    have hem : s.toList.isEmpty = true := by rw [empty_l]; simp [h0]
    clear h hm h0
    go_enter Tryd.func37, Tryd.ntmps37
    go_wp2_with fail
    go_ret
    exact ⟨rfl, rfl⟩
  · have hem : s.toList.isEmpty = false := by rw [empty_l]; simp [h0]
    have hp : 0 < s.size := by omega
    have hpl : 0 < s.data.toList.length := by rw [ba_l]; exact hp
    have b0 : (0 : Int) < (s.size : Int) := by omega
    rw [nameL_first hpl, at_l s 0 hp] at h
    obtain ⟨c, hc⟩ : ∃ c, s[0]'hp = c := ⟨_, rfl⟩
    have hca : ∀ h, s[0]'h = c := fun _ => hc
    rw [hc] at h
    cases hl : ltr c with
    | false =>
      have HL := Lib.hid hl
      obtain rfl : false = b := by rw [← h, hl]; rfl
      clear h hm h0 hl hc hpl
      go_enter Tryd.func37, Tryd.ntmps37
      go_wp2_with (first
        | (go_at_call 51; (with_reducible refine (begins9 c _ false HL.out).mono ?_); rintro e1 w1 ⟨rfl, rfl⟩)
        | fail)
      go_ret
      exact ⟨rfl, rfl⟩
    | true =>
      have HL := Lib.hid hl
      have HB : Hid (s.data.toList.all nch = b) := Lib.hid (by rw [← h, hl]; rfl)
      clear h hm h0 hl hc hpl
      go_enter Tryd.func37, Tryd.ntmps37
      go_wp2_with (first
        | (go_at_call 51; (with_reducible refine (begins9 c _ true HL.out).mono ?_); rintro e1 w1 ⟨rfl, rfl⟩)
        | fail)
      go_loopw [14] (fun i wr => ∃ k : Nat, k ≤ s.size ∧ i = .int .i64 k ∧ (s.data.toList.take k).all nch = true ∧ w = wr) (fun i _ => s.size - (intOf i).toNat)
      case atStart => exact ⟨0, Nat.zero_le _, rfl, rfl, by first | rfl | trivial⟩
      case round =>
        obtain ⟨k, hk, rfl, hn, rfl⟩ := hrel
        have hs := HM.out
        by_cases hlt : k < s.size
        · obtain ⟨d, hd⟩ : ∃ d, s[k]'hlt = d := ⟨_, rfl⟩
          have hda : ∀ h, s[k]'h = d := fun _ => hd
          have hkl : k < s.data.toList.length := by rw [ba_l]; exact hlt
          have hdk : s.data.toList[k]'hkl = d := (at_l s k hlt).trans hd
          have bk : (0 : Int) ≤ (k : Int) ∧ (k : Int) < (s.size : Int) := by omega
          cases hg : nch d with
          | false =>
            have HD := Lib.hid hg
            obtain rfl : false = b := by
              rw [← HB.out]
              refine (List.all_eq_false.2 ⟨d, hdk ▸ List.getElem_mem hkl, ?_⟩).symm
              rw [hg]; decide
            clear hg hd hdk hn
            go_wp2_with (first
              | (go_at_call 52; (with_reducible refine (goesOn9 d _ false HD.out).mono ?_); rintro e2 w2 ⟨rfl, rfl⟩)
              | fail)
            go_ret
            exact ⟨rfl, rfl⟩
          | true =>
            have HD := Lib.hid hg
            have HV : Hid ((s.data.toList.take (k + 1)).all nch = true) := Lib.hid (by
              rw [List.take_succ_eq_append_getElem hkl, List.all_append, hn, hdk]
              simp [hg])
            clear hg hd hdk hn
            go_wp2_with (first
              | (go_at_call 52; (with_reducible refine (goesOn9 d _ true HD.out).mono ?_); rintro e2 w2 ⟨rfl, rfl⟩)
              | fail)
            go_roundw
            case rel => exact ⟨k + 1, hlt, by go_num, HV.out, by first | rfl | trivial⟩
            case measure => simp [intOf]; omega
        · obtain rfl : k = s.size := by omega
          obtain rfl : true = b := by
            rw [← HB.out]
            rw [List.take_of_length_le (by rw [ba_l]; omega)] at hn
            exact hn.symm
          clear hn
          go_wp2_with fail
          go_ret
          exact ⟨rfl, rfl⟩
set_option maxHeartbeats 4000000 in
set_option maxRecDepth 100000 in
theorem full9q (s : ByteArray) (w : World) (hm : s.size ≤ 1000000) (b : Bool) (h : fullL s.data.toList = b) :
    Calls Tryd.prog 26 #[.string s] w fun e w' => e = .returned (.bool b) ∧ Below w.heap.size w w' := by
  unfold fullL at h
  have HMs := Lib.hid hm
  cases hc : cutC s.data.toList with
  | none =>
    rw [hc] at h
    have HC : Hid (Calls Tryd.prog 36 #[.string s, .string ⟨#[58]⟩] w (XCutAt s ⟨#[]⟩ false w)) := Lib.hid (xcut_58_none s w fun hx => by
      have := cutC_some9 hx
      rw [hc] at this
      cases this)
    have Hs : Hid (nameL s.data.toList = b) := Lib.hid h
    clear hc h hm
    cases b with
    | false =>
      go_enter Tryd.func26, Tryd.ntmps26
      go_wp2_with (first
        | (go_at_call 36; (with_reducible refine (HC.out).mono ?_); rintro e1 w1 ⟨rfl, hb1⟩)
        | (go_at_call 37; (with_reducible refine (name9q s w1 HMs.out false Hs.out).mono ?_); rintro e2 w2 ⟨rfl, rfl⟩)
        | fail)
      go_ret
      exact ⟨rfl, hb1⟩
    | true =>
      go_enter Tryd.func26, Tryd.ntmps26
      go_wp2_with (first
        | (go_at_call 36; (with_reducible refine (HC.out).mono ?_); rintro e1 w1 ⟨rfl, hb1⟩)
        | (go_at_call 37; (with_reducible refine (name9q s w1 HMs.out true Hs.out).mono ?_); rintro e2 w2 ⟨rfl, rfl⟩)
        | fail)
      go_ret
      exact ⟨rfl, hb1⟩
  | some p =>
    obtain ⟨pa, pb⟩ := p
    rw [hc] at h
    dsimp only at h
    obtain ⟨e1, e2⟩ := cutC_some hc
    obtain ⟨x, hx⟩ : ∃ x : ByteArray, x.data.toList = pa := ⟨⟨pa.toArray⟩, by simp⟩
    obtain ⟨y, hy⟩ : ∃ y : ByteArray, y.data.toList = pb := ⟨⟨pb.toArray⟩, by simp⟩
    subst hx hy
    have hl := congrArg List.length e1
    rw [List.length_append, List.length_cons, ba_l, ba_l, ba_l] at hl
    have HMx : Hid (x.size ≤ 1000000) := Lib.hid (by omega)
    have HMy : Hid (y.size ≤ 1000000) := Lib.hid (by omega)
    have HC : Hid (Calls Tryd.prog 36 #[.string s, .string ⟨#[58]⟩] w (XCutAt x y true w)) := Lib.hid (xcut_58_some s x y w hm e1 e2)
    cases h1 : nameL x.data.toList with
    | false =>
      have Hx := Lib.hid h1
      obtain rfl : false = b := by rw [← h, h1]; simp
      clear hc h hm e1 e2 hl h1
      go_enter Tryd.func26, Tryd.ntmps26
      go_wp2_with (first
        | (go_at_call 36; (with_reducible refine (HC.out).mono ?_); rintro e1 w1 ⟨rfl, hb1⟩)
        | (go_at_call 37; (with_reducible refine (name9q x w1 HMx.out false Hx.out).mono ?_); rintro e2 w2 ⟨rfl, rfl⟩)
        | fail)
      go_ret
      exact ⟨rfl, hb1⟩
    | true =>
      have Hx := Lib.hid h1
      have Hy : Hid (nameL y.data.toList = b) := Lib.hid (by rw [← h, h1]; simp)
      clear hc h hm e1 e2 hl h1
      cases b with
      | false =>
        have tok1 : True := trivial
        go_enter Tryd.func26, Tryd.ntmps26
        go_wp2_with (first
          | (go_at_call 36; (with_reducible refine (HC.out).mono ?_); rintro e1 w1 ⟨rfl, hb1⟩)
          | (have _t := tok1; go_at_call 37; (with_reducible refine (name9q x w1 HMx.out true Hx.out).mono ?_); rintro e2 w2 ⟨rfl, rfl⟩; clear tok1)
          | (go_at_call 37; (with_reducible refine (name9q y w1 HMy.out false Hy.out).mono ?_); rintro e3 w3 ⟨rfl, rfl⟩)
          | fail)
        go_ret
        exact ⟨rfl, hb1⟩
      | true =>
        have tok1 : True := trivial
        go_enter Tryd.func26, Tryd.ntmps26
        go_wp2_with (first
          | (go_at_call 36; (with_reducible refine (HC.out).mono ?_); rintro e1 w1 ⟨rfl, hb1⟩)
          | (have _t := tok1; go_at_call 37; (with_reducible refine (name9q x w1 HMx.out true Hx.out).mono ?_); rintro e2 w2 ⟨rfl, rfl⟩; clear tok1)
          | (go_at_call 37; (with_reducible refine (name9q y w1 HMy.out true Hy.out).mono ?_); rintro e3 w3 ⟨rfl, rfl⟩)
          | fail)
        go_ret
        exact ⟨rfl, hb1⟩
end Hx
end Go.Proofs.YtbjgfaflikgobaaDoor
