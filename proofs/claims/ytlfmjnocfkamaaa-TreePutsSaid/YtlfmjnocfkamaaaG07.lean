/-
  Texts of one seat, put together: TextU, TextP, TextQ, EscR.
-/
import Derived.Test.YtlfmjnocfkamaaaG06
import Derived.Laws.RangeAny
import Derived.Lib.OthersKept
import Derived.Deep.LoopGhost
import Derived.Test.YtlfmjnocfkamaaaG01
import Derived.Lib.AppendStr
import Derived.OwnWalk
namespace Go.Proofs.Ytlfmjnocfkamaaa
open Go.RowKit
namespace Hx
open Tx
set_option linter.unusedVariables false

/-- A slice of numbers that came in reads as a list. -/
theorem rdZ_of_row {w : World} {x : Addr} {len cap : Nat} {vs : List Int} (hl : len ≤ cap) (hz : vs.length = cap)
    (hcell : ∀ i, i < vs.length → w.cell? (x.add i) = some (.int .i64 (vs.getD i 0))) (_hwz : ∀ n ∈ vs, (Lit.int .i64 n).wf = true) :
    ∃ l : List Int, RdZ w w.heap.size (some x) l ∧ l.length = len := by
  refine ⟨vs.take len, fun hp => ?_, by simp; omega⟩
  have hp' : 0 < len := by
    simp at hp
    omega
  obtain ⟨b, off, spot⟩ := x
  have hspot : spot = none := by simpa [Addr.add] using World.cell?_spot (hcell 0 (by omega))
  subst hspot
  refine ⟨b, off, rfl, ?_, fun j hj => ?_⟩
  · have := hcell 0 (by omega)
    rw [addr_plain] at this
    exact World.block_lt_of_cell? (a := ⟨b, off + 0, none⟩) w this
  · have hj' : j < len := by
      simp at hj
      omega
    have hjz : j < vs.length := by omega
    have := hcell j hjz
    rw [addr_plain] at this
    rw [this]
    simp [List.getD, hjz, encZ]

theorem chk_ok {s : ByteArray} (h : chkE s = 0) : ∃ ns, pts s.data.toList = some ns ∧ s.size ≤ 16384 := by
  unfold chkE at h
  by_cases h1 : 16384 < s.size
  · rw [if_pos h1] at h; cases h
  · rw [if_neg h1] at h
    cases hp : pts s.data.toList with
    | none => rw [hp] at h; cases h
    | some ns => exact ⟨ns, rfl, by omega⟩
theorem all_ok (s : ByteArray) (ns : List Nat) (w : World) (hm : s.size ≤ 1000000) (h : pts s.data.toList = some ns) :
    Calls Try.prog 73 #[.string s] w fun e w' => Below w.heap.size w w' ∧ ∃ A c, e = .returned (.tuple #[.slice A ns.length c, .bool true]) ∧ (A = none → c = 0) ∧ RdZ w' w'.heap.size A (zs ns) := by
  refine (all_any s w hm).mono fun e w' ⟨hb, hh⟩ => ⟨hb, ?_⟩
  rcases hh with ⟨ms, A, c, e1, e2, e3, e4⟩ | ⟨e1, _⟩
  · rw [h] at e1
    cases e1
    exact ⟨A, c, e2, e3, e4⟩
  · rw [h] at e1
    cases e1
set_option maxHeartbeats 1000000 in
set_option maxRecDepth 100000 in
/-- ref.Same of two slices that read as the same numbers. -/
theorem rsame5_yes (A B : Option Addr) (n c d : Nat) (l : List Int) (w : World) (ha : RdZ w w.heap.size A l) (hb : RdZ w w.heap.size B l) (hn : l.length = n) (hm : n ≤ 1000000) :
    Calls Try.prog 42 #[.slice A n c, .slice B n d] w fun e w' => e = .returned (.bool true) ∧ Below w.heap.size w w' := by
  have HA := Lib.hid ha
  have HB := Lib.hid hb
  have HN := Lib.hid hn
  have HM := Lib.hid hm
  clear ha hb hn hm
  go_enter Try.func42, Try.ntmps42
  go_wp2_with fail
  go_loopw [5] (fun i wr => ∃ k : Nat, k ≤ n ∧ i = .int .i64 k ∧ Below w.heap.size w wr) (fun i _ => n - (intOf i).toNat)
  case atStart => exact ⟨0, Nat.zero_le _, rfl, Below.refl _ _⟩
  case round =>
    obtain ⟨k, hk, rfl, hbw⟩ := hrel
    by_cases hlt : k < n
    · obtain ⟨ga, oa, rfl, hga, hca⟩ := HA.out (by rw [HN.out]; omega)
      obtain ⟨gb, ob, rfl, hgb, hcb⟩ := HB.out (by rw [HN.out]; omega)
      have k1 := (hbw.cell (p := ⟨ga, oa + k, none⟩) hga).trans (hca k (by rw [HN.out]; exact hlt))
      have k2 := (hbw.cell (p := ⟨gb, ob + k, none⟩) hgb).trans (hcb k (by rw [HN.out]; exact hlt))
      obtain ⟨x, hx⟩ : ∃ x, l[k]'(by rw [HN.out]; exact hlt) = x := ⟨_, rfl⟩
      rw [hx] at k1 k2
      have k1' : wr.cell? ⟨ga, oa + k, none⟩ = some (.int .i64 x) := k1
      have k2' : wr.cell? ⟨gb, ob + k, none⟩ = some (.int .i64 x) := k2
      have bk : (0 : Int) ≤ (k : Int) ∧ (k : Int) < (n : Int) := by omega
      have HBW := Lib.hid hbw
      have hMM := HM.out
      clear hca hcb hx k1 k2 hbw
      go_wp2_with fail
      go_quiet (fail)
      go_wp2_with fail
      go_roundw
      case rel => exact ⟨k + 1, hlt, by go_num, below_dn5 HBW.out _⟩
      case measure => simp [intOf]; omega
    · obtain rfl : k = n := by omega
      go_wp2_with fail
      go_ret
      exact ⟨rfl, hbw⟩

theorem infoU8 : (Try.prog.info? 5).map (fun i => (i.zero, i.size, i.bytes)) = some (some (.int .u8 0), 1, 1) := by kernel_rfl
/-- The bytes of numbers that may be. -/
def byL (l : List Int) : List UInt8 := encs (l.map Int.toNat)
theorem byL_length (l : List Int) : (byL l).length ≤ 4 * l.length := by
  unfold byL
  induction l with
  | nil => simp [encs]
  | cons z l ih =>
    rw [List.map_cons, encs_cons, List.length_append]
    have := (enc_length z.toNat).2
    simp only [List.length_cons]
    omega
theorem byL_snoc (l : List Int) (z : Int) : byL (l ++ [z]) = byL l ++ enc z.toNat := by
  unfold byL
  rw [List.map_append, encs_append]
  simp [encs]
/-- The text of numbers, and the error. -/
def ofR (l : List Int) : ByteArray × Int := if l.all may then (if 16384 < (byL l).length then (⟨#[]⟩, 4) else (⟨(byL l).toArray⟩, 0)) else (⟨#[]⟩, 50)
theorem all_take (l : List Int) (k : Nat) (h : k < l.length) (h1 : (l.take k).all may = true) (h2 : may (l[k]'h) = true) : (l.take (k + 1)).all may = true := by
  rw [List.take_succ_eq_append_getElem h, List.all_append, h1]
  simp [h2]
theorem not_all_may (l : List Int) (k : Nat) (h : k < l.length) (h2 : may (l[k]'h) = false) : l.all may = false := by
  rw [List.all_eq_false]
  exact ⟨l[k]'h, List.getElem_mem h, by simp [h2]⟩
theorem chk_lits (s : ByteArray) : chkE s = 0 ∨ chkE s = 4 ∨ chkE s = 50 := by
  unfold chkE
  split
  · exact .inr (.inl rfl)
  · split
    · exact .inl rfl
    · exact .inr (.inr rfl)
theorem of_lits (l : List Int) : (ofR l).2 = 0 ∨ (ofR l).2 = 4 ∨ (ofR l).2 = 50 := by
  unfold ofR
  split
  · split
    · exact .inr (.inl rfl)
    · exact .inl rfl
  · exact .inr (.inr rfl)
/-- What stands at a place. -/
def nextR (l : List UInt8) : Nat × Nat × Nat := match one l with | none => (0, 0, 50) | some (p, k) => (p, k, 0)
theorem nextR_match (l : List UInt8) (p k q : Nat) (h : nextR l = (p, k, q)) : match one l with | none => p = 0 ∧ k = 0 ∧ q = 50 | some (p', k') => p = p' ∧ k = k' ∧ q = 0 := by
  unfold nextR at h
  cases ho : one l with
  | none => rw [ho] at h; cases h; exact ⟨rfl, rfl, rfl⟩
  | some x => obtain ⟨a, b⟩ := x; rw [ho] at h; cases h; exact ⟨rfl, rfl, rfl⟩
theorem nextR_lits {l : List UInt8} {p k q : Nat} (h : nextR l = (p, k, q)) : q = 0 ∨ q = 50 := by
  unfold nextR at h
  split at h
  · cases h; exact .inr rfl
  · cases h; exact .inl rfl
end Hx
end Go.Proofs.Ytlfmjnocfkamaaa
namespace Go.Proofs.Ytlfmjnocfkamaaa
open Go.RowKit
namespace Hx
open Tx
set_option linter.unusedVariables false
set_option maxHeartbeats 1000000 in
set_option maxRecDepth 100000 in
/-- text.May. -/
theorem may5w (n : Int) (b : Bool) (w : World) (hb : may n = b) :
    Calls Try.prog 80 #[.int .i64 n] w fun e w' => e = .returned (.bool b) ∧ w = w' := by
  by_cases a : n = 9
  · subst a
    obtain rfl : true = b := hb
    go_enter Try.func80, Try.ntmps80
    go_wp2
    go_ret
    exact ⟨rfl, rfl⟩
  have q1 : (n == 9) = false := by simpa using a
  by_cases a2 : n = 10
  · subst a2
    obtain rfl : true = b := hb
    go_enter Try.func80, Try.ntmps80
    go_wp2
    go_ret
    exact ⟨rfl, rfl⟩
  have q2 : (n == 10) = false := by simpa using a2
  by_cases a3 : n = 13
  · subst a3
    obtain rfl : true = b := hb
    go_enter Try.func80, Try.ntmps80
    go_wp2
    go_ret
    exact ⟨rfl, rfl⟩
  have q3 : (n == 13) = false := by simpa using a3
  by_cases a6 : n = 65534
  · subst a6
    obtain rfl : false = b := hb
    go_enter Try.func80, Try.ntmps80
    go_wp2
    go_ret
    exact ⟨rfl, rfl⟩
  have q6 : (n == 65534) = false := by simpa using a6
  by_cases a7 : n = 65535
  · subst a7
    obtain rfl : false = b := hb
    go_enter Try.func80, Try.ntmps80
    go_wp2
    go_ret
    exact ⟨rfl, rfl⟩
  have q7 : (n == 65535) = false := by simpa using a7
  by_cases a4 : 55296 ≤ n
  · have d4 : decide (55296 ≤ n) = true := by simpa using a4
    have d8 : decide (32 ≤ n) = true := by simp; omega
    by_cases a5 : n ≤ 57343
    · have d5 : decide (n ≤ 57343) = true := by simpa using a5
      obtain rfl : false = b := by
        rw [← hb, may_high (by omega)]
        have e1 : decide (n < 55296) = false := by simp; omega
        have e2 : decide (57343 < n) = false := by simp; omega
        rw [e1, e2]; simp
      clear hb a4 a5
      go_enter Try.func80, Try.ntmps80
      go_wp2
      go_ret
      exact ⟨rfl, rfl⟩
    · have d5 : decide (n ≤ 57343) = false := by simpa using a5
      have hb2 : decide (n ≤ 1114111) = b := by
        rw [← hb, may_high (by omega)]
        have e1 : decide (n < 55296) = false := by simp; omega
        have e2 : decide (57343 < n) = true := by simp; omega
        rw [e1, e2]; simp [a6, a7]
      clear hb a4 a5 a a2 a3 a6 a7
      go_enter Try.func80, Try.ntmps80
      go_wp2
      go_ret
      exact ⟨rfl, rfl⟩
  · have d4 : decide (55296 ≤ n) = false := by simpa using a4
    by_cases a8 : 32 ≤ n
    · have d8 : decide (32 ≤ n) = true := by simpa using a8
      have d9 : decide (n ≤ 1114111) = true := by simp; omega
      obtain rfl : true = b := by
        rw [← hb, may_high (by omega), d9]
        have e1 : decide (n < 55296) = true := by simp; omega
        rw [e1]; simp [a6, a7]
      clear hb a4 a8 a a2 a3 a6 a7
      go_enter Try.func80, Try.ntmps80
      go_wp2
      go_ret
      exact ⟨rfl, rfl⟩
    · have d8 : decide (32 ≤ n) = false := by simpa using a8
      obtain rfl : false = b := by
        rw [← hb, may_low (by omega)]
        simp [a, a2, a3]
      clear hb a4 a8 a a2 a3 a6 a7
      go_enter Try.func80, Try.ntmps80
      go_wp2
      go_ret
      exact ⟨rfl, rfl⟩
theorem may5 (n : Int) (b : Bool) (w : World) (hb : may n = b) : Calls Try.prog 80 #[.int .i64 n] w fun e w' => e = .returned (.bool b) ∧ Below w.heap.size w w' :=
  (may5w n b w hb).mono fun e w' ⟨h1, h2⟩ => ⟨h1, by subst h2; exact Below.refl _ _⟩
set_option maxHeartbeats 1000000 in
set_option maxRecDepth 100000 in
/-- strings.HasPrefix, of a prefix that is there, or not. -/
theorem slpre (s p : ByteArray) (q : Bool) (w : World) (hq : (decide (p.size ≤ s.size) && decide ((s.extract 0 p.size) = p)) = q) :
    Calls Try.prog 85 #[.string s, .string p] w fun e w' => e = .returned (.bool q) ∧ w = w' := by
  by_cases h : p.size ≤ s.size
  · have d0 : decide ((p.size : Int) ≤ (s.size : Int)) = true := by simp; omega
    have e : ((s.extract 0 p.size).toList == p.toList) = q := by rw [seq_b5, ← hq]; simp [h]
    clear hq
    go_enter Try.func85, Try.ntmps85
    go_wp2
    go_ret
    exact ⟨rfl, rfl⟩
  · have d0 : decide ((p.size : Int) ≤ (s.size : Int)) = false := by simp; omega
    obtain rfl : false = q := by rw [← hq]; simp [h]
    clear hq
    go_enter Try.func85, Try.ntmps85
    go_wp2
    go_ret
    exact ⟨rfl, rfl⟩
set_option maxRecDepth 100000 in
theorem pre5 (s p : ByteArray) (q : Bool) (w : World) (hq : (decide (p.size ≤ s.size) && decide ((s.extract 0 p.size) = p)) = q) :
    Calls Try.prog 79 #[.string s, .string p] w fun e w' => e = .returned (.bool q) ∧ w = w' := by
  have HQ := Lib.hid hq
  clear hq
  go_enter Try.func79, Try.ntmps79
  go_wp2_with (go_at_call 85; (with_reducible refine (slpre s p q w HQ.out).mono ?_); rintro e w1 ⟨rfl, rfl⟩)
  go_ret
  exact ⟨rfl, rfl⟩
/-- The bytes of the code point that stands for none. -/
def stnd : ByteArray := ⟨#[239, 191, 189]⟩
theorem enc_stnd : enc 65533 = [239, 191, 189] := by decide +kernel
theorem extract_take (s : ByteArray) (n : Nat) : s.extract 0 n = ⟨(s.data.toList.take n).toArray⟩ := by
  have := ByteArray.extract_mk s.data.toList 0 n
  rw [← ba_eq5] at this
  rw [this]
  simp
theorem stnd_pre (l : List UInt8) : (decide (stnd.size ≤ (⟨l.toArray⟩ : ByteArray).size) && decide (((⟨l.toArray⟩ : ByteArray).extract 0 stnd.size) = stnd)) = decide (l.take 3 = [239, 191, 189]) := by
  rw [extract_take]
  show (decide (3 ≤ l.length) && decide ((⟨(l.take 3).toArray⟩ : ByteArray) = ⟨#[239, 191, 189]⟩)) = _
  rw [Bool.eq_iff_iff]
  simp only [Bool.and_eq_true, decide_eq_true_eq]
  constructor
  · rintro ⟨_, h⟩
    have := congrArg (fun x : ByteArray => x.data.toList) h
    simpa using this
  · intro h
    refine ⟨?_, by rw [h]⟩
    have := congrArg List.length h
    rw [List.length_take] at this
    simp at this
    omega
/-- The rune that a range tells of bytes. -/
def runeL (l : List UInt8) : Nat := match decL l with | some p => p.1 | none => 65533
theorem dec_stnd (l : List UInt8) : l.take 3 = [239, 191, 189] ↔ decL l = some (65533, 3) := by
  constructor
  · intro h
    have e : l = enc 65533 ++ l.drop 3 := by rw [enc_stnd, ← h, List.take_append_drop]
    rw [e, dec_enc 65533 (by decide), enc_stnd]
    rfl
  · intro h
    obtain ⟨_, _, r, e⟩ := dec_sound l _ _ h
    rw [e, enc_stnd]
    rfl
theorem runeL_le (l : List UInt8) : runeL l ≤ 1114111 := by
  unfold runeL
  cases h : decL l with
  | none => simp
  | some p =>
    obtain ⟨p, k⟩ := p
    exact sv_le (dec_sound l _ _ h).1
theorem one_rune (l : List UInt8) : (one l).isSome = if runeL l = 65533 then decide (l.take 3 = [239, 191, 189]) else may (runeL l) := by
  unfold runeL one
  cases h : decL l with
  | none =>
    have : ¬ l.take 3 = [239, 191, 189] := by rw [dec_stnd, h]; simp
    simp [this]
  | some p =>
    obtain ⟨p, k⟩ := p
    simp only
    by_cases hp : p = 65533
    · subst hp
      have hs := (dec_sound l _ _ h).2.1
      rw [enc_stnd] at hs
      obtain rfl : k = 3 := hs
      rw [if_pos rfl, decide_eq_true ((dec_stnd l).2 h)]
      decide
    · rw [if_neg hp]
      cases hm : may p <;> simp [hm]
set_option maxHeartbeats 1000000 in
set_option maxRecDepth 100000 in
/-- text.begins. -/
theorem begins5 (l : List UInt8) (s : ByteArray) (c : Nat) (b : Bool) (w : World) (hs : s = ⟨l.toArray⟩) (hc : runeL l = c) (hb : (one l).isSome = b) :
    Calls Try.prog 74 #[.string s, .int .i32 c] w fun e w' => e = .returned (.bool b) ∧ w = w' := by
  have hle := runeL_le l
  rw [one_rune, hc] at hb
  rw [hc] at hle
  have g1 : IntKind.i64.wrap (c : Int) = (c : Int) := IntWalk.i64_in _ (by omega)
  have hpre := stnd_pre l
  rw [← hs] at hpre
  by_cases h : c = 65533
  · rw [if_pos h] at hb
    rw [hb] at hpre
    have HP : Hid (∀ W : World, Calls Try.prog 79 #[.string s, .string ⟨#[239, 191, 189]⟩] W fun e w' => e = .returned (.bool b) ∧ W = w') := fun W => pre5 s stnd b W hpre
    subst h
    clear hle hc hb hs hpre
    cases b
    · go_enter Try.func74, Try.ntmps74
      go_wp2_with (go_at_call 79; (with_reducible refine (HP.out _).mono ?_); rintro e w1 ⟨rfl, rfl⟩)
      go_ret
      exact ⟨rfl, rfl⟩
    · go_enter Try.func74, Try.ntmps74
      go_wp2_with (first
        | (go_at_call 79; (with_reducible refine (HP.out _).mono ?_); rintro e w1 ⟨rfl, rfl⟩)
        | (go_at_call 80; (with_reducible refine (may5w 65533 true w rfl).mono ?_); rintro e w1 ⟨rfl, rfl⟩)
        | fail)
      go_ret
      exact ⟨rfl, rfl⟩
  · rw [if_neg h] at hb
    have d0 : ((c : Int) == 65533) = false := by simp; omega
    have HB := Lib.hid hb
    clear hle hc hb hs hpre h
    go_enter Try.func74, Try.ntmps74
    go_wp2_with (first
      | (go_at_call 80; (with_reducible refine (may5w c b w HB.out).mono ?_); rintro e w1 ⟨rfl, rfl⟩)
      | fail)
    go_ret
    exact ⟨rfl, rfl⟩
theorem i64_and63 (n : Int) : bits .and .i64 n 63 = n % 64 := by
  have h63 : (BitVec.ofInt 64 63).toNat = 2 ^ 6 - 1 := by decide
  have key : (BitVec.ofInt 64 n &&& BitVec.ofInt 64 63).toNat = (n % ((2 ^ 64 : Nat) : Int)).toNat % 2 ^ 6 := by
    rw [BitVec.toNat_and, BitVec.toNat_ofInt, h63, Nat.and_two_pow_sub_one_eq_mod]
  show IntKind.i64.wrap ((BitVec.ofInt 64 n &&& BitVec.ofInt 64 63).toNat : Nat) = n % 64
  rw [key, IntKind.wrap_i64]
  omega
end Hx
end Go.Proofs.Ytlfmjnocfkamaaa
namespace Go.Proofs.Ytlfmjnocfkamaaa
open Go.RowKit
namespace Hx
open Tx
set_option linter.unusedVariables false
theorem drop_len (s : ByteArray) (a : Nat) : (s.data.toList.drop a).length = s.size - a := by rw [List.length_drop, ba_len5]
/-- One step of a range over bytes, at a place where a code point that may be begins. -/
theorem step_some (s : ByteArray) (a p k : Nat) (ha : a < s.size) (ho : one (s.data.toList.drop a) = some (p, k)) :
    Utf8.decode s a = (p, k) ∧ runeL (s.data.toList.drop a) = p ∧ 1 ≤ k ∧ a + k ≤ s.size ∧ pts (s.data.toList.drop a) = (pts (s.data.toList.drop (a + k))).map (p :: ·) := by
  have hne : s.data.toList.drop a ≠ [] := by
    intro h
    have := drop_len s a
    rw [h] at this
    simp at this
    omega
  have hd : decL (s.data.toList.drop a) = some (p, k) := by
    unfold one at ho
    rw [Option.filter_eq_some_iff] at ho
    exact ho.1
  obtain ⟨h1, h2, _⟩ := one_le ho
  rw [drop_len] at h2
  refine ⟨?_, ?_, h1, by omega, ?_⟩
  · rw [decode_eq s a ha, hd]
  · rw [runeL, hd]
  · rw [pts_step _ hne, ho]
    show Option.map _ (pts (List.drop k (List.drop a s.data.toList))) = _
    rw [List.drop_drop]
theorem step_rune (s : ByteArray) (a : Nat) (ha : a < s.size) : (Utf8.decode s a).1 = runeL (s.data.toList.drop a) := by
  rw [decode_eq s a ha, runeL]
  cases decL (s.data.toList.drop a) <;> rfl
theorem step_none (s : ByteArray) (a : Nat) (ha : a < s.size) (ho : one (s.data.toList.drop a) = none) : pts (s.data.toList.drop a) = none := by
  have hne : s.data.toList.drop a ≠ [] := by
    intro h
    have := drop_len s a
    rw [h] at this
    simp at this
    omega
  rw [pts_step _ hne, ho]
theorem pts_end (s : ByteArray) (a : Nat) (h : ¬ a < s.size) : pts (s.data.toList.drop a) = some [] := by
  rw [List.drop_of_length_le (by rw [ba_len5]; omega)]
  rfl
theorem below_iter (w : World) (s : ByteArray) (p : Nat) : Below w.heap.size w (w.iter s p) := stpA (Below.refl _ _) _
set_option maxHeartbeats 1000000 in
set_option maxRecDepth 100000 in
/-- text.Check. -/
theorem check5 (s : ByteArray) (w : World) (hm : s.size ≤ 1000000) (q : Int) (h : chkE s = q) : Calls Try.prog 69 #[.string s] w fun e w' => e = .returned (.int .i64 q) ∧ Below w.heap.size w w' := by
  unfold chkE at h
  by_cases h1 : 16384 < s.size
  · rw [if_pos h1] at h
    subst h
    have d0 : decide ((16384 : Int) < (s.size : Int)) = true := by simp; omega
    clear hm
    go_enter Try.func69, Try.ntmps69
    go_wp2_with fail
    go_ret
    exact ⟨rfl, Below.refl _ _⟩
  · rw [if_neg h1] at h
    have d0 : decide ((16384 : Int) < (s.size : Int)) = false := by simp; omega
    have d1 : ¬ (16384 < s.size) := h1
    have HQ := Lib.hid h
    clear h hm
    go_enter Try.func69, Try.ntmps69
    go_wp2_with fail
    go_loopg [3, 4] s.size (fun g x y wr => ∃ pos : Nat, s.size ≤ pos + g ∧ wr = w.iter s pos ∧ (pts (s.data.toList.drop pos)).isSome = (pts s.data.toList).isSome)
    case atStart => exact ⟨0, by omega, rfl, rfl⟩
    case round =>
      obtain ⟨pos, hg, rfl, hp⟩ := hrel
      have HP := Lib.hid hp
      clear hp
      by_cases hlt : pos < s.size
      · have hnx : ∀ ty, (Instr.next (.pointer (some ⟨w.heap.size, 0, none⟩)) true ty).run Try.prog (w.iter s pos) = _ := fun ty => run_next_any w s pos ty hlt
        have b0 : (0 : Int) ≤ (pos : Int) ∧ (pos : Int) ≤ (s.size : Int) := by omega
        have b1 : pos ≤ s.size := by omega
        obtain ⟨c, hc⟩ : ∃ c, runeL (s.data.toList.drop pos) = c := ⟨_, rfl⟩
        have HX := Lib.hid (extract_drop s pos)
        have HC := Lib.hid hc
        rw [step_rune s pos hlt, hc] at hnx
        cases ho : one (s.data.toList.drop pos) with
        | none =>
          have hq := HQ.out
          rw [← HP.out, step_none s pos hlt ho] at hq
          obtain rfl : (50 : Int) = q := hq
          have HO : Hid ((one (s.data.toList.drop pos)).isSome = false) := by show _ = _; rw [ho]; rfl
          clear hc ho
          go_wp2_with (go_at_call 74; (with_reducible refine (begins5 (s.data.toList.drop pos) _ c false _ HX.out HC.out HO.out).mono ?_); rintro e w1 ⟨rfl, rfl⟩)
          go_ret
          exact ⟨rfl, below_iter w s _⟩
        | some x =>
          obtain ⟨p, k⟩ := x
          obtain ⟨e1, e2, e3, e4, e5⟩ := step_some s pos p k hlt ho
          have HO : Hid ((one (s.data.toList.drop pos)).isSome = true) := by show _ = _; rw [ho]; rfl
          rw [e1] at hnx
          have HN : Hid ((pts (s.data.toList.drop (pos + k))).isSome = (pts s.data.toList).isSome) := by
            show _ = _
            rw [← HP.out, e5]
            simp
          clear hc ho e1 e2 e5
          go_wp2_with (go_at_call 74; (with_reducible refine (begins5 (s.data.toList.drop pos) _ c true _ HX.out HC.out HO.out).mono ?_); rintro e w1 ⟨rfl, rfl⟩)
          go_roundg (gk - 1)
          case rel => exact ⟨pos + k, by omega, rfl, HN.out⟩
          case measure => omega
      · have hnx : ∀ ty, (Instr.next (.pointer (some ⟨w.heap.size, 0, none⟩)) true ty).run Try.prog (w.iter s pos) = _ := fun ty => run_next_end w s pos ty hlt
        have hq := HQ.out
        rw [← HP.out, pts_end s pos hlt] at hq
        obtain rfl : (0 : Int) = q := hq
        go_wp2_with fail
        go_ret
        exact ⟨rfl, below_iter w s _⟩
end Hx
end Go.Proofs.Ytlfmjnocfkamaaa
namespace Go.Proofs.Ytlfmjnocfkamaaa
open Go.RowKit
namespace Hx
open Tx Nmb Es
set_option linter.unusedVariables false
theorem byte_at8 (s : ByteArray) (k : Nat) (h : k < s.size) : ∃ c, s.data.toList[k]? = some c ∧ ∀ (h : k < s.size), s[k]'h = c := by
  refine ⟨s[k]'h, ?_, fun _ => rfl⟩
  have e : k < s.data.toList.length := by rw [ba_len5]; exact h
  rw [List.getElem?_eq_getElem e]
  rfl
theorem take_next8 {α : Type} {l : List α} {k : Nat} {c : α} (h : l[k]? = some c) : l.take (k + 1) = l.take k ++ [c] := by
  obtain ⟨hk, e⟩ := List.getElem?_eq_some_iff.1 h
  rw [List.take_succ_eq_append_getElem hk, e]
theorem u8_ne {c : UInt8} {n : Nat} (hn : n < 256) (h : c.toNat ≠ n) : c ≠ UInt8.ofNat n := by
  rintro rfl
  apply h
  rw [UInt8.toNat_ofNat']
  omega
theorem u8_eq {c : UInt8} {n : Nat} (h : c.toNat = n) : c = UInt8.ofNat n := by
  subst h
  exact UInt8.ofNat_toNat.symm
theorem str_cells (l : List UInt8) : Lib.strCells ⟨l.toArray⟩ = Lib.byteCells l := rfl
/-- append(own, s...) of a text. -/
theorem wpList_append_str {P : Program} {w : World} {ops : Array Oper} {rest : List Oper} {o : Oper} {a : Act} {Q : Exit → Act → World → Prop} (hgd : o.guard = none) (sl x : Operand) (t u : TypeId)
    (ho : o.op = .call { callee := .builtin .append, args := #[sl, x], argTypes := #[t, u] })
    (base : Nat) (e : TypeId) (i : TypeInfo) (ht : P.underlying t = some (.slice e)) (hu : P.underlying u = some .string) (hi : P.info? e = some i) (hz : i.zero = some (.int .u8 0))
    (hsize : i.size = 1) (hby : i.bytes = 1) (v : Value) (n : Nat) (xs : List Value) (hs : a.eval sl = v) (hown : w.ownsRow base e 1 v n xs) (s : ByteArray) (hx : a.eval x = .string s)
    (hb : n + s.size ≤ 1000000000000) (hbase : base ≤ w.heap.size)
    (h : ∀ v' w', w'.ownsRow base e 1 v' (n + s.size) (xs ++ Lib.strCells s) → w.grownBy w' v.ownBlock → wpList P ops Q rest (a.put o.dst v') w') : wpList P ops Q (o :: rest) a w :=
  Lib.wpList_append_own_string w hgd sl x t u ho base e i ht hu hi hz hsize hby v n xs hs hown s hx (by unfold maxLen; omega) (by omega) hbase (fun v' w' h1 h2 _ => h v' w' h1 h2)
/-- A text as it is written. -/
def escS (q : Bool) (s : ByteArray) : ByteArray := ⟨(escL q s.data.toList).toArray⟩
theorem escS_size (q : Bool) (s : ByteArray) : s.size ≤ (escS q s).size ∧ (escS q s).size ≤ 6 * s.size := by
  have := escL_len q s.data.toList
  rw [← ba_len5 s, ← ba_len5 (escS q s)]
  exact this
/-- What Put answers. -/
def putR (s : ByteArray) (q : Bool) : ByteArray × Int := if chkE s ≠ 0 then (⟨#[]⟩, chkE s) else if 16384 < (escS q s).size then (⟨#[]⟩, 4) else (escS q s, 0)
end Hx
end Go.Proofs.Ytlfmjnocfkamaaa
