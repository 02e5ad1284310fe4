/-
  Texts of one seat, put together: LexR, LexS, TextN, TextR.
-/
import Derived.Test.YtfdhogaknlabkaaG06
import Derived.Lib.Strings
import Derived.Deep.LoopGhost
import Derived.Test.YtfdhogaknlabkaaG05
import Derived.Test.YtfdhogaknlabkaaG00
import Derived.ChangeAlike
import Derived.RegionTactic
import Derived.IntWalk
import Derived.Deep.RegionHeld3
set_option linter.unusedSimpArgs false
set_option linter.unusedVariables false
namespace Go.Proofs.Ytfdhogaknlabkaa
open Go.RowKit
namespace Hx
open Lx
set_option linter.unusedVariables false
theorem ba_l (s : ByteArray) : s.data.toList.length = s.size := by cases s; simp [ByteArray.size]
theorem at_l (s : ByteArray) (k : Nat) (h : k < s.size) : s.data.toList[k]'(by rw [ba_l]; exact h) = s[k]'h := by cases s; rfl
theorem ba_x {s t : ByteArray} (h : s.data.toList = t.data.toList) : s = t := by
  cases s; cases t
  simpa using h
theorem empty_l (s : ByteArray) : s.toList.isEmpty = decide (s.size = 0) := by
  rw [ByteArray.toList_eq, Bool.eq_iff_iff, List.isEmpty_iff, decide_eq_true_eq, ← ba_l]
  constructor
  · intro e; rw [e]; rfl
  · exact List.eq_nil_of_length_eq_zero
theorem extract_l (s : ByteArray) (a b : Nat) (h : b ≤ s.size) : (s.extract a b).data.toList = (s.data.toList.drop a).take (b - a) := Lib.extract_data s a b
theorem ret_b9 {x y : Bool} (h : x = y) : Ending.returned (.bool x) = .returned (.bool y) := by rw [h]
/-- So far a name. -/
def nameP (l : List UInt8) : Prop := l = [] ∨ nameL l = true
theorem nameP_step {l : List UInt8} {c : UInt8} (h : nameP l) (h0 : l = [] → ltr c = true) (h1 : nch c = true) : nameP (l ++ [c]) := by
  right
  cases l with
  | nil => show (ltr c && [].all nch) = true; rw [h0 rfl]; rfl
  | cons d r =>
    rcases h with h | h
    · cases h
    · unfold nameL at h ⊢
      rw [Bool.and_eq_true] at h
      show (ltr d && (r ++ [c]).all nch) = true
      rw [h.1, List.all_append, h.2]
      simp [h1]
theorem nameL_no {l : List UInt8} {k : Nat} (h : k < l.length) (h1 : nch (l[k]'h) = false) : nameL l = false := by
  cases hq : nameL l with
  | false => rfl
  | true => have := nameL_all hq _ (List.getElem_mem h); rw [h1] at this; cases this
theorem nameL_no0 {l : List UInt8} (h : 0 < l.length) (h1 : ltr (l[0]'h) = false) : nameL l = false := by
  cases l with
  | nil => simp at h
  | cons c r =>
    have h1' : ltr c = false := h1
    show (ltr c && r.all nch) = false
    rw [h1']
    rfl
theorem nch_not {c : UInt8} (h : ltr c = false) : nch c = (decide (48 ≤ c.toNat) && decide (c.toNat ≤ 57) || c == 46 || c == 45) := by unfold nch; rw [h]; simp
end Hx
end Go.Proofs.Ytfdhogaknlabkaa
namespace Go.Proofs.Ytfdhogaknlabkaa
open Go.RowKit
namespace Hx
open Lx
set_option linter.unusedVariables false
theorem cutC_at {l : List UInt8} {k : Nat} (h : k < l.length) (h1 : (58 : UInt8) ∉ l.take k) (h2 : l[k]'h = 58) : cutC l = some (l.take k, l.drop (k + 1)) := by
  have e : l = l.take k ++ 58 :: l.drop (k + 1) := by rw [← h2, ← List.drop_eq_getElem_cons h, List.take_append_drop]
  have gen : ∀ (a b : List UInt8), (58 : UInt8) ∉ a → cutC (a ++ 58 :: b) = some (a, b) := by
    intro a
    induction a with
    | nil => intro b _; show (if (58 : UInt8) = 58 then _ else _) = _; rw [if_pos rfl]
    | cons c a ih =>
      intro b hn
      rw [List.mem_cons, not_or] at hn
      show (if c = 58 then _ else _) = _
      rw [if_neg (Ne.symm hn.1)]
      show Option.map _ (cutC (a ++ 58 :: b)) = _
      rw [ih b hn.2]
      rfl
  have := gen _ (l.drop (k + 1)) h1
  rwa [← e] at this
theorem cutC_no {l : List UInt8} (h : (58 : UInt8) ∉ l) : cutC l = none := by
  induction l with
  | nil => rfl
  | cons c l ih =>
    rw [List.mem_cons, not_or] at h
    show (if c = 58 then _ else _) = _
    rw [if_neg (Ne.symm h.1), ih h.2]
    rfl
/-- What Parts answers. -/
def PartsTo (s : ByteArray) (w : World) (e : Ending) (w' : World) : Prop := (∃ n, w' = w.drewN n) ∧
  ((∃ x y : ByteArray, cutC s.data.toList = some (x.data.toList, y.data.toList) ∧ e = .returned (.tuple #[.string x, .string y, .bool true])) ∨ (cutC s.data.toList = none ∧ e = .returned (.tuple #[.string ⟨#[]⟩, .string s, .bool false])))
set_option maxHeartbeats 2000000 in
set_option maxRecDepth 100000 in
theorem rparts9 (s : ByteArray) (w : World) (hm : s.size ≤ 1000000) : Calls Try.prog 48 #[.string s] w (PartsTo s w) := by
  have HM := Lib.hid hm
  clear hm
  go_enter Try.func48, Try.ntmps48
  go_wp2_with fail
  go_loopw [5] (fun i wr => ∃ k : Nat, k ≤ s.size ∧ i = .int .i64 k ∧ (58 : UInt8) ∉ s.data.toList.take k ∧ w = wr) (fun i _ => s.size - (intOf i).toNat)
  case atStart => exact ⟨0, Nat.zero_le _, rfl, by simp, by first | rfl | trivial⟩
  case round =>
    obtain ⟨k, hk, rfl, hn, rfl⟩ := hrel
    have hs := HM.out
    by_cases hlt : k < s.size
    · obtain ⟨c, hc⟩ : ∃ c, s[k]'hlt = c := ⟨_, rfl⟩
      have hca : ∀ h, s[k]'h = c := fun _ => hc
      have hkl : k < s.data.toList.length := by rw [ba_l]; exact hlt
      have hck : s.data.toList[k]'hkl = c := (at_l s k hlt).trans hc
      have bk : (0 : Int) ≤ (k : Int) ∧ (k : Int) < (s.size : Int) := by omega
      have hcl := c.toNat_lt
      by_cases h58 : c.toNat = 58
      · have e58 : c = 58 := UInt8.toNat_inj.1 h58
        have f58 : ((c.toNat : Int) == 58) = true := by simp; omega
        obtain ⟨x, hx⟩ : ∃ x, s.extract 0 k = x := ⟨_, rfl⟩
        obtain ⟨y, hy⟩ : ∃ y, s.extract (k + 1) s.size = y := ⟨_, rfl⟩
        have HC : Hid (cutC s.data.toList = some (x.data.toList, y.data.toList)) := Lib.hid (by
          rw [cutC_at hkl hn (hck.trans e58), ← hx, ← hy, extract_l s 0 k hk, extract_l s (k + 1) s.size (Nat.le_refl _), List.drop_zero, Nat.sub_zero, List.take_of_length_le (l := s.data.toList.drop (k + 1)) (by rw [List.length_drop, ba_l]; omega)])
        clear hck hc hn e58 h58
        go_wp2_with fail
        go_region
        go_wp2_with fail
        refine bodyPost_ret (v := .tuple #[.string x, .string y, .bool true]) ?_ rfl ⟨⟨1, rfl⟩, .inl ⟨x, y, HC.out, rfl⟩⟩
        simp [results, Try.results48, go_sem]
      · have f58 : ((c.toNat : Int) == 58) = false := by simp; omega
        have HV : Hid ((58 : UInt8) ∉ s.data.toList.take (k + 1)) := Lib.hid (by
          rw [List.take_succ_eq_append_getElem hkl, hck, List.mem_append, not_or]
          refine ⟨hn, ?_⟩
          rw [List.mem_singleton]
          rintro rfl
          exact h58 rfl)
        clear hck hc hn h58
        go_wp2_with fail
        go_roundw
        case rel => exact ⟨k + 1, hlt, by go_num, HV.out, by first | rfl | trivial⟩
        case measure => simp [intOf]; omega
    · obtain rfl : k = s.size := by omega
      have HC : Hid (cutC s.data.toList = none) := Lib.hid (by
        rw [List.take_of_length_le (by rw [ba_l]; omega)] at hn
        exact cutC_no hn)
      clear hn
      go_wp2_with fail
      refine bodyPost_ret (v := .tuple #[.string ⟨#[]⟩, .string s, .bool false]) ?_ rfl ⟨⟨0, rfl⟩, .inr ⟨HC.out, rfl⟩⟩
      simp [results, Try.results48, go_sem]
theorem ex_size {l : List UInt8} {x y : ByteArray} (h : cutC l = some (x.data.toList, y.data.toList)) : x.size + y.size + 1 = l.length := by
  have := congrArg List.length (cutC_some h).1
  rw [List.length_append, List.length_cons, ba_l, ba_l] at this
  omega
theorem rparts_some (s x y : ByteArray) (w : World) (hm : s.size ≤ 1000000) (h : cutC s.data.toList = some (x.data.toList, y.data.toList)) : Calls Try.prog 48 #[.string s] w fun e w' => e = .returned (.tuple #[.string x, .string y, .bool true]) ∧ ∃ n, w' = w.drewN n :=
  (rparts9 s w hm).mono fun e w' hp => by
    obtain ⟨hb, ⟨x', y', h1, h2⟩ | ⟨h1, _⟩⟩ := hp
    · rw [h] at h1
      obtain ⟨e1, e2⟩ := (Prod.mk.injEq _ _ _ _).mp (Option.some.inj h1)
      rw [ba_x e1, ba_x e2]
      exact ⟨h2, hb⟩
    · rw [h] at h1; cases h1
theorem rparts_none (s : ByteArray) (w : World) (hm : s.size ≤ 1000000) (h : cutC s.data.toList = none) : Calls Try.prog 48 #[.string s] w fun e w' => e = .returned (.tuple #[.string ⟨#[]⟩, .string s, .bool false]) ∧ ∃ n, w' = w.drewN n :=
  (rparts9 s w hm).mono fun e w' hp => by
    obtain ⟨hb, ⟨x', y', h1, h2⟩ | ⟨h1, h2⟩⟩ := hp
    · rw [h] at h1; cases h1
    · exact ⟨h2, hb⟩
theorem tw_next {p : UInt8 → Bool} {l : List UInt8} {n : Nat} (h : n < l.length) (h1 : (l.take n).all p = true) : (p (l[n]'h) = true → (l.take (n + 1)).all p = true) ∧ (p (l[n]'h) = false → l.takeWhile p = l.take n) := by
  refine ⟨fun h2 => ?_, fun h2 => ?_⟩
  · rw [List.take_succ_eq_append_getElem h, List.all_append, h1]
    simp [h2]
  · have e : l = l.take n ++ l.drop n := (List.take_append_drop n l).symm
    conv => lhs; rw [e]
    refine (tw_app (List.all_eq_true.1 h1) fun c r e2 => ?_).1
    rw [List.drop_eq_getElem_cons h] at e2
    rw [← (List.cons.inj e2).1]
    exact h2
theorem tw_all {p : UInt8 → Bool} {l : List UInt8} (h1 : l.all p = true) : l.takeWhile p = l := by
  have := (tw_app (b := []) (List.all_eq_true.1 h1) (fun c r e => by cases e)).1
  rwa [List.append_nil] at this
theorem wch_not {c : UInt8} (h : ltr c = false) : wch c = (decide (48 ≤ c.toNat) && decide (c.toNat ≤ 57) || c == 46 || c == 45 || c == 58) := by unfold wch; rw [nch_not h]
end Hx
end Go.Proofs.Ytfdhogaknlabkaa
namespace Go.Proofs.Ytfdhogaknlabkaa
namespace Tx
open Go

theorem get_drop (s : ByteArray) (i k : Nat) : s.get! (i + k) = (s.data.toList.drop i).getD k default := by
  rw [List.getD_eq_getElem?_getD, List.getElem?_drop]
  show s.data[i + k]! = _
  rw [getElem!_def, Array.getElem?_toList]
  cases s.data[i + k]? <;> rfl
theorem size_drop (s : ByteArray) (i k : Nat) : (i + k < s.size) = (k < (s.data.toList.drop i).length) := by
  have e : s.data.toList.length = s.size := by rw [Array.length_toList]; rfl
  rw [List.length_drop, e]
  apply propext
  omega
set_option linter.unusedSimpArgs false in
set_option maxRecDepth 100000 in
/-- What the model reads at a place: a scalar value and how many bytes; or the rune that stands for none, one byte. -/
theorem decode_eq (s : ByteArray) (i : Nat) (h : i < s.size) : Utf8.decode s i = match decL (s.data.toList.drop i) with | some p => p | none => (65533, 1) := by
  have hp : 0 < (s.data.toList.drop i).length := by rw [← size_drop]; exact h
  unfold Utf8.decode
  simp only [get_drop, size_drop]
  generalize s.data.toList.drop i = l at hp
  have hv : ∀ c : Nat, Utf8.valid (c : Int) = sv c := by
    intro c
    unfold Utf8.valid sv
    rw [Bool.eq_iff_iff]
    simp
    omega
  have hh : ∀ a : UInt8, (a.toNat / 64 == 2) = cont a := by
    intro a
    unfold cont
    rw [Bool.eq_iff_iff]
    simp
  have hre : Utf8.runeError = 65533 := rfl
  cases l with
  | nil => simp at hp
  | cons a r =>
    have ha := a.toNat_lt
    simp only [List.getD_cons_zero, List.length_cons]
    unfold decL
    dsimp only
    by_cases h1 : a.toNat < 128
    · rw [if_pos h1, if_pos h1]
    · rw [if_neg h1, if_neg h1]
      by_cases h2 : a.toNat / 32 = 6
      · rw [if_pos h2]
        cases r with
        | nil => simp [h2, hre]
        | cons b r =>
          simp only [h2, List.getD_cons_succ, List.getD_cons_zero, hh, List.length_cons, beq_self_eq_true, Bool.true_and]
          obtain ⟨x, hx⟩ : ∃ x, a.toNat % 32 * 64 + b.toNat % 64 = x := ⟨_, rfl⟩
          simp only [hx]
          cases hc : cont b
          · simp [hre]
          · by_cases hq : 128 ≤ x
            · simp [hq]
            · simp [hq, hre]
      · rw [if_neg h2]
        by_cases h3 : a.toNat / 16 = 14
        · rw [if_pos h3]
          match r with
          | [] => simp [h2, h3, hre]
          | [b] => simp [h2, h3, hre]
          | b :: c :: r =>
            simp only [h3, List.getD_cons_succ, List.getD_cons_zero, hh, List.length_cons, beq_self_eq_true, Bool.true_and]
            obtain ⟨x, hx⟩ : ∃ x, a.toNat % 16 * 4096 + b.toNat % 64 * 64 + c.toNat % 64 = x := ⟨_, rfl⟩
            simp only [hx]
            cases hb : cont b <;> cases hc : cont c
            · simp [h2, hre]
            · simp [h2, hre]
            · simp [h2, hre]
            · by_cases hq : 2048 ≤ x
              · cases hs : sv x <;> simp [h2, hv, hq, hs, hre]
              · simp [h2, hq, hre]
        · rw [if_neg h3]
          by_cases h4 : a.toNat / 8 = 30
          · rw [if_pos h4]
            match r with
            | [] => simp [h2, h3, h4, hre]
            | [b] => simp [h2, h3, h4, hre]
            | [b, c] => simp [h2, h3, h4, hre]
            | b :: c :: d :: r =>
              simp only [h4, List.getD_cons_succ, List.getD_cons_zero, hh, List.length_cons, beq_self_eq_true, Bool.true_and]
              obtain ⟨x, hx⟩ : ∃ x, a.toNat % 8 * 262144 + b.toNat % 64 * 4096 + c.toNat % 64 * 64 + d.toNat % 64 = x := ⟨_, rfl⟩
              simp only [hx]
              cases hb : cont b <;> cases hc : cont c <;> cases hd : cont d
              · simp [h2, h3, hre]
              · simp [h2, h3, hre]
              · simp [h2, h3, hre]
              · simp [h2, h3, hre]
              · simp [h2, h3, hre]
              · simp [h2, h3, hre]
              · simp [h2, h3, hre]
              · by_cases hq : 65536 ≤ x
                · cases hs : sv x <;> simp [h2, h3, hv, hq, hs, hre]
                · simp [h2, h3, hq, hre]
          · rw [if_neg h4]
            simp [h2, h3, h4, hre]
/-- What the model writes of a scalar value. -/
theorem encode_eq (n : Nat) (h : sv n = true) : Utf8.encode (n : Int) = ⟨(enc n).toArray⟩ := by
  have hv : Utf8.valid (n : Int) = true := by
    simp [sv] at h
    simp [Utf8.valid]
    omega
  unfold Utf8.encode enc
  simp only [hv, if_true, Int.toNat_natCast]
  by_cases h1 : n < 128
  · rw [if_pos h1, if_pos h1]; rfl
  · rw [if_neg h1, if_neg h1]
    by_cases h2 : n < 2048
    · rw [if_pos h2, if_pos h2]; rfl
    · rw [if_neg h2, if_neg h2]
      by_cases h3 : n < 65536
      · rw [if_pos h3, if_pos h3]; rfl
      · rw [if_neg h3, if_neg h3]; rfl
end Tx
end Go.Proofs.Ytfdhogaknlabkaa
namespace Go.Proofs.Ytfdhogaknlabkaa
open Go.RowKit
namespace Hx
open Tx
set_option linter.unusedVariables false

theorem may_low {n : Int} (h : n < 32) : may n = (decide (n = 9) || decide (n = 10) || decide (n = 13)) := by unfold may; rw [if_pos h]
theorem may_high {n : Int} (h : ¬ n < 32) : may n = (decide (n ≤ 1114111) && (decide (n < 55296) || decide (57343 < n)) && decide (n ≠ 65534) && decide (n ≠ 65535)) := by unfold may; rw [if_neg h]
/-- What Bytes answers. -/
def BytesTo (l : List UInt8) (w : World) (e : Ending) (w' : World) : Prop := Below w.heap.size w w' ∧ ∃ g c, e = .returned (.slice (some ⟨g, 0, none⟩) l.length c) ∧ w.heap.size ≤ g ∧ RdA w' w'.heap.size (some ⟨g, 0, none⟩) l
/-- How many bytes the first one tells, and its bits. -/
def hd (c : Nat) : Nat × Nat := if c < 128 then (1, c) else if 192 ≤ c ∧ c < 224 then (2, c - 192) else if 224 ≤ c ∧ c < 240 then (3, c - 224) else if 240 ≤ c ∧ c < 248 then (4, c - 240) else (0, 0)
end Hx
end Go.Proofs.Ytfdhogaknlabkaa
