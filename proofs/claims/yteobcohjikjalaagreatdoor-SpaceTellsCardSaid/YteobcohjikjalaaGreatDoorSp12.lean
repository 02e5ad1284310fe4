/-
  Texts of one seat, put together: TextQ, EscB, LeaA, LeaB.
-/
import Derived.Test.YteobcohjikjalaaGreatDoorSp11
import Derived.Laws.RangeAny
import Derived.Lib.OthersKept
import Derived.Deep.LoopGhost
import Derived.Test.YteobcohjikjalaaGreatDoorSp07
import Derived.Test.YteobcohjikjalaaGreatDoorSp02
import Derived.Test.YteobcohjikjalaaGreatDoorSp04
import Derived.Test.YteobcohjikjalaaGreatDoorShelf
import Derived.Lib.IndexLaws
import Derived.RegionTactic
set_option linter.unusedSimpArgs false
namespace Go.Proofs.YteobcohjikjalaaGreatDoor
open Go.RowKit
namespace Hx
open Tx
set_option maxRecDepth 100000
set_option maxHeartbeats 16000000
set_option linter.unusedVariables false
theorem drop_len (s : ByteArray) (a : Nat) : (s.data.toList.drop a).length = s.size - a := by rw [List.length_drop, ba_len5]
theorem step_some (s : ByteArray) (a p k : Nat) (ha : a < s.size) (ho : one (s.data.toList.drop a) = some (p, k)) :
    Utf8.decode s a = (p, k) ∧ runeL (s.data.toList.drop a) = p ∧ 1 ≤ k ∧ a + k ≤ s.size ∧ pts (s.data.toList.drop a) = (pts (s.data.toList.drop (a + k))).map (p :: ·) := by
  have hne : s.data.toList.drop a ≠ [] := by
    intro h
    have := drop_len s a
    rw [h] at this
    simp at this
    omega
  have hd : decL (s.data.toList.drop a) = some (p, k) := by
    unfold one at ho
    rw [Option.filter_eq_some_iff] at ho
    exact ho.1
  obtain ⟨h1, h2, _⟩ := one_le ho
  rw [drop_len] at h2
  refine ⟨?_, ?_, h1, by omega, ?_⟩
  · rw [decode_eq s a ha, hd]
  · rw [runeL, hd]
  · rw [pts_step _ hne, ho]
    show Option.map _ (pts (List.drop k (List.drop a s.data.toList))) = _
    rw [List.drop_drop]
theorem step_rune (s : ByteArray) (a : Nat) (ha : a < s.size) : (Utf8.decode s a).1 = runeL (s.data.toList.drop a) := by
  rw [decode_eq s a ha, runeL]
  cases decL (s.data.toList.drop a) <;> rfl
theorem step_none (s : ByteArray) (a : Nat) (ha : a < s.size) (ho : one (s.data.toList.drop a) = none) : pts (s.data.toList.drop a) = none := by
  have hne : s.data.toList.drop a ≠ [] := by
    intro h
    have := drop_len s a
    rw [h] at this
    simp at this
    omega
  rw [pts_step _ hne, ho]
theorem pts_end (s : ByteArray) (a : Nat) (h : ¬ a < s.size) : pts (s.data.toList.drop a) = some [] := by
  rw [List.drop_of_length_le (by rw [ba_len5]; omega)]
  rfl
theorem below_iter (w : World) (s : ByteArray) (p : Nat) : Below w.heap.size w (w.iter s p) := stpA (Below.refl _ _) _
theorem check5 (s : ByteArray) (w : World) (hm : s.size ≤ 1000000) (q : Int) (h : chkE s = q) : Calls Tryz.prog 25 #[.string s] w fun e w' => e = .returned (.int .i64 q) ∧ Below w.heap.size w w' := by
  unfold chkE at h
  by_cases h1 : 16384 < s.size
  · rw [if_pos h1] at h
    subst h
    have d0 : decide ((16384 : Int) < (s.size : Int)) = true := by simp; omega
    clear hm
    go_enter Tryz.func25, Tryz.ntmps25
    go_wp2_with fail
    go_ret
    exact ⟨rfl, Below.refl _ _⟩
  · rw [if_neg h1] at h
    have d0 : decide ((16384 : Int) < (s.size : Int)) = false := by simp; omega
    have d1 : ¬ (16384 < s.size) := h1
    have HQ := Lib.hid h
    clear h hm
    go_enter Tryz.func25, Tryz.ntmps25
    go_wp2_with fail
    go_loopg [3, 4] s.size (fun g x y wr => ∃ pos : Nat, s.size ≤ pos + g ∧ wr = w.iter s pos ∧ (pts (s.data.toList.drop pos)).isSome = (pts s.data.toList).isSome)
    case atStart => exact ⟨0, by omega, rfl, rfl⟩
    case round =>
      obtain ⟨pos, hg, rfl, hp⟩ := hrel
      have HP := Lib.hid hp
      clear hp
      by_cases hlt : pos < s.size
      · have hnx : ∀ ty, (Instr.next (.pointer (some ⟨w.heap.size, 0, none⟩)) true ty).run Tryz.prog (w.iter s pos) = _ := fun ty => run_next_any w s pos ty hlt
        have b0 : (0 : Int) ≤ (pos : Int) ∧ (pos : Int) ≤ (s.size : Int) := by omega
        have b1 : pos ≤ s.size := by omega
        obtain ⟨c, hc⟩ : ∃ c, runeL (s.data.toList.drop pos) = c := ⟨_, rfl⟩
        have HX := Lib.hid (extract_drop s pos)
        have HC := Lib.hid hc
        rw [step_rune s pos hlt, hc] at hnx
        cases ho : one (s.data.toList.drop pos) with
        | none =>
          have hq := HQ.out
          rw [← HP.out, step_none s pos hlt ho] at hq
          obtain rfl : (50 : Int) = q := hq
          have HO : Hid ((one (s.data.toList.drop pos)).isSome = false) := by show _ = _; rw [ho]; rfl
          clear hc ho
          go_wp2_with (go_at_call 48; (with_reducible refine (begins5 (s.data.toList.drop pos) _ c false _ HX.out HC.out HO.out).mono ?_); rintro e w1 ⟨rfl, rfl⟩)
          go_ret
          exact ⟨rfl, below_iter w s _⟩
        | some x =>
          obtain ⟨p, k⟩ := x
          obtain ⟨e1, e2, e3, e4, e5⟩ := step_some s pos p k hlt ho
          have HO : Hid ((one (s.data.toList.drop pos)).isSome = true) := by show _ = _; rw [ho]; rfl
          rw [e1] at hnx
          have HN : Hid ((pts (s.data.toList.drop (pos + k))).isSome = (pts s.data.toList).isSome) := by
            show _ = _
            rw [← HP.out, e5]
            simp
          clear hc ho e1 e2 e5
          go_wp2_with (go_at_call 48; (with_reducible refine (begins5 (s.data.toList.drop pos) _ c true _ HX.out HC.out HO.out).mono ?_); rintro e w1 ⟨rfl, rfl⟩)
          go_roundg (gk - 1)
          case rel => exact ⟨pos + k, by omega, rfl, HN.out⟩
          case measure => omega
      · have hnx : ∀ ty, (Instr.next (.pointer (some ⟨w.heap.size, 0, none⟩)) true ty).run Tryz.prog (w.iter s pos) = _ := fun ty => run_next_end w s pos ty hlt
        have hq := HQ.out
        rw [← HP.out, pts_end s pos hlt] at hq
        obtain rfl : (0 : Int) = q := hq
        go_wp2_with fail
        go_ret
        exact ⟨rfl, below_iter w s _⟩
end Hx
end Go.Proofs.YteobcohjikjalaaGreatDoor
set_option linter.unusedSimpArgs false
namespace Go.Proofs.YteobcohjikjalaaGreatDoor
open Go.RowKit
namespace Hx
open Tx Nmb Es
set_option linter.unusedVariables false
end Hx
end Go.Proofs.YteobcohjikjalaaGreatDoor
set_option linter.unusedSimpArgs false
namespace Go.Proofs.YteobcohjikjalaaGreatDoor
namespace Lx
open Tx Nmb Es
set_option linter.unusedVariables false
def ne (q c : UInt8) : Bool := c != q
end Lx
end Go.Proofs.YteobcohjikjalaaGreatDoor
set_option linter.unusedSimpArgs false
namespace Go.Proofs.YteobcohjikjalaaGreatDoor
open Go.RowKit
namespace Hx
open Lx
set_option maxRecDepth 100000
set_option maxHeartbeats 16000000
set_option linter.unusedVariables false
theorem cut_uniq {c : UInt8} : ∀ {a a' b b' : List UInt8}, a ++ c :: b = a' ++ c :: b' → c ∉ a → c ∉ a' → a = a' ∧ b = b' := by
  intro a
  induction a with
  | nil =>
    intro a' b b' h _ h2
    cases a' with
    | nil => injection h with _ h; exact ⟨rfl, h⟩
    | cons d a' => injection h with h _; exact absurd (by rw [h]; simp) h2
  | cons d a ih =>
    intro a' b b' h h1 h2
    cases a' with
    | nil => injection h with h _; exact absurd (by rw [← h]; simp) h1
    | cons d' a' =>
      injection h with e h
      rw [List.mem_cons, not_or] at h1 h2
      obtain ⟨q1, q2⟩ := ih h h1.2 h2.2
      exact ⟨by rw [e, q1], q2⟩
theorem xix_cases (l : List UInt8) (c : UInt8) : (Lib.indexByte l c = -1 ∧ c ∉ l) ∨ ∃ i : Nat, Lib.indexByte l c = (i : Int) ∧ i < l.length ∧ l = l.take i ++ c :: l.drop (i + 1) ∧ c ∉ l.take i := by
  have hge := Lib.indexByte_ge l c
  by_cases h : Lib.indexByte l c = -1
  · left
    refine ⟨h, fun hc => ?_⟩
    obtain ⟨k, hk⟩ := List.mem_iff_getElem?.1 hc
    exact Lib.indexByte_none h k hk
  · right
    obtain ⟨i, hi⟩ : ∃ i : Nat, Lib.indexByte l c = (i : Int) := ⟨(Lib.indexByte l c).toNat, by omega⟩
    obtain ⟨h1, h2⟩ := Lib.indexByte_some hi
    obtain ⟨hlt, hc⟩ := List.getElem?_eq_some_iff.1 h1
    refine ⟨i, hi, hlt, ?_, fun hm => ?_⟩
    · conv => lhs; rw [← List.take_append_drop i l]
      rw [List.drop_eq_getElem_cons hlt, hc]
    · obtain ⟨k, hk⟩ := List.mem_iff_getElem?.1 hm
      rw [List.getElem?_take] at hk
      split at hk
      · exact h2 k (by assumption) hk
      · cases hk
theorem cutC_some9 {l : List UInt8} (h : (58 : UInt8) ∈ l) : (cutC l).isSome = true := by
  induction l with
  | nil => cases h
  | cons c l ih =>
    show (if c = 58 then _ else _ : Option _).isSome = true
    split
    · rfl
    · rename_i hc
      rcases List.mem_cons.1 h with e | e
      · exact absurd e.symm hc
      · show (Option.map _ (cutC l)).isSome = true
        rw [Option.isSome_map]
        exact ih e
def XCutAt (p r : ByteArray) (b : Bool) (w : World) (e : Ending) (w' : World) : Prop := e = .returned (.tuple #[.string p, .string r, .bool b]) ∧ Below w.heap.size w w'
theorem xib_58 (s : ByteArray) (q : Int) (w : World) (h : Lib.indexByte s.data.toList 58 = q) :
    Calls Tryz.prog 89 #[.string s, .int .u8 ↑((⟨#[58]⟩ : ByteArray)[0]'(by decide)).toNat] w fun e w' => e = .returned (.int .i64 q) ∧ w = w' := by
  refine (Tryz.stringslite_IndexByte s _ w).mono fun e w' ⟨h1, h2⟩ => ⟨?_, h2.symm⟩
  rw [h1, ← h]
  rfl
theorem xindex_58 (s : ByteArray) (q : Int) (w : World) (h : Lib.indexByte s.data.toList 58 = q) :
    Calls Tryz.prog 81 #[.string s, .string ⟨#[58]⟩] w fun e w' => e = .returned (.int .i64 q) ∧ w = w' := by
  have H := Lib.hid h
  cases hq : ([58] == s.toList) with
  | true =>
    obtain rfl : (0 : Int) = q := by
      have e : s.data.toList = [58] := by
        rw [beq_iff_eq, ByteArray.toList_eq] at hq
        exact hq.symm
      rw [← h, e]
      rfl
    clear h
    go_enter Tryz.func81, Tryz.ntmps81
    go_wp2_with fail
    go_ret
    exact ⟨rfl, rfl⟩
  | false =>
    clear h
    go_enter Tryz.func81, Tryz.ntmps81
    go_wp2_with (first
      | (go_at_call 89; (with_reducible refine (xib_58 s q w H.out).mono ?_); rintro e w1 ⟨rfl, rfl⟩)
      | fail)
    go_ret
    exact ⟨rfl, rfl⟩
theorem xslcut_no_58 (s : ByteArray) (w : World) (h : Lib.indexByte s.data.toList 58 = -1) :
    Calls Tryz.prog 60 #[.string s, .string ⟨#[58]⟩] w (XCutAt s ⟨#[]⟩ false w) := by
  have H := Lib.hid h
  clear h
  go_enter Tryz.func60, Tryz.ntmps60
  go_wp2_with (first
    | (go_at_call 81; (with_reducible refine (xindex_58 s (-1) w H.out).mono ?_); rintro e w1 ⟨rfl, rfl⟩)
    | fail)
  go_ret3
  exact ⟨rfl, Below.refl _ _⟩
theorem xslcut_yes_58 (s p r : ByteArray) (i j n : Nat) (w : World) (hm : s.size ≤ 1000000) (h : Lib.indexByte s.data.toList 58 = (i : Int)) (hi : i < s.size) (hj : i + 1 = j) (hn : s.size = n) (hp : s.extract 0 i = p) (hr : s.extract j n = r) :
    Calls Tryz.prog 60 #[.string s, .string ⟨#[58]⟩] w (XCutAt p r true w) := by
  have H := Lib.hid h
  have b1 : (0 : Int) ≤ (i : Int) ∧ (i : Int) ≤ (s.size : Int) := by omega
  have b2 : (0 : Int) ≤ (j : Int) ∧ (j : Int) ≤ (s.size : Int) := by omega
  have s1 : IntKind.i64.wrap ((i : Int) + 1) = (j : Int) := by rw [IntWalk.i64_in _ (by omega)]; omega
  have d1 : decide ((0 : Int) ≤ (i : Int)) = true := by simp
  rw [← hn] at hr
  clear h hm hi hj hn
  go_enter Tryz.func60, Tryz.ntmps60
  go_wp2_with (first
    | (go_at_call 81; (with_reducible refine (xindex_58 s (i : Int) w H.out).mono ?_); rintro e w1 ⟨rfl, rfl⟩)
    | fail)
  go_region
  go_wp2_with fail
  go_ret3
  exact ⟨rfl, (show Below w.heap.size w w.drew from ⟨rfl, rfl, rfl, Nat.le_refl _, fun _ _ => rfl⟩)⟩
theorem xcut_no_58 (s : ByteArray) (w : World) (h : Lib.indexByte s.data.toList 58 = -1) :
    Calls Tryz.prog 39 #[.string s, .string ⟨#[58]⟩] w (XCutAt s ⟨#[]⟩ false w) := by
  have H := Lib.hid h
  clear h
  go_enter Tryz.func39, Tryz.ntmps39
  go_wp2_with (first
    | (go_at_call 60; (with_reducible refine (xslcut_no_58 s w H.out).mono ?_); rintro e w1 ⟨rfl, hb1⟩)
    | fail)
  go_ret3
  exact ⟨rfl, hb1⟩
theorem xcut_yes_58 (s p r : ByteArray) (i j n : Nat) (w : World) (hm : s.size ≤ 1000000) (h : Lib.indexByte s.data.toList 58 = (i : Int)) (hi : i < s.size) (hj : i + 1 = j) (hn : s.size = n) (hp : s.extract 0 i = p) (hr : s.extract j n = r) :
    Calls Tryz.prog 39 #[.string s, .string ⟨#[58]⟩] w (XCutAt p r true w) := by
  have H : Hid (Calls Tryz.prog 60 #[.string s, .string ⟨#[58]⟩] w (XCutAt p r true w)) := xslcut_yes_58 s p r i j n w hm h hi hj hn hp hr
  clear hm h hi hj hn hp hr
  go_enter Tryz.func39, Tryz.ntmps39
  go_wp2_with (first
    | (go_at_call 60; (with_reducible refine (H.out).mono ?_); rintro e w1 ⟨rfl, hb1⟩)
    | fail)
  go_ret3
  exact ⟨rfl, hb1⟩
theorem xcut_58_none (s : ByteArray) (w : World) (h : (58 : UInt8) ∉ s.data.toList) :
    Calls Tryz.prog 39 #[.string s, .string ⟨#[58]⟩] w (XCutAt s ⟨#[]⟩ false w) := by
  rcases xix_cases s.data.toList 58 with ⟨h1, _⟩ | ⟨i, _, hi, e, _⟩
  · exact xcut_no_58 s w h1
  · exfalso; apply h; rw [e]; simp
theorem xcut_58_some (s p r : ByteArray) (w : World) (hm : s.size ≤ 1000000) (h : s.data.toList = p.data.toList ++ 58 :: r.data.toList) (hp : (58 : UInt8) ∉ p.data.toList) :
    Calls Tryz.prog 39 #[.string s, .string ⟨#[58]⟩] w (XCutAt p r true w) := by
  rcases xix_cases s.data.toList 58 with ⟨_, h1⟩ | ⟨i, h1, hi, e, hn⟩
  · exfalso; apply h1; rw [h]; simp
  · have hsz := ba_l s
    obtain ⟨e1, e2⟩ := cut_uniq (e.symm.trans h) hn hp
    refine xcut_yes_58 s p r i (i + 1) s.size w hm h1 (by rw [← hsz]; exact hi) rfl rfl ?_ ?_
    · apply ba_x
      rw [extract_l s 0 i (by rw [← hsz]; omega), List.drop_zero, Nat.sub_zero, e1]
    · apply ba_x
      rw [extract_l s (i + 1) s.size (Nat.le_refl _), List.take_of_length_le (by rw [List.length_drop, hsz]; omega), e2]
theorem begins9 (c : UInt8) (w : World) (b : Bool) (h : ltr c = b) :
    Calls Tryz.prog 75 #[.int .u8 c.toNat] w fun e w' => e = .returned (.bool b) ∧ w = w' := by
  have hlim := c.toNat_lt
  rcases (show (0 ≤ c.toNat ∧ c.toNat ≤ 64) ∨ (65 ≤ c.toNat ∧ c.toNat ≤ 90) ∨ (91 ≤ c.toNat ∧ c.toNat ≤ 94) ∨ (95 ≤ c.toNat ∧ c.toNat ≤ 95) ∨ (96 ≤ c.toNat ∧ c.toNat ≤ 96) ∨ (97 ≤ c.toNat ∧ c.toNat ≤ 122) ∨ (123 ≤ c.toNat ∧ c.toNat ≤ 255) by omega) with ⟨q1, q2⟩ | ⟨q1, q2⟩ | ⟨q1, q2⟩ | ⟨q1, q2⟩ | ⟨q1, q2⟩ | ⟨q1, q2⟩ | ⟨q1, q2⟩
  · obtain rfl : false = b := by
      rw [← h]
      unfold ltr
      have e95 : (c == 95) = false := by rw [Bool.eq_iff_iff]; simp [← UInt8.toNat_inj]; omega
      rw [e95]
      simp <;> omega
    clear h
    have feq95 : ((c.toNat : Int) == 95) = false := by simp; omega
    have fge97 : decide ((97 : Int) ≤ (c.toNat : Int)) = false := decide_eq_false (by omega)
    have fle122 : decide ((c.toNat : Int) ≤ 122) = true := decide_eq_true (by omega)
    have fge65 : decide ((65 : Int) ≤ (c.toNat : Int)) = false := decide_eq_false (by omega)
    have fle90 : decide ((c.toNat : Int) ≤ 90) = true := decide_eq_true (by omega)
    go_enter Tryz.func75, Tryz.ntmps75
    go_wp2_with fail
    go_ret
    exact ⟨rfl, rfl⟩
  · obtain rfl : true = b := by
      rw [← h]
      unfold ltr
      have e95 : (c == 95) = false := by rw [Bool.eq_iff_iff]; simp [← UInt8.toNat_inj]; omega
      rw [e95]
      simp <;> omega
    clear h
    have feq95 : ((c.toNat : Int) == 95) = false := by simp; omega
    have fge97 : decide ((97 : Int) ≤ (c.toNat : Int)) = false := decide_eq_false (by omega)
    have fle122 : decide ((c.toNat : Int) ≤ 122) = true := decide_eq_true (by omega)
    have fge65 : decide ((65 : Int) ≤ (c.toNat : Int)) = true := decide_eq_true (by omega)
    have fle90 : decide ((c.toNat : Int) ≤ 90) = true := decide_eq_true (by omega)
    go_enter Tryz.func75, Tryz.ntmps75
    go_wp2_with fail
    go_ret
    exact ⟨rfl, rfl⟩
  · obtain rfl : false = b := by
      rw [← h]
      unfold ltr
      have e95 : (c == 95) = false := by rw [Bool.eq_iff_iff]; simp [← UInt8.toNat_inj]; omega
      rw [e95]
      simp <;> omega
    clear h
    have feq95 : ((c.toNat : Int) == 95) = false := by simp; omega
    have fge97 : decide ((97 : Int) ≤ (c.toNat : Int)) = false := decide_eq_false (by omega)
    have fle122 : decide ((c.toNat : Int) ≤ 122) = true := decide_eq_true (by omega)
    have fge65 : decide ((65 : Int) ≤ (c.toNat : Int)) = true := decide_eq_true (by omega)
    have fle90 : decide ((c.toNat : Int) ≤ 90) = false := decide_eq_false (by omega)
    go_enter Tryz.func75, Tryz.ntmps75
    go_wp2_with fail
    go_ret
    exact ⟨rfl, rfl⟩
  · obtain rfl : true = b := by
      rw [← h]
      unfold ltr
      have e95 : (c == 95) = true := by rw [Bool.eq_iff_iff]; simp [← UInt8.toNat_inj]; omega
      rw [e95]
      simp <;> omega
    clear h
    have feq95 : ((c.toNat : Int) == 95) = true := by simp; omega
    have fge97 : decide ((97 : Int) ≤ (c.toNat : Int)) = false := decide_eq_false (by omega)
    have fle122 : decide ((c.toNat : Int) ≤ 122) = true := decide_eq_true (by omega)
    have fge65 : decide ((65 : Int) ≤ (c.toNat : Int)) = true := decide_eq_true (by omega)
    have fle90 : decide ((c.toNat : Int) ≤ 90) = false := decide_eq_false (by omega)
    go_enter Tryz.func75, Tryz.ntmps75
    go_wp2_with fail
    go_ret
    exact ⟨rfl, rfl⟩
  · obtain rfl : false = b := by
      rw [← h]
      unfold ltr
      have e95 : (c == 95) = false := by rw [Bool.eq_iff_iff]; simp [← UInt8.toNat_inj]; omega
      rw [e95]
      simp <;> omega
    clear h
    have feq95 : ((c.toNat : Int) == 95) = false := by simp; omega
    have fge97 : decide ((97 : Int) ≤ (c.toNat : Int)) = false := decide_eq_false (by omega)
    have fle122 : decide ((c.toNat : Int) ≤ 122) = true := decide_eq_true (by omega)
    have fge65 : decide ((65 : Int) ≤ (c.toNat : Int)) = true := decide_eq_true (by omega)
    have fle90 : decide ((c.toNat : Int) ≤ 90) = false := decide_eq_false (by omega)
    go_enter Tryz.func75, Tryz.ntmps75
    go_wp2_with fail
    go_ret
    exact ⟨rfl, rfl⟩
  · obtain rfl : true = b := by
      rw [← h]
      unfold ltr
      have e95 : (c == 95) = false := by rw [Bool.eq_iff_iff]; simp [← UInt8.toNat_inj]; omega
      rw [e95]
      simp <;> omega
    clear h
    have feq95 : ((c.toNat : Int) == 95) = false := by simp; omega
    have fge97 : decide ((97 : Int) ≤ (c.toNat : Int)) = true := decide_eq_true (by omega)
    have fle122 : decide ((c.toNat : Int) ≤ 122) = true := decide_eq_true (by omega)
    have fge65 : decide ((65 : Int) ≤ (c.toNat : Int)) = true := decide_eq_true (by omega)
    have fle90 : decide ((c.toNat : Int) ≤ 90) = false := decide_eq_false (by omega)
    go_enter Tryz.func75, Tryz.ntmps75
    go_wp2_with fail
    go_ret
    exact ⟨rfl, rfl⟩
  · obtain rfl : false = b := by
      rw [← h]
      unfold ltr
      have e95 : (c == 95) = false := by rw [Bool.eq_iff_iff]; simp [← UInt8.toNat_inj]; omega
      rw [e95]
      simp <;> omega
    clear h
    have feq95 : ((c.toNat : Int) == 95) = false := by simp; omega
    have fge97 : decide ((97 : Int) ≤ (c.toNat : Int)) = true := decide_eq_true (by omega)
    have fle122 : decide ((c.toNat : Int) ≤ 122) = false := decide_eq_false (by omega)
    have fge65 : decide ((65 : Int) ≤ (c.toNat : Int)) = true := decide_eq_true (by omega)
    have fle90 : decide ((c.toNat : Int) ≤ 90) = false := decide_eq_false (by omega)
    go_enter Tryz.func75, Tryz.ntmps75
    go_wp2_with fail
    go_ret
    exact ⟨rfl, rfl⟩
theorem nch_not9 {c : UInt8} (h : ltr c = false) : nch c = (decide (48 ≤ c.toNat) && decide (c.toNat ≤ 57) || c == 46 || c == 45) := by unfold nch; rw [h]; simp
theorem goesOn9 (c : UInt8) (w : World) (b : Bool) (h : nch c = b) :
    Calls Tryz.prog 76 #[.int .u8 c.toNat] w fun e w' => e = .returned (.bool b) ∧ w = w' := by
  cases hl : ltr c with
  | true =>
    have HL := Lib.hid hl
    obtain rfl : true = b := by rw [← h, nch_of_ltr hl]
    clear h hl
    go_enter Tryz.func76, Tryz.ntmps76
    go_wp2_with (first
      | (go_at_call 75; (with_reducible refine (begins9 c _ true HL.out).mono ?_); rintro e1 w1 ⟨rfl, rfl⟩)
      | fail)
    go_ret
    exact ⟨rfl, rfl⟩
  | false =>
    have HL := Lib.hid hl
    rw [nch_not9 hl] at h
    clear hl
    have hlim := c.toNat_lt
    rcases (show (0 ≤ c.toNat ∧ c.toNat ≤ 44) ∨ (45 ≤ c.toNat ∧ c.toNat ≤ 45) ∨ (46 ≤ c.toNat ∧ c.toNat ≤ 46) ∨ (47 ≤ c.toNat ∧ c.toNat ≤ 47) ∨ (48 ≤ c.toNat ∧ c.toNat ≤ 57) ∨ (58 ≤ c.toNat ∧ c.toNat ≤ 255) by omega) with ⟨q1, q2⟩ | ⟨q1, q2⟩ | ⟨q1, q2⟩ | ⟨q1, q2⟩ | ⟨q1, q2⟩ | ⟨q1, q2⟩
    · obtain rfl : false = b := by
        rw [← h]
        have e45 : (c == 45) = false := by rw [Bool.eq_iff_iff]; simp [← UInt8.toNat_inj]; omega
        have e46 : (c == 46) = false := by rw [Bool.eq_iff_iff]; simp [← UInt8.toNat_inj]; omega
        rw [e45, e46]
        simp <;> omega
      clear h
      have feq46 : ((c.toNat : Int) == 46) = false := by simp; omega
      have feq45 : ((c.toNat : Int) == 45) = false := by simp; omega
      have fge48 : decide ((48 : Int) ≤ (c.toNat : Int)) = false := decide_eq_false (by omega)
      have fle57 : decide ((c.toNat : Int) ≤ 57) = true := decide_eq_true (by omega)
      go_enter Tryz.func76, Tryz.ntmps76
      go_wp2_with (first
        | (go_at_call 75; (with_reducible refine (begins9 c _ false HL.out).mono ?_); rintro e1 w1 ⟨rfl, rfl⟩)
        | fail)
      go_ret
      exact ⟨rfl, rfl⟩
    · obtain rfl : true = b := by
        rw [← h]
        have e45 : (c == 45) = true := by rw [Bool.eq_iff_iff]; simp [← UInt8.toNat_inj]; omega
        have e46 : (c == 46) = false := by rw [Bool.eq_iff_iff]; simp [← UInt8.toNat_inj]; omega
        rw [e45, e46]
        simp <;> omega
      clear h
      have feq46 : ((c.toNat : Int) == 46) = false := by simp; omega
      have feq45 : ((c.toNat : Int) == 45) = true := by simp; omega
      have fge48 : decide ((48 : Int) ≤ (c.toNat : Int)) = false := decide_eq_false (by omega)
      have fle57 : decide ((c.toNat : Int) ≤ 57) = true := decide_eq_true (by omega)
      go_enter Tryz.func76, Tryz.ntmps76
      go_wp2_with (first
        | (go_at_call 75; (with_reducible refine (begins9 c _ false HL.out).mono ?_); rintro e1 w1 ⟨rfl, rfl⟩)
        | fail)
      go_ret
      exact ⟨rfl, rfl⟩
    · obtain rfl : true = b := by
        rw [← h]
        have e45 : (c == 45) = false := by rw [Bool.eq_iff_iff]; simp [← UInt8.toNat_inj]; omega
        have e46 : (c == 46) = true := by rw [Bool.eq_iff_iff]; simp [← UInt8.toNat_inj]; omega
        rw [e45, e46]
        simp <;> omega
      clear h
      have feq46 : ((c.toNat : Int) == 46) = true := by simp; omega
      have feq45 : ((c.toNat : Int) == 45) = false := by simp; omega
      have fge48 : decide ((48 : Int) ≤ (c.toNat : Int)) = false := decide_eq_false (by omega)
      have fle57 : decide ((c.toNat : Int) ≤ 57) = true := decide_eq_true (by omega)
      go_enter Tryz.func76, Tryz.ntmps76
      go_wp2_with (first
        | (go_at_call 75; (with_reducible refine (begins9 c _ false HL.out).mono ?_); rintro e1 w1 ⟨rfl, rfl⟩)
        | fail)
      go_ret
      exact ⟨rfl, rfl⟩
    · obtain rfl : false = b := by
        rw [← h]
        have e45 : (c == 45) = false := by rw [Bool.eq_iff_iff]; simp [← UInt8.toNat_inj]; omega
        have e46 : (c == 46) = false := by rw [Bool.eq_iff_iff]; simp [← UInt8.toNat_inj]; omega
        rw [e45, e46]
        simp <;> omega
      clear h
      have feq46 : ((c.toNat : Int) == 46) = false := by simp; omega
      have feq45 : ((c.toNat : Int) == 45) = false := by simp; omega
      have fge48 : decide ((48 : Int) ≤ (c.toNat : Int)) = false := decide_eq_false (by omega)
      have fle57 : decide ((c.toNat : Int) ≤ 57) = true := decide_eq_true (by omega)
      go_enter Tryz.func76, Tryz.ntmps76
      go_wp2_with (first
        | (go_at_call 75; (with_reducible refine (begins9 c _ false HL.out).mono ?_); rintro e1 w1 ⟨rfl, rfl⟩)
        | fail)
      go_ret
      exact ⟨rfl, rfl⟩
    · obtain rfl : true = b := by
        rw [← h]
        have e45 : (c == 45) = false := by rw [Bool.eq_iff_iff]; simp [← UInt8.toNat_inj]; omega
        have e46 : (c == 46) = false := by rw [Bool.eq_iff_iff]; simp [← UInt8.toNat_inj]; omega
        rw [e45, e46]
        simp <;> omega
      clear h
      have feq46 : ((c.toNat : Int) == 46) = false := by simp; omega
      have feq45 : ((c.toNat : Int) == 45) = false := by simp; omega
      have fge48 : decide ((48 : Int) ≤ (c.toNat : Int)) = true := decide_eq_true (by omega)
      have fle57 : decide ((c.toNat : Int) ≤ 57) = true := decide_eq_true (by omega)
      go_enter Tryz.func76, Tryz.ntmps76
      go_wp2_with (first
        | (go_at_call 75; (with_reducible refine (begins9 c _ false HL.out).mono ?_); rintro e1 w1 ⟨rfl, rfl⟩)
        | fail)
      go_ret
      exact ⟨rfl, rfl⟩
    · obtain rfl : false = b := by
        rw [← h]
        have e45 : (c == 45) = false := by rw [Bool.eq_iff_iff]; simp [← UInt8.toNat_inj]; omega
        have e46 : (c == 46) = false := by rw [Bool.eq_iff_iff]; simp [← UInt8.toNat_inj]; omega
        rw [e45, e46]
        simp <;> omega
      clear h
      have feq46 : ((c.toNat : Int) == 46) = false := by simp; omega
      have feq45 : ((c.toNat : Int) == 45) = false := by simp; omega
      have fge48 : decide ((48 : Int) ≤ (c.toNat : Int)) = true := decide_eq_true (by omega)
      have fle57 : decide ((c.toNat : Int) ≤ 57) = false := decide_eq_false (by omega)
      go_enter Tryz.func76, Tryz.ntmps76
      go_wp2_with (first
        | (go_at_call 75; (with_reducible refine (begins9 c _ false HL.out).mono ?_); rintro e1 w1 ⟨rfl, rfl⟩)
        | fail)
      go_ret
      exact ⟨rfl, rfl⟩
theorem nameL_first {l : List UInt8} (h : 0 < l.length) : nameL l = (ltr (l[0]'h) && l.all nch) := by
  cases l with
  | nil => simp at h
  | cons c r =>
    show (ltr c && r.all nch) = (ltr c && (nch c && r.all nch))
    cases hc : ltr c
    · rfl
    · rw [nch_of_ltr hc]; rfl
theorem name9q (s : ByteArray) (w : World) (hm : s.size ≤ 1000000) (b : Bool) (h : nameL s.data.toList = b) :
    Calls Tryz.prog 55 #[.string s] w fun e w' => e = .returned (.bool b) ∧ w = w' := by
  have HM := Lib.hid hm
  by_cases h0 : s.size = 0
  · obtain rfl : false = b := by rw [← h, List.eq_nil_of_length_eq_zero ((ba_l s).trans h0)]; rfl
    have hem : s.toList.isEmpty = true := by rw [empty_l]; simp [h0]
    clear h hm h0
    go_enter Tryz.func55, Tryz.ntmps55
    go_wp2_with fail
    go_ret
    exact ⟨rfl, rfl⟩
  · have hem : s.toList.isEmpty = false := by rw [empty_l]; simp [h0]
    have hp : 0 < s.size := by omega
    have hpl : 0 < s.data.toList.length := by rw [ba_l]; exact hp
    have b0 : (0 : Int) < (s.size : Int) := by omega
    rw [nameL_first hpl, at_l s 0 hp] at h
    obtain ⟨c, hc⟩ : ∃ c, s[0]'hp = c := ⟨_, rfl⟩
    have hca : ∀ h, s[0]'h = c := fun _ => hc
    rw [hc] at h
    cases hl : ltr c with
    | false =>
      have HL := Lib.hid hl
      obtain rfl : false = b := by rw [← h, hl]; rfl
      clear h hm h0 hl hc hpl
      go_enter Tryz.func55, Tryz.ntmps55
      go_wp2_with (first
        | (go_at_call 75; (with_reducible refine (begins9 c _ false HL.out).mono ?_); rintro e1 w1 ⟨rfl, rfl⟩)
        | fail)
      go_ret
      exact ⟨rfl, rfl⟩
    | true =>
      have HL := Lib.hid hl
      have HB : Hid (s.data.toList.all nch = b) := Lib.hid (by rw [← h, hl]; rfl)
      clear h hm h0 hl hc hpl
      go_enter Tryz.func55, Tryz.ntmps55
      go_wp2_with (first
        | (go_at_call 75; (with_reducible refine (begins9 c _ true HL.out).mono ?_); rintro e1 w1 ⟨rfl, rfl⟩)
        | fail)
      go_loopw [14] (fun i wr => ∃ k : Nat, k ≤ s.size ∧ i = .int .i64 k ∧ (s.data.toList.take k).all nch = true ∧ w = wr) (fun i _ => s.size - (intOf i).toNat)
      case atStart => exact ⟨0, Nat.zero_le _, rfl, rfl, by first | rfl | trivial⟩
      case round =>
        obtain ⟨k, hk, rfl, hn, rfl⟩ := hrel
        have hs := HM.out
        by_cases hlt : k < s.size
        · obtain ⟨d, hd⟩ : ∃ d, s[k]'hlt = d := ⟨_, rfl⟩
          have hda : ∀ h, s[k]'h = d := fun _ => hd
          have hkl : k < s.data.toList.length := by rw [ba_l]; exact hlt
          have hdk : s.data.toList[k]'hkl = d := (at_l s k hlt).trans hd
          have bk : (0 : Int) ≤ (k : Int) ∧ (k : Int) < (s.size : Int) := by omega
          cases hg : nch d with
          | false =>
            have HD := Lib.hid hg
            obtain rfl : false = b := by
              rw [← HB.out]
              refine (List.all_eq_false.2 ⟨d, hdk ▸ List.getElem_mem hkl, ?_⟩).symm
              rw [hg]; decide
            clear hg hd hdk hn
            go_wp2_with (first
              | (go_at_call 76; (with_reducible refine (goesOn9 d _ false HD.out).mono ?_); rintro e2 w2 ⟨rfl, rfl⟩)
              | fail)
            go_ret
            exact ⟨rfl, rfl⟩
          | true =>
            have HD := Lib.hid hg
            have HV : Hid ((s.data.toList.take (k + 1)).all nch = true) := Lib.hid (by
              rw [List.take_succ_eq_append_getElem hkl, List.all_append, hn, hdk]
              simp [hg])
            clear hg hd hdk hn
            go_wp2_with (first
              | (go_at_call 76; (with_reducible refine (goesOn9 d _ true HD.out).mono ?_); rintro e2 w2 ⟨rfl, rfl⟩)
              | fail)
            go_roundw
            case rel => exact ⟨k + 1, hlt, by go_num, HV.out, by first | rfl | trivial⟩
            case measure => simp [intOf]; omega
        · obtain rfl : k = s.size := by omega
          obtain rfl : true = b := by
            rw [← HB.out]
            rw [List.take_of_length_le (by rw [ba_l]; omega)] at hn
            exact hn.symm
          clear hn
          go_wp2_with fail
          go_ret
          exact ⟨rfl, rfl⟩
theorem full9q (s : ByteArray) (w : World) (hm : s.size ≤ 1000000) (b : Bool) (h : fullL s.data.toList = b) :
    Calls Tryz.prog 78 #[.string s] w fun e w' => e = .returned (.bool b) ∧ Below w.heap.size w w' := by
  unfold fullL at h
  have HMs := Lib.hid hm
  cases hc : cutC s.data.toList with
  | none =>
    rw [hc] at h
    have HC : Hid (Calls Tryz.prog 39 #[.string s, .string ⟨#[58]⟩] w (XCutAt s ⟨#[]⟩ false w)) := Lib.hid (xcut_58_none s w fun hx => by
      have := cutC_some9 hx
      rw [hc] at this
      cases this)
    have Hs : Hid (nameL s.data.toList = b) := Lib.hid h
    clear hc h hm
    cases b with
    | false =>
      go_enter Tryz.func78, Tryz.ntmps78
      go_wp2_with (first
        | (go_at_call 39; (with_reducible refine (HC.out).mono ?_); rintro e1 w1 ⟨rfl, hb1⟩)
        | (go_at_call 55; (with_reducible refine (name9q s w1 HMs.out false Hs.out).mono ?_); rintro e2 w2 ⟨rfl, rfl⟩)
        | fail)
      go_ret
      exact ⟨rfl, hb1⟩
    | true =>
      go_enter Tryz.func78, Tryz.ntmps78
      go_wp2_with (first
        | (go_at_call 39; (with_reducible refine (HC.out).mono ?_); rintro e1 w1 ⟨rfl, hb1⟩)
        | (go_at_call 55; (with_reducible refine (name9q s w1 HMs.out true Hs.out).mono ?_); rintro e2 w2 ⟨rfl, rfl⟩)
        | fail)
      go_ret
      exact ⟨rfl, hb1⟩
  | some p =>
    obtain ⟨pa, pb⟩ := p
    rw [hc] at h
    dsimp only at h
    obtain ⟨e1, e2⟩ := cutC_some hc
    obtain ⟨x, hx⟩ : ∃ x : ByteArray, x.data.toList = pa := ⟨⟨pa.toArray⟩, by simp⟩
    obtain ⟨y, hy⟩ : ∃ y : ByteArray, y.data.toList = pb := ⟨⟨pb.toArray⟩, by simp⟩
    subst hx hy
    have hl := congrArg List.length e1
    rw [List.length_append, List.length_cons, ba_l, ba_l, ba_l] at hl
    have HMx : Hid (x.size ≤ 1000000) := Lib.hid (by omega)
    have HMy : Hid (y.size ≤ 1000000) := Lib.hid (by omega)
    have HC : Hid (Calls Tryz.prog 39 #[.string s, .string ⟨#[58]⟩] w (XCutAt x y true w)) := Lib.hid (xcut_58_some s x y w hm e1 e2)
    cases h1 : nameL x.data.toList with
    | false =>
      have Hx := Lib.hid h1
      obtain rfl : false = b := by rw [← h, h1]; simp
      clear hc h hm e1 e2 hl h1
      go_enter Tryz.func78, Tryz.ntmps78
      go_wp2_with (first
        | (go_at_call 39; (with_reducible refine (HC.out).mono ?_); rintro e1 w1 ⟨rfl, hb1⟩)
        | (go_at_call 55; (with_reducible refine (name9q x w1 HMx.out false Hx.out).mono ?_); rintro e2 w2 ⟨rfl, rfl⟩)
        | fail)
      go_ret
      exact ⟨rfl, hb1⟩
    | true =>
      have Hx := Lib.hid h1
      have Hy : Hid (nameL y.data.toList = b) := Lib.hid (by rw [← h, h1]; simp)
      clear hc h hm e1 e2 hl h1
      cases b with
      | false =>
        have tok1 : True := trivial
        go_enter Tryz.func78, Tryz.ntmps78
        go_wp2_with (first
          | (go_at_call 39; (with_reducible refine (HC.out).mono ?_); rintro e1 w1 ⟨rfl, hb1⟩)
          | (have _t := tok1; go_at_call 55; (with_reducible refine (name9q x w1 HMx.out true Hx.out).mono ?_); rintro e2 w2 ⟨rfl, rfl⟩; clear tok1)
          | (go_at_call 55; (with_reducible refine (name9q y w1 HMy.out false Hy.out).mono ?_); rintro e3 w3 ⟨rfl, rfl⟩)
          | fail)
        go_ret
        exact ⟨rfl, hb1⟩
      | true =>
        have tok1 : True := trivial
        go_enter Tryz.func78, Tryz.ntmps78
        go_wp2_with (first
          | (go_at_call 39; (with_reducible refine (HC.out).mono ?_); rintro e1 w1 ⟨rfl, hb1⟩)
          | (have _t := tok1; go_at_call 55; (with_reducible refine (name9q x w1 HMx.out true Hx.out).mono ?_); rintro e2 w2 ⟨rfl, rfl⟩; clear tok1)
          | (go_at_call 55; (with_reducible refine (name9q y w1 HMy.out true Hy.out).mono ?_); rintro e3 w3 ⟨rfl, rfl⟩)
          | fail)
        go_ret
        exact ⟨rfl, hb1⟩
end Hx
end Go.Proofs.YteobcohjikjalaaGreatDoor
