/-
  Texts of one seat, put together: LeaB, HedD, HedB, HedE.
-/
import Derived.Test.YtfdhogaknlabkaaG07
import Derived.Test.YtfdhogaknlabkaaG12
import Derived.Test.YtfdhogaknlabkaaShelf
import Derived.Lib.IndexLaws
import Derived.RegionTactic
import Derived.Test.YtfdhogaknlabkaaG04
set_option linter.unusedSimpArgs false
set_option linter.unusedVariables false
namespace Go.Proofs.Ytfdhogaknlabkaa
open Go.RowKit
namespace Hx
open Lx
set_option linter.unusedVariables false
theorem cut_uniq {c : UInt8} : ∀ {a a' b b' : List UInt8}, a ++ c :: b = a' ++ c :: b' → c ∉ a → c ∉ a' → a = a' ∧ b = b' := by
  intro a
  induction a with
  | nil =>
    intro a' b b' h _ h2
    cases a' with
    | nil => injection h with _ h; exact ⟨rfl, h⟩
    | cons d a' => injection h with h _; exact absurd (by rw [h]; simp) h2
  | cons d a ih =>
    intro a' b b' h h1 h2
    cases a' with
    | nil => injection h with h _; exact absurd (by rw [← h]; simp) h1
    | cons d' a' =>
      injection h with e h
      rw [List.mem_cons, not_or] at h1 h2
      obtain ⟨q1, q2⟩ := ih h h1.2 h2.2
      exact ⟨by rw [e, q1], q2⟩
theorem xix_cases (l : List UInt8) (c : UInt8) : (Lib.indexByte l c = -1 ∧ c ∉ l) ∨ ∃ i : Nat, Lib.indexByte l c = (i : Int) ∧ i < l.length ∧ l = l.take i ++ c :: l.drop (i + 1) ∧ c ∉ l.take i := by
  have hge := Lib.indexByte_ge l c
  by_cases h : Lib.indexByte l c = -1
  · left
    refine ⟨h, fun hc => ?_⟩
    obtain ⟨k, hk⟩ := List.mem_iff_getElem?.1 hc
    exact Lib.indexByte_none h k hk
  · right
    obtain ⟨i, hi⟩ : ∃ i : Nat, Lib.indexByte l c = (i : Int) := ⟨(Lib.indexByte l c).toNat, by omega⟩
    obtain ⟨h1, h2⟩ := Lib.indexByte_some hi
    obtain ⟨hlt, hc⟩ := List.getElem?_eq_some_iff.1 h1
    refine ⟨i, hi, hlt, ?_, fun hm => ?_⟩
    · conv => lhs; rw [← List.take_append_drop i l]
      rw [List.drop_eq_getElem_cons hlt, hc]
    · obtain ⟨k, hk⟩ := List.mem_iff_getElem?.1 hm
      rw [List.getElem?_take] at hk
      split at hk
      · exact h2 k (by assumption) hk
      · cases hk
theorem cutC_some9 {l : List UInt8} (h : (58 : UInt8) ∈ l) : (cutC l).isSome = true := by
  induction l with
  | nil => cases h
  | cons c l ih =>
    show (if c = 58 then _ else _ : Option _).isSome = true
    split
    · rfl
    · rename_i hc
      rcases List.mem_cons.1 h with e | e
      · exact absurd e.symm hc
      · show (Option.map _ (cutC l)).isSome = true
        rw [Option.isSome_map]
        exact ih e
/-- What Cut answers. -/
def XCutAt (p r : ByteArray) (b : Bool) (w : World) (e : Ending) (w' : World) : Prop := e = .returned (.tuple #[.string p, .string r, .bool b]) ∧ Below w.heap.size w w'
theorem xib_58 (s : ByteArray) (q : Int) (w : World) (h : Lib.indexByte s.data.toList 58 = q) :
    Calls Try.prog 86 #[.string s, .int .u8 ↑((⟨#[58]⟩ : ByteArray)[0]'(by decide)).toNat] w fun e w' => e = .returned (.int .i64 q) ∧ w = w' := by
  refine (Try.stringslite_IndexByte s _ w).mono fun e w' ⟨h1, h2⟩ => ⟨?_, h2.symm⟩
  rw [h1, ← h]
  rfl
set_option maxRecDepth 100000 in
theorem xindex_58 (s : ByteArray) (q : Int) (w : World) (h : Lib.indexByte s.data.toList 58 = q) :
    Calls Try.prog 84 #[.string s, .string ⟨#[58]⟩] w fun e w' => e = .returned (.int .i64 q) ∧ w = w' := by
  have H := Lib.hid h
  cases hq : ([58] == s.toList) with
  | true =>
    obtain rfl : (0 : Int) = q := by
      have e : s.data.toList = [58] := by
        rw [beq_iff_eq, ByteArray.toList_eq] at hq
        exact hq.symm
      rw [← h, e]
      rfl
    clear h
    go_enter Try.func84, Try.ntmps84
    go_wp2_with fail
    go_ret
    exact ⟨rfl, rfl⟩
  | false =>
    clear h
    go_enter Try.func84, Try.ntmps84
    go_wp2_with (first
      | (go_at_call 86; (with_reducible refine (xib_58 s q w H.out).mono ?_); rintro e w1 ⟨rfl, rfl⟩)
      | fail)
    go_ret
    exact ⟨rfl, rfl⟩
set_option maxRecDepth 100000 in
theorem xslcut_no_58 (s : ByteArray) (w : World) (h : Lib.indexByte s.data.toList 58 = -1) :
    Calls Try.prog 76 #[.string s, .string ⟨#[58]⟩] w (XCutAt s ⟨#[]⟩ false w) := by
  have H := Lib.hid h
  clear h
  go_enter Try.func76, Try.ntmps76
  go_wp2_with (first
    | (go_at_call 84; (with_reducible refine (xindex_58 s (-1) w H.out).mono ?_); rintro e w1 ⟨rfl, rfl⟩)
    | fail)
  go_ret3
  exact ⟨rfl, Below.refl _ _⟩
set_option maxRecDepth 100000 in
theorem xslcut_yes_58 (s p r : ByteArray) (i j n : Nat) (w : World) (hm : s.size ≤ 1000000) (h : Lib.indexByte s.data.toList 58 = (i : Int)) (hi : i < s.size) (hj : i + 1 = j) (hn : s.size = n) (hp : s.extract 0 i = p) (hr : s.extract j n = r) :
    Calls Try.prog 76 #[.string s, .string ⟨#[58]⟩] w (XCutAt p r true w) := by
  have H := Lib.hid h
  have b1 : (0 : Int) ≤ (i : Int) ∧ (i : Int) ≤ (s.size : Int) := by omega
  have b2 : (0 : Int) ≤ (j : Int) ∧ (j : Int) ≤ (s.size : Int) := by omega
  have s1 : IntKind.i64.wrap ((i : Int) + 1) = (j : Int) := by rw [IntWalk.i64_in _ (by omega)]; omega
  have d1 : decide ((0 : Int) ≤ (i : Int)) = true := by simp
  rw [← hn] at hr
  clear h hm hi hj hn
  go_enter Try.func76, Try.ntmps76
  go_wp2_with (first
    | (go_at_call 84; (with_reducible refine (xindex_58 s (i : Int) w H.out).mono ?_); rintro e w1 ⟨rfl, rfl⟩)
    | fail)
  go_region
  go_wp2_with fail
  go_ret3
  exact ⟨rfl, (show Below w.heap.size w w.drew from ⟨rfl, rfl, rfl, Nat.le_refl _, fun _ _ => rfl⟩)⟩
set_option maxRecDepth 100000 in
theorem xcut_no_58 (s : ByteArray) (w : World) (h : Lib.indexByte s.data.toList 58 = -1) :
    Calls Try.prog 55 #[.string s, .string ⟨#[58]⟩] w (XCutAt s ⟨#[]⟩ false w) := by
  have H := Lib.hid h
  clear h
  go_enter Try.func55, Try.ntmps55
  go_wp2_with (first
    | (go_at_call 76; (with_reducible refine (xslcut_no_58 s w H.out).mono ?_); rintro e w1 ⟨rfl, hb1⟩)
    | fail)
  go_ret3
  exact ⟨rfl, hb1⟩
set_option maxRecDepth 100000 in
theorem xcut_yes_58 (s p r : ByteArray) (i j n : Nat) (w : World) (hm : s.size ≤ 1000000) (h : Lib.indexByte s.data.toList 58 = (i : Int)) (hi : i < s.size) (hj : i + 1 = j) (hn : s.size = n) (hp : s.extract 0 i = p) (hr : s.extract j n = r) :
    Calls Try.prog 55 #[.string s, .string ⟨#[58]⟩] w (XCutAt p r true w) := by
  have H : Hid (Calls Try.prog 76 #[.string s, .string ⟨#[58]⟩] w (XCutAt p r true w)) := xslcut_yes_58 s p r i j n w hm h hi hj hn hp hr
  clear hm h hi hj hn hp hr
  go_enter Try.func55, Try.ntmps55
  go_wp2_with (first
    | (go_at_call 76; (with_reducible refine (H.out).mono ?_); rintro e w1 ⟨rfl, hb1⟩)
    | fail)
  go_ret3
  exact ⟨rfl, hb1⟩
/-- .. over lists. -/
theorem xcut_58_none (s : ByteArray) (w : World) (h : (58 : UInt8) ∉ s.data.toList) :
    Calls Try.prog 55 #[.string s, .string ⟨#[58]⟩] w (XCutAt s ⟨#[]⟩ false w) := by
  rcases xix_cases s.data.toList 58 with ⟨h1, _⟩ | ⟨i, _, hi, e, _⟩
  · exact xcut_no_58 s w h1
  · exfalso; apply h; rw [e]; simp
theorem xcut_58_some (s p r : ByteArray) (w : World) (hm : s.size ≤ 1000000) (h : s.data.toList = p.data.toList ++ 58 :: r.data.toList) (hp : (58 : UInt8) ∉ p.data.toList) :
    Calls Try.prog 55 #[.string s, .string ⟨#[58]⟩] w (XCutAt p r true w) := by
  rcases xix_cases s.data.toList 58 with ⟨_, h1⟩ | ⟨i, h1, hi, e, hn⟩
  · exfalso; apply h1; rw [h]; simp
  · have hsz := ba_l s
    obtain ⟨e1, e2⟩ := cut_uniq (e.symm.trans h) hn hp
    refine xcut_yes_58 s p r i (i + 1) s.size w hm h1 (by rw [← hsz]; exact hi) rfl rfl ?_ ?_
    · apply ba_x
      rw [extract_l s 0 i (by rw [← hsz]; omega), List.drop_zero, Nat.sub_zero, e1]
    · apply ba_x
      rw [extract_l s (i + 1) s.size (Nat.le_refl _), List.take_of_length_le (by rw [List.length_drop, hsz]; omega), e2]
theorem xib_60 (s : ByteArray) (q : Int) (w : World) (h : Lib.indexByte s.data.toList 60 = q) :
    Calls Try.prog 86 #[.string s, .int .u8 ↑((⟨#[60]⟩ : ByteArray)[0]'(by decide)).toNat] w fun e w' => e = .returned (.int .i64 q) ∧ w = w' := by
  refine (Try.stringslite_IndexByte s _ w).mono fun e w' ⟨h1, h2⟩ => ⟨?_, h2.symm⟩
  rw [h1, ← h]
  rfl
set_option maxRecDepth 100000 in
theorem xindex_60 (s : ByteArray) (q : Int) (w : World) (h : Lib.indexByte s.data.toList 60 = q) :
    Calls Try.prog 84 #[.string s, .string ⟨#[60]⟩] w fun e w' => e = .returned (.int .i64 q) ∧ w = w' := by
  have H := Lib.hid h
  cases hq : ([60] == s.toList) with
  | true =>
    obtain rfl : (0 : Int) = q := by
      have e : s.data.toList = [60] := by
        rw [beq_iff_eq, ByteArray.toList_eq] at hq
        exact hq.symm
      rw [← h, e]
      rfl
    clear h
    go_enter Try.func84, Try.ntmps84
    go_wp2_with fail
    go_ret
    exact ⟨rfl, rfl⟩
  | false =>
    clear h
    go_enter Try.func84, Try.ntmps84
    go_wp2_with (first
      | (go_at_call 86; (with_reducible refine (xib_60 s q w H.out).mono ?_); rintro e w1 ⟨rfl, rfl⟩)
      | fail)
    go_ret
    exact ⟨rfl, rfl⟩
set_option maxRecDepth 100000 in
theorem xslcut_no_60 (s : ByteArray) (w : World) (h : Lib.indexByte s.data.toList 60 = -1) :
    Calls Try.prog 76 #[.string s, .string ⟨#[60]⟩] w (XCutAt s ⟨#[]⟩ false w) := by
  have H := Lib.hid h
  clear h
  go_enter Try.func76, Try.ntmps76
  go_wp2_with (first
    | (go_at_call 84; (with_reducible refine (xindex_60 s (-1) w H.out).mono ?_); rintro e w1 ⟨rfl, rfl⟩)
    | fail)
  go_ret3
  exact ⟨rfl, Below.refl _ _⟩
set_option maxRecDepth 100000 in
theorem xslcut_yes_60 (s p r : ByteArray) (i j n : Nat) (w : World) (hm : s.size ≤ 1000000) (h : Lib.indexByte s.data.toList 60 = (i : Int)) (hi : i < s.size) (hj : i + 1 = j) (hn : s.size = n) (hp : s.extract 0 i = p) (hr : s.extract j n = r) :
    Calls Try.prog 76 #[.string s, .string ⟨#[60]⟩] w (XCutAt p r true w) := by
  have H := Lib.hid h
  have b1 : (0 : Int) ≤ (i : Int) ∧ (i : Int) ≤ (s.size : Int) := by omega
  have b2 : (0 : Int) ≤ (j : Int) ∧ (j : Int) ≤ (s.size : Int) := by omega
  have s1 : IntKind.i64.wrap ((i : Int) + 1) = (j : Int) := by rw [IntWalk.i64_in _ (by omega)]; omega
  have d1 : decide ((0 : Int) ≤ (i : Int)) = true := by simp
  rw [← hn] at hr
  clear h hm hi hj hn
  go_enter Try.func76, Try.ntmps76
  go_wp2_with (first
    | (go_at_call 84; (with_reducible refine (xindex_60 s (i : Int) w H.out).mono ?_); rintro e w1 ⟨rfl, rfl⟩)
    | fail)
  go_region
  go_wp2_with fail
  go_ret3
  exact ⟨rfl, (show Below w.heap.size w w.drew from ⟨rfl, rfl, rfl, Nat.le_refl _, fun _ _ => rfl⟩)⟩
set_option maxRecDepth 100000 in
theorem xcut_no_60 (s : ByteArray) (w : World) (h : Lib.indexByte s.data.toList 60 = -1) :
    Calls Try.prog 55 #[.string s, .string ⟨#[60]⟩] w (XCutAt s ⟨#[]⟩ false w) := by
  have H := Lib.hid h
  clear h
  go_enter Try.func55, Try.ntmps55
  go_wp2_with (first
    | (go_at_call 76; (with_reducible refine (xslcut_no_60 s w H.out).mono ?_); rintro e w1 ⟨rfl, hb1⟩)
    | fail)
  go_ret3
  exact ⟨rfl, hb1⟩
set_option maxRecDepth 100000 in
theorem xcut_yes_60 (s p r : ByteArray) (i j n : Nat) (w : World) (hm : s.size ≤ 1000000) (h : Lib.indexByte s.data.toList 60 = (i : Int)) (hi : i < s.size) (hj : i + 1 = j) (hn : s.size = n) (hp : s.extract 0 i = p) (hr : s.extract j n = r) :
    Calls Try.prog 55 #[.string s, .string ⟨#[60]⟩] w (XCutAt p r true w) := by
  have H : Hid (Calls Try.prog 76 #[.string s, .string ⟨#[60]⟩] w (XCutAt p r true w)) := xslcut_yes_60 s p r i j n w hm h hi hj hn hp hr
  clear hm h hi hj hn hp hr
  go_enter Try.func55, Try.ntmps55
  go_wp2_with (first
    | (go_at_call 76; (with_reducible refine (H.out).mono ?_); rintro e w1 ⟨rfl, hb1⟩)
    | fail)
  go_ret3
  exact ⟨rfl, hb1⟩
/-- .. over lists. -/
theorem xcut_60_none (s : ByteArray) (w : World) (h : (60 : UInt8) ∉ s.data.toList) :
    Calls Try.prog 55 #[.string s, .string ⟨#[60]⟩] w (XCutAt s ⟨#[]⟩ false w) := by
  rcases xix_cases s.data.toList 60 with ⟨h1, _⟩ | ⟨i, _, hi, e, _⟩
  · exact xcut_no_60 s w h1
  · exfalso; apply h; rw [e]; simp
theorem xcut_60_some (s p r : ByteArray) (w : World) (hm : s.size ≤ 1000000) (h : s.data.toList = p.data.toList ++ 60 :: r.data.toList) (hp : (60 : UInt8) ∉ p.data.toList) :
    Calls Try.prog 55 #[.string s, .string ⟨#[60]⟩] w (XCutAt p r true w) := by
  rcases xix_cases s.data.toList 60 with ⟨_, h1⟩ | ⟨i, h1, hi, e, hn⟩
  · exfalso; apply h1; rw [h]; simp
  · have hsz := ba_l s
    obtain ⟨e1, e2⟩ := cut_uniq (e.symm.trans h) hn hp
    refine xcut_yes_60 s p r i (i + 1) s.size w hm h1 (by rw [← hsz]; exact hi) rfl rfl ?_ ?_
    · apply ba_x
      rw [extract_l s 0 i (by rw [← hsz]; omega), List.drop_zero, Nat.sub_zero, e1]
    · apply ba_x
      rw [extract_l s (i + 1) s.size (Nat.le_refl _), List.take_of_length_le (by rw [List.length_drop, hsz]; omega), e2]
theorem xib_34 (s : ByteArray) (q : Int) (w : World) (h : Lib.indexByte s.data.toList 34 = q) :
    Calls Try.prog 86 #[.string s, .int .u8 ↑((⟨#[34]⟩ : ByteArray)[0]'(by decide)).toNat] w fun e w' => e = .returned (.int .i64 q) ∧ w = w' := by
  refine (Try.stringslite_IndexByte s _ w).mono fun e w' ⟨h1, h2⟩ => ⟨?_, h2.symm⟩
  rw [h1, ← h]
  rfl
set_option maxRecDepth 100000 in
theorem xindex_34 (s : ByteArray) (q : Int) (w : World) (h : Lib.indexByte s.data.toList 34 = q) :
    Calls Try.prog 84 #[.string s, .string ⟨#[34]⟩] w fun e w' => e = .returned (.int .i64 q) ∧ w = w' := by
  have H := Lib.hid h
  cases hq : ([34] == s.toList) with
  | true =>
    obtain rfl : (0 : Int) = q := by
      have e : s.data.toList = [34] := by
        rw [beq_iff_eq, ByteArray.toList_eq] at hq
        exact hq.symm
      rw [← h, e]
      rfl
    clear h
    go_enter Try.func84, Try.ntmps84
    go_wp2_with fail
    go_ret
    exact ⟨rfl, rfl⟩
  | false =>
    clear h
    go_enter Try.func84, Try.ntmps84
    go_wp2_with (first
      | (go_at_call 86; (with_reducible refine (xib_34 s q w H.out).mono ?_); rintro e w1 ⟨rfl, rfl⟩)
      | fail)
    go_ret
    exact ⟨rfl, rfl⟩
set_option maxRecDepth 100000 in
theorem xslcut_no_34 (s : ByteArray) (w : World) (h : Lib.indexByte s.data.toList 34 = -1) :
    Calls Try.prog 76 #[.string s, .string ⟨#[34]⟩] w (XCutAt s ⟨#[]⟩ false w) := by
  have H := Lib.hid h
  clear h
  go_enter Try.func76, Try.ntmps76
  go_wp2_with (first
    | (go_at_call 84; (with_reducible refine (xindex_34 s (-1) w H.out).mono ?_); rintro e w1 ⟨rfl, rfl⟩)
    | fail)
  go_ret3
  exact ⟨rfl, Below.refl _ _⟩
set_option maxRecDepth 100000 in
theorem xslcut_yes_34 (s p r : ByteArray) (i j n : Nat) (w : World) (hm : s.size ≤ 1000000) (h : Lib.indexByte s.data.toList 34 = (i : Int)) (hi : i < s.size) (hj : i + 1 = j) (hn : s.size = n) (hp : s.extract 0 i = p) (hr : s.extract j n = r) :
    Calls Try.prog 76 #[.string s, .string ⟨#[34]⟩] w (XCutAt p r true w) := by
  have H := Lib.hid h
  have b1 : (0 : Int) ≤ (i : Int) ∧ (i : Int) ≤ (s.size : Int) := by omega
  have b2 : (0 : Int) ≤ (j : Int) ∧ (j : Int) ≤ (s.size : Int) := by omega
  have s1 : IntKind.i64.wrap ((i : Int) + 1) = (j : Int) := by rw [IntWalk.i64_in _ (by omega)]; omega
  have d1 : decide ((0 : Int) ≤ (i : Int)) = true := by simp
  rw [← hn] at hr
  clear h hm hi hj hn
  go_enter Try.func76, Try.ntmps76
  go_wp2_with (first
    | (go_at_call 84; (with_reducible refine (xindex_34 s (i : Int) w H.out).mono ?_); rintro e w1 ⟨rfl, rfl⟩)
    | fail)
  go_region
  go_wp2_with fail
  go_ret3
  exact ⟨rfl, (show Below w.heap.size w w.drew from ⟨rfl, rfl, rfl, Nat.le_refl _, fun _ _ => rfl⟩)⟩
set_option maxRecDepth 100000 in
theorem xcut_no_34 (s : ByteArray) (w : World) (h : Lib.indexByte s.data.toList 34 = -1) :
    Calls Try.prog 55 #[.string s, .string ⟨#[34]⟩] w (XCutAt s ⟨#[]⟩ false w) := by
  have H := Lib.hid h
  clear h
  go_enter Try.func55, Try.ntmps55
  go_wp2_with (first
    | (go_at_call 76; (with_reducible refine (xslcut_no_34 s w H.out).mono ?_); rintro e w1 ⟨rfl, hb1⟩)
    | fail)
  go_ret3
  exact ⟨rfl, hb1⟩
set_option maxRecDepth 100000 in
theorem xcut_yes_34 (s p r : ByteArray) (i j n : Nat) (w : World) (hm : s.size ≤ 1000000) (h : Lib.indexByte s.data.toList 34 = (i : Int)) (hi : i < s.size) (hj : i + 1 = j) (hn : s.size = n) (hp : s.extract 0 i = p) (hr : s.extract j n = r) :
    Calls Try.prog 55 #[.string s, .string ⟨#[34]⟩] w (XCutAt p r true w) := by
  have H : Hid (Calls Try.prog 76 #[.string s, .string ⟨#[34]⟩] w (XCutAt p r true w)) := xslcut_yes_34 s p r i j n w hm h hi hj hn hp hr
  clear hm h hi hj hn hp hr
  go_enter Try.func55, Try.ntmps55
  go_wp2_with (first
    | (go_at_call 76; (with_reducible refine (H.out).mono ?_); rintro e w1 ⟨rfl, hb1⟩)
    | fail)
  go_ret3
  exact ⟨rfl, hb1⟩
/-- .. over lists. -/
theorem xcut_34_none (s : ByteArray) (w : World) (h : (34 : UInt8) ∉ s.data.toList) :
    Calls Try.prog 55 #[.string s, .string ⟨#[34]⟩] w (XCutAt s ⟨#[]⟩ false w) := by
  rcases xix_cases s.data.toList 34 with ⟨h1, _⟩ | ⟨i, _, hi, e, _⟩
  · exact xcut_no_34 s w h1
  · exfalso; apply h; rw [e]; simp
theorem xcut_34_some (s p r : ByteArray) (w : World) (hm : s.size ≤ 1000000) (h : s.data.toList = p.data.toList ++ 34 :: r.data.toList) (hp : (34 : UInt8) ∉ p.data.toList) :
    Calls Try.prog 55 #[.string s, .string ⟨#[34]⟩] w (XCutAt p r true w) := by
  rcases xix_cases s.data.toList 34 with ⟨_, h1⟩ | ⟨i, h1, hi, e, hn⟩
  · exfalso; apply h1; rw [h]; simp
  · have hsz := ba_l s
    obtain ⟨e1, e2⟩ := cut_uniq (e.symm.trans h) hn hp
    refine xcut_yes_34 s p r i (i + 1) s.size w hm h1 (by rw [← hsz]; exact hi) rfl rfl ?_ ?_
    · apply ba_x
      rw [extract_l s 0 i (by rw [← hsz]; omega), List.drop_zero, Nat.sub_zero, e1]
    · apply ba_x
      rw [extract_l s (i + 1) s.size (Nat.le_refl _), List.take_of_length_le (by rw [List.length_drop, hsz]; omega), e2]
theorem xib_39 (s : ByteArray) (q : Int) (w : World) (h : Lib.indexByte s.data.toList 39 = q) :
    Calls Try.prog 86 #[.string s, .int .u8 ↑((⟨#[39]⟩ : ByteArray)[0]'(by decide)).toNat] w fun e w' => e = .returned (.int .i64 q) ∧ w = w' := by
  refine (Try.stringslite_IndexByte s _ w).mono fun e w' ⟨h1, h2⟩ => ⟨?_, h2.symm⟩
  rw [h1, ← h]
  rfl
set_option maxRecDepth 100000 in
theorem xindex_39 (s : ByteArray) (q : Int) (w : World) (h : Lib.indexByte s.data.toList 39 = q) :
    Calls Try.prog 84 #[.string s, .string ⟨#[39]⟩] w fun e w' => e = .returned (.int .i64 q) ∧ w = w' := by
  have H := Lib.hid h
  cases hq : ([39] == s.toList) with
  | true =>
    obtain rfl : (0 : Int) = q := by
      have e : s.data.toList = [39] := by
        rw [beq_iff_eq, ByteArray.toList_eq] at hq
        exact hq.symm
      rw [← h, e]
      rfl
    clear h
    go_enter Try.func84, Try.ntmps84
    go_wp2_with fail
    go_ret
    exact ⟨rfl, rfl⟩
  | false =>
    clear h
    go_enter Try.func84, Try.ntmps84
    go_wp2_with (first
      | (go_at_call 86; (with_reducible refine (xib_39 s q w H.out).mono ?_); rintro e w1 ⟨rfl, rfl⟩)
      | fail)
    go_ret
    exact ⟨rfl, rfl⟩
set_option maxRecDepth 100000 in
theorem xslcut_no_39 (s : ByteArray) (w : World) (h : Lib.indexByte s.data.toList 39 = -1) :
    Calls Try.prog 76 #[.string s, .string ⟨#[39]⟩] w (XCutAt s ⟨#[]⟩ false w) := by
  have H := Lib.hid h
  clear h
  go_enter Try.func76, Try.ntmps76
  go_wp2_with (first
    | (go_at_call 84; (with_reducible refine (xindex_39 s (-1) w H.out).mono ?_); rintro e w1 ⟨rfl, rfl⟩)
    | fail)
  go_ret3
  exact ⟨rfl, Below.refl _ _⟩
set_option maxRecDepth 100000 in
theorem xslcut_yes_39 (s p r : ByteArray) (i j n : Nat) (w : World) (hm : s.size ≤ 1000000) (h : Lib.indexByte s.data.toList 39 = (i : Int)) (hi : i < s.size) (hj : i + 1 = j) (hn : s.size = n) (hp : s.extract 0 i = p) (hr : s.extract j n = r) :
    Calls Try.prog 76 #[.string s, .string ⟨#[39]⟩] w (XCutAt p r true w) := by
  have H := Lib.hid h
  have b1 : (0 : Int) ≤ (i : Int) ∧ (i : Int) ≤ (s.size : Int) := by omega
  have b2 : (0 : Int) ≤ (j : Int) ∧ (j : Int) ≤ (s.size : Int) := by omega
  have s1 : IntKind.i64.wrap ((i : Int) + 1) = (j : Int) := by rw [IntWalk.i64_in _ (by omega)]; omega
  have d1 : decide ((0 : Int) ≤ (i : Int)) = true := by simp
  rw [← hn] at hr
  clear h hm hi hj hn
  go_enter Try.func76, Try.ntmps76
  go_wp2_with (first
    | (go_at_call 84; (with_reducible refine (xindex_39 s (i : Int) w H.out).mono ?_); rintro e w1 ⟨rfl, rfl⟩)
    | fail)
  go_region
  go_wp2_with fail
  go_ret3
  exact ⟨rfl, (show Below w.heap.size w w.drew from ⟨rfl, rfl, rfl, Nat.le_refl _, fun _ _ => rfl⟩)⟩
set_option maxRecDepth 100000 in
theorem xcut_no_39 (s : ByteArray) (w : World) (h : Lib.indexByte s.data.toList 39 = -1) :
    Calls Try.prog 55 #[.string s, .string ⟨#[39]⟩] w (XCutAt s ⟨#[]⟩ false w) := by
  have H := Lib.hid h
  clear h
  go_enter Try.func55, Try.ntmps55
  go_wp2_with (first
    | (go_at_call 76; (with_reducible refine (xslcut_no_39 s w H.out).mono ?_); rintro e w1 ⟨rfl, hb1⟩)
    | fail)
  go_ret3
  exact ⟨rfl, hb1⟩
set_option maxRecDepth 100000 in
theorem xcut_yes_39 (s p r : ByteArray) (i j n : Nat) (w : World) (hm : s.size ≤ 1000000) (h : Lib.indexByte s.data.toList 39 = (i : Int)) (hi : i < s.size) (hj : i + 1 = j) (hn : s.size = n) (hp : s.extract 0 i = p) (hr : s.extract j n = r) :
    Calls Try.prog 55 #[.string s, .string ⟨#[39]⟩] w (XCutAt p r true w) := by
  have H : Hid (Calls Try.prog 76 #[.string s, .string ⟨#[39]⟩] w (XCutAt p r true w)) := xslcut_yes_39 s p r i j n w hm h hi hj hn hp hr
  clear hm h hi hj hn hp hr
  go_enter Try.func55, Try.ntmps55
  go_wp2_with (first
    | (go_at_call 76; (with_reducible refine (H.out).mono ?_); rintro e w1 ⟨rfl, hb1⟩)
    | fail)
  go_ret3
  exact ⟨rfl, hb1⟩
/-- .. over lists. -/
theorem xcut_39_none (s : ByteArray) (w : World) (h : (39 : UInt8) ∉ s.data.toList) :
    Calls Try.prog 55 #[.string s, .string ⟨#[39]⟩] w (XCutAt s ⟨#[]⟩ false w) := by
  rcases xix_cases s.data.toList 39 with ⟨h1, _⟩ | ⟨i, _, hi, e, _⟩
  · exact xcut_no_39 s w h1
  · exfalso; apply h; rw [e]; simp
theorem xcut_39_some (s p r : ByteArray) (w : World) (hm : s.size ≤ 1000000) (h : s.data.toList = p.data.toList ++ 39 :: r.data.toList) (hp : (39 : UInt8) ∉ p.data.toList) :
    Calls Try.prog 55 #[.string s, .string ⟨#[39]⟩] w (XCutAt p r true w) := by
  rcases xix_cases s.data.toList 39 with ⟨_, h1⟩ | ⟨i, h1, hi, e, hn⟩
  · exfalso; apply h1; rw [h]; simp
  · have hsz := ba_l s
    obtain ⟨e1, e2⟩ := cut_uniq (e.symm.trans h) hn hp
    refine xcut_yes_39 s p r i (i + 1) s.size w hm h1 (by rw [← hsz]; exact hi) rfl rfl ?_ ?_
    · apply ba_x
      rw [extract_l s 0 i (by rw [← hsz]; omega), List.drop_zero, Nat.sub_zero, e1]
    · apply ba_x
      rw [extract_l s (i + 1) s.size (Nat.le_refl _), List.take_of_length_le (by rw [List.length_drop, hsz]; omega), e2]
theorem nch_not9 {c : UInt8} (h : ltr c = false) : nch c = (decide (48 ≤ c.toNat) && decide (c.toNat ≤ 57) || c == 46 || c == 45) := by unfold nch; rw [h]; simp
theorem nameL_first {l : List UInt8} (h : 0 < l.length) : nameL l = (ltr (l[0]'h) && l.all nch) := by
  cases l with
  | nil => simp at h
  | cons c r =>
    show (ltr c && r.all nch) = (ltr c && (nch c && r.all nch))
    cases hc : ltr c
    · rfl
    · rw [nch_of_ltr hc]; rfl
end Hx
end Go.Proofs.Ytfdhogaknlabkaa
namespace Go.Proofs.Ytfdhogaknlabkaa
open Go.RowKit
namespace Hx
open Lx Hd
set_option linter.unusedVariables false
/-- The library's table holds some number (how long a text its search takes at once). -/
def Mx (w : World) : Prop := ∃ m : Int, w.cell? ⟨0, 0, none⟩ = some (.int .i64 m)
theorem Mx.below {w w' : World} (h : Mx w) (hb : Below w.heap.size w w') : Mx w' := by
  obtain ⟨m, hm⟩ := h
  refine ⟨m, ?_⟩
  have hlt : 0 < w.heap.size := World.block_lt_of_cell? (a := ⟨0, 0, none⟩) w hm
  exact (hb.cell (p := ⟨0, 0, none⟩) hlt).trans hm
theorem cut_line_some (s x y : ByteArray) (w : World) (hx : Mx w) (hm : s.size ≤ 1000000) (h : lineL s.data.toList = some (x.data.toList, y.data.toList)) :
    Calls Try.prog 55 #[.string s, .string ⟨#[13, 10]⟩] w fun e w' => e = .returned (.tuple #[.string x, .string y, .bool true]) ∧ Below w.heap.size w w' := by
  obtain ⟨m, hmx⟩ := hx
  refine (Try.strings_Cut s ⟨#[13, 10]⟩ m w (by omega) hmx).mono fun e w' ⟨h1, h2⟩ => ⟨?_, drewn14 h2⟩
  rw [h1, show (⟨#[13, 10]⟩ : ByteArray).data.toList = [13, 10] from rfl, cut_some h]
theorem cut_line_none (s : ByteArray) (w : World) (hx : Mx w) (hm : s.size ≤ 1000000) (h : lineL s.data.toList = none) :
    Calls Try.prog 55 #[.string s, .string ⟨#[13, 10]⟩] w fun e w' => e = .returned (.tuple #[.string s, .string ⟨#[]⟩, .bool false]) ∧ Below w.heap.size w w' := by
  obtain ⟨m, hmx⟩ := hx
  refine (Try.strings_Cut s ⟨#[13, 10]⟩ m w (by omega) hmx).mono fun e w' ⟨h1, h2⟩ => ⟨?_, drewn14 h2⟩
  rw [h1, show (⟨#[13, 10]⟩ : ByteArray).data.toList = [13, 10] from rfl, cut_none h]
theorem cut_colon_none (s : ByteArray) (w : World) (h : cutC s.data.toList = none) : Calls Try.prog 55 #[.string s, .string ⟨#[58]⟩] w fun e w' => e = .returned (.tuple #[.string s, .string ⟨#[]⟩, .bool false]) ∧ Below w.heap.size w w' :=
  xcut_58_none s w (fun hm => by have := cutC_some9 hm; rw [h] at this; cases this)
theorem cut_colon_some (s x y : ByteArray) (w : World) (hm : s.size ≤ 1000000) (h : cutC s.data.toList = some (x.data.toList, y.data.toList)) : Calls Try.prog 55 #[.string s, .string ⟨#[58]⟩] w fun e w' => e = .returned (.tuple #[.string x, .string y, .bool true]) ∧ Below w.heap.size w w' :=
  xcut_58_some s x y w hm (cutC_some h).1 (cutC_some h).2
set_option maxHeartbeats 8000000 in
set_option maxRecDepth 100000 in
theorem field14_0 (s : ByteArray) (w : World) (hm : s.size ≤ 1000000) (h : cutC s.data.toList = none) : Calls Try.prog 34 #[.string s] w (FieldTo s w) := by
  have HN : Hid (fieldL s.data.toList = none) := Lib.hid (by unfold fieldL; rw [h])
  have HC : Hid (∀ W, Calls Try.prog 55 #[.string s, .string ⟨#[58]⟩] W fun e w' => e = .returned (.tuple #[.string s, .string ⟨#[]⟩, .bool false]) ∧ Below W.heap.size W w') := Lib.hid fun W => cut_colon_none s W h
  clear hm h
  go_enter Try.func34, Try.ntmps34
  go_wp2_with (first
    | (go_at_call 55; (with_reducible refine (HC.out _).mono ?_); rintro e w1 ⟨rfl, hb1⟩; have HG1 := Lib.hid (kept_heap (heap_alloc_new w (.cells zPr 25)) hb1); have HB1 := Lib.hid (stp (stpA (Below.refl w.heap.size w) (.cells zPr 25)) hb1); clear hb1)
    | (refine wpList_store_row rfl _ _ _ rfl w.heap.size #[.string ⟨#[]⟩, .string ⟨#[]⟩] rfl rfl 25 zPr HG1.out sizePr rfl (onePr _ _) ?_)
    | fail)
  exact bodyPost_ret (v := .tuple #[.agg #[.string ⟨#[]⟩, .string ⟨#[]⟩], .bool false]) (rcell2 (p := 2) (q := 3) rfl _ _ _ _ #[.string ⟨#[]⟩, .string ⟨#[]⟩] _ _ rfl (setRow_heap _ _ _ #[.string ⟨#[]⟩, .string ⟨#[]⟩] _ _ HG1.out) Try.underlying25 rfl sizePr) rfl ⟨below_setRowV HB1.out (Nat.le_refl _) _, .inl ⟨HN.out, rfl⟩⟩
set_option maxHeartbeats 8000000 in
set_option maxRecDepth 100000 in
theorem field14_1 (s x y : ByteArray) (w : World) (hm : s.size ≤ 1000000) (h : cutC s.data.toList = some (x.data.toList, y.data.toList)) (h1 : As.isTok x.data.toList = false) : Calls Try.prog 34 #[.string s] w (FieldTo s w) := by
  have HN : Hid (fieldL s.data.toList = none) := Lib.hid (by unfold fieldL; rw [h]; dsimp only; rw [if_neg (by rw [h1]; simp)])
  have hsz := cut_szs h
  have HC : Hid (∀ W, Calls Try.prog 55 #[.string s, .string ⟨#[58]⟩] W fun e w' => e = .returned (.tuple #[.string x, .string y, .bool true]) ∧ Below W.heap.size W w') := Lib.hid fun W => cut_colon_some s x y W hm h
  have HX : Hid (x.size ≤ 1000000) := Lib.hid (by omega)
  have HY : Hid (y.size ≤ 1000000) := Lib.hid (by omega)
  have H1 := Lib.hid h1
  clear hm h h1 hsz
  go_enter Try.func34, Try.ntmps34
  go_wp2_with (first
    | (go_at_call 55; (with_reducible refine (HC.out _).mono ?_); rintro e w1 ⟨rfl, hb1⟩; have HG1 := Lib.hid (kept_heap (heap_alloc_new w (.cells zPr 25)) hb1); have HB1 := Lib.hid (stp (stpA (Below.refl w.heap.size w) (.cells zPr 25)) hb1); clear hb1)
    | (go_at_call 56; (with_reducible refine (token7 x false w1 HX.out H1.out).mono ?_); rintro e w2 ⟨rfl, hb2⟩; have HG2 := Lib.hid (kept_heap HG1.out hb2); have HB2 := Lib.hid (stp HB1.out hb2); clear hb2)
    | (refine wpList_store_row rfl _ _ _ rfl w.heap.size #[.string ⟨#[]⟩, .string ⟨#[]⟩] rfl rfl 25 zPr HG2.out sizePr rfl (onePr _ _) ?_)
    | fail)
  exact bodyPost_ret (v := .tuple #[.agg #[.string ⟨#[]⟩, .string ⟨#[]⟩], .bool false]) (rcell2 (p := 2) (q := 3) rfl _ _ _ _ #[.string ⟨#[]⟩, .string ⟨#[]⟩] _ _ rfl (setRow_heap _ _ _ #[.string ⟨#[]⟩, .string ⟨#[]⟩] _ _ HG2.out) Try.underlying25 rfl sizePr) rfl ⟨below_setRowV HB2.out (Nat.le_refl _) _, .inl ⟨HN.out, rfl⟩⟩
set_option maxHeartbeats 8000000 in
set_option maxRecDepth 100000 in
theorem field14_2 (s x y : ByteArray) (w : World) (hm : s.size ≤ 1000000) (h : cutC s.data.toList = some (x.data.toList, y.data.toList)) (h1 : As.isTok x.data.toList = true) (h2 : As.plain y.data.toList = false) : Calls Try.prog 34 #[.string s] w (FieldTo s w) := by
  have HN : Hid (fieldL s.data.toList = none) := Lib.hid (by unfold fieldL; rw [h]; dsimp only; rw [if_neg (by rw [h2]; simp)])
  have hsz := cut_szs h
  have HC : Hid (∀ W, Calls Try.prog 55 #[.string s, .string ⟨#[58]⟩] W fun e w' => e = .returned (.tuple #[.string x, .string y, .bool true]) ∧ Below W.heap.size W w') := Lib.hid fun W => cut_colon_some s x y W hm h
  have HX : Hid (x.size ≤ 1000000) := Lib.hid (by omega)
  have HY : Hid (y.size ≤ 1000000) := Lib.hid (by omega)
  have H1 := Lib.hid h1
  have H2 := Lib.hid h2
  clear hm h h1 h2 hsz
  go_enter Try.func34, Try.ntmps34
  go_wp2_with (first
    | (go_at_call 55; (with_reducible refine (HC.out _).mono ?_); rintro e w1 ⟨rfl, hb1⟩; have HG1 := Lib.hid (kept_heap (heap_alloc_new w (.cells zPr 25)) hb1); have HB1 := Lib.hid (stp (stpA (Below.refl w.heap.size w) (.cells zPr 25)) hb1); clear hb1)
    | (go_at_call 56; (with_reducible refine (token7 x true w1 HX.out H1.out).mono ?_); rintro e w2 ⟨rfl, hb2⟩; have HG2 := Lib.hid (kept_heap HG1.out hb2); have HB2 := Lib.hid (stp HB1.out hb2); clear hb2)
    | (go_at_call 57; (with_reducible refine (plain7 y false w2 HY.out H2.out).mono ?_); rintro e w3 ⟨rfl, hb3⟩; have HG3 := Lib.hid (kept_heap HG2.out hb3); have HB3 := Lib.hid (stp HB2.out hb3); clear hb3)
    | (refine wpList_store_row rfl _ _ _ rfl w.heap.size #[.string ⟨#[]⟩, .string ⟨#[]⟩] rfl rfl 25 zPr HG3.out sizePr rfl (onePr _ _) ?_)
    | fail)
  exact bodyPost_ret (v := .tuple #[.agg #[.string ⟨#[]⟩, .string ⟨#[]⟩], .bool false]) (rcell2 (p := 2) (q := 3) rfl _ _ _ _ #[.string ⟨#[]⟩, .string ⟨#[]⟩] _ _ rfl (setRow_heap _ _ _ #[.string ⟨#[]⟩, .string ⟨#[]⟩] _ _ HG3.out) Try.underlying25 rfl sizePr) rfl ⟨below_setRowV HB3.out (Nat.le_refl _) _, .inl ⟨HN.out, rfl⟩⟩
set_option maxHeartbeats 8000000 in
set_option maxRecDepth 100000 in
theorem field14_3 (s x y : ByteArray) (w : World) (hm : s.size ≤ 1000000) (h : cutC s.data.toList = some (x.data.toList, y.data.toList)) (h1 : As.isTok x.data.toList = true) (h2 : As.plain y.data.toList = true) : Calls Try.prog 34 #[.string s] w (FieldTo s w) := by
  obtain ⟨u, hu⟩ : ∃ u, lowS x = u := ⟨_, rfl⟩
  obtain ⟨v, hv⟩ : ∃ v, trimS y = v := ⟨_, rfl⟩
  have HN : Hid (fieldL s.data.toList = some ⟨u.data.toList, v.data.toList⟩) := Lib.hid (by unfold fieldL; rw [h]; dsimp only; rw [if_pos ⟨h1, h2⟩, ← hu, ← hv]; rfl)
  have hsz := cut_szs h
  have HC : Hid (∀ W, Calls Try.prog 55 #[.string s, .string ⟨#[58]⟩] W fun e w' => e = .returned (.tuple #[.string x, .string y, .bool true]) ∧ Below W.heap.size W w') := Lib.hid fun W => cut_colon_some s x y W hm h
  have HX : Hid (x.size ≤ 1000000) := Lib.hid (by omega)
  have HY : Hid (y.size ≤ 1000000) := Lib.hid (by omega)
  have H1 := Lib.hid h1
  have H2 := Lib.hid h2
  have HU := Lib.hid hu
  have HV := Lib.hid hv
  clear hm h h1 h2 hsz hu hv
  go_enter Try.func34, Try.ntmps34
  go_wp2_with (first
    | (go_at_call 55; (with_reducible refine (HC.out _).mono ?_); rintro e w1 ⟨rfl, hb1⟩; have HG1 := Lib.hid (kept_heap (heap_alloc_new w (.cells zPr 25)) hb1); have HB1 := Lib.hid (stp (stpA (Below.refl w.heap.size w) (.cells zPr 25)) hb1); clear hb1)
    | (go_at_call 56; (with_reducible refine (token7 x true w1 HX.out H1.out).mono ?_); rintro e w2 ⟨rfl, hb2⟩; have HG2 := Lib.hid (kept_heap HG1.out hb2); have HB2 := Lib.hid (stp HB1.out hb2); clear hb2)
    | (go_at_call 57; (with_reducible refine (plain7 y true w2 HY.out H2.out).mono ?_); rintro e w3 ⟨rfl, hb3⟩; have HG3 := Lib.hid (kept_heap HG2.out hb3); have HB3 := Lib.hid (stp HB2.out hb3); clear hb3)
    | (go_at_call 53; (with_reducible refine (lower7 x u w3 HX.out HU.out).mono ?_); rintro e w4 ⟨rfl, hb4⟩; have HG4 := Lib.hid (kept_heap HG3.out hb4); have HB4 := Lib.hid (stp HB3.out hb4); clear hb4)
    | (go_at_call 58; (with_reducible refine (trim7 y v w4 HY.out HV.out).mono ?_); rintro e w5 ⟨rfl, hb5⟩; have HG5 := Lib.hid (kept_heap HG4.out hb5); have HB5 := Lib.hid (stp HB4.out hb5); clear hb5)
    | (refine wpList_store_row rfl _ _ _ rfl w.heap.size #[.string u, .string v] rfl rfl 25 zPr HG5.out sizePr rfl (onePr _ _) ?_)
    | fail)
  exact bodyPost_ret (v := .tuple #[.agg #[.string u, .string v], .bool true]) (rcell2 (p := 2) (q := 3) rfl _ _ _ _ #[.string u, .string v] _ _ rfl (setRow_heap _ _ _ #[.string u, .string v] _ _ HG5.out) Try.underlying25 rfl sizePr) rfl ⟨below_setRowV HB5.out (Nat.le_refl _) _, .inr ⟨u, v, HN.out, rfl⟩⟩
theorem field14 (s : ByteArray) (w : World) (hm : s.size ≤ 1000000) : Calls Try.prog 34 #[.string s] w (FieldTo s w) := by
  cases hc : cutC s.data.toList with
  | none => exact field14_0 s w hm hc
  | some p =>
    obtain ⟨a, b⟩ := p
    have hc' : cutC s.data.toList = some ((⟨a.toArray⟩ : ByteArray).data.toList, (⟨b.toArray⟩ : ByteArray).data.toList) := by rw [hc]
    cases h1 : As.isTok (⟨a.toArray⟩ : ByteArray).data.toList with
    | false => exact field14_1 s _ _ w hm hc' h1
    | true =>
      cases h2 : As.plain (⟨b.toArray⟩ : ByteArray).data.toList with
      | false => exact field14_2 s _ _ w hm hc' h1 h2
      | true => exact field14_3 s _ _ w hm hc' h1 h2
end Hx
end Go.Proofs.Ytfdhogaknlabkaa
namespace Go.Proofs.Ytfdhogaknlabkaa
open Go.RowKit
namespace Hx
open Lx Hd
set_option linter.unusedVariables false
theorem rline_some (s x y : ByteArray) (w : World) (hm : s.size ≤ 1000000) (h : lineL s.data.toList = some (x.data.toList, y.data.toList)) : Calls Try.prog 64 #[.string s] w fun e w' => e = .returned (.tuple #[.string x, .string y, .bool true]) ∧ Below w.heap.size w w' :=
  (rline14 s w hm).mono fun e w' hp => by
    obtain ⟨hb, ⟨x', y', h1, h2⟩ | ⟨h1, _⟩⟩ := hp
    · rw [h] at h1
      obtain ⟨e1, e2⟩ := (Prod.mk.injEq _ _ _ _).mp (Option.some.inj h1)
      rw [ba_x e1, ba_x e2]
      exact ⟨h2, hb⟩
    · rw [h] at h1; cases h1
theorem rline_none (s : ByteArray) (w : World) (hm : s.size ≤ 1000000) (h : lineL s.data.toList = none) : Calls Try.prog 64 #[.string s] w fun e w' => e = .returned (.tuple #[.string ⟨#[]⟩, .string ⟨#[]⟩, .bool false]) ∧ Below w.heap.size w w' :=
  (rline14 s w hm).mono fun e w' hp => by
    obtain ⟨hb, ⟨x', y', h1, h2⟩ | ⟨h1, h2⟩⟩ := hp
    · rw [h] at h1; cases h1
    · exact ⟨h2, hb⟩
theorem fieldTo_none {s : ByteArray} {w w' : World} {e : Ending} (h : fieldL s.data.toList = none) (ht : FieldTo s w e w') : e = .returned (.tuple #[.agg #[.string ⟨#[]⟩, .string ⟨#[]⟩], .bool false]) ∧ Below w.heap.size w w' := by
  obtain ⟨hb, ⟨_, h2⟩ | ⟨x, y, h1, _⟩⟩ := ht
  · exact ⟨h2, hb⟩
  · rw [h] at h1; cases h1
theorem fieldTo_some {s u v : ByteArray} {w w' : World} {e : Ending} (h : fieldL s.data.toList = some ⟨u.data.toList, v.data.toList⟩) (ht : FieldTo s w e w') : e = .returned (.tuple #[.agg #[.string u, .string v], .bool true]) ∧ Below w.heap.size w w' := by
  obtain ⟨hb, ⟨h1, _⟩ | ⟨x, y, h1, h2⟩⟩ := ht
  · rw [h] at h1; cases h1
  · rw [h] at h1
    injection h1 with h1
    injection h1 with e1 e2
    rw [ba_x e1, ba_x e2]
    exact ⟨h2, hb⟩
theorem fieldL_nil : fieldL (⟨#[]⟩ : ByteArray).data.toList = none := rfl
theorem prs (p : Pr) : ∃ u v : ByteArray, p = ⟨u.data.toList, v.data.toList⟩ := ⟨⟨p.name.toArray⟩, ⟨p.value.toArray⟩, by cases p; simp⟩
theorem two_ba (p : List UInt8 × List UInt8) : ∃ x y : ByteArray, p = (x.data.toList, y.data.toList) := ⟨⟨p.1.toArray⟩, ⟨p.2.toArray⟩, by simp⟩
theorem line_szs {s x y : ByteArray} (h : lineL s.data.toList = some (x.data.toList, y.data.toList)) : x.size + y.size + 2 = s.size := by
  have := lineL_len h
  rw [ba_l, ba_l, ba_l] at this
  exact this
/-- What All answers. -/
def HAllTo (s : ByteArray) (w : World) (e : Ending) (w' : World) : Prop := Below w.heap.size w w' ∧
  ((allL s.data.toList = none ∧ e = .returned (.tuple #[.slice none 0 0, .bool false])) ∨ (∃ (L : List PB) (A : Option Addr) (c : Nat), allL s.data.toList = some (L.map prVal) ∧ e = .returned (.tuple #[.slice A L.length c, .bool true]) ∧ L.length ≤ s.size ∧ w'.ownsRow w.heap.size 25 2 (.slice A L.length c) L.length (L.flatMap prCells)))
theorem all_rest {S R x y u v : ByteArray} {L : List PB} (hi : allL S.data.toList = (allL R.data.toList).map (L.map prVal ++ ·)) (h : lineL R.data.toList = some (x.data.toList, y.data.toList)) (hf : fieldL x.data.toList = some ⟨u.data.toList, v.data.toList⟩) :
    allL S.data.toList = (allL y.data.toList).map ((L ++ [(u, v)]).map prVal ++ ·) := by
  rw [hi, allL_step h hf, Option.map_map]
  congr 1
  funext p
  rw [List.map_append]
  simp [prVal]
theorem cells_snoc (L : List PB) (u v : ByteArray) : (L ++ [(u, v)]).flatMap prCells = L.flatMap prCells ++ [.string u, .string v] := by
  rw [List.flatMap_append]
  rfl
set_option maxHeartbeats 8000000 in
set_option maxRecDepth 100000 in
theorem rall14 (s : ByteArray) (w : World) (hm : s.size ≤ 1000000) : Calls Try.prog 38 #[.string s] w (HAllTo s w) := by
  obtain ⟨i0, hi, hz0, hz1, hz2⟩ := info_parts infoPr
  have HI := Lib.hid hi
  have HZ0 := Lib.hid hz0
  have HZ1 := Lib.hid hz1
  have HZ2 := Lib.hid hz2
  have HM := Lib.hid hm
  clear hm hi hz0 hz1 hz2
  go_enter Try.func38, Try.ntmps38
  go_wp2_with fail
  go_loopg [0, 4] s.size (fun gg r v wr => ∃ (R : ByteArray) (L : List PB), r = .string R ∧ R.size ≤ gg ∧ L.length + R.size ≤ s.size ∧ wr.ownsRow w.heap.size 25 2 v L.length (L.flatMap prCells) ∧ Below w.heap.size w wr ∧ allL s.data.toList = (allL R.data.toList).map (L.map prVal ++ ·))
  case atStart => exact ⟨s, [], rfl, Nat.le_refl _, by simp, World.ownsRow_nil _ _ _ _, Below.refl _ _, by cases allL s.data.toList <;> rfl⟩
  case round =>
    obtain ⟨R, L, rfl, hg, hlen, hown, hbw, hall⟩ := hrel
    obtain ⟨A, c, rfl⟩ := own_form2 hown
    have HO := Lib.hid hown
    have HBW := Lib.hid hbw
    have HA := Lib.hid hall
    have HG := Lib.hid hg
    have HLE := Lib.hid hlen
    have HRM : Hid (R.size ≤ 1000000) := Lib.hid (by have := HM.out; omega)
    have HLN : Hid (L.length ≤ 1000000) := Lib.hid (by have := HM.out; omega)
    have hem := empty_b R
    have hem2 := empty_b2 R
    clear hown hbw hall hg hlen
    by_cases h0 : R.size = 0
    · have e0 : decide (R.size = 0) = true := by simp [h0]
      rw [e0] at hem hem2
      have hr0 : R.data.toList = [] := List.eq_nil_of_length_eq_zero (by rw [ba_l]; exact h0)
      have HF : Hid (allL s.data.toList = some (L.map prVal)) := Lib.hid (by rw [HA.out, hr0, allL_nil]; simp)
      clear h0 e0 hr0
      go_wp2_with fail
      go_ret2
      exact ⟨HBW.out, .inr ⟨L, A, c, HF.out, rfl, by have := HLE.out; omega, HO.out⟩⟩
    · have e0 : decide (R.size = 0) = false := by simp [h0]
      rw [e0] at hem hem2
      have hne : R.data.toList ≠ [] := fun e => h0 (by rw [← ba_l, e]; rfl)
      cases hl : lineL R.data.toList with
      | none =>
        have HF : Hid (allL s.data.toList = none) := Lib.hid (by rw [HA.out, allL_none hne hl]; rfl)
        have HL : Hid (∀ W, Calls Try.prog 64 #[.string R] W fun e w' => e = .returned (.tuple #[.string ⟨#[]⟩, .string ⟨#[]⟩, .bool false]) ∧ Below W.heap.size W w') := Lib.hid fun W => rline_none R W HRM.out hl
        have HD : Hid (∀ W, Calls Try.prog 65 #[.string ⟨#[]⟩] W fun e w' => e = .returned (.tuple #[.agg #[.string ⟨#[]⟩, .string ⟨#[]⟩], .bool false]) ∧ Below W.heap.size W w') := Lib.hid fun W => (rfield14 ⟨#[]⟩ W (by decide)).mono fun _ _ ht => fieldTo_none fieldL_nil ht
        clear hl hne h0 e0
        go_wp2_with (first
          | (go_at_call 64; (with_reducible refine (HL.out _).mono ?_); rintro e w1 ⟨rfl, hb1⟩; have HB1 := Lib.hid (stp HBW.out hb1); clear hb1)
          | (go_at_call 65; (with_reducible refine (HD.out _).mono ?_); rintro e w2 ⟨rfl, hb2⟩; have HB2 := Lib.hid (stpA (stp HB1.out hb2) (.cells #[.string ⟨#[]⟩, .string ⟨#[]⟩] 25)); clear hb2)
          | fail)
        go_ret2
        exact ⟨HB2.out, .inl ⟨HF.out, rfl⟩⟩
      | some p =>
        obtain ⟨x, y, rfl⟩ := two_ba p
        have hsz := line_szs hl
        have HXM : Hid (x.size ≤ 1000000) := Lib.hid (by have := HRM.out; omega)
        have HL : Hid (∀ W, Calls Try.prog 64 #[.string R] W fun e w' => e = .returned (.tuple #[.string x, .string y, .bool true]) ∧ Below W.heap.size W w') := Lib.hid fun W => rline_some R x y W HRM.out hl
        cases hf : fieldL x.data.toList with
        | none =>
          have HF : Hid (allL s.data.toList = none) := Lib.hid (by rw [HA.out, allL_bad hl hf]; rfl)
          have HD : Hid (∀ W, Calls Try.prog 65 #[.string x] W fun e w' => e = .returned (.tuple #[.agg #[.string ⟨#[]⟩, .string ⟨#[]⟩], .bool false]) ∧ Below W.heap.size W w') := Lib.hid fun W => (rfield14 x W HXM.out).mono fun _ _ ht => fieldTo_none hf ht
          clear hl hne h0 e0 hf hsz
          go_wp2_with (first
          | (go_at_call 64; (with_reducible refine (HL.out _).mono ?_); rintro e w1 ⟨rfl, hb1⟩; have HB1 := Lib.hid (stp HBW.out hb1); clear hb1)
          | (go_at_call 65; (with_reducible refine (HD.out _).mono ?_); rintro e w2 ⟨rfl, hb2⟩; have HB2 := Lib.hid (stpA (stp HB1.out hb2) (.cells #[.string ⟨#[]⟩, .string ⟨#[]⟩] 25)); clear hb2)
            | fail)
          go_ret2
          exact ⟨HB2.out, .inl ⟨HF.out, rfl⟩⟩
        | some q =>
          obtain ⟨u, v, rfl⟩ := prs q
          have HNX := Lib.hid (all_rest HA.out hl hf)
          have HD : Hid (∀ W, Calls Try.prog 65 #[.string x] W fun e w' => e = .returned (.tuple #[.agg #[.string u, .string v], .bool true]) ∧ Below W.heap.size W w') := Lib.hid fun W => (rfield14 x W HXM.out).mono fun _ _ ht => fieldTo_some hf ht
          have HS : Hid (y.size + 2 ≤ R.size) := Lib.hid (by omega)
          clear hl hne h0 e0 hf hsz
          go_wp2_with (first
          | (go_at_call 64; (with_reducible refine (HL.out _).mono ?_); rintro e w1 ⟨rfl, hb1⟩; have HB1 := Lib.hid (stp HBW.out hb1); have O1 := Lib.hid (own_belowK HO.out hb1 (Nat.le_refl _)); clear hb1)
          | (go_at_call 65; (with_reducible refine (HD.out _).mono ?_); rintro e w2 ⟨rfl, hb2⟩; have HB2 := Lib.hid (stpA (stp HB1.out hb2) (.cells #[.string u, .string v] 25)); have O2 := Lib.hid (own_belowK O1.out (stpA hb2 (.cells #[.string u, .string v] 25)) (Nat.le_refl _)); have G2 := Lib.hid (heap_alloc_new w2 (.cells #[.string u, .string v] 25)); have Z2 := Lib.hid (stp HB1.out hb2).size; clear hb2)
          | (refine wpList_load_row rfl _ _ rfl w2.heap.size rfl 25 #[.string u, .string v] (0, 0) _ G2.out Try.underlying25 rfl sizePr ?_)
          | (at_builtin; refine wpList_append_own _ rfl (.tmp 29) (.tmp 31) 28 rfl w.heap.size 25 i0 (.agg #[.string ⟨#[]⟩, .string ⟨#[]⟩]) 2 32 Try.underlying28 HI.out HZ0.out HZ1.out HZ2.out rfl (by decide) _ L.length _ rfl (own_belowK O2.out (stpA (Below.refl _ _) (.cells #[.string u, .string v] 25)) (Nat.le_refl _)) ⟨w2.heap.size + 1, 0, none⟩ 1 1 [.string u, .string v] rfl rfl (new_at (w2.alloc (.cells #[.string u, .string v] 25)) [.string u, .string v] 25 _ (World.size_alloc _ _)) (by simp [Value.oneCell']) (by have := HLN.out; unfold maxLen; omega) (by have := HLN.out; omega) (by rw [World.size_alloc, World.size_alloc]; have := Z2.out; omega) ?_; intro v4 w5 hown4 hgr4 _; obtain ⟨A4, c4, rfl⟩ := own_form2 hown4; have HO5 := Lib.hid hown4; have HB5 := Lib.hid ((stpA HB2.out (.cells #[.string u, .string v] 25)).grown hgr4 (by rw [World.size_alloc, World.size_alloc]; have := Z2.out; omega) (fun g hg => (HO.out.lt g hg).1)); clear hown4 hgr4)
            | fail)
          go_roundg (gk - 1)
          case rel => exact ⟨y, L ++ [(u, v)], rfl, by have := HS.out; have := HG.out; omega, by have := HS.out; have := HLE.out; rw [List.length_append]; simp; omega, by rw [List.length_append, cells_snoc]; exact HO5.out, HB5.out, HNX.out⟩
          case measure => have := HS.out; have := HG.out; omega
/-- What Parse answers (and the landed one). -/
def HParseTo (ps : List Pr) (q : Int) (w : World) (e : Ending) (w' : World) : Prop := Below w.heap.size w w' ∧ ∃ A c, e = .returned (.tuple #[.slice A ps.length c, .int .i64 q]) ∧ ps.length ≤ c ∧ c ≤ maxLen ∧ (A = none → c = 0) ∧ RdC PrC w' w'.heap.size A ps
set_option maxHeartbeats 8000000 in
set_option maxRecDepth 100000 in
theorem rparse14 (s : ByteArray) (ps : List Pr) (q : Int) (w : World) (hm : s.size ≤ 1000000) (h : parseH s.data.toList = (ps, q)) : Calls Try.prog 18 #[.string s] w (HParseTo ps q w) := by
  unfold parseH at h
  rw [ba_l] at h
  have HM := Lib.hid hm
  by_cases hbig : 16384 < s.size
  · rw [if_pos hbig] at h
    obtain ⟨rfl, rfl⟩ := (Prod.mk.injEq _ _ _ _).mp h
    have d0 : decide ((16384 : Int) < (s.size : Int)) = true := decide_eq_true (by omega)
    clear h hm
    go_enter Try.func18, Try.ntmps18
    go_wp2_with fail
    go_ret2
    exact ⟨Below.refl _ _, none, 0, rfl, Nat.le_refl _, Nat.zero_le _, fun _ => rfl, RdC.nil _ _ _⟩
  · rw [if_neg hbig] at h
    have d0 : decide ((16384 : Int) < (s.size : Int)) = false := decide_eq_false (by omega)
    cases ha : allL s.data.toList with
    | none =>
      rw [ha] at h
      obtain ⟨rfl, rfl⟩ := (Prod.mk.injEq _ _ _ _).mp h
      have HC : Hid (∀ W, Calls Try.prog 38 #[.string s] W fun e w' => e = .returned (.tuple #[.slice none 0 0, .bool false]) ∧ Below W.heap.size W w') := Lib.hid fun W => (rall14 s W hm).mono fun e w' ht => by
        obtain ⟨hb, ⟨_, h2⟩ | ⟨L, A, c, h1, _⟩⟩ := ht
        · exact ⟨h2, hb⟩
        · rw [ha] at h1; cases h1
      clear h hm ha hbig
      go_enter Try.func18, Try.ntmps18
      go_wp2_with (first
        | (go_at_call 38; (with_reducible refine (HC.out _).mono ?_); rintro e w1 ⟨rfl, hb1⟩)
        | fail)
      go_ret2
      exact ⟨hb1, none, 0, rfl, Nat.le_refl _, Nat.zero_le _, fun _ => rfl, RdC.nil _ _ _⟩
    | some qs =>
      rw [ha] at h
      dsimp only at h
      have HC : Hid (∀ W, Calls Try.prog 38 #[.string s] W fun e w' => Below W.heap.size W w' ∧ ∃ A c, e = .returned (.tuple #[.slice A qs.length c, .bool true]) ∧ qs.length ≤ c ∧ c ≤ maxLen ∧ (A = none → c = 0) ∧ RdC PrC w' w'.heap.size A qs) := Lib.hid fun W => (rall14 s W hm).mono fun e w' ht => by
        obtain ⟨hb, ⟨h1, _⟩ | ⟨L, A, c, h1, h2, _, h3⟩⟩ := ht
        · rw [ha] at h1; cases h1
        · rw [ha] at h1
          injection h1 with h1
          subst h1
          obtain ⟨k1, k2, k3, k4, k5⟩ := own_attrs h3
          exact ⟨hb, A, c, by rw [h2, List.length_map], by rw [List.length_map]; exact k3, k4, k5, k1⟩
      obtain ⟨n, hn⟩ : ∃ n, qs.length = n := ⟨_, rfl⟩
      rw [hn] at HC h
      by_cases hmany : 32 < n
      · rw [if_pos hmany] at h
        obtain ⟨rfl, rfl⟩ := (Prod.mk.injEq _ _ _ _).mp h
        have d1 : decide ((32 : Int) < (n : Int)) = true := decide_eq_true (by omega)
        clear h hm ha hbig hn
        go_enter Try.func18, Try.ntmps18
        go_wp2_with (first
          | (go_at_call 38; (with_reducible refine (HC.out _).mono ?_); rintro e w1 ⟨hb1, A, c, rfl, _, _, _, _⟩)
          | fail)
        go_ret2
        exact ⟨hb1, none, 0, rfl, Nat.le_refl _, Nat.zero_le _, fun _ => rfl, RdC.nil _ _ _⟩
      · rw [if_neg hmany] at h
        obtain ⟨rfl, rfl⟩ := (Prod.mk.injEq _ _ _ _).mp h
        have d1 : decide ((32 : Int) < (n : Int)) = false := decide_eq_false (by omega)
        have HNN := Lib.hid hn
        clear h hm ha hbig hn
        go_enter Try.func18, Try.ntmps18
        go_wp2_with (first
          | (go_at_call 38; (with_reducible refine (HC.out _).mono ?_); rintro e w1 ⟨hb1, A, c, rfl, k1, k2, k3, k4⟩; have K1 := Lib.hid k1; have K2 := Lib.hid k2; have K3 := Lib.hid k3; have K4 := Lib.hid k4; clear k1 k2 k3 k4)
          | fail)
        go_ret2
        exact ⟨hb1, A, c, by rw [HNN.out]; rfl, by rw [HNN.out]; exact K1.out, K2.out, K3.out, K4.out⟩
end Hx
end Go.Proofs.Ytfdhogaknlabkaa
namespace Go.Proofs.Ytfdhogaknlabkaa
open Go.RowKit Go.Shelf
namespace Hx
open Lx Hd
set_option linter.unusedVariables false
/-- What lines yields: what stands ahead of each end of a line, and whether that end is there. -/
abbrev Ln := { p : ByteArray × Bool // p.1.size ≤ 1000000 }
def lnVal (x : Ln) : List UInt8 × Bool := (x.1.1.data.toList, x.1.2)
def linesF : Nat → List UInt8 → List (List UInt8 × Bool)
  | 0, _ => []
  | f + 1, l => if l = [] then [] else match lineL l with
    | none => [(l, false)]
    | some p => (p.1, true) :: linesF f p.2
def linesT (l : List UInt8) : List (List UInt8 × Bool) := linesF (l.length + 1) l
theorem linesF_same : ∀ (f g : Nat) (l : List UInt8), l.length < f → l.length < g → linesF f l = linesF g l := by
  intro f
  induction f with
  | zero => intro g l h; omega
  | succ f ih =>
    intro g l h1 h2
    cases g with
    | zero => omega
    | succ g =>
      rw [linesF, linesF]
      split
      · rfl
      · cases hl : lineL l with
        | none => rfl
        | some p =>
          have := lineL_len (a := p.1) (b := p.2) hl
          dsimp only
          rw [ih g p.2 (by omega) (by omega)]
theorem linesT_nil : linesT [] = [] := rfl
theorem linesT_none {l : List UInt8} (h0 : l ≠ []) (h : lineL l = none) : linesT l = [(l, false)] := by
  unfold linesT linesF
  rw [if_neg h0, h]
theorem linesT_some {l a b : List UInt8} (h : lineL l = some (a, b)) : linesT l = (a, true) :: linesT b := by
  have hl := lineL_len h
  have h0 : l ≠ [] := by rintro rfl; cases h
  conv => lhs; unfold linesT linesF
  rw [if_neg h0, h]
  dsimp only
  rw [show linesF l.length b = linesT b from linesF_same _ _ _ (by omega) (Nat.lt_succ_self _)]
theorem linesF_len : ∀ (f : Nat) (l : List UInt8), (linesF f l).length ≤ l.length ∧ ∀ x ∈ linesF f l, x.1.length ≤ l.length := by
  intro f
  induction f with
  | zero => intro l; exact ⟨Nat.zero_le _, by simp [linesF]⟩
  | succ f ih =>
    intro l
    rw [linesF]
    split
    · exact ⟨Nat.zero_le _, by simp⟩
    · rename_i h0
      have hpos : 1 ≤ l.length := by
        rcases Nat.eq_zero_or_pos l.length with h | h
        · exact absurd (List.eq_nil_of_length_eq_zero h) h0
        · exact h
      cases hl : lineL l with
      | none => exact ⟨by simpa using hpos, by simp⟩
      | some p =>
        have h2 := lineL_len (a := p.1) (b := p.2) hl
        obtain ⟨h3, h4⟩ := ih p.2
        refine ⟨by simp; omega, fun x hx => ?_⟩
        rcases List.mem_cons.1 hx with rfl | hx
        · dsimp only; omega
        · have := h4 x hx; omega
/-- The fields of lines, one by one. -/
def goodLn (x : List UInt8 × Bool) : Option Pr := if x.2 = true then fieldL x.1 else none
def allOf : List (List UInt8 × Bool) → Option (List Pr)
  | [] => some []
  | x :: r => match goodLn x with
    | none => none
    | some p => (allOf r).map (p :: ·)
theorem allOf_lines : ∀ (f : Nat) (l : List UInt8), l.length < f → allOf (linesF f l) = allF f l := by
  intro f
  induction f with
  | zero => intro l h; omega
  | succ f ih =>
    intro l h
    rw [linesF, allF]
    split
    · rfl
    · cases hl : lineL l with
      | none => rfl
      | some p =>
        have h2 := lineL_len (a := p.1) (b := p.2) hl
        dsimp only
        rw [allOf, ih p.2 (by omega)]
        rfl
theorem allOf_T (l : List UInt8) : allOf (linesT l) = allL l := allOf_lines _ _ (Nat.lt_succ_self _)
theorem allOf_app : ∀ (a b : List (List UInt8 × Bool)), allOf (a ++ b) = match allOf a with | none => none | some p => (allOf b).map (p ++ ·) := by
  intro a
  induction a with
  | nil => intro b; show allOf b = (allOf b).map ([] ++ ·); cases allOf b <;> rfl
  | cons x a ih =>
    intro b
    rw [List.cons_append, allOf, allOf]
    cases goodLn x with
    | none => rfl
    | some p =>
      dsimp only
      rw [ih b]
      cases allOf a with
      | none => rfl
      | some q =>
        dsimp only [Option.map]
        cases allOf b <;> rfl
theorem allOf_snoc_some {a : List (List UInt8 × Bool)} {x : List UInt8 × Bool} {ps : List Pr} {p : Pr} (h : allOf a = some ps) (hx : goodLn x = some p) : allOf (a ++ [x]) = some (ps ++ [p]) := by
  rw [allOf_app, h]
  dsimp only [allOf]
  rw [hx]
  rfl
theorem allOf_snoc_none {a : List (List UInt8 × Bool)} {x : List UInt8 × Bool} {ps : List Pr} (h : allOf a = some ps) (hx : goodLn x = none) : allOf (a ++ [x]) = none := by
  rw [allOf_app, h]
  dsimp only [allOf]
  rw [hx]
  rfl
theorem allOf_pre {a b : List (List UInt8 × Bool)} (h : allOf a = none) (hp : a <+: b) : allOf b = none := by
  obtain ⟨c, rfl⟩ := hp
  rw [allOf_app, h]
theorem allOf_len : ∀ {a : List (List UInt8 × Bool)} {ps : List Pr}, allOf a = some ps → ps.length = a.length := by
  intro a
  induction a with
  | nil => intro ps h; injection h with h; subst h; rfl
  | cons x a ih =>
    intro ps h
    rw [allOf] at h
    cases hx : goodLn x with
    | none => rw [hx] at h; cases h
    | some p =>
      rw [hx] at h
      cases hr : allOf a with
      | none => rw [hr] at h; cases h
      | some q =>
        rw [hr] at h
        injection h with h
        subst h
        simp [ih hr]
theorem lns_of : ∀ (L : List (List UInt8 × Bool)), (∀ p ∈ L, p.1.length ≤ 1000000) → ∃ xs : List Ln, xs.map lnVal = L
  | [], _ => ⟨[], rfl⟩
  | p :: L, h => by
    obtain ⟨xs, hx⟩ := lns_of L (fun q hq => h q (List.mem_cons_of_mem _ hq))
    refine ⟨⟨(⟨p.1.toArray⟩, p.2), by have := h p (by simp); rw [← ba_l]; simpa using this⟩ :: xs, ?_⟩
    rw [List.map_cons, hx]
    simp [lnVal]
theorem lines_any (s : ByteArray) (w : World) :
    Calls Try.prog 33 #[.string s] w fun e w' => e = .returned (.func (.func 54) #[] #[.pointer (some ⟨w.heap.size, 0, none⟩)]) ∧ w' = w.alloc (.cells #[.string s] 9) := by
  have hmf : ∀ (fn : Fn) (first cap : Array Value) (w : World), (Instr.makeFunc fn first cap).run Try.prog w = .ok (.func fn first cap) w := fun _ _ _ _ => rfl
  go_enter Try.func33, Try.ntmps33
  go_wp2
  go_ret
  exact ⟨rfl, rfl⟩
/-- Cut at the first end of a line, or not. -/
theorem cutln_any (r : ByteArray) (hm : r.size ≤ 1000000) (h0 : r.size ≠ 0) : ∃ (p r' : ByteArray) (b : Bool), (∀ w, Mx w → Calls Try.prog 55 #[.string r, .string ⟨#[13, 10]⟩] w fun e w' => e = .returned (.tuple #[.string p, .string r', .bool b]) ∧ Below w.heap.size w w') ∧ p.size ≤ r.size ∧ r'.size < r.size ∧
    linesT r.data.toList = (p.data.toList, b) :: linesT r'.data.toList := by
  have hne : r.data.toList ≠ [] := fun e => h0 (by rw [← ba_l, e]; rfl)
  cases hl : lineL r.data.toList with
  | none => exact ⟨r, ⟨#[]⟩, false, fun w hx => cut_line_none r w hx hm hl, Nat.le_refl _, (show 0 < r.size by omega), by rw [linesT_none hne hl]; rfl⟩
  | some p =>
    obtain ⟨x, y, rfl⟩ := two_ba p
    have := line_szs hl
    exact ⟨x, y, true, fun w hx => cut_line_some r x y w hx hm hl, by omega, by omega, linesT_some hl⟩
def KpM (A B : World) : Prop := Mx A → Mx B
set_option maxHeartbeats 4000000 in
set_option maxRecDepth 100000 in
theorem lines1_in (n : Nat) (hn : 3 ≤ n) (l Bs : Nat) (s : ByteArray) (xs : List Ln) (hm : s.size ≤ 1000000) (hxs : xs.map lnVal = linesT s.data.toList)
    (J Jx : List Ln → World → Prop) (hJ : ∀ ys W V, J ys W → Below W.heap.size W V → J ys V)
    (hY : ∀ pre x W, J pre W → pre.length < xs.length → YieldAt Fence.wide (n - 1) Try.prog l #[.string x.1.1, .bool x.1.2] W fun e W' =>
      (e = .returned (.bool true) ∧ J (pre ++ [x]) W' ∧ KpM W W') ∨ (e = .returned (.bool false) ∧ Jx (pre ++ [x]) W'))
    (W : World) (hx : Mx W) (hs : W.cell? ⟨Bs, 0, none⟩ = some (.string s)) (h0 : J [] W) :
    CallsIn Fence.wide n Try.prog 54 #[.func (.yield l) #[] #[], .pointer (some ⟨Bs, 0, none⟩)] W fun e W' => (∃ v, e = .returned v) ∧
      ((∃ ys, ys = xs ∧ J ys W') ∨ (∃ pre, pre <+: xs ∧ Jx pre W')) := by
  have h1 : 1 ≤ n := by omega
  have h2 : 1 ≤ n - 1 := by omega
  have HM := Lib.hid hm
  have HXS := Lib.hid hxs
  have HJ := Lib.hid hJ
  have HY := Lib.hid hY
  have HJ0 := Lib.hid h0
  have HMX := Lib.hid hx
  clear hm hxs hJ hY h0 hx
  refine callsIn_wide.2 ?_
  go_enter Try.func54, Try.ntmps54
  go_wp2_with fail
  refine (wpIn_wide (n := n)).1 ?_
  gi_loopg [3] s.size (fun gg r wr => ∃ (R : ByteArray) (pre suf : List Ln), r = .string R ∧ xs = pre ++ suf ∧ suf.map lnVal = linesT R.data.toList ∧ R.size ≤ 1000000 ∧ R.size ≤ gg ∧ J pre wr ∧ Mx wr)
  case atStart => exact ⟨s, [], xs, rfl, rfl, HXS.out, HM.out, Nat.le_refl _, HJ0.out, HMX.out⟩
  case round =>
    clear HJ0 HXS HM HMX hs
    obtain ⟨R, pre, suf, rfl, hx, hsuf, hR, hg, hJp, hmx⟩ := hrel
    have HX := Lib.hid hx
    have HSUF := Lib.hid hsuf
    have HR := Lib.hid hR
    have HG := Lib.hid hg
    have HJP := Lib.hid hJp
    have HMX := Lib.hid hmx
    have hem := empty_b R
    have hem2 := empty_b2 R
    clear hx hsuf hR hg hJp hmx
    by_cases hz : R.size = 0
    · have e0 : decide (R.size = 0) = true := by simp [hz]
      rw [e0] at hem hem2
      obtain rfl : suf = [] := by
        have := HSUF.out
        rw [show R.data.toList = [] from List.eq_nil_of_length_eq_zero (by rw [ba_l]; exact hz), linesT_nil, List.map_eq_nil_iff] at this
        exact this
      obtain rfl : xs = pre := by have := HX.out; simpa using this
      clear hz e0
      gi_wp2
      go_end0
      exact ⟨⟨_, rfl⟩, .inl ⟨_, rfl, HJP.out⟩⟩
    · have e0 : decide (R.size = 0) = false := by simp [hz]
      rw [e0] at hem hem2
      obtain ⟨p, R', b, hcut, hp, hR', hct⟩ := cutln_any R HR.out hz
      have HCUT := Lib.hid (hcut wr HMX.out)
      have HP : Hid (p.size ≤ 1000000) := Lib.hid (Nat.le_trans hp HR.out)
      have HR1 : Hid (R'.size ≤ 1000000) := Lib.hid (by have := HR.out; omega)
      have HGG : Hid (R'.size ≤ gk - 1 ∧ 1 ≤ gk) := Lib.hid (by have := HG.out; omega)
      have hsuf := HSUF.out
      rw [hct] at hsuf
      obtain ⟨x, suf', rfl⟩ : ∃ x suf', suf = x :: suf' := by
        cases suf with
        | nil => simp at hsuf
        | cons x suf' => exact ⟨x, suf', rfl⟩
      rw [List.map_cons] at hsuf
      injection hsuf with hx1 hs1
      obtain ⟨⟨x1, x2⟩, hxs⟩ := x
      have e1 : x1.data.toList = p.data.toList := congrArg Prod.fst hx1
      have e2 : x2 = b := congrArg Prod.snd hx1
      have e3 : x1 = p := ba_x e1
      subst e3 e2
      have HSN := Lib.hid hs1
      have HLN : Hid (pre.length < xs.length) := Lib.hid (by rw [HX.out]; simp)
      have HX2 : Hid (xs = (pre ++ [(⟨(x1, x2), hxs⟩ : Ln)]) ++ suf') := Lib.hid (by rw [HX.out]; simp)
      clear hcut hp hR' hct hx1 hs1 e1 hz e0
      gi_wp2_with (first
        | (refine ⟨trivial, ?_⟩; gi_at_call 55; (with_reducible refine (callsIn_wide.2 HCUT.out).mono ?_); rintro e w3 ⟨rfl, hb3⟩; have HB3 := Lib.hid hb3; clear hb3; obtain ⟨fn, tmps, assign, body, hy, hRR⟩ := HY.out pre ⟨(x1, x2), hxs⟩ w3 (HJ.out _ _ _ HJP.out HB3.out) HLN.out; have HRR := Lib.hid hRR; clear hRR)
        | fail)
      refine HRR.out.mono ?_
      rintro e V (⟨rfl, hJv, hkv⟩ | ⟨rfl, hxv⟩)
      · have HJV := Lib.hid hJv
        have HMV : Hid (Mx V) := Lib.hid (hkv (HMX.out.below HB3.out))
        clear hJv hkv
        gi_wp2
        gi_roundg (gk - 1)
        case rel => exact ⟨R', pre ++ [(⟨(x1, x2), hxs⟩ : Ln)], suf', rfl, HX2.out, HSN.out, HR1.out, HGG.out.1, HJV.out, HMV.out⟩
        case measure => have := HGG.out.2; omega
      · have HXV := Lib.hid hxv
        clear hxv
        gi_wp2
        refine bodyPost_ret (results_none rfl _ _ _) rfl ?_
        exact ⟨⟨_, rfl⟩, .inr ⟨_, ⟨suf', HX2.out.symm⟩, HXV.out⟩⟩
end Hx
end Go.Proofs.Ytfdhogaknlabkaa
