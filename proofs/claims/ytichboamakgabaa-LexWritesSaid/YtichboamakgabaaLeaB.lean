/-
  Package lex as it landed: what may begin and go on a name, names, full names; strings.Cut at one byte.
-/
import Derived.Test.YtichboamakgabaaLexS
import Derived.Test.YtichboamakgabaaLeaA
import Derived.Test.YtichboamakgabaaShelf
import Derived.Lib.IndexLaws
import Derived.RegionTactic
namespace Go.Proofs.Ytichboamakgabaa
open Go.RowKit
namespace Hx
open Lx
set_option linter.unusedVariables false
theorem cut_uniq {c : UInt8} : ∀ {a a' b b' : List UInt8}, a ++ c :: b = a' ++ c :: b' → c ∉ a → c ∉ a' → a = a' ∧ b = b' := by
  intro a
  induction a with
  | nil =>
    intro a' b b' h _ h2
    cases a' with
    | nil => injection h with _ h; exact ⟨rfl, h⟩
    | cons d a' => injection h with h _; exact absurd (by rw [h]; simp) h2
  | cons d a ih =>
    intro a' b b' h h1 h2
    cases a' with
    | nil => injection h with h _; exact absurd (by rw [← h]; simp) h1
    | cons d' a' =>
      injection h with e h
      rw [List.mem_cons, not_or] at h1 h2
      obtain ⟨q1, q2⟩ := ih h h1.2 h2.2
      exact ⟨by rw [e, q1], q2⟩
theorem xix_cases (l : List UInt8) (c : UInt8) : (Lib.indexByte l c = -1 ∧ c ∉ l) ∨ ∃ i : Nat, Lib.indexByte l c = (i : Int) ∧ i < l.length ∧ l = l.take i ++ c :: l.drop (i + 1) ∧ c ∉ l.take i := by
  have hge := Lib.indexByte_ge l c
  by_cases h : Lib.indexByte l c = -1
  · left
    refine ⟨h, fun hc => ?_⟩
    obtain ⟨k, hk⟩ := List.mem_iff_getElem?.1 hc
    exact Lib.indexByte_none h k hk
  · right
    obtain ⟨i, hi⟩ : ∃ i : Nat, Lib.indexByte l c = (i : Int) := ⟨(Lib.indexByte l c).toNat, by omega⟩
    obtain ⟨h1, h2⟩ := Lib.indexByte_some hi
    obtain ⟨hlt, hc⟩ := List.getElem?_eq_some_iff.1 h1
    refine ⟨i, hi, hlt, ?_, fun hm => ?_⟩
    · conv => lhs; rw [← List.take_append_drop i l]
      rw [List.drop_eq_getElem_cons hlt, hc]
    · obtain ⟨k, hk⟩ := List.mem_iff_getElem?.1 hm
      rw [List.getElem?_take] at hk
      split at hk
      · exact h2 k (by assumption) hk
      · cases hk
theorem cutC_some9 {l : List UInt8} (h : (58 : UInt8) ∈ l) : (cutC l).isSome = true := by
  induction l with
  | nil => cases h
  | cons c l ih =>
    show (if c = 58 then _ else _ : Option _).isSome = true
    split
    · rfl
    · rename_i hc
      rcases List.mem_cons.1 h with e | e
      · exact absurd e.symm hc
      · show (Option.map _ (cutC l)).isSome = true
        rw [Option.isSome_map]
        exact ih e
/-- What Cut answers. -/
def XCutAt (p r : ByteArray) (b : Bool) (w : World) (e : Ending) (w' : World) : Prop := e = .returned (.tuple #[.string p, .string r, .bool b]) ∧ Below w.heap.size w w'
theorem xib_58 (s : ByteArray) (q : Int) (w : World) (h : Lib.indexByte s.data.toList 58 = q) :
    Calls Try.prog 50 #[.string s, .int .u8 ↑((⟨#[58]⟩ : ByteArray)[0]'(by decide)).toNat] w fun e w' => e = .returned (.int .i64 q) ∧ w = w' := by
  refine (Try.stringslite_IndexByte s _ w).mono fun e w' ⟨h1, h2⟩ => ⟨?_, h2.symm⟩
  rw [h1, ← h]
  rfl
set_option maxRecDepth 100000 in
theorem xindex_58 (s : ByteArray) (q : Int) (w : World) (h : Lib.indexByte s.data.toList 58 = q) :
    Calls Try.prog 47 #[.string s, .string ⟨#[58]⟩] w fun e w' => e = .returned (.int .i64 q) ∧ w = w' := by
  have H := Lib.hid h
  cases hq : ([58] == s.toList) with
  | true =>
    obtain rfl : (0 : Int) = q := by
      have e : s.data.toList = [58] := by
        rw [beq_iff_eq, ByteArray.toList_eq] at hq
        exact hq.symm
      rw [← h, e]
      rfl
    clear h
    go_enter Try.func47, Try.ntmps47
    go_wp2_with fail
    go_ret
    exact ⟨rfl, rfl⟩
  | false =>
    clear h
    go_enter Try.func47, Try.ntmps47
    go_wp2_with (first
      | (go_at_call 50; (with_reducible refine (xib_58 s q w H.out).mono ?_); rintro e w1 ⟨rfl, rfl⟩)
      | fail)
    go_ret
    exact ⟨rfl, rfl⟩
set_option maxRecDepth 100000 in
theorem xslcut_no_58 (s : ByteArray) (w : World) (h : Lib.indexByte s.data.toList 58 = -1) :
    Calls Try.prog 37 #[.string s, .string ⟨#[58]⟩] w (XCutAt s ⟨#[]⟩ false w) := by
  have H := Lib.hid h
  clear h
  go_enter Try.func37, Try.ntmps37
  go_wp2_with (first
    | (go_at_call 47; (with_reducible refine (xindex_58 s (-1) w H.out).mono ?_); rintro e w1 ⟨rfl, rfl⟩)
    | fail)
  go_ret3
  exact ⟨rfl, Below.refl _ _⟩
set_option maxRecDepth 100000 in
theorem xslcut_yes_58 (s p r : ByteArray) (i j n : Nat) (w : World) (hm : s.size ≤ 1000000) (h : Lib.indexByte s.data.toList 58 = (i : Int)) (hi : i < s.size) (hj : i + 1 = j) (hn : s.size = n) (hp : s.extract 0 i = p) (hr : s.extract j n = r) :
    Calls Try.prog 37 #[.string s, .string ⟨#[58]⟩] w (XCutAt p r true w) := by
  have H := Lib.hid h
  have b1 : (0 : Int) ≤ (i : Int) ∧ (i : Int) ≤ (s.size : Int) := by omega
  have b2 : (0 : Int) ≤ (j : Int) ∧ (j : Int) ≤ (s.size : Int) := by omega
  have s1 : IntKind.i64.wrap ((i : Int) + 1) = (j : Int) := by rw [IntWalk.i64_in _ (by omega)]; omega
  have d1 : decide ((0 : Int) ≤ (i : Int)) = true := by simp
  rw [← hn] at hr
  clear h hm hi hj hn
  go_enter Try.func37, Try.ntmps37
  go_wp2_with (first
    | (go_at_call 47; (with_reducible refine (xindex_58 s (i : Int) w H.out).mono ?_); rintro e w1 ⟨rfl, rfl⟩)
    | fail)
  go_region
  go_wp2_with fail
  go_ret3
  exact ⟨rfl, (show Below w.heap.size w w.drew from ⟨rfl, rfl, rfl, Nat.le_refl _, fun _ _ => rfl⟩)⟩
set_option maxRecDepth 100000 in
theorem xcut_no_58 (s : ByteArray) (w : World) (h : Lib.indexByte s.data.toList 58 = -1) :
    Calls Try.prog 26 #[.string s, .string ⟨#[58]⟩] w (XCutAt s ⟨#[]⟩ false w) := by
  have H := Lib.hid h
  clear h
  go_enter Try.func26, Try.ntmps26
  go_wp2_with (first
    | (go_at_call 37; (with_reducible refine (xslcut_no_58 s w H.out).mono ?_); rintro e w1 ⟨rfl, hb1⟩)
    | fail)
  go_ret3
  exact ⟨rfl, hb1⟩
set_option maxRecDepth 100000 in
theorem xcut_yes_58 (s p r : ByteArray) (i j n : Nat) (w : World) (hm : s.size ≤ 1000000) (h : Lib.indexByte s.data.toList 58 = (i : Int)) (hi : i < s.size) (hj : i + 1 = j) (hn : s.size = n) (hp : s.extract 0 i = p) (hr : s.extract j n = r) :
    Calls Try.prog 26 #[.string s, .string ⟨#[58]⟩] w (XCutAt p r true w) := by
  have H : Hid (Calls Try.prog 37 #[.string s, .string ⟨#[58]⟩] w (XCutAt p r true w)) := xslcut_yes_58 s p r i j n w hm h hi hj hn hp hr
  clear hm h hi hj hn hp hr
  go_enter Try.func26, Try.ntmps26
  go_wp2_with (first
    | (go_at_call 37; (with_reducible refine (H.out).mono ?_); rintro e w1 ⟨rfl, hb1⟩)
    | fail)
  go_ret3
  exact ⟨rfl, hb1⟩
/-- .. over lists. -/
theorem xcut_58_none (s : ByteArray) (w : World) (h : (58 : UInt8) ∉ s.data.toList) :
    Calls Try.prog 26 #[.string s, .string ⟨#[58]⟩] w (XCutAt s ⟨#[]⟩ false w) := by
  rcases xix_cases s.data.toList 58 with ⟨h1, _⟩ | ⟨i, _, hi, e, _⟩
  · exact xcut_no_58 s w h1
  · exfalso; apply h; rw [e]; simp
theorem xcut_58_some (s p r : ByteArray) (w : World) (hm : s.size ≤ 1000000) (h : s.data.toList = p.data.toList ++ 58 :: r.data.toList) (hp : (58 : UInt8) ∉ p.data.toList) :
    Calls Try.prog 26 #[.string s, .string ⟨#[58]⟩] w (XCutAt p r true w) := by
  rcases xix_cases s.data.toList 58 with ⟨_, h1⟩ | ⟨i, h1, hi, e, hn⟩
  · exfalso; apply h1; rw [h]; simp
  · have hsz := ba_l s
    obtain ⟨e1, e2⟩ := cut_uniq (e.symm.trans h) hn hp
    refine xcut_yes_58 s p r i (i + 1) s.size w hm h1 (by rw [← hsz]; exact hi) rfl rfl ?_ ?_
    · apply ba_x
      rw [extract_l s 0 i (by rw [← hsz]; omega), List.drop_zero, Nat.sub_zero, e1]
    · apply ba_x
      rw [extract_l s (i + 1) s.size (Nat.le_refl _), List.take_of_length_le (by rw [List.length_drop, hsz]; omega), e2]
theorem xib_60 (s : ByteArray) (q : Int) (w : World) (h : Lib.indexByte s.data.toList 60 = q) :
    Calls Try.prog 50 #[.string s, .int .u8 ↑((⟨#[60]⟩ : ByteArray)[0]'(by decide)).toNat] w fun e w' => e = .returned (.int .i64 q) ∧ w = w' := by
  refine (Try.stringslite_IndexByte s _ w).mono fun e w' ⟨h1, h2⟩ => ⟨?_, h2.symm⟩
  rw [h1, ← h]
  rfl
set_option maxRecDepth 100000 in
theorem xindex_60 (s : ByteArray) (q : Int) (w : World) (h : Lib.indexByte s.data.toList 60 = q) :
    Calls Try.prog 47 #[.string s, .string ⟨#[60]⟩] w fun e w' => e = .returned (.int .i64 q) ∧ w = w' := by
  have H := Lib.hid h
  cases hq : ([60] == s.toList) with
  | true =>
    obtain rfl : (0 : Int) = q := by
      have e : s.data.toList = [60] := by
        rw [beq_iff_eq, ByteArray.toList_eq] at hq
        exact hq.symm
      rw [← h, e]
      rfl
    clear h
    go_enter Try.func47, Try.ntmps47
    go_wp2_with fail
    go_ret
    exact ⟨rfl, rfl⟩
  | false =>
    clear h
    go_enter Try.func47, Try.ntmps47
    go_wp2_with (first
      | (go_at_call 50; (with_reducible refine (xib_60 s q w H.out).mono ?_); rintro e w1 ⟨rfl, rfl⟩)
      | fail)
    go_ret
    exact ⟨rfl, rfl⟩
set_option maxRecDepth 100000 in
theorem xslcut_no_60 (s : ByteArray) (w : World) (h : Lib.indexByte s.data.toList 60 = -1) :
    Calls Try.prog 37 #[.string s, .string ⟨#[60]⟩] w (XCutAt s ⟨#[]⟩ false w) := by
  have H := Lib.hid h
  clear h
  go_enter Try.func37, Try.ntmps37
  go_wp2_with (first
    | (go_at_call 47; (with_reducible refine (xindex_60 s (-1) w H.out).mono ?_); rintro e w1 ⟨rfl, rfl⟩)
    | fail)
  go_ret3
  exact ⟨rfl, Below.refl _ _⟩
set_option maxRecDepth 100000 in
theorem xslcut_yes_60 (s p r : ByteArray) (i j n : Nat) (w : World) (hm : s.size ≤ 1000000) (h : Lib.indexByte s.data.toList 60 = (i : Int)) (hi : i < s.size) (hj : i + 1 = j) (hn : s.size = n) (hp : s.extract 0 i = p) (hr : s.extract j n = r) :
    Calls Try.prog 37 #[.string s, .string ⟨#[60]⟩] w (XCutAt p r true w) := by
  have H := Lib.hid h
  have b1 : (0 : Int) ≤ (i : Int) ∧ (i : Int) ≤ (s.size : Int) := by omega
  have b2 : (0 : Int) ≤ (j : Int) ∧ (j : Int) ≤ (s.size : Int) := by omega
  have s1 : IntKind.i64.wrap ((i : Int) + 1) = (j : Int) := by rw [IntWalk.i64_in _ (by omega)]; omega
  have d1 : decide ((0 : Int) ≤ (i : Int)) = true := by simp
  rw [← hn] at hr
  clear h hm hi hj hn
  go_enter Try.func37, Try.ntmps37
  go_wp2_with (first
    | (go_at_call 47; (with_reducible refine (xindex_60 s (i : Int) w H.out).mono ?_); rintro e w1 ⟨rfl, rfl⟩)
    | fail)
  go_region
  go_wp2_with fail
  go_ret3
  exact ⟨rfl, (show Below w.heap.size w w.drew from ⟨rfl, rfl, rfl, Nat.le_refl _, fun _ _ => rfl⟩)⟩
set_option maxRecDepth 100000 in
theorem xcut_no_60 (s : ByteArray) (w : World) (h : Lib.indexByte s.data.toList 60 = -1) :
    Calls Try.prog 26 #[.string s, .string ⟨#[60]⟩] w (XCutAt s ⟨#[]⟩ false w) := by
  have H := Lib.hid h
  clear h
  go_enter Try.func26, Try.ntmps26
  go_wp2_with (first
    | (go_at_call 37; (with_reducible refine (xslcut_no_60 s w H.out).mono ?_); rintro e w1 ⟨rfl, hb1⟩)
    | fail)
  go_ret3
  exact ⟨rfl, hb1⟩
set_option maxRecDepth 100000 in
theorem xcut_yes_60 (s p r : ByteArray) (i j n : Nat) (w : World) (hm : s.size ≤ 1000000) (h : Lib.indexByte s.data.toList 60 = (i : Int)) (hi : i < s.size) (hj : i + 1 = j) (hn : s.size = n) (hp : s.extract 0 i = p) (hr : s.extract j n = r) :
    Calls Try.prog 26 #[.string s, .string ⟨#[60]⟩] w (XCutAt p r true w) := by
  have H : Hid (Calls Try.prog 37 #[.string s, .string ⟨#[60]⟩] w (XCutAt p r true w)) := xslcut_yes_60 s p r i j n w hm h hi hj hn hp hr
  clear hm h hi hj hn hp hr
  go_enter Try.func26, Try.ntmps26
  go_wp2_with (first
    | (go_at_call 37; (with_reducible refine (H.out).mono ?_); rintro e w1 ⟨rfl, hb1⟩)
    | fail)
  go_ret3
  exact ⟨rfl, hb1⟩
/-- .. over lists. -/
theorem xcut_60_none (s : ByteArray) (w : World) (h : (60 : UInt8) ∉ s.data.toList) :
    Calls Try.prog 26 #[.string s, .string ⟨#[60]⟩] w (XCutAt s ⟨#[]⟩ false w) := by
  rcases xix_cases s.data.toList 60 with ⟨h1, _⟩ | ⟨i, _, hi, e, _⟩
  · exact xcut_no_60 s w h1
  · exfalso; apply h; rw [e]; simp
theorem xcut_60_some (s p r : ByteArray) (w : World) (hm : s.size ≤ 1000000) (h : s.data.toList = p.data.toList ++ 60 :: r.data.toList) (hp : (60 : UInt8) ∉ p.data.toList) :
    Calls Try.prog 26 #[.string s, .string ⟨#[60]⟩] w (XCutAt p r true w) := by
  rcases xix_cases s.data.toList 60 with ⟨_, h1⟩ | ⟨i, h1, hi, e, hn⟩
  · exfalso; apply h1; rw [h]; simp
  · have hsz := ba_l s
    obtain ⟨e1, e2⟩ := cut_uniq (e.symm.trans h) hn hp
    refine xcut_yes_60 s p r i (i + 1) s.size w hm h1 (by rw [← hsz]; exact hi) rfl rfl ?_ ?_
    · apply ba_x
      rw [extract_l s 0 i (by rw [← hsz]; omega), List.drop_zero, Nat.sub_zero, e1]
    · apply ba_x
      rw [extract_l s (i + 1) s.size (Nat.le_refl _), List.take_of_length_le (by rw [List.length_drop, hsz]; omega), e2]
theorem xib_34 (s : ByteArray) (q : Int) (w : World) (h : Lib.indexByte s.data.toList 34 = q) :
    Calls Try.prog 50 #[.string s, .int .u8 ↑((⟨#[34]⟩ : ByteArray)[0]'(by decide)).toNat] w fun e w' => e = .returned (.int .i64 q) ∧ w = w' := by
  refine (Try.stringslite_IndexByte s _ w).mono fun e w' ⟨h1, h2⟩ => ⟨?_, h2.symm⟩
  rw [h1, ← h]
  rfl
set_option maxRecDepth 100000 in
theorem xindex_34 (s : ByteArray) (q : Int) (w : World) (h : Lib.indexByte s.data.toList 34 = q) :
    Calls Try.prog 47 #[.string s, .string ⟨#[34]⟩] w fun e w' => e = .returned (.int .i64 q) ∧ w = w' := by
  have H := Lib.hid h
  cases hq : ([34] == s.toList) with
  | true =>
    obtain rfl : (0 : Int) = q := by
      have e : s.data.toList = [34] := by
        rw [beq_iff_eq, ByteArray.toList_eq] at hq
        exact hq.symm
      rw [← h, e]
      rfl
    clear h
    go_enter Try.func47, Try.ntmps47
    go_wp2_with fail
    go_ret
    exact ⟨rfl, rfl⟩
  | false =>
    clear h
    go_enter Try.func47, Try.ntmps47
    go_wp2_with (first
      | (go_at_call 50; (with_reducible refine (xib_34 s q w H.out).mono ?_); rintro e w1 ⟨rfl, rfl⟩)
      | fail)
    go_ret
    exact ⟨rfl, rfl⟩
set_option maxRecDepth 100000 in
theorem xslcut_no_34 (s : ByteArray) (w : World) (h : Lib.indexByte s.data.toList 34 = -1) :
    Calls Try.prog 37 #[.string s, .string ⟨#[34]⟩] w (XCutAt s ⟨#[]⟩ false w) := by
  have H := Lib.hid h
  clear h
  go_enter Try.func37, Try.ntmps37
  go_wp2_with (first
    | (go_at_call 47; (with_reducible refine (xindex_34 s (-1) w H.out).mono ?_); rintro e w1 ⟨rfl, rfl⟩)
    | fail)
  go_ret3
  exact ⟨rfl, Below.refl _ _⟩
set_option maxRecDepth 100000 in
theorem xslcut_yes_34 (s p r : ByteArray) (i j n : Nat) (w : World) (hm : s.size ≤ 1000000) (h : Lib.indexByte s.data.toList 34 = (i : Int)) (hi : i < s.size) (hj : i + 1 = j) (hn : s.size = n) (hp : s.extract 0 i = p) (hr : s.extract j n = r) :
    Calls Try.prog 37 #[.string s, .string ⟨#[34]⟩] w (XCutAt p r true w) := by
  have H := Lib.hid h
  have b1 : (0 : Int) ≤ (i : Int) ∧ (i : Int) ≤ (s.size : Int) := by omega
  have b2 : (0 : Int) ≤ (j : Int) ∧ (j : Int) ≤ (s.size : Int) := by omega
  have s1 : IntKind.i64.wrap ((i : Int) + 1) = (j : Int) := by rw [IntWalk.i64_in _ (by omega)]; omega
  have d1 : decide ((0 : Int) ≤ (i : Int)) = true := by simp
  rw [← hn] at hr
  clear h hm hi hj hn
  go_enter Try.func37, Try.ntmps37
  go_wp2_with (first
    | (go_at_call 47; (with_reducible refine (xindex_34 s (i : Int) w H.out).mono ?_); rintro e w1 ⟨rfl, rfl⟩)
    | fail)
  go_region
  go_wp2_with fail
  go_ret3
  exact ⟨rfl, (show Below w.heap.size w w.drew from ⟨rfl, rfl, rfl, Nat.le_refl _, fun _ _ => rfl⟩)⟩
set_option maxRecDepth 100000 in
theorem xcut_no_34 (s : ByteArray) (w : World) (h : Lib.indexByte s.data.toList 34 = -1) :
    Calls Try.prog 26 #[.string s, .string ⟨#[34]⟩] w (XCutAt s ⟨#[]⟩ false w) := by
  have H := Lib.hid h
  clear h
  go_enter Try.func26, Try.ntmps26
  go_wp2_with (first
    | (go_at_call 37; (with_reducible refine (xslcut_no_34 s w H.out).mono ?_); rintro e w1 ⟨rfl, hb1⟩)
    | fail)
  go_ret3
  exact ⟨rfl, hb1⟩
set_option maxRecDepth 100000 in
theorem xcut_yes_34 (s p r : ByteArray) (i j n : Nat) (w : World) (hm : s.size ≤ 1000000) (h : Lib.indexByte s.data.toList 34 = (i : Int)) (hi : i < s.size) (hj : i + 1 = j) (hn : s.size = n) (hp : s.extract 0 i = p) (hr : s.extract j n = r) :
    Calls Try.prog 26 #[.string s, .string ⟨#[34]⟩] w (XCutAt p r true w) := by
  have H : Hid (Calls Try.prog 37 #[.string s, .string ⟨#[34]⟩] w (XCutAt p r true w)) := xslcut_yes_34 s p r i j n w hm h hi hj hn hp hr
  clear hm h hi hj hn hp hr
  go_enter Try.func26, Try.ntmps26
  go_wp2_with (first
    | (go_at_call 37; (with_reducible refine (H.out).mono ?_); rintro e w1 ⟨rfl, hb1⟩)
    | fail)
  go_ret3
  exact ⟨rfl, hb1⟩
/-- .. over lists. -/
theorem xcut_34_none (s : ByteArray) (w : World) (h : (34 : UInt8) ∉ s.data.toList) :
    Calls Try.prog 26 #[.string s, .string ⟨#[34]⟩] w (XCutAt s ⟨#[]⟩ false w) := by
  rcases xix_cases s.data.toList 34 with ⟨h1, _⟩ | ⟨i, _, hi, e, _⟩
  · exact xcut_no_34 s w h1
  · exfalso; apply h; rw [e]; simp
theorem xcut_34_some (s p r : ByteArray) (w : World) (hm : s.size ≤ 1000000) (h : s.data.toList = p.data.toList ++ 34 :: r.data.toList) (hp : (34 : UInt8) ∉ p.data.toList) :
    Calls Try.prog 26 #[.string s, .string ⟨#[34]⟩] w (XCutAt p r true w) := by
  rcases xix_cases s.data.toList 34 with ⟨_, h1⟩ | ⟨i, h1, hi, e, hn⟩
  · exfalso; apply h1; rw [h]; simp
  · have hsz := ba_l s
    obtain ⟨e1, e2⟩ := cut_uniq (e.symm.trans h) hn hp
    refine xcut_yes_34 s p r i (i + 1) s.size w hm h1 (by rw [← hsz]; exact hi) rfl rfl ?_ ?_
    · apply ba_x
      rw [extract_l s 0 i (by rw [← hsz]; omega), List.drop_zero, Nat.sub_zero, e1]
    · apply ba_x
      rw [extract_l s (i + 1) s.size (Nat.le_refl _), List.take_of_length_le (by rw [List.length_drop, hsz]; omega), e2]
theorem xib_39 (s : ByteArray) (q : Int) (w : World) (h : Lib.indexByte s.data.toList 39 = q) :
    Calls Try.prog 50 #[.string s, .int .u8 ↑((⟨#[39]⟩ : ByteArray)[0]'(by decide)).toNat] w fun e w' => e = .returned (.int .i64 q) ∧ w = w' := by
  refine (Try.stringslite_IndexByte s _ w).mono fun e w' ⟨h1, h2⟩ => ⟨?_, h2.symm⟩
  rw [h1, ← h]
  rfl
set_option maxRecDepth 100000 in
theorem xindex_39 (s : ByteArray) (q : Int) (w : World) (h : Lib.indexByte s.data.toList 39 = q) :
    Calls Try.prog 47 #[.string s, .string ⟨#[39]⟩] w fun e w' => e = .returned (.int .i64 q) ∧ w = w' := by
  have H := Lib.hid h
  cases hq : ([39] == s.toList) with
  | true =>
    obtain rfl : (0 : Int) = q := by
      have e : s.data.toList = [39] := by
        rw [beq_iff_eq, ByteArray.toList_eq] at hq
        exact hq.symm
      rw [← h, e]
      rfl
    clear h
    go_enter Try.func47, Try.ntmps47
    go_wp2_with fail
    go_ret
    exact ⟨rfl, rfl⟩
  | false =>
    clear h
    go_enter Try.func47, Try.ntmps47
    go_wp2_with (first
      | (go_at_call 50; (with_reducible refine (xib_39 s q w H.out).mono ?_); rintro e w1 ⟨rfl, rfl⟩)
      | fail)
    go_ret
    exact ⟨rfl, rfl⟩
set_option maxRecDepth 100000 in
theorem xslcut_no_39 (s : ByteArray) (w : World) (h : Lib.indexByte s.data.toList 39 = -1) :
    Calls Try.prog 37 #[.string s, .string ⟨#[39]⟩] w (XCutAt s ⟨#[]⟩ false w) := by
  have H := Lib.hid h
  clear h
  go_enter Try.func37, Try.ntmps37
  go_wp2_with (first
    | (go_at_call 47; (with_reducible refine (xindex_39 s (-1) w H.out).mono ?_); rintro e w1 ⟨rfl, rfl⟩)
    | fail)
  go_ret3
  exact ⟨rfl, Below.refl _ _⟩
set_option maxRecDepth 100000 in
theorem xslcut_yes_39 (s p r : ByteArray) (i j n : Nat) (w : World) (hm : s.size ≤ 1000000) (h : Lib.indexByte s.data.toList 39 = (i : Int)) (hi : i < s.size) (hj : i + 1 = j) (hn : s.size = n) (hp : s.extract 0 i = p) (hr : s.extract j n = r) :
    Calls Try.prog 37 #[.string s, .string ⟨#[39]⟩] w (XCutAt p r true w) := by
  have H := Lib.hid h
  have b1 : (0 : Int) ≤ (i : Int) ∧ (i : Int) ≤ (s.size : Int) := by omega
  have b2 : (0 : Int) ≤ (j : Int) ∧ (j : Int) ≤ (s.size : Int) := by omega
  have s1 : IntKind.i64.wrap ((i : Int) + 1) = (j : Int) := by rw [IntWalk.i64_in _ (by omega)]; omega
  have d1 : decide ((0 : Int) ≤ (i : Int)) = true := by simp
  rw [← hn] at hr
  clear h hm hi hj hn
  go_enter Try.func37, Try.ntmps37
  go_wp2_with (first
    | (go_at_call 47; (with_reducible refine (xindex_39 s (i : Int) w H.out).mono ?_); rintro e w1 ⟨rfl, rfl⟩)
    | fail)
  go_region
  go_wp2_with fail
  go_ret3
  exact ⟨rfl, (show Below w.heap.size w w.drew from ⟨rfl, rfl, rfl, Nat.le_refl _, fun _ _ => rfl⟩)⟩
set_option maxRecDepth 100000 in
theorem xcut_no_39 (s : ByteArray) (w : World) (h : Lib.indexByte s.data.toList 39 = -1) :
    Calls Try.prog 26 #[.string s, .string ⟨#[39]⟩] w (XCutAt s ⟨#[]⟩ false w) := by
  have H := Lib.hid h
  clear h
  go_enter Try.func26, Try.ntmps26
  go_wp2_with (first
    | (go_at_call 37; (with_reducible refine (xslcut_no_39 s w H.out).mono ?_); rintro e w1 ⟨rfl, hb1⟩)
    | fail)
  go_ret3
  exact ⟨rfl, hb1⟩
set_option maxRecDepth 100000 in
theorem xcut_yes_39 (s p r : ByteArray) (i j n : Nat) (w : World) (hm : s.size ≤ 1000000) (h : Lib.indexByte s.data.toList 39 = (i : Int)) (hi : i < s.size) (hj : i + 1 = j) (hn : s.size = n) (hp : s.extract 0 i = p) (hr : s.extract j n = r) :
    Calls Try.prog 26 #[.string s, .string ⟨#[39]⟩] w (XCutAt p r true w) := by
  have H : Hid (Calls Try.prog 37 #[.string s, .string ⟨#[39]⟩] w (XCutAt p r true w)) := xslcut_yes_39 s p r i j n w hm h hi hj hn hp hr
  clear hm h hi hj hn hp hr
  go_enter Try.func26, Try.ntmps26
  go_wp2_with (first
    | (go_at_call 37; (with_reducible refine (H.out).mono ?_); rintro e w1 ⟨rfl, hb1⟩)
    | fail)
  go_ret3
  exact ⟨rfl, hb1⟩
/-- .. over lists. -/
theorem xcut_39_none (s : ByteArray) (w : World) (h : (39 : UInt8) ∉ s.data.toList) :
    Calls Try.prog 26 #[.string s, .string ⟨#[39]⟩] w (XCutAt s ⟨#[]⟩ false w) := by
  rcases xix_cases s.data.toList 39 with ⟨h1, _⟩ | ⟨i, _, hi, e, _⟩
  · exact xcut_no_39 s w h1
  · exfalso; apply h; rw [e]; simp
theorem xcut_39_some (s p r : ByteArray) (w : World) (hm : s.size ≤ 1000000) (h : s.data.toList = p.data.toList ++ 39 :: r.data.toList) (hp : (39 : UInt8) ∉ p.data.toList) :
    Calls Try.prog 26 #[.string s, .string ⟨#[39]⟩] w (XCutAt p r true w) := by
  rcases xix_cases s.data.toList 39 with ⟨_, h1⟩ | ⟨i, h1, hi, e, hn⟩
  · exfalso; apply h1; rw [h]; simp
  · have hsz := ba_l s
    obtain ⟨e1, e2⟩ := cut_uniq (e.symm.trans h) hn hp
    refine xcut_yes_39 s p r i (i + 1) s.size w hm h1 (by rw [← hsz]; exact hi) rfl rfl ?_ ?_
    · apply ba_x
      rw [extract_l s 0 i (by rw [← hsz]; omega), List.drop_zero, Nat.sub_zero, e1]
    · apply ba_x
      rw [extract_l s (i + 1) s.size (Nat.le_refl _), List.take_of_length_le (by rw [List.length_drop, hsz]; omega), e2]
set_option maxHeartbeats 1000000 in
set_option maxRecDepth 100000 in
theorem begins9 (c : UInt8) (w : World) (b : Bool) (h : ltr c = b) :
    Calls Try.prog 38 #[.int .u8 c.toNat] w fun e w' => e = .returned (.bool b) ∧ w = w' := by
  have hlim := c.toNat_lt
  rcases (show (0 ≤ c.toNat ∧ c.toNat ≤ 64) ∨ (65 ≤ c.toNat ∧ c.toNat ≤ 90) ∨ (91 ≤ c.toNat ∧ c.toNat ≤ 94) ∨ (95 ≤ c.toNat ∧ c.toNat ≤ 95) ∨ (96 ≤ c.toNat ∧ c.toNat ≤ 96) ∨ (97 ≤ c.toNat ∧ c.toNat ≤ 122) ∨ (123 ≤ c.toNat ∧ c.toNat ≤ 255) by omega) with ⟨q1, q2⟩ | ⟨q1, q2⟩ | ⟨q1, q2⟩ | ⟨q1, q2⟩ | ⟨q1, q2⟩ | ⟨q1, q2⟩ | ⟨q1, q2⟩
  · obtain rfl : false = b := by
      rw [← h]
      unfold ltr
      have e95 : (c == 95) = false := by rw [Bool.eq_iff_iff]; simp [← UInt8.toNat_inj]; omega
      rw [e95]
      simp <;> omega
    clear h
    have feq95 : ((c.toNat : Int) == 95) = false := by simp; omega
    have fge97 : decide ((97 : Int) ≤ (c.toNat : Int)) = false := decide_eq_false (by omega)
    have fle122 : decide ((c.toNat : Int) ≤ 122) = true := decide_eq_true (by omega)
    have fge65 : decide ((65 : Int) ≤ (c.toNat : Int)) = false := decide_eq_false (by omega)
    have fle90 : decide ((c.toNat : Int) ≤ 90) = true := decide_eq_true (by omega)
    go_enter Try.func38, Try.ntmps38
    go_wp2_with fail
    go_ret
    exact ⟨rfl, rfl⟩
  · obtain rfl : true = b := by
      rw [← h]
      unfold ltr
      have e95 : (c == 95) = false := by rw [Bool.eq_iff_iff]; simp [← UInt8.toNat_inj]; omega
      rw [e95]
      simp <;> omega
    clear h
    have feq95 : ((c.toNat : Int) == 95) = false := by simp; omega
    have fge97 : decide ((97 : Int) ≤ (c.toNat : Int)) = false := decide_eq_false (by omega)
    have fle122 : decide ((c.toNat : Int) ≤ 122) = true := decide_eq_true (by omega)
    have fge65 : decide ((65 : Int) ≤ (c.toNat : Int)) = true := decide_eq_true (by omega)
    have fle90 : decide ((c.toNat : Int) ≤ 90) = true := decide_eq_true (by omega)
    go_enter Try.func38, Try.ntmps38
    go_wp2_with fail
    go_ret
    exact ⟨rfl, rfl⟩
  · obtain rfl : false = b := by
      rw [← h]
      unfold ltr
      have e95 : (c == 95) = false := by rw [Bool.eq_iff_iff]; simp [← UInt8.toNat_inj]; omega
      rw [e95]
      simp <;> omega
    clear h
    have feq95 : ((c.toNat : Int) == 95) = false := by simp; omega
    have fge97 : decide ((97 : Int) ≤ (c.toNat : Int)) = false := decide_eq_false (by omega)
    have fle122 : decide ((c.toNat : Int) ≤ 122) = true := decide_eq_true (by omega)
    have fge65 : decide ((65 : Int) ≤ (c.toNat : Int)) = true := decide_eq_true (by omega)
    have fle90 : decide ((c.toNat : Int) ≤ 90) = false := decide_eq_false (by omega)
    go_enter Try.func38, Try.ntmps38
    go_wp2_with fail
    go_ret
    exact ⟨rfl, rfl⟩
  · obtain rfl : true = b := by
      rw [← h]
      unfold ltr
      have e95 : (c == 95) = true := by rw [Bool.eq_iff_iff]; simp [← UInt8.toNat_inj]; omega
      rw [e95]
      simp <;> omega
    clear h
    have feq95 : ((c.toNat : Int) == 95) = true := by simp; omega
    have fge97 : decide ((97 : Int) ≤ (c.toNat : Int)) = false := decide_eq_false (by omega)
    have fle122 : decide ((c.toNat : Int) ≤ 122) = true := decide_eq_true (by omega)
    have fge65 : decide ((65 : Int) ≤ (c.toNat : Int)) = true := decide_eq_true (by omega)
    have fle90 : decide ((c.toNat : Int) ≤ 90) = false := decide_eq_false (by omega)
    go_enter Try.func38, Try.ntmps38
    go_wp2_with fail
    go_ret
    exact ⟨rfl, rfl⟩
  · obtain rfl : false = b := by
      rw [← h]
      unfold ltr
      have e95 : (c == 95) = false := by rw [Bool.eq_iff_iff]; simp [← UInt8.toNat_inj]; omega
      rw [e95]
      simp <;> omega
    clear h
    have feq95 : ((c.toNat : Int) == 95) = false := by simp; omega
    have fge97 : decide ((97 : Int) ≤ (c.toNat : Int)) = false := decide_eq_false (by omega)
    have fle122 : decide ((c.toNat : Int) ≤ 122) = true := decide_eq_true (by omega)
    have fge65 : decide ((65 : Int) ≤ (c.toNat : Int)) = true := decide_eq_true (by omega)
    have fle90 : decide ((c.toNat : Int) ≤ 90) = false := decide_eq_false (by omega)
    go_enter Try.func38, Try.ntmps38
    go_wp2_with fail
    go_ret
    exact ⟨rfl, rfl⟩
  · obtain rfl : true = b := by
      rw [← h]
      unfold ltr
      have e95 : (c == 95) = false := by rw [Bool.eq_iff_iff]; simp [← UInt8.toNat_inj]; omega
      rw [e95]
      simp <;> omega
    clear h
    have feq95 : ((c.toNat : Int) == 95) = false := by simp; omega
    have fge97 : decide ((97 : Int) ≤ (c.toNat : Int)) = true := decide_eq_true (by omega)
    have fle122 : decide ((c.toNat : Int) ≤ 122) = true := decide_eq_true (by omega)
    have fge65 : decide ((65 : Int) ≤ (c.toNat : Int)) = true := decide_eq_true (by omega)
    have fle90 : decide ((c.toNat : Int) ≤ 90) = false := decide_eq_false (by omega)
    go_enter Try.func38, Try.ntmps38
    go_wp2_with fail
    go_ret
    exact ⟨rfl, rfl⟩
  · obtain rfl : false = b := by
      rw [← h]
      unfold ltr
      have e95 : (c == 95) = false := by rw [Bool.eq_iff_iff]; simp [← UInt8.toNat_inj]; omega
      rw [e95]
      simp <;> omega
    clear h
    have feq95 : ((c.toNat : Int) == 95) = false := by simp; omega
    have fge97 : decide ((97 : Int) ≤ (c.toNat : Int)) = true := decide_eq_true (by omega)
    have fle122 : decide ((c.toNat : Int) ≤ 122) = false := decide_eq_false (by omega)
    have fge65 : decide ((65 : Int) ≤ (c.toNat : Int)) = true := decide_eq_true (by omega)
    have fle90 : decide ((c.toNat : Int) ≤ 90) = false := decide_eq_false (by omega)
    go_enter Try.func38, Try.ntmps38
    go_wp2_with fail
    go_ret
    exact ⟨rfl, rfl⟩
theorem nch_not9 {c : UInt8} (h : ltr c = false) : nch c = (decide (48 ≤ c.toNat) && decide (c.toNat ≤ 57) || c == 46 || c == 45) := by unfold nch; rw [h]; simp
set_option maxHeartbeats 2000000 in
set_option maxRecDepth 100000 in
theorem goesOn9 (c : UInt8) (w : World) (b : Bool) (h : nch c = b) :
    Calls Try.prog 39 #[.int .u8 c.toNat] w fun e w' => e = .returned (.bool b) ∧ w = w' := by
  cases hl : ltr c with
  | true =>
    have HL := Lib.hid hl
    obtain rfl : true = b := by rw [← h, nch_of_ltr hl]
    clear h hl
    go_enter Try.func39, Try.ntmps39
    go_wp2_with (first
      | (go_at_call 38; (with_reducible refine (begins9 c _ true HL.out).mono ?_); rintro e1 w1 ⟨rfl, rfl⟩)
      | fail)
    go_ret
    exact ⟨rfl, rfl⟩
  | false =>
    have HL := Lib.hid hl
    rw [nch_not9 hl] at h
    clear hl
    have hlim := c.toNat_lt
    rcases (show (0 ≤ c.toNat ∧ c.toNat ≤ 44) ∨ (45 ≤ c.toNat ∧ c.toNat ≤ 45) ∨ (46 ≤ c.toNat ∧ c.toNat ≤ 46) ∨ (47 ≤ c.toNat ∧ c.toNat ≤ 47) ∨ (48 ≤ c.toNat ∧ c.toNat ≤ 57) ∨ (58 ≤ c.toNat ∧ c.toNat ≤ 255) by omega) with ⟨q1, q2⟩ | ⟨q1, q2⟩ | ⟨q1, q2⟩ | ⟨q1, q2⟩ | ⟨q1, q2⟩ | ⟨q1, q2⟩
    · obtain rfl : false = b := by
        rw [← h]
        have e45 : (c == 45) = false := by rw [Bool.eq_iff_iff]; simp [← UInt8.toNat_inj]; omega
        have e46 : (c == 46) = false := by rw [Bool.eq_iff_iff]; simp [← UInt8.toNat_inj]; omega
        rw [e45, e46]
        simp <;> omega
      clear h
      have feq46 : ((c.toNat : Int) == 46) = false := by simp; omega
      have feq45 : ((c.toNat : Int) == 45) = false := by simp; omega
      have fge48 : decide ((48 : Int) ≤ (c.toNat : Int)) = false := decide_eq_false (by omega)
      have fle57 : decide ((c.toNat : Int) ≤ 57) = true := decide_eq_true (by omega)
      go_enter Try.func39, Try.ntmps39
      go_wp2_with (first
        | (go_at_call 38; (with_reducible refine (begins9 c _ false HL.out).mono ?_); rintro e1 w1 ⟨rfl, rfl⟩)
        | fail)
      go_ret
      exact ⟨rfl, rfl⟩
    · obtain rfl : true = b := by
        rw [← h]
        have e45 : (c == 45) = true := by rw [Bool.eq_iff_iff]; simp [← UInt8.toNat_inj]; omega
        have e46 : (c == 46) = false := by rw [Bool.eq_iff_iff]; simp [← UInt8.toNat_inj]; omega
        rw [e45, e46]
        simp <;> omega
      clear h
      have feq46 : ((c.toNat : Int) == 46) = false := by simp; omega
      have feq45 : ((c.toNat : Int) == 45) = true := by simp; omega
      have fge48 : decide ((48 : Int) ≤ (c.toNat : Int)) = false := decide_eq_false (by omega)
      have fle57 : decide ((c.toNat : Int) ≤ 57) = true := decide_eq_true (by omega)
      go_enter Try.func39, Try.ntmps39
      go_wp2_with (first
        | (go_at_call 38; (with_reducible refine (begins9 c _ false HL.out).mono ?_); rintro e1 w1 ⟨rfl, rfl⟩)
        | fail)
      go_ret
      exact ⟨rfl, rfl⟩
    · obtain rfl : true = b := by
        rw [← h]
        have e45 : (c == 45) = false := by rw [Bool.eq_iff_iff]; simp [← UInt8.toNat_inj]; omega
        have e46 : (c == 46) = true := by rw [Bool.eq_iff_iff]; simp [← UInt8.toNat_inj]; omega
        rw [e45, e46]
        simp <;> omega
      clear h
      have feq46 : ((c.toNat : Int) == 46) = true := by simp; omega
      have feq45 : ((c.toNat : Int) == 45) = false := by simp; omega
      have fge48 : decide ((48 : Int) ≤ (c.toNat : Int)) = false := decide_eq_false (by omega)
      have fle57 : decide ((c.toNat : Int) ≤ 57) = true := decide_eq_true (by omega)
      go_enter Try.func39, Try.ntmps39
      go_wp2_with (first
        | (go_at_call 38; (with_reducible refine (begins9 c _ false HL.out).mono ?_); rintro e1 w1 ⟨rfl, rfl⟩)
        | fail)
      go_ret
      exact ⟨rfl, rfl⟩
    · obtain rfl : false = b := by
        rw [← h]
        have e45 : (c == 45) = false := by rw [Bool.eq_iff_iff]; simp [← UInt8.toNat_inj]; omega
        have e46 : (c == 46) = false := by rw [Bool.eq_iff_iff]; simp [← UInt8.toNat_inj]; omega
        rw [e45, e46]
        simp <;> omega
      clear h
      have feq46 : ((c.toNat : Int) == 46) = false := by simp; omega
      have feq45 : ((c.toNat : Int) == 45) = false := by simp; omega
      have fge48 : decide ((48 : Int) ≤ (c.toNat : Int)) = false := decide_eq_false (by omega)
      have fle57 : decide ((c.toNat : Int) ≤ 57) = true := decide_eq_true (by omega)
      go_enter Try.func39, Try.ntmps39
      go_wp2_with (first
        | (go_at_call 38; (with_reducible refine (begins9 c _ false HL.out).mono ?_); rintro e1 w1 ⟨rfl, rfl⟩)
        | fail)
      go_ret
      exact ⟨rfl, rfl⟩
    · obtain rfl : true = b := by
        rw [← h]
        have e45 : (c == 45) = false := by rw [Bool.eq_iff_iff]; simp [← UInt8.toNat_inj]; omega
        have e46 : (c == 46) = false := by rw [Bool.eq_iff_iff]; simp [← UInt8.toNat_inj]; omega
        rw [e45, e46]
        simp <;> omega
      clear h
      have feq46 : ((c.toNat : Int) == 46) = false := by simp; omega
      have feq45 : ((c.toNat : Int) == 45) = false := by simp; omega
      have fge48 : decide ((48 : Int) ≤ (c.toNat : Int)) = true := decide_eq_true (by omega)
      have fle57 : decide ((c.toNat : Int) ≤ 57) = true := decide_eq_true (by omega)
      go_enter Try.func39, Try.ntmps39
      go_wp2_with (first
        | (go_at_call 38; (with_reducible refine (begins9 c _ false HL.out).mono ?_); rintro e1 w1 ⟨rfl, rfl⟩)
        | fail)
      go_ret
      exact ⟨rfl, rfl⟩
    · obtain rfl : false = b := by
        rw [← h]
        have e45 : (c == 45) = false := by rw [Bool.eq_iff_iff]; simp [← UInt8.toNat_inj]; omega
        have e46 : (c == 46) = false := by rw [Bool.eq_iff_iff]; simp [← UInt8.toNat_inj]; omega
        rw [e45, e46]
        simp <;> omega
      clear h
      have feq46 : ((c.toNat : Int) == 46) = false := by simp; omega
      have feq45 : ((c.toNat : Int) == 45) = false := by simp; omega
      have fge48 : decide ((48 : Int) ≤ (c.toNat : Int)) = true := decide_eq_true (by omega)
      have fle57 : decide ((c.toNat : Int) ≤ 57) = false := decide_eq_false (by omega)
      go_enter Try.func39, Try.ntmps39
      go_wp2_with (first
        | (go_at_call 38; (with_reducible refine (begins9 c _ false HL.out).mono ?_); rintro e1 w1 ⟨rfl, rfl⟩)
        | fail)
      go_ret
      exact ⟨rfl, rfl⟩
theorem nameL_first {l : List UInt8} (h : 0 < l.length) : nameL l = (ltr (l[0]'h) && l.all nch) := by
  cases l with
  | nil => simp at h
  | cons c r =>
    show (ltr c && r.all nch) = (ltr c && (nch c && r.all nch))
    cases hc : ltr c
    · rfl
    · rw [nch_of_ltr hc]; rfl
set_option maxHeartbeats 4000000 in
set_option maxRecDepth 100000 in
theorem name9q (s : ByteArray) (w : World) (hm : s.size ≤ 1000000) (b : Bool) (h : nameL s.data.toList = b) :
    Calls Try.prog 27 #[.string s] w fun e w' => e = .returned (.bool b) ∧ w = w' := by
  have HM := Lib.hid hm
  by_cases h0 : s.size = 0
  · obtain rfl : false = b := by rw [← h, List.eq_nil_of_length_eq_zero ((ba_l s).trans h0)]; rfl
    have hem : s.toList.isEmpty = true := by rw [empty_l]; simp [h0]
    clear h hm h0
    go_enter Try.func27, Try.ntmps27
    go_wp2_with fail
    go_ret
    exact ⟨rfl, rfl⟩
  · have hem : s.toList.isEmpty = false := by rw [empty_l]; simp [h0]
    have hp : 0 < s.size := by omega
    have hpl : 0 < s.data.toList.length := by rw [ba_l]; exact hp
    have b0 : (0 : Int) < (s.size : Int) := by omega
    rw [nameL_first hpl, at_l s 0 hp] at h
    obtain ⟨c, hc⟩ : ∃ c, s[0]'hp = c := ⟨_, rfl⟩
    have hca : ∀ h, s[0]'h = c := fun _ => hc
    rw [hc] at h
    cases hl : ltr c with
    | false =>
      have HL := Lib.hid hl
      obtain rfl : false = b := by rw [← h, hl]; rfl
      clear h hm h0 hl hc hpl
      go_enter Try.func27, Try.ntmps27
      go_wp2_with (first
        | (go_at_call 38; (with_reducible refine (begins9 c _ false HL.out).mono ?_); rintro e1 w1 ⟨rfl, rfl⟩)
        | fail)
      go_ret
      exact ⟨rfl, rfl⟩
    | true =>
      have HL := Lib.hid hl
      have HB : Hid (s.data.toList.all nch = b) := Lib.hid (by rw [← h, hl]; rfl)
      clear h hm h0 hl hc hpl
      go_enter Try.func27, Try.ntmps27
      go_wp2_with (first
        | (go_at_call 38; (with_reducible refine (begins9 c _ true HL.out).mono ?_); rintro e1 w1 ⟨rfl, rfl⟩)
        | fail)
      go_loopw [14] (fun i wr => ∃ k : Nat, k ≤ s.size ∧ i = .int .i64 k ∧ (s.data.toList.take k).all nch = true ∧ w = wr) (fun i _ => s.size - (intOf i).toNat)
      case atStart => exact ⟨0, Nat.zero_le _, rfl, rfl, by first | rfl | trivial⟩
      case round =>
        obtain ⟨k, hk, rfl, hn, rfl⟩ := hrel
        have hs := HM.out
        by_cases hlt : k < s.size
        · obtain ⟨d, hd⟩ : ∃ d, s[k]'hlt = d := ⟨_, rfl⟩
          have hda : ∀ h, s[k]'h = d := fun _ => hd
          have hkl : k < s.data.toList.length := by rw [ba_l]; exact hlt
          have hdk : s.data.toList[k]'hkl = d := (at_l s k hlt).trans hd
          have bk : (0 : Int) ≤ (k : Int) ∧ (k : Int) < (s.size : Int) := by omega
          cases hg : nch d with
          | false =>
            have HD := Lib.hid hg
            obtain rfl : false = b := by
              rw [← HB.out]
              refine (List.all_eq_false.2 ⟨d, hdk ▸ List.getElem_mem hkl, ?_⟩).symm
              rw [hg]; decide
            clear hg hd hdk hn
            go_wp2_with (first
              | (go_at_call 39; (with_reducible refine (goesOn9 d _ false HD.out).mono ?_); rintro e2 w2 ⟨rfl, rfl⟩)
              | fail)
            go_ret
            exact ⟨rfl, rfl⟩
          | true =>
            have HD := Lib.hid hg
            have HV : Hid ((s.data.toList.take (k + 1)).all nch = true) := Lib.hid (by
              rw [List.take_succ_eq_append_getElem hkl, List.all_append, hn, hdk]
              simp [hg])
            clear hg hd hdk hn
            go_wp2_with (first
              | (go_at_call 39; (with_reducible refine (goesOn9 d _ true HD.out).mono ?_); rintro e2 w2 ⟨rfl, rfl⟩)
              | fail)
            go_roundw
            case rel => exact ⟨k + 1, hlt, by go_num, HV.out, by first | rfl | trivial⟩
            case measure => simp [intOf]; omega
        · obtain rfl : k = s.size := by omega
          obtain rfl : true = b := by
            rw [← HB.out]
            rw [List.take_of_length_le (by rw [ba_l]; omega)] at hn
            exact hn.symm
          clear hn
          go_wp2_with fail
          go_ret
          exact ⟨rfl, rfl⟩
set_option maxHeartbeats 4000000 in
set_option maxRecDepth 100000 in
theorem full9q (s : ByteArray) (w : World) (hm : s.size ≤ 1000000) (b : Bool) (h : fullL s.data.toList = b) :
    Calls Try.prog 17 #[.string s] w fun e w' => e = .returned (.bool b) ∧ Below w.heap.size w w' := by
  unfold fullL at h
  have HMs := Lib.hid hm
  cases hc : cutC s.data.toList with
  | none =>
    rw [hc] at h
    have HC : Hid (Calls Try.prog 26 #[.string s, .string ⟨#[58]⟩] w (XCutAt s ⟨#[]⟩ false w)) := Lib.hid (xcut_58_none s w fun hx => by
      have := cutC_some9 hx
      rw [hc] at this
      cases this)
    have Hs : Hid (nameL s.data.toList = b) := Lib.hid h
    clear hc h hm
    cases b with
    | false =>
      go_enter Try.func17, Try.ntmps17
      go_wp2_with (first
        | (go_at_call 26; (with_reducible refine (HC.out).mono ?_); rintro e1 w1 ⟨rfl, hb1⟩)
        | (go_at_call 27; (with_reducible refine (name9q s w1 HMs.out false Hs.out).mono ?_); rintro e2 w2 ⟨rfl, rfl⟩)
        | fail)
      go_ret
      exact ⟨rfl, hb1⟩
    | true =>
      go_enter Try.func17, Try.ntmps17
      go_wp2_with (first
        | (go_at_call 26; (with_reducible refine (HC.out).mono ?_); rintro e1 w1 ⟨rfl, hb1⟩)
        | (go_at_call 27; (with_reducible refine (name9q s w1 HMs.out true Hs.out).mono ?_); rintro e2 w2 ⟨rfl, rfl⟩)
        | fail)
      go_ret
      exact ⟨rfl, hb1⟩
  | some p =>
    obtain ⟨pa, pb⟩ := p
    rw [hc] at h
    dsimp only at h
    obtain ⟨e1, e2⟩ := cutC_some hc
    obtain ⟨x, hx⟩ : ∃ x : ByteArray, x.data.toList = pa := ⟨⟨pa.toArray⟩, by simp⟩
    obtain ⟨y, hy⟩ : ∃ y : ByteArray, y.data.toList = pb := ⟨⟨pb.toArray⟩, by simp⟩
    subst hx hy
    have hl := congrArg List.length e1
    rw [List.length_append, List.length_cons, ba_l, ba_l, ba_l] at hl
    have HMx : Hid (x.size ≤ 1000000) := Lib.hid (by omega)
    have HMy : Hid (y.size ≤ 1000000) := Lib.hid (by omega)
    have HC : Hid (Calls Try.prog 26 #[.string s, .string ⟨#[58]⟩] w (XCutAt x y true w)) := Lib.hid (xcut_58_some s x y w hm e1 e2)
    cases h1 : nameL x.data.toList with
    | false =>
      have Hx := Lib.hid h1
      obtain rfl : false = b := by rw [← h, h1]; simp
      clear hc h hm e1 e2 hl h1
      go_enter Try.func17, Try.ntmps17
      go_wp2_with (first
        | (go_at_call 26; (with_reducible refine (HC.out).mono ?_); rintro e1 w1 ⟨rfl, hb1⟩)
        | (go_at_call 27; (with_reducible refine (name9q x w1 HMx.out false Hx.out).mono ?_); rintro e2 w2 ⟨rfl, rfl⟩)
        | fail)
      go_ret
      exact ⟨rfl, hb1⟩
    | true =>
      have Hx := Lib.hid h1
      have Hy : Hid (nameL y.data.toList = b) := Lib.hid (by rw [← h, h1]; simp)
      clear hc h hm e1 e2 hl h1
      cases b with
      | false =>
        have tok1 : True := trivial
        go_enter Try.func17, Try.ntmps17
        go_wp2_with (first
          | (go_at_call 26; (with_reducible refine (HC.out).mono ?_); rintro e1 w1 ⟨rfl, hb1⟩)
          | (have _t := tok1; go_at_call 27; (with_reducible refine (name9q x w1 HMx.out true Hx.out).mono ?_); rintro e2 w2 ⟨rfl, rfl⟩; clear tok1)
          | (go_at_call 27; (with_reducible refine (name9q y w1 HMy.out false Hy.out).mono ?_); rintro e3 w3 ⟨rfl, rfl⟩)
          | fail)
        go_ret
        exact ⟨rfl, hb1⟩
      | true =>
        have tok1 : True := trivial
        go_enter Try.func17, Try.ntmps17
        go_wp2_with (first
          | (go_at_call 26; (with_reducible refine (HC.out).mono ?_); rintro e1 w1 ⟨rfl, hb1⟩)
          | (have _t := tok1; go_at_call 27; (with_reducible refine (name9q x w1 HMx.out true Hx.out).mono ?_); rintro e2 w2 ⟨rfl, rfl⟩; clear tok1)
          | (go_at_call 27; (with_reducible refine (name9q y w1 HMy.out true Hy.out).mono ?_); rintro e3 w3 ⟨rfl, rfl⟩)
          | fail)
        go_ret
        exact ⟨rfl, hb1⟩
end Hx
end Go.Proofs.Ytichboamakgabaa
