/-
  The contract of strings.Cut at a comma.
-/
import Derived.Test.YtncklfmpnbdmcaaAscQ
import Derived.Lib.IndexLaws
import Derived.RegionTactic
namespace Go.Proofs.Ytncklfmpnbdmcaa
open Go.RowKit
namespace Hx
open As
set_option linter.unusedVariables false
/-- Where the first comma stands: so many bytes ahead of it, or none. -/
def comma (l : List UInt8) : Int := Lib.indexByte l 44
theorem comma_cut (l : List UInt8) : (comma l = -1 ∧ cut l = [l]) ∨ ∃ i : Nat, comma l = (i : Int) ∧ i < l.length ∧ cut l = l.take i :: cut (l.drop (i + 1)) := by
  have hge := Lib.indexByte_ge l 44
  by_cases h : Lib.indexByte l 44 = -1
  · left
    refine ⟨h, ?_⟩
    have hn : noComma l := by
      intro c hc e
      obtain ⟨k, hk⟩ := List.mem_iff_getElem?.1 hc
      refine Lib.indexByte_none h k ?_
      rw [hk]
      congr 1
      exact UInt8.toNat_inj.1 e
    have := cutF_one l [] hn
    rw [List.nil_append] at this
    exact this
  · right
    obtain ⟨i, hi⟩ : ∃ i : Nat, Lib.indexByte l 44 = (i : Int) := ⟨(Lib.indexByte l 44).toNat, by omega⟩
    obtain ⟨h1, h2⟩ := Lib.indexByte_some hi
    obtain ⟨hlt, hc⟩ := List.getElem?_eq_some_iff.1 h1
    refine ⟨i, hi, hlt, ?_⟩
    have e : l = l.take i ++ 44 :: l.drop (i + 1) := by
      conv => lhs; rw [← List.take_append_drop i l, drop_next h1]
    have hn : noComma (l.take i) := by
      intro c hc e
      obtain ⟨k, hk⟩ := List.mem_iff_getElem?.1 hc
      rw [List.getElem?_take] at hk
      split at hk
      · refine h2 k (by assumption) ?_
        rw [hk]
        congr 1
        exact UInt8.toNat_inj.1 e
      · cases hk
    conv => lhs; rw [e]
    unfold cut
    rw [cutF_app, cutF_one _ _ hn]
    rfl
theorem ib7 (s : ByteArray) (q : Int) (w : World) (h : comma s.data.toList = q) :
    Calls Try.prog 37 #[.string s, .int .u8 ↑((⟨#[44]⟩ : ByteArray)[0]'(by decide)).toNat] w fun e w' => e = .returned (.int .i64 q) ∧ w = w' := by
  refine (Try.stringslite_IndexByte s _ w).mono fun e w' ⟨h1, h2⟩ => ⟨?_, h2.symm⟩
  rw [h1, ← h]
  rfl
set_option maxRecDepth 100000 in
theorem index7 (s : ByteArray) (q : Int) (w : World) (h : comma s.data.toList = q) :
    Calls Try.prog 36 #[.string s, .string ⟨#[44]⟩] w fun e w' => e = .returned (.int .i64 q) ∧ w = w' := by
  have H := Lib.hid h
  cases hq : ([44] == s.toList) with
  | true =>
    obtain rfl : (0 : Int) = q := by
      have e : s.data.toList = [44] := by
        rw [beq_iff_eq, ByteArray.toList_eq] at hq
        exact hq.symm
      rw [← h, e]
      rfl
    clear h
    go_enter Try.func36, Try.ntmps36
    go_wp2_with fail
    go_ret
    exact ⟨rfl, rfl⟩
  | false =>
    clear h
    go_enter Try.func36, Try.ntmps36
    go_wp2_with (first
      | (go_at_call 37; (with_reducible refine (ib7 s q w H.out).mono ?_); rintro e w1 ⟨rfl, rfl⟩)
      | fail)
    go_ret
    exact ⟨rfl, rfl⟩
/-- What Cut answers. -/
def CutTo (p r : ByteArray) (b : Bool) (w : World) (e : Ending) (w' : World) : Prop := e = .returned (.tuple #[.string p, .string r, .bool b]) ∧ Below w.heap.size w w'
set_option maxRecDepth 100000 in
theorem slcut_no (s : ByteArray) (w : World) (h : comma s.data.toList = -1) :
    Calls Try.prog 34 #[.string s, .string ⟨#[44]⟩] w (CutTo s ⟨#[]⟩ false w) := by
  have H := Lib.hid h
  clear h
  go_enter Try.func34, Try.ntmps34
  go_wp2_with (first
    | (go_at_call 36; (with_reducible refine (index7 s (-1) w H.out).mono ?_); rintro e w1 ⟨rfl, rfl⟩)
    | fail)
  go_ret3
  exact ⟨rfl, Below.refl _ _⟩
set_option maxRecDepth 100000 in
theorem slcut_yes (s p r : ByteArray) (i j n : Nat) (w : World) (hm : s.size ≤ 1000000) (h : comma s.data.toList = (i : Int)) (hi : i < s.size) (hj : i + 1 = j) (hn : s.size = n) (hp : s.extract 0 i = p) (hr : s.extract j n = r) :
    Calls Try.prog 34 #[.string s, .string ⟨#[44]⟩] w (CutTo p r true w) := by
  have H := Lib.hid h
  have b1 : (0 : Int) ≤ (i : Int) ∧ (i : Int) ≤ (s.size : Int) := by omega
  have b2 : (0 : Int) ≤ (j : Int) ∧ (j : Int) ≤ (s.size : Int) := by omega
  have s1 : IntKind.i64.wrap ((i : Int) + 1) = (j : Int) := by rw [IntWalk.i64_in _ (by omega)]; omega
  have d1 : decide ((0 : Int) ≤ (i : Int)) = true := by simp
  rw [← hn] at hr
  clear h hm hi hj hn
  go_enter Try.func34, Try.ntmps34
  go_wp2_with (first
    | (go_at_call 36; (with_reducible refine (index7 s (i : Int) w H.out).mono ?_); rintro e w1 ⟨rfl, rfl⟩)
    | fail)
  go_region
  go_wp2_with fail
  go_ret3
  exact ⟨rfl, (show Below w.heap.size w w.drew from ⟨rfl, rfl, rfl, Nat.le_refl _, fun _ _ => rfl⟩)⟩
set_option maxRecDepth 100000 in
theorem cut_no (s : ByteArray) (w : World) (h : comma s.data.toList = -1) :
    Calls Try.prog 32 #[.string s, .string ⟨#[44]⟩] w (CutTo s ⟨#[]⟩ false w) := by
  have H := Lib.hid h
  clear h
  go_enter Try.func32, Try.ntmps32
  go_wp2_with (first
    | (go_at_call 34; (with_reducible refine (slcut_no s w H.out).mono ?_); rintro e w1 ⟨rfl, hb1⟩)
    | fail)
  go_ret3
  exact ⟨rfl, hb1⟩
set_option maxRecDepth 100000 in
theorem cut_yes (s p r : ByteArray) (i j n : Nat) (w : World) (hm : s.size ≤ 1000000) (h : comma s.data.toList = (i : Int)) (hi : i < s.size) (hj : i + 1 = j) (hn : s.size = n) (hp : s.extract 0 i = p) (hr : s.extract j n = r) :
    Calls Try.prog 32 #[.string s, .string ⟨#[44]⟩] w (CutTo p r true w) := by
  have H : Hid (Calls Try.prog 34 #[.string s, .string ⟨#[44]⟩] w (CutTo p r true w)) := slcut_yes s p r i j n w hm h hi hj hn hp hr
  clear hm h hi hj hn hp hr
  go_enter Try.func32, Try.ntmps32
  go_wp2_with (first
    | (go_at_call 34; (with_reducible refine (H.out).mono ?_); rintro e w1 ⟨rfl, hb1⟩)
    | fail)
  go_ret3
  exact ⟨rfl, hb1⟩
end Hx
end Go.Proofs.Ytncklfmpnbdmcaa
