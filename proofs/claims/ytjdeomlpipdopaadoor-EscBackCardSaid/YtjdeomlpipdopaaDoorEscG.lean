/-
  The readers of references, of package esc: a reference; strings.Cut and strings.Contains at one byte.
-/
import Derived.Test.YtjdeomlpipdopaaDoorEscF
import Derived.Lib.IndexLaws
import Derived.RegionTactic
namespace Go.Proofs.YtjdeomlpipdopaaDoor
open Go.RowKit
namespace Hx
open Tx Nmb Es
set_option linter.unusedVariables false
theorem ix_cases (l : List UInt8) (c : UInt8) : (Lib.indexByte l c = -1 ∧ c ∉ l) ∨ ∃ i : Nat, Lib.indexByte l c = (i : Int) ∧ i < l.length ∧ l = l.take i ++ c :: l.drop (i + 1) ∧ c ∉ l.take i := by
  have hge := Lib.indexByte_ge l c
  by_cases h : Lib.indexByte l c = -1
  · left
    refine ⟨h, fun hc => ?_⟩
    obtain ⟨k, hk⟩ := List.mem_iff_getElem?.1 hc
    exact Lib.indexByte_none h k hk
  · right
    obtain ⟨i, hi⟩ : ∃ i : Nat, Lib.indexByte l c = (i : Int) := ⟨(Lib.indexByte l c).toNat, by omega⟩
    obtain ⟨h1, h2⟩ := Lib.indexByte_some hi
    obtain ⟨hlt, hc⟩ := List.getElem?_eq_some_iff.1 h1
    refine ⟨i, hi, hlt, ?_, fun hm => ?_⟩
    · conv => lhs; rw [← List.take_append_drop i l]
      rw [List.drop_eq_getElem_cons hlt, hc]
    · obtain ⟨k, hk⟩ := List.mem_iff_getElem?.1 hm
      rw [List.getElem?_take] at hk
      split at hk
      · exact h2 k (by assumption) hk
      · cases hk
/-- What Cut answers. -/
def CutAt (p r : ByteArray) (b : Bool) (w : World) (e : Ending) (w' : World) : Prop := e = .returned (.tuple #[.string p, .string r, .bool b]) ∧ Below w.heap.size w w'
theorem ib_38 (s : ByteArray) (q : Int) (w : World) (h : Lib.indexByte s.data.toList 38 = q) :
    Calls Tryd.prog 59 #[.string s, .int .u8 ↑((⟨#[38]⟩ : ByteArray)[0]'(by decide)).toNat] w fun e w' => e = .returned (.int .i64 q) ∧ w = w' := by
  refine (Tryd.stringslite_IndexByte s _ w).mono fun e w' ⟨h1, h2⟩ => ⟨?_, h2.symm⟩
  rw [h1, ← h]
  rfl
set_option maxRecDepth 100000 in
theorem index_38 (s : ByteArray) (q : Int) (w : World) (h : Lib.indexByte s.data.toList 38 = q) :
    Calls Tryd.prog 51 #[.string s, .string ⟨#[38]⟩] w fun e w' => e = .returned (.int .i64 q) ∧ w = w' := by
  have H := Lib.hid h
  cases hq : ([38] == s.toList) with
  | true =>
    obtain rfl : (0 : Int) = q := by
      have e : s.data.toList = [38] := by
        rw [beq_iff_eq, ByteArray.toList_eq] at hq
        exact hq.symm
      rw [← h, e]
      rfl
    clear h
    go_enter Tryd.func51, Tryd.ntmps51
    go_wp2_with fail
    go_ret
    exact ⟨rfl, rfl⟩
  | false =>
    clear h
    go_enter Tryd.func51, Tryd.ntmps51
    go_wp2_with (first
      | (go_at_call 59; (with_reducible refine (ib_38 s q w H.out).mono ?_); rintro e w1 ⟨rfl, rfl⟩)
      | fail)
    go_ret
    exact ⟨rfl, rfl⟩
theorem ib_59 (s : ByteArray) (q : Int) (w : World) (h : Lib.indexByte s.data.toList 59 = q) :
    Calls Tryd.prog 59 #[.string s, .int .u8 ↑((⟨#[59]⟩ : ByteArray)[0]'(by decide)).toNat] w fun e w' => e = .returned (.int .i64 q) ∧ w = w' := by
  refine (Tryd.stringslite_IndexByte s _ w).mono fun e w' ⟨h1, h2⟩ => ⟨?_, h2.symm⟩
  rw [h1, ← h]
  rfl
set_option maxRecDepth 100000 in
theorem index_59 (s : ByteArray) (q : Int) (w : World) (h : Lib.indexByte s.data.toList 59 = q) :
    Calls Tryd.prog 51 #[.string s, .string ⟨#[59]⟩] w fun e w' => e = .returned (.int .i64 q) ∧ w = w' := by
  have H := Lib.hid h
  cases hq : ([59] == s.toList) with
  | true =>
    obtain rfl : (0 : Int) = q := by
      have e : s.data.toList = [59] := by
        rw [beq_iff_eq, ByteArray.toList_eq] at hq
        exact hq.symm
      rw [← h, e]
      rfl
    clear h
    go_enter Tryd.func51, Tryd.ntmps51
    go_wp2_with fail
    go_ret
    exact ⟨rfl, rfl⟩
  | false =>
    clear h
    go_enter Tryd.func51, Tryd.ntmps51
    go_wp2_with (first
      | (go_at_call 59; (with_reducible refine (ib_59 s q w H.out).mono ?_); rintro e w1 ⟨rfl, rfl⟩)
      | fail)
    go_ret
    exact ⟨rfl, rfl⟩
theorem ib_60 (s : ByteArray) (q : Int) (w : World) (h : Lib.indexByte s.data.toList 60 = q) :
    Calls Tryd.prog 59 #[.string s, .int .u8 ↑((⟨#[60]⟩ : ByteArray)[0]'(by decide)).toNat] w fun e w' => e = .returned (.int .i64 q) ∧ w = w' := by
  refine (Tryd.stringslite_IndexByte s _ w).mono fun e w' ⟨h1, h2⟩ => ⟨?_, h2.symm⟩
  rw [h1, ← h]
  rfl
set_option maxRecDepth 100000 in
theorem index_60 (s : ByteArray) (q : Int) (w : World) (h : Lib.indexByte s.data.toList 60 = q) :
    Calls Tryd.prog 51 #[.string s, .string ⟨#[60]⟩] w fun e w' => e = .returned (.int .i64 q) ∧ w = w' := by
  have H := Lib.hid h
  cases hq : ([60] == s.toList) with
  | true =>
    obtain rfl : (0 : Int) = q := by
      have e : s.data.toList = [60] := by
        rw [beq_iff_eq, ByteArray.toList_eq] at hq
        exact hq.symm
      rw [← h, e]
      rfl
    clear h
    go_enter Tryd.func51, Tryd.ntmps51
    go_wp2_with fail
    go_ret
    exact ⟨rfl, rfl⟩
  | false =>
    clear h
    go_enter Tryd.func51, Tryd.ntmps51
    go_wp2_with (first
      | (go_at_call 59; (with_reducible refine (ib_60 s q w H.out).mono ?_); rintro e w1 ⟨rfl, rfl⟩)
      | fail)
    go_ret
    exact ⟨rfl, rfl⟩
set_option maxRecDepth 100000 in
theorem slcut_no_38 (s : ByteArray) (w : World) (h : Lib.indexByte s.data.toList 38 = -1) :
    Calls Tryd.prog 52 #[.string s, .string ⟨#[38]⟩] w (CutAt s ⟨#[]⟩ false w) := by
  have H := Lib.hid h
  clear h
  go_enter Tryd.func52, Tryd.ntmps52
  go_wp2_with (first
    | (go_at_call 51; (with_reducible refine (index_38 s (-1) w H.out).mono ?_); rintro e w1 ⟨rfl, rfl⟩)
    | fail)
  go_ret3
  exact ⟨rfl, Below.refl _ _⟩
set_option maxRecDepth 100000 in
theorem slcut_yes_38 (s p r : ByteArray) (i j n : Nat) (w : World) (hm : s.size ≤ 1000000) (h : Lib.indexByte s.data.toList 38 = (i : Int)) (hi : i < s.size) (hj : i + 1 = j) (hn : s.size = n) (hp : s.extract 0 i = p) (hr : s.extract j n = r) :
    Calls Tryd.prog 52 #[.string s, .string ⟨#[38]⟩] w (CutAt p r true w) := by
  have H := Lib.hid h
  have b1 : (0 : Int) ≤ (i : Int) ∧ (i : Int) ≤ (s.size : Int) := by omega
  have b2 : (0 : Int) ≤ (j : Int) ∧ (j : Int) ≤ (s.size : Int) := by omega
  have s1 : IntKind.i64.wrap ((i : Int) + 1) = (j : Int) := by rw [IntWalk.i64_in _ (by omega)]; omega
  have d1 : decide ((0 : Int) ≤ (i : Int)) = true := by simp
  rw [← hn] at hr
  clear h hm hi hj hn
  go_enter Tryd.func52, Tryd.ntmps52
  go_wp2_with (first
    | (go_at_call 51; (with_reducible refine (index_38 s (i : Int) w H.out).mono ?_); rintro e w1 ⟨rfl, rfl⟩)
    | fail)
  go_region
  go_wp2_with fail
  go_ret3
  exact ⟨rfl, (show Below w.heap.size w w.drew from ⟨rfl, rfl, rfl, Nat.le_refl _, fun _ _ => rfl⟩)⟩
set_option maxRecDepth 100000 in
theorem cut_no_38 (s : ByteArray) (w : World) (h : Lib.indexByte s.data.toList 38 = -1) :
    Calls Tryd.prog 41 #[.string s, .string ⟨#[38]⟩] w (CutAt s ⟨#[]⟩ false w) := by
  have H := Lib.hid h
  clear h
  go_enter Tryd.func41, Tryd.ntmps41
  go_wp2_with (first
    | (go_at_call 52; (with_reducible refine (slcut_no_38 s w H.out).mono ?_); rintro e w1 ⟨rfl, hb1⟩)
    | fail)
  go_ret3
  exact ⟨rfl, hb1⟩
set_option maxRecDepth 100000 in
theorem cut_yes_38 (s p r : ByteArray) (i j n : Nat) (w : World) (hm : s.size ≤ 1000000) (h : Lib.indexByte s.data.toList 38 = (i : Int)) (hi : i < s.size) (hj : i + 1 = j) (hn : s.size = n) (hp : s.extract 0 i = p) (hr : s.extract j n = r) :
    Calls Tryd.prog 41 #[.string s, .string ⟨#[38]⟩] w (CutAt p r true w) := by
  have H : Hid (Calls Tryd.prog 52 #[.string s, .string ⟨#[38]⟩] w (CutAt p r true w)) := slcut_yes_38 s p r i j n w hm h hi hj hn hp hr
  clear hm h hi hj hn hp hr
  go_enter Tryd.func41, Tryd.ntmps41
  go_wp2_with (first
    | (go_at_call 52; (with_reducible refine (H.out).mono ?_); rintro e w1 ⟨rfl, hb1⟩)
    | fail)
  go_ret3
  exact ⟨rfl, hb1⟩
set_option maxRecDepth 100000 in
theorem slcut_no_59 (s : ByteArray) (w : World) (h : Lib.indexByte s.data.toList 59 = -1) :
    Calls Tryd.prog 52 #[.string s, .string ⟨#[59]⟩] w (CutAt s ⟨#[]⟩ false w) := by
  have H := Lib.hid h
  clear h
  go_enter Tryd.func52, Tryd.ntmps52
  go_wp2_with (first
    | (go_at_call 51; (with_reducible refine (index_59 s (-1) w H.out).mono ?_); rintro e w1 ⟨rfl, rfl⟩)
    | fail)
  go_ret3
  exact ⟨rfl, Below.refl _ _⟩
set_option maxRecDepth 100000 in
theorem slcut_yes_59 (s p r : ByteArray) (i j n : Nat) (w : World) (hm : s.size ≤ 1000000) (h : Lib.indexByte s.data.toList 59 = (i : Int)) (hi : i < s.size) (hj : i + 1 = j) (hn : s.size = n) (hp : s.extract 0 i = p) (hr : s.extract j n = r) :
    Calls Tryd.prog 52 #[.string s, .string ⟨#[59]⟩] w (CutAt p r true w) := by
  have H := Lib.hid h
  have b1 : (0 : Int) ≤ (i : Int) ∧ (i : Int) ≤ (s.size : Int) := by omega
  have b2 : (0 : Int) ≤ (j : Int) ∧ (j : Int) ≤ (s.size : Int) := by omega
  have s1 : IntKind.i64.wrap ((i : Int) + 1) = (j : Int) := by rw [IntWalk.i64_in _ (by omega)]; omega
  have d1 : decide ((0 : Int) ≤ (i : Int)) = true := by simp
  rw [← hn] at hr
  clear h hm hi hj hn
  go_enter Tryd.func52, Tryd.ntmps52
  go_wp2_with (first
    | (go_at_call 51; (with_reducible refine (index_59 s (i : Int) w H.out).mono ?_); rintro e w1 ⟨rfl, rfl⟩)
    | fail)
  go_region
  go_wp2_with fail
  go_ret3
  exact ⟨rfl, (show Below w.heap.size w w.drew from ⟨rfl, rfl, rfl, Nat.le_refl _, fun _ _ => rfl⟩)⟩
set_option maxRecDepth 100000 in
theorem cut_no_59 (s : ByteArray) (w : World) (h : Lib.indexByte s.data.toList 59 = -1) :
    Calls Tryd.prog 41 #[.string s, .string ⟨#[59]⟩] w (CutAt s ⟨#[]⟩ false w) := by
  have H := Lib.hid h
  clear h
  go_enter Tryd.func41, Tryd.ntmps41
  go_wp2_with (first
    | (go_at_call 52; (with_reducible refine (slcut_no_59 s w H.out).mono ?_); rintro e w1 ⟨rfl, hb1⟩)
    | fail)
  go_ret3
  exact ⟨rfl, hb1⟩
set_option maxRecDepth 100000 in
theorem cut_yes_59 (s p r : ByteArray) (i j n : Nat) (w : World) (hm : s.size ≤ 1000000) (h : Lib.indexByte s.data.toList 59 = (i : Int)) (hi : i < s.size) (hj : i + 1 = j) (hn : s.size = n) (hp : s.extract 0 i = p) (hr : s.extract j n = r) :
    Calls Tryd.prog 41 #[.string s, .string ⟨#[59]⟩] w (CutAt p r true w) := by
  have H : Hid (Calls Tryd.prog 52 #[.string s, .string ⟨#[59]⟩] w (CutAt p r true w)) := slcut_yes_59 s p r i j n w hm h hi hj hn hp hr
  clear hm h hi hj hn hp hr
  go_enter Tryd.func41, Tryd.ntmps41
  go_wp2_with (first
    | (go_at_call 52; (with_reducible refine (H.out).mono ?_); rintro e w1 ⟨rfl, hb1⟩)
    | fail)
  go_ret3
  exact ⟨rfl, hb1⟩
set_option maxRecDepth 100000 in
theorem sindex_60 (s : ByteArray) (q : Int) (w : World) (h : Lib.indexByte s.data.toList 60 = q) :
    Calls Tryd.prog 40 #[.string s, .string ⟨#[60]⟩] w fun e w' => e = .returned (.int .i64 q) ∧ w = w' := by
  have H := Lib.hid h
  clear h
  go_enter Tryd.func40, Tryd.ntmps40
  go_wp2_with (first
    | (go_at_call 51; (with_reducible refine (index_60 s q w H.out).mono ?_); rintro e w1 ⟨rfl, rfl⟩)
    | fail)
  go_ret
  exact ⟨rfl, rfl⟩
set_option maxRecDepth 100000 in
theorem has_60 (s : ByteArray) (b : Bool) (w : World) (h : decide ((60 : UInt8) ∈ s.data.toList) = b) :
    Calls Tryd.prog 26 #[.string s, .string ⟨#[60]⟩] w fun e w' => e = .returned (.bool b) ∧ w = w' := by
  obtain ⟨q, hq⟩ : ∃ q, Lib.indexByte s.data.toList 60 = q := ⟨_, rfl⟩
  have hb : decide ((0 : Int) ≤ q) = b := by
    rw [← h]
    rcases ix_cases s.data.toList 60 with ⟨h1, h2⟩ | ⟨i, h1, h2, h3, h4⟩
    · have h0 : ¬ (0 : Int) ≤ q := by omega
      rw [decide_eq_false h2, decide_eq_false h0]
    · have h0 : (0 : Int) ≤ q := by omega
      have hin : (60 : UInt8) ∈ s.data.toList := by rw [h3]; simp
      rw [decide_eq_true hin, decide_eq_true h0]
  have H := Lib.hid hq
  clear hq h
  go_enter Tryd.func26, Tryd.ntmps26
  go_wp2_with (first
    | (go_at_call 40; (with_reducible refine (sindex_60 s q w H.out).mono ?_); rintro e w1 ⟨rfl, rfl⟩)
    | fail)
  go_ret
  exact ⟨rfl, rfl⟩
theorem rdz_one (w : World) (n : Int) (T : TypeId) : RdZ (w.alloc (.cells #[.int .i64 n] T)) (w.alloc (.cells #[.int .i64 n] T)).heap.size (some ⟨w.heap.size, 0, none⟩) [n] := by
  intro _
  refine ⟨w.heap.size, 0, rfl, by simp, fun k hk => ?_⟩
  have : k = 0 := by simpa using hk
  subst this
  simp [encZ]
set_option maxHeartbeats 2000000 in
set_option maxRecDepth 100000 in
theorem ref8 (M G : Nat) (s t : ByteArray) (e : Int) (w : World) (hm : s.size ≤ 1000000) (hr : Rdr M G w) (hE : Ev w) (h : refR s.data.toList = (t, e)) :
    Calls Tryd.prog 29 #[RdV M G, .string s] w fun e' w' => e' = .returned (.tuple #[.string t, .int .i64 e]) ∧ Below w.heap.size w w' := by
  obtain ⟨a, b, hp⟩ : ∃ a b, ptR s.data.toList = (a, b) := ⟨_, _, rfl⟩
  have HB : Hid (∀ o, Below w.heap.size w (w.alloc o)) := Lib.hid fun o => (Below.refl _ _).alloc (Nat.le_refl _) o
  have HEv : Hid (∀ W, Below w.heap.size w W → Ev W) := Lib.hid fun W hW => hE.to hW
  have HR : Hid (∀ W, Below w.heap.size w W → Rdr M G W) := Lib.hid fun W hW => hr.to hW
  have HM := Lib.hid hm
  rcases ref_steps _ a b hp with ⟨h0, h1⟩ | ⟨rfl, n, rfl, h1⟩
  · rw [h1] at h
    obtain ⟨rfl, rfl⟩ : (⟨#[]⟩ : ByteArray) = t ∧ (80 : Int) = e := by cases h; exact ⟨rfl, rfl⟩
    have HP := Lib.hid hp
    have d0 : (b == 0) = false := by simpa using h0
    have d1 : (b != 0) = true := by simpa using h0
    clear h h1 hp hr hE hm
    unfold RdV
    go_enter Tryd.func29, Tryd.ntmps29
    go_wp2_with (first
      | (go_at_call 44; refine (point8 M G s a b _ HM.out (HR.out _ (HB.out _)) (HEv.out _ (HB.out _)) HP.out).mono ?_; rintro e1 w1 ⟨rfl, hb1⟩)
      | fail)
    go_ret2
    exact ⟨rfl, bel_in (HB.out _) hb1 (HB.out _).size⟩
  · rw [h1] at h
    have HP := Lib.hid hp
    have hL := ofR_one n
    unfold numA at h
    by_cases hmay : may (n : Int) = true
    · rw [if_pos hmay] at h hL
      rw [h] at hL
      obtain ⟨-, rfl⟩ : True ∧ (0 : Int) = e := by cases h; exact ⟨trivial, rfl⟩
      have HL := Lib.hid hL
      clear h h1 hp hr hE hm hL hmay
      unfold RdV
      go_enter Tryd.func29, Tryd.ntmps29
      go_wp2_with (first
        | (go_at_call 44; refine (point8 M G s (n : Int) 0 _ HM.out (HR.out _ (HB.out _)) (HEv.out _ (HB.out _)) HP.out).mono ?_; rintro e1 w1 ⟨rfl, hb1⟩)
        | (go_at_call 19; refine (of5 (some ⟨w1.heap.size, 0, none⟩) 1 1 [(n : Int)] _ (rdz_one w1 (n : Int) _) rfl (by decide) _ _ HL.out).mono ?_; rintro e2 w2 ⟨rfl, hb2⟩)
        | fail)
      go_ret2
      refine ⟨rfl, bel_in ((bel_in (HB.out _) hb1 (HB.out _).size).alloc ?_ _) hb2 ?_⟩
      · exact (bel_in (HB.out _) hb1 (HB.out _).size).size
      · exact ((bel_in (HB.out _) hb1 (HB.out _).size).alloc (bel_in (HB.out _) hb1 (HB.out _).size).size _).size
    · rw [if_neg hmay] at h hL
      obtain ⟨rfl, rfl⟩ : (⟨#[]⟩ : ByteArray) = t ∧ (80 : Int) = e := by cases h; exact ⟨rfl, rfl⟩
      have HL := Lib.hid hL
      clear h h1 hp hr hE hm hL hmay
      unfold RdV
      go_enter Tryd.func29, Tryd.ntmps29
      go_wp2_with (first
        | (go_at_call 44; refine (point8 M G s (n : Int) 0 _ HM.out (HR.out _ (HB.out _)) (HEv.out _ (HB.out _)) HP.out).mono ?_; rintro e1 w1 ⟨rfl, hb1⟩)
        | (go_at_call 19; refine (of5 (some ⟨w1.heap.size, 0, none⟩) 1 1 [(n : Int)] _ (rdz_one w1 (n : Int) _) rfl (by decide) _ _ HL.out).mono ?_; rintro e2 w2 ⟨rfl, hb2⟩)
        | fail)
      go_ret2
      refine ⟨rfl, bel_in ((bel_in (HB.out _) hb1 (HB.out _).size).alloc ?_ _) hb2 ?_⟩
      · exact (bel_in (HB.out _) hb1 (HB.out _).size).size
      · exact ((bel_in (HB.out _) hb1 (HB.out _).size).alloc (bel_in (HB.out _) hb1 (HB.out _).size).size _).size
end Hx
end Go.Proofs.YtjdeomlpipdopaaDoor
