/-
  Package line as it landed: cuts at one byte, digits, numbers' texts.
-/
import Derived.Test.YtagngohemlkkoaaDoorAscL
import Derived.Test.YtagngohemlkkoaaDoorLinA
import Derived.Lib.IndexLaws
import Derived.RegionTactic
import Derived.Lib.ItoaMem
import Derived.Lib.AppendIntMem
namespace Go.Proofs.YtagngohemlkkoaaDoor
open Go.RowKit
namespace Hx
open As Ln Nmb
set_option linter.unusedVariables false
theorem lcut_uniq {c : UInt8} : ∀ {a a' b b' : List UInt8}, a ++ c :: b = a' ++ c :: b' → c ∉ a → c ∉ a' → a = a' ∧ b = b' := by
  intro a
  induction a with
  | nil =>
    intro a' b b' h _ h2
    cases a' with
    | nil => injection h with _ h; exact ⟨rfl, h⟩
    | cons d a' => injection h with h _; exact absurd (by rw [h]; simp) h2
  | cons d a ih =>
    intro a' b b' h h1 h2
    cases a' with
    | nil => injection h with h _; exact absurd (by rw [← h]; simp) h1
    | cons d' a' =>
      injection h with e h
      rw [List.mem_cons, not_or] at h1 h2
      obtain ⟨q1, q2⟩ := ih h h1.2 h2.2
      exact ⟨by rw [e, q1], q2⟩
theorem lix_cases (l : List UInt8) (c : UInt8) : (Lib.indexByte l c = -1 ∧ c ∉ l) ∨ ∃ i : Nat, Lib.indexByte l c = (i : Int) ∧ i < l.length ∧ l = l.take i ++ c :: l.drop (i + 1) ∧ c ∉ l.take i := by
  have hge := Lib.indexByte_ge l c
  by_cases h : Lib.indexByte l c = -1
  · left
    refine ⟨h, fun hc => ?_⟩
    obtain ⟨k, hk⟩ := List.mem_iff_getElem?.1 hc
    exact Lib.indexByte_none h k hk
  · right
    obtain ⟨i, hi⟩ : ∃ i : Nat, Lib.indexByte l c = (i : Int) := ⟨(Lib.indexByte l c).toNat, by omega⟩
    obtain ⟨h1, h2⟩ := Lib.indexByte_some hi
    obtain ⟨hlt, hc⟩ := List.getElem?_eq_some_iff.1 h1
    refine ⟨i, hi, hlt, ?_, fun hm => ?_⟩
    · conv => lhs; rw [← List.take_append_drop i l]
      rw [List.drop_eq_getElem_cons hlt, hc]
    · obtain ⟨k, hk⟩ := List.mem_iff_getElem?.1 hm
      rw [List.getElem?_take] at hk
      split at hk
      · exact h2 k (by assumption) hk
      · cases hk
/-- What Cut answers. -/
def LCutAt (p r : ByteArray) (b : Bool) (w : World) (e : Ending) (w' : World) : Prop := e = .returned (.tuple #[.string p, .string r, .bool b]) ∧ Below w.heap.size w w'
theorem lib_32 (s : ByteArray) (q : Int) (w : World) (h : Lib.indexByte s.data.toList 32 = q) :
    Calls Tryd.prog 65 #[.string s, .int .u8 ↑((⟨#[32]⟩ : ByteArray)[0]'(by decide)).toNat] w fun e w' => e = .returned (.int .i64 q) ∧ w = w' := by
  refine (Tryd.stringslite_IndexByte s _ w).mono fun e w' ⟨h1, h2⟩ => ⟨?_, h2.symm⟩
  rw [h1, ← h]
  rfl
set_option maxRecDepth 100000 in
theorem lindex_32 (s : ByteArray) (q : Int) (w : World) (h : Lib.indexByte s.data.toList 32 = q) :
    Calls Tryd.prog 57 #[.string s, .string ⟨#[32]⟩] w fun e w' => e = .returned (.int .i64 q) ∧ w = w' := by
  have H := Lib.hid h
  cases hq : ([32] == s.toList) with
  | true =>
    obtain rfl : (0 : Int) = q := by
      have e : s.data.toList = [32] := by
        rw [beq_iff_eq, ByteArray.toList_eq] at hq
        exact hq.symm
      rw [← h, e]
      rfl
    clear h
    go_enter Tryd.func57, Tryd.ntmps57
    go_wp2_with fail
    go_ret
    exact ⟨rfl, rfl⟩
  | false =>
    clear h
    go_enter Tryd.func57, Tryd.ntmps57
    go_wp2_with (first
      | (go_at_call 65; (with_reducible refine (lib_32 s q w H.out).mono ?_); rintro e w1 ⟨rfl, rfl⟩)
      | fail)
    go_ret
    exact ⟨rfl, rfl⟩
set_option maxRecDepth 100000 in
theorem lslcut_no_32 (s : ByteArray) (w : World) (h : Lib.indexByte s.data.toList 32 = -1) :
    Calls Tryd.prog 46 #[.string s, .string ⟨#[32]⟩] w (LCutAt s ⟨#[]⟩ false w) := by
  have H := Lib.hid h
  clear h
  go_enter Tryd.func46, Tryd.ntmps46
  go_wp2_with (first
    | (go_at_call 57; (with_reducible refine (lindex_32 s (-1) w H.out).mono ?_); rintro e w1 ⟨rfl, rfl⟩)
    | fail)
  go_ret3
  exact ⟨rfl, Below.refl _ _⟩
set_option maxRecDepth 100000 in
theorem lslcut_yes_32 (s p r : ByteArray) (i j n : Nat) (w : World) (hm : s.size ≤ 1000000) (h : Lib.indexByte s.data.toList 32 = (i : Int)) (hi : i < s.size) (hj : i + 1 = j) (hn : s.size = n) (hp : s.extract 0 i = p) (hr : s.extract j n = r) :
    Calls Tryd.prog 46 #[.string s, .string ⟨#[32]⟩] w (LCutAt p r true w) := by
  have H := Lib.hid h
  have b1 : (0 : Int) ≤ (i : Int) ∧ (i : Int) ≤ (s.size : Int) := by omega
  have b2 : (0 : Int) ≤ (j : Int) ∧ (j : Int) ≤ (s.size : Int) := by omega
  have s1 : IntKind.i64.wrap ((i : Int) + 1) = (j : Int) := by rw [IntWalk.i64_in _ (by omega)]; omega
  have d1 : decide ((0 : Int) ≤ (i : Int)) = true := by simp
  rw [← hn] at hr
  clear h hm hi hj hn
  go_enter Tryd.func46, Tryd.ntmps46
  go_wp2_with (first
    | (go_at_call 57; (with_reducible refine (lindex_32 s (i : Int) w H.out).mono ?_); rintro e w1 ⟨rfl, rfl⟩)
    | fail)
  go_region
  go_wp2_with fail
  go_ret3
  exact ⟨rfl, (show Below w.heap.size w w.drew from ⟨rfl, rfl, rfl, Nat.le_refl _, fun _ _ => rfl⟩)⟩
set_option maxRecDepth 100000 in
theorem lcut_no_32 (s : ByteArray) (w : World) (h : Lib.indexByte s.data.toList 32 = -1) :
    Calls Tryd.prog 36 #[.string s, .string ⟨#[32]⟩] w (LCutAt s ⟨#[]⟩ false w) := by
  have H := Lib.hid h
  clear h
  go_enter Tryd.func36, Tryd.ntmps36
  go_wp2_with (first
    | (go_at_call 46; (with_reducible refine (lslcut_no_32 s w H.out).mono ?_); rintro e w1 ⟨rfl, hb1⟩)
    | fail)
  go_ret3
  exact ⟨rfl, hb1⟩
set_option maxRecDepth 100000 in
theorem lcut_yes_32 (s p r : ByteArray) (i j n : Nat) (w : World) (hm : s.size ≤ 1000000) (h : Lib.indexByte s.data.toList 32 = (i : Int)) (hi : i < s.size) (hj : i + 1 = j) (hn : s.size = n) (hp : s.extract 0 i = p) (hr : s.extract j n = r) :
    Calls Tryd.prog 36 #[.string s, .string ⟨#[32]⟩] w (LCutAt p r true w) := by
  have H : Hid (Calls Tryd.prog 46 #[.string s, .string ⟨#[32]⟩] w (LCutAt p r true w)) := lslcut_yes_32 s p r i j n w hm h hi hj hn hp hr
  clear hm h hi hj hn hp hr
  go_enter Tryd.func36, Tryd.ntmps36
  go_wp2_with (first
    | (go_at_call 46; (with_reducible refine (H.out).mono ?_); rintro e w1 ⟨rfl, hb1⟩)
    | fail)
  go_ret3
  exact ⟨rfl, hb1⟩
/-- .. over lists. -/
theorem lcut_32_none (s : ByteArray) (w : World) (h : (32 : UInt8) ∉ s.data.toList) :
    Calls Tryd.prog 36 #[.string s, .string ⟨#[32]⟩] w (LCutAt s ⟨#[]⟩ false w) := by
  rcases lix_cases s.data.toList 32 with ⟨h1, _⟩ | ⟨i, _, hi, e, _⟩
  · exact lcut_no_32 s w h1
  · exfalso; apply h; rw [e]; simp
theorem lcut_32_some (s p r : ByteArray) (w : World) (hm : s.size ≤ 1000000) (h : s.data.toList = p.data.toList ++ 32 :: r.data.toList) (hp : (32 : UInt8) ∉ p.data.toList) :
    Calls Tryd.prog 36 #[.string s, .string ⟨#[32]⟩] w (LCutAt p r true w) := by
  rcases lix_cases s.data.toList 32 with ⟨_, h1⟩ | ⟨i, h1, hi, e, hn⟩
  · exfalso; apply h1; rw [h]; simp
  · have hsz := ba_len7 s
    obtain ⟨e1, e2⟩ := lcut_uniq (e.symm.trans h) hn hp
    refine lcut_yes_32 s p r i (i + 1) s.size w hm h1 (by rw [← hsz]; exact hi) rfl rfl ?_ ?_
    · apply ba_ext7
      rw [Lib.extract_data s 0 i, List.drop_zero, Nat.sub_zero, e1]
    · apply ba_ext7
      rw [Lib.extract_data s (i + 1) s.size, List.take_of_length_le (by rw [List.length_drop, hsz]; omega), e2]
theorem lib_46 (s : ByteArray) (q : Int) (w : World) (h : Lib.indexByte s.data.toList 46 = q) :
    Calls Tryd.prog 65 #[.string s, .int .u8 ↑((⟨#[46]⟩ : ByteArray)[0]'(by decide)).toNat] w fun e w' => e = .returned (.int .i64 q) ∧ w = w' := by
  refine (Tryd.stringslite_IndexByte s _ w).mono fun e w' ⟨h1, h2⟩ => ⟨?_, h2.symm⟩
  rw [h1, ← h]
  rfl
set_option maxRecDepth 100000 in
theorem lindex_46 (s : ByteArray) (q : Int) (w : World) (h : Lib.indexByte s.data.toList 46 = q) :
    Calls Tryd.prog 57 #[.string s, .string ⟨#[46]⟩] w fun e w' => e = .returned (.int .i64 q) ∧ w = w' := by
  have H := Lib.hid h
  cases hq : ([46] == s.toList) with
  | true =>
    obtain rfl : (0 : Int) = q := by
      have e : s.data.toList = [46] := by
        rw [beq_iff_eq, ByteArray.toList_eq] at hq
        exact hq.symm
      rw [← h, e]
      rfl
    clear h
    go_enter Tryd.func57, Tryd.ntmps57
    go_wp2_with fail
    go_ret
    exact ⟨rfl, rfl⟩
  | false =>
    clear h
    go_enter Tryd.func57, Tryd.ntmps57
    go_wp2_with (first
      | (go_at_call 65; (with_reducible refine (lib_46 s q w H.out).mono ?_); rintro e w1 ⟨rfl, rfl⟩)
      | fail)
    go_ret
    exact ⟨rfl, rfl⟩
set_option maxRecDepth 100000 in
theorem lslcut_no_46 (s : ByteArray) (w : World) (h : Lib.indexByte s.data.toList 46 = -1) :
    Calls Tryd.prog 46 #[.string s, .string ⟨#[46]⟩] w (LCutAt s ⟨#[]⟩ false w) := by
  have H := Lib.hid h
  clear h
  go_enter Tryd.func46, Tryd.ntmps46
  go_wp2_with (first
    | (go_at_call 57; (with_reducible refine (lindex_46 s (-1) w H.out).mono ?_); rintro e w1 ⟨rfl, rfl⟩)
    | fail)
  go_ret3
  exact ⟨rfl, Below.refl _ _⟩
set_option maxRecDepth 100000 in
theorem lslcut_yes_46 (s p r : ByteArray) (i j n : Nat) (w : World) (hm : s.size ≤ 1000000) (h : Lib.indexByte s.data.toList 46 = (i : Int)) (hi : i < s.size) (hj : i + 1 = j) (hn : s.size = n) (hp : s.extract 0 i = p) (hr : s.extract j n = r) :
    Calls Tryd.prog 46 #[.string s, .string ⟨#[46]⟩] w (LCutAt p r true w) := by
  have H := Lib.hid h
  have b1 : (0 : Int) ≤ (i : Int) ∧ (i : Int) ≤ (s.size : Int) := by omega
  have b2 : (0 : Int) ≤ (j : Int) ∧ (j : Int) ≤ (s.size : Int) := by omega
  have s1 : IntKind.i64.wrap ((i : Int) + 1) = (j : Int) := by rw [IntWalk.i64_in _ (by omega)]; omega
  have d1 : decide ((0 : Int) ≤ (i : Int)) = true := by simp
  rw [← hn] at hr
  clear h hm hi hj hn
  go_enter Tryd.func46, Tryd.ntmps46
  go_wp2_with (first
    | (go_at_call 57; (with_reducible refine (lindex_46 s (i : Int) w H.out).mono ?_); rintro e w1 ⟨rfl, rfl⟩)
    | fail)
  go_region
  go_wp2_with fail
  go_ret3
  exact ⟨rfl, (show Below w.heap.size w w.drew from ⟨rfl, rfl, rfl, Nat.le_refl _, fun _ _ => rfl⟩)⟩
set_option maxRecDepth 100000 in
theorem lcut_no_46 (s : ByteArray) (w : World) (h : Lib.indexByte s.data.toList 46 = -1) :
    Calls Tryd.prog 36 #[.string s, .string ⟨#[46]⟩] w (LCutAt s ⟨#[]⟩ false w) := by
  have H := Lib.hid h
  clear h
  go_enter Tryd.func36, Tryd.ntmps36
  go_wp2_with (first
    | (go_at_call 46; (with_reducible refine (lslcut_no_46 s w H.out).mono ?_); rintro e w1 ⟨rfl, hb1⟩)
    | fail)
  go_ret3
  exact ⟨rfl, hb1⟩
set_option maxRecDepth 100000 in
theorem lcut_yes_46 (s p r : ByteArray) (i j n : Nat) (w : World) (hm : s.size ≤ 1000000) (h : Lib.indexByte s.data.toList 46 = (i : Int)) (hi : i < s.size) (hj : i + 1 = j) (hn : s.size = n) (hp : s.extract 0 i = p) (hr : s.extract j n = r) :
    Calls Tryd.prog 36 #[.string s, .string ⟨#[46]⟩] w (LCutAt p r true w) := by
  have H : Hid (Calls Tryd.prog 46 #[.string s, .string ⟨#[46]⟩] w (LCutAt p r true w)) := lslcut_yes_46 s p r i j n w hm h hi hj hn hp hr
  clear hm h hi hj hn hp hr
  go_enter Tryd.func36, Tryd.ntmps36
  go_wp2_with (first
    | (go_at_call 46; (with_reducible refine (H.out).mono ?_); rintro e w1 ⟨rfl, hb1⟩)
    | fail)
  go_ret3
  exact ⟨rfl, hb1⟩
/-- .. over lists. -/
theorem lcut_46_none (s : ByteArray) (w : World) (h : (46 : UInt8) ∉ s.data.toList) :
    Calls Tryd.prog 36 #[.string s, .string ⟨#[46]⟩] w (LCutAt s ⟨#[]⟩ false w) := by
  rcases lix_cases s.data.toList 46 with ⟨h1, _⟩ | ⟨i, _, hi, e, _⟩
  · exact lcut_no_46 s w h1
  · exfalso; apply h; rw [e]; simp
theorem lcut_46_some (s p r : ByteArray) (w : World) (hm : s.size ≤ 1000000) (h : s.data.toList = p.data.toList ++ 46 :: r.data.toList) (hp : (46 : UInt8) ∉ p.data.toList) :
    Calls Tryd.prog 36 #[.string s, .string ⟨#[46]⟩] w (LCutAt p r true w) := by
  rcases lix_cases s.data.toList 46 with ⟨_, h1⟩ | ⟨i, h1, hi, e, hn⟩
  · exfalso; apply h1; rw [h]; simp
  · have hsz := ba_len7 s
    obtain ⟨e1, e2⟩ := lcut_uniq (e.symm.trans h) hn hp
    refine lcut_yes_46 s p r i (i + 1) s.size w hm h1 (by rw [← hsz]; exact hi) rfl rfl ?_ ?_
    · apply ba_ext7
      rw [Lib.extract_data s 0 i, List.drop_zero, Nat.sub_zero, e1]
    · apply ba_ext7
      rw [Lib.extract_data s (i + 1) s.size, List.take_of_length_le (by rw [List.length_drop, hsz]; omega), e2]
/-- The library's table of the powers of ten holds them. -/
def Tb (w : World) : Prop := Lib.TabIs Tryd.prog w "internal/strconv.uint64pow10" .u64 Lib.pow10Tab
theorem Tb.to {w w' : World} (h : Tb w) (hb : Below w.heap.size w w') : Tb w' := (Lib.tabBelow_of_tabIs h) w' hb
theorem dec_dgL (u : Nat) : Lib.decDigits u = dg u := by
  induction u using Nat.strongRecOn with
  | ind u ih =>
    rw [Lib.decDigits]
    by_cases h : u < 10
    · rw [dif_pos h, dg_small h]; rfl
    · rw [dif_neg h, dg_more (by omega), ih (u / 10) (by omega)]; rfl
theorem itoa15 (k : Nat) (hk : k ≤ 1000000) (t : ByteArray) (ht : t = ⟨(dg k).toArray⟩) (w : World) (hT : Tb w) :
    Calls Tryd.prog 20 #[.int .i64 k] w fun e w' => e = .returned (.string t) ∧ Below w.heap.size w w' := by
  refine (Tryd.strconv_Itoa (k : Int) (by omega) (by omega) w hT).mono fun e w' h => ?_
  obtain ⟨h1, j, os, h2⟩ := h
  refine ⟨?_, by rw [h2]; exact Lib.below_grow _ w (Nat.le_refl _) j os⟩
  rw [h1, Lib.itoa_nonneg, dec_dgL, ht]
/-- A digit's number, and the error. -/
def digR (l : List UInt8) : Nat × Int := match digL l with
  | some n => (n, 0)
  | none => (0, 150)
theorem digL_one (c : UInt8) : digL [c] = if isDg c then some (c.toNat - 48) else none := rfl
theorem list_one {s : ByteArray} (h : s.size = 1) : ∃ c, s.data.toList = [c] ∧ ∀ h : 0 < s.size, s[0]'h = c := by
  obtain ⟨c, hc, hat⟩ := byte_at s 0 (by omega)
  have hl := ba_len7 s
  rw [h] at hl
  match hs : s.data.toList, hl with
  | [d], _ =>
    rw [hs] at hc
    have : d = c := by simpa using hc
    exact ⟨c, by rw [this], hat⟩
theorem digL_not {l : List UInt8} (h : l.length ≠ 1) : digL l = none := by
  match l, h with
  | [], _ => rfl
  | [c], h => exact absurd rfl h
  | c :: d :: r, _ => rfl
set_option maxHeartbeats 4000000 in
set_option maxRecDepth 100000 in
theorem dig15 (s : ByteArray) (n : Nat) (q : Int) (w : World) (hm : s.size ≤ 1000000) (h : digR s.data.toList = (n, q)) :
    Calls Tryd.prog 51 #[.string s] w fun e w' => e = .returned (.tuple #[.int .i64 n, .int .i64 q]) ∧ w = w' := by
  unfold digR at h
  by_cases h1 : s.size = 1
  · obtain ⟨c, hc, hat⟩ := list_one h1
    rw [hc, digL_one] at h
    have bk : (0 : Int) ≤ 0 ∧ (0 : Int) < (s.size : Int) := by omega
    have d1 : ((s.size : Int) != 1) = false := by rw [h1]; rfl
    have d2 : (s.size != 1) = false := by rw [h1]; rfl
    have d3 : ((s.size : Int) == 1) = true := by rw [h1]; rfl
    have hlt : 0 < s.size := by omega
    have hcl := c.toNat_lt
    have hlim := c.toNat_lt
    rcases (show (0 ≤ c.toNat ∧ c.toNat ≤ 47) ∨ (48 ≤ c.toNat ∧ c.toNat ≤ 57) ∨ (58 ≤ c.toNat ∧ c.toNat ≤ 255) by omega) with ⟨q1, q2⟩ | ⟨q1, q2⟩ | ⟨q1, q2⟩
    · have flt48 : decide ((c.toNat : Int) < 48) = true := decide_eq_true (by omega)
      have fgt57 : decide ((57 : Int) < (c.toNat : Int)) = false := decide_eq_false (by omega)
      have n1 : decide (c.toNat < 48) = true := decide_eq_true (by omega)
      have n2 : decide (57 < c.toNat) = false := decide_eq_false (by omega)
      have hk : isDg c = false := by unfold isDg; rw [decide_eq_false (by omega), decide_eq_true (by omega)]; rfl
      rw [hk] at h
      obtain ⟨rfl, rfl⟩ := (Prod.mk.injEq _ _ _ _).mp h
      clear h hc hk q1 q2 hlim h1
      go_enter Tryd.func51, Tryd.ntmps51
      go_wp2_with fail
      go_ret2
      exact ⟨rfl, rfl⟩
    · have flt48 : decide ((c.toNat : Int) < 48) = false := decide_eq_false (by omega)
      have fgt57 : decide ((57 : Int) < (c.toNat : Int)) = false := decide_eq_false (by omega)
      have n1 : decide (c.toNat < 48) = false := decide_eq_false (by omega)
      have n2 : decide (57 < c.toNat) = false := decide_eq_false (by omega)
      have hk : isDg c = true := by unfold isDg; rw [decide_eq_true (by omega), decide_eq_true (by omega)]; rfl
      rw [hk] at h
      obtain ⟨rfl, rfl⟩ := (Prod.mk.injEq _ _ _ _).mp h
      have u1 : IntKind.u8.wrap ((c.toNat : Int) - 48) = ((c.toNat - 48 : Nat) : Int) := by rw [IntWalk.u8_in _ (by omega)]; omega
      have u2 : IntKind.i64.wrap ((c.toNat - 48 : Nat) : Int) = ((c.toNat - 48 : Nat) : Int) := IntWalk.i64_in _ (by omega)
      clear h hc hk q1 q2 hlim h1
      go_enter Tryd.func51, Tryd.ntmps51
      go_wp2_with fail
      go_ret2
      exact ⟨rfl, rfl⟩
    · have flt48 : decide ((c.toNat : Int) < 48) = false := decide_eq_false (by omega)
      have fgt57 : decide ((57 : Int) < (c.toNat : Int)) = true := decide_eq_true (by omega)
      have n1 : decide (c.toNat < 48) = false := decide_eq_false (by omega)
      have n2 : decide (57 < c.toNat) = true := decide_eq_true (by omega)
      have hk : isDg c = false := by unfold isDg; rw [decide_eq_true (by omega), decide_eq_false (by omega)]; rfl
      rw [hk] at h
      obtain ⟨rfl, rfl⟩ := (Prod.mk.injEq _ _ _ _).mp h
      clear h hc hk q1 q2 hlim h1
      go_enter Tryd.func51, Tryd.ntmps51
      go_wp2_with fail
      go_ret2
      exact ⟨rfl, rfl⟩
  · have d1 : ((s.size : Int) != 1) = true := by simp; omega
    have d2 : (s.size != 1) = true := by simpa using h1
    have d3 : ((s.size : Int) == 1) = false := by simp; omega
    rw [digL_not (by rw [ba_len7]; exact h1)] at h
    obtain ⟨rfl, rfl⟩ := (Prod.mk.injEq _ _ _ _).mp h
    clear h h1
    go_enter Tryd.func51, Tryd.ntmps51
    go_wp2_with fail
    go_ret2
    exact ⟨rfl, rfl⟩
set_option maxRecDepth 100000 in
theorem method15 (s : ByteArray) (t : ByteArray) (q : Int) (w : World) (hm : s.size ≤ 1000000) (h : (if isTok s.data.toList = true then (s, (0 : Int)) else (⟨#[]⟩, 150)) = (t, q)) :
    Calls Tryd.prog 23 #[.string s] w fun e w' => e = .returned (.tuple #[.string t, .int .i64 q]) ∧ Below w.heap.size w w' := by
  have HM := Lib.hid hm
  cases ht : isTok s.data.toList with
  | true =>
    rw [if_pos ht] at h
    obtain ⟨rfl, rfl⟩ := (Prod.mk.injEq _ _ _ _).mp h
    have HH := Lib.hid ht
    clear h ht hm
    go_enter Tryd.func23, Tryd.ntmps23
    go_wp2_with (first
      | (go_at_call 18; (with_reducible refine (token7 s true w HM.out HH.out).mono ?_); rintro e w1 ⟨rfl, hb1⟩)
      | (go_at_call 37; (with_reducible refine (clone7 s w1 HM.out).mono ?_); rintro e w2 ⟨rfl, hb2⟩)
      | fail)
    go_ret2
    exact ⟨rfl, stp hb1 hb2⟩
  | false =>
    rw [if_neg (by rw [ht]; simp)] at h
    obtain ⟨rfl, rfl⟩ := (Prod.mk.injEq _ _ _ _).mp h
    have HH := Lib.hid ht
    clear h ht hm
    go_enter Tryd.func23, Tryd.ntmps23
    go_wp2_with (first
      | (go_at_call 18; (with_reducible refine (token7 s false w HM.out HH.out).mono ?_); rintro e w1 ⟨rfl, hb1⟩)
      | fail)
    go_ret2
    exact ⟨rfl, hb1⟩
set_option maxRecDepth 100000 in
theorem tgt15 (s : ByteArray) (t : ByteArray) (q : Int) (w : World) (hm : s.size ≤ 1000000) (h : (if isTgt s.data.toList = true then (s, (0 : Int)) else (⟨#[]⟩, 150)) = (t, q)) :
    Calls Tryd.prog 39 #[.string s] w fun e w' => e = .returned (.tuple #[.string t, .int .i64 q]) ∧ Below w.heap.size w w' := by
  have HM := Lib.hid hm
  cases ht : isTgt s.data.toList with
  | true =>
    rw [if_pos ht] at h
    obtain ⟨rfl, rfl⟩ := (Prod.mk.injEq _ _ _ _).mp h
    have HH := Lib.hid ht
    clear h ht hm
    go_enter Tryd.func39, Tryd.ntmps39
    go_wp2_with (first
      | (go_at_call 33; (with_reducible refine (target15 s true w HM.out HH.out).mono ?_); rintro e w1 ⟨rfl, hb1⟩)
      | (go_at_call 37; (with_reducible refine (clone7 s w1 HM.out).mono ?_); rintro e w2 ⟨rfl, hb2⟩)
      | fail)
    go_ret2
    exact ⟨rfl, stp hb1 hb2⟩
  | false =>
    rw [if_neg (by rw [ht]; simp)] at h
    obtain ⟨rfl, rfl⟩ := (Prod.mk.injEq _ _ _ _).mp h
    have HH := Lib.hid ht
    clear h ht hm
    go_enter Tryd.func39, Tryd.ntmps39
    go_wp2_with (first
      | (go_at_call 33; (with_reducible refine (target15 s false w HM.out HH.out).mono ?_); rintro e w1 ⟨rfl, hb1⟩)
      | fail)
    go_ret2
    exact ⟨rfl, hb1⟩
end Hx
end Go.Proofs.YtagngohemlkkoaaDoor
