/-
  Hexadecimal numbers, of package esc: esc.hexadecimal.
-/
import Derived.Test.YtjdeomlpipdopaaDoorEscC
namespace Go.Proofs.YtjdeomlpipdopaaDoor
open Go.RowKit
namespace Hx
open Tx Nmb Es
set_option linter.unusedVariables false
/-- The library's variable strconv.ErrSyntax holds an error. -/
def Ev (w : World) : Prop := ∃ te pe, w.cell? ⟨2, 0, none⟩ = some (.iface te pe)
theorem Ev.to {w w' : World} (h : Ev w) (hb : Below w.heap.size w w') : Ev w' := by
  obtain ⟨te, pe, h⟩ := h
  exact ⟨te, pe, (hb.cell (show (⟨2, 0, none⟩ : Addr).block < w.heap.size from Lib.lt_of_cell h)).trans h⟩
theorem toerr8 (fn s : ByteArray) (base bits : Int) (w : World) (hlim : s.size ≤ 1000000) (hE : Ev w) :
    Calls Tryd.prog 64 #[.string fn, .string s, .int .i64 base, .int .i64 bits, puE] w fun e w' => ∃ v, e = .returned (.iface 110 v) ∧ Below w.heap.size w w' := by
  obtain ⟨te, pe, h⟩ := hE
  exact (Tryd.strconv_toError_syntax fn s base bits _ w (by omega) h (.inr ⟨te, pe, rfl⟩)).mono fun e w' ⟨N, h1, _, _, h2⟩ => ⟨_, h1, h2⟩
set_option maxHeartbeats 1000000 in
set_option maxRecDepth 100000 in
theorem ipu_empty (t : ByteArray) (w : World) (h0 : t.size = 0) :
    Calls Tryd.prog 63 #[.string t, .int .i64 16, .int .i64 64] w fun e w' => e = .returned (puV none puE) ∧ Below w.heap.size w w' := by
  have hemp : t.toList.isEmpty = true := by
    rw [ByteArray.toList_eq, List.isEmpty_iff]
    exact List.eq_nil_of_length_eq_zero (by rw [ba_len5]; exact h0)
  clear h0
  go_enter Tryd.func63, Tryd.ntmps63
  go_wp2_with fail
  go_ret2
  exact ⟨rfl, Below.refl _ _⟩
/-- The number of hexadecimal digits, six at most, whatever stands first. -/
def hexO (l : List UInt8) : Option Nat := if l = [] then none else hexF l
theorem ipu (t : ByteArray) (w : World) (h6 : t.size ≤ 6) (o : Option Nat) (ho : hexO t.data.toList = o) :
    Calls Tryd.prog 63 #[.string t, .int .i64 16, .int .i64 64] w fun e w' => e = .returned (puV o puE) ∧ Below w.heap.size w w' := by
  have hl : t.data.toList.length = t.size := ba_len5 t
  by_cases h0 : t.size = 0
  · unfold hexO at ho
    rw [if_pos (List.eq_nil_of_length_eq_zero (by omega))] at ho
    subst ho
    exact ipu_empty t w h0
  · refine ipu8 t w (by omega) h6 o ?_
    unfold hexO at ho
    rwa [if_neg (fun e => by rw [e] at hl; exact h0 hl.symm)] at ho
set_option maxHeartbeats 1000000 in
set_option maxRecDepth 100000 in
theorem pu_some (t : ByteArray) (n : Nat) (w : World) (h6 : t.size ≤ 6) (ho : hexO t.data.toList = some n) :
    Calls Tryd.prog 53 #[.string t, .int .i64 16, .int .i64 64] w fun e w' => e = .returned (.tuple #[.int .u64 (n : Int), .nilIface]) ∧ Below w.heap.size w w' := by
  have H : Hid (Calls Tryd.prog 63 #[.string t, .int .i64 16, .int .i64 64] w fun e w' => e = .returned (.tuple #[.int .u64 (n : Int), .nilIface]) ∧ Below w.heap.size w w') := ipu t w h6 _ ho
  clear h6 ho
  go_enter Tryd.func53, Tryd.ntmps53
  go_wp2_with (first
    | (go_at_call 63; (with_reducible refine (H.out).mono ?_); rintro e w1 ⟨rfl, hb1⟩)
    | fail)
  go_ret2
  exact ⟨rfl, hb1⟩
set_option maxHeartbeats 1000000 in
set_option maxRecDepth 100000 in
theorem pu_none (t : ByteArray) (w : World) (h6 : t.size ≤ 6) (ho : hexO t.data.toList = none) (hE : Ev w) :
    Calls Tryd.prog 53 #[.string t, .int .i64 16, .int .i64 64] w fun e w' => (∃ v, e = .returned (.tuple #[.int .u64 0, .iface 110 v])) ∧ Below w.heap.size w w' := by
  have H : Hid (Calls Tryd.prog 63 #[.string t, .int .i64 16, .int .i64 64] w fun e w' => e = .returned (.tuple #[.int .u64 0, puE]) ∧ Below w.heap.size w w') := ipu t w h6 _ ho
  have HL : Hid (t.size ≤ 1000000) := Lib.hid (by omega)
  have HE := Lib.hid hE
  unfold puE at H
  clear h6 ho hE
  go_enter Tryd.func53, Tryd.ntmps53
  go_wp2_with (first
    | (go_at_call 63; (with_reducible refine (H.out).mono ?_); rintro e w1 ⟨rfl, hb1⟩)
    | (go_at_call 64; refine (toerr8 _ t 16 64 w1 HL.out (HE.out.to hb1)).mono ?_; rintro e w2 ⟨v, rfl, hb2⟩)
    | fail)
  go_ret2
  exact ⟨⟨v, rfl⟩, stp hb1 hb2⟩
/-- What hexadecimal answers. -/
def hexI (l : List UInt8) : Int × Int := match hexV l with | some n => ((n : Int), 0) | none => (0, 80)
theorem hexO_le {l : List UInt8} {n : Nat} (h : hexO l = some n) (h6 : l.length ≤ 6) : n ≤ 16777215 := by
  unfold hexO at h
  split at h
  · cases h
  · have key : ∀ (k : Nat), k ≤ l.length → ∀ m, hexF (l.take k) = some m → m + 1 ≤ 16 ^ k := by
      intro k
      induction k with
      | zero => intro _ m h; cases h; decide
      | succ k ih =>
        intro hk m hm
        have hc : l[k]? = some (l[k]'(by omega)) := List.getElem?_eq_getElem (by omega)
        rw [take_next8 hc, hexF_snoc] at hm
        cases h1 : hexF (l.take k) with
        | none => rw [h1] at hm; cases hm
        | some p =>
          have := ih (by omega) p h1
          rw [h1] at hm
          cases h3 : hxv (l[k]'(by omega)) with
          | none => rw [h3] at hm; cases hm
          | some d =>
            rw [h3] at hm
            have hd : d ≤ 15 := by
              unfold hxv at h3
              split at h3
              · cases h3; omega
              · split at h3
                · cases h3; omega
                · split at h3
                  · cases h3; omega
                  · cases h3
            have : m = 16 * p + d := by simpa using hm.symm
            rw [this, Nat.pow_succ]
            omega
    have := key l.length (Nat.le_refl _) n (by rw [List.take_length]; exact h)
    have h2 : 16 ^ l.length ≤ 16 ^ 6 := Nat.pow_le_pow_right (by decide) h6
    have h3 : (16 : Nat) ^ 6 = 16777216 := by decide
    omega
theorem hexV_O {l : List UInt8} (h6 : ¬ 6 < l.length) (h : l.head? ≠ some 48) : hexV l = hexO l := by
  unfold hexO
  by_cases h0 : l = []
  · rw [if_pos h0, hexV_out (.inl h0)]
  · rw [if_neg h0, hexV_in h0 h6 h]
theorem pre48 (l : List UInt8) : Lib.hasPrefix l [48] = decide (l.head? = some 48) := by
  cases l with
  | nil => rfl
  | cons c r =>
    by_cases hb : c = 48
    · subst hb; simp [Lib.hasPrefix, List.isPrefixOf]
    · have hb2 : (48 == c) = false := by simpa using Ne.symm hb
      have e : decide ((c :: r).head? = some 48) = false := decide_eq_false (fun h => hb (Option.some.inj h))
      rw [e]
      simp [Lib.hasPrefix, List.isPrefixOf, hb2]
theorem hp48 (s : ByteArray) (b : Bool) (w : World) (h : decide (s.data.toList.head? = some 48) = b) :
    Calls Tryd.prog 48 #[.string s, .string ⟨#[48]⟩] w fun e w' => e = .returned (.bool b) ∧ w = w' :=
  (Tryd.strings_HasPrefix s ⟨#[48]⟩ w).mono fun e w' ⟨h1, h2⟩ => ⟨by rw [h1, ← h]; exact congrArg _ (congrArg _ (pre48 _)), h2.symm⟩
set_option maxHeartbeats 2000000 in
set_option maxRecDepth 100000 in
theorem hex8 (s : ByteArray) (a b : Int) (w : World) (hm : s.size ≤ 1000000) (h : hexI s.data.toList = (a, b)) (hE : Ev w) :
    Calls Tryd.prog 42 #[.string s] w fun e w' => e = .returned (.tuple #[.int .i64 a, .int .i64 b]) ∧ Below w.heap.size w w' := by
  have hl : s.data.toList.length = s.size := ba_len5 s
  have HE := Lib.hid hE
  unfold hexI at h
  by_cases h6 : 6 < s.size
  · rw [hexV_out (.inr (.inl (by omega)))] at h
    obtain ⟨rfl, rfl⟩ : (0 : Int) = a ∧ (80 : Int) = b := by cases h; exact ⟨rfl, rfl⟩
    have d0 : decide ((6 : Int) < (s.size : Int)) = true := by simp; omega
    clear h hE hl
    go_enter Tryd.func42, Tryd.ntmps42
    go_wp2_with fail
    go_ret2
    exact ⟨rfl, Below.refl _ _⟩
  · have d0 : decide ((6 : Int) < (s.size : Int)) = false := by simp; omega
    by_cases h48 : s.data.toList.head? = some 48
    · rw [hexV_out (.inr (.inr h48))] at h
      obtain ⟨rfl, rfl⟩ : (0 : Int) = a ∧ (80 : Int) = b := by cases h; exact ⟨rfl, rfl⟩
      have HP : Hid (decide (s.data.toList.head? = some 48) = true) := Lib.hid (decide_eq_true h48)
      have b6 : (s.size : Int) ≤ 6 := by omega
      clear h hE hl h48 h6
      go_enter Tryd.func42, Tryd.ntmps42
      go_wp2_with (first
        | (go_at_call 48; (with_reducible refine (hp48 s true w HP.out).mono ?_); rintro e w1 ⟨rfl, rfl⟩)
        | fail)
      go_ret2
      exact ⟨rfl, Below.refl _ _⟩
    · rw [hexV_O (by omega) h48] at h
      have HP : Hid (decide (s.data.toList.head? = some 48) = false) := Lib.hid (decide_eq_false h48)
      have b6 : (s.size : Int) ≤ 6 := by omega
      have H6 : Hid (s.size ≤ 6) := Lib.hid (by omega)
      cases ho : hexO s.data.toList with
      | none =>
        rw [ho] at h
        obtain ⟨rfl, rfl⟩ : (0 : Int) = a ∧ (80 : Int) = b := by cases h; exact ⟨rfl, rfl⟩
        have HO := Lib.hid ho
        clear h hE hl h48 h6 ho
        go_enter Tryd.func42, Tryd.ntmps42
        go_wp2_with (first
          | (go_at_call 48; (with_reducible refine (hp48 s false w HP.out).mono ?_); rintro e w1 ⟨rfl, rfl⟩)
          | (go_at_call 53; (with_reducible refine (pu_none s w H6.out HO.out HE.out).mono ?_); rintro e w2 ⟨⟨v, rfl⟩, hb2⟩)
          | fail)
        go_ret2
        exact ⟨rfl, hb2⟩
      | some n =>
        rw [ho] at h
        have hn := hexO_le ho (by omega)
        obtain ⟨rfl, rfl⟩ : (n : Int) = a ∧ (0 : Int) = b := by cases h; exact ⟨rfl, rfl⟩
        have HO := Lib.hid ho
        have bn : IntKind.i64.wrap (n : Int) = (n : Int) := IntWalk.i64_in _ (by omega)
        clear h hE hl h48 h6 ho hn
        go_enter Tryd.func42, Tryd.ntmps42
        go_wp2_with (first
          | (go_at_call 48; (with_reducible refine (hp48 s false w HP.out).mono ?_); rintro e w1 ⟨rfl, rfl⟩)
          | (go_at_call 53; (with_reducible refine (pu_some s n w H6.out HO.out).mono ?_); rintro e w2 ⟨rfl, hb2⟩)
          | fail)
        go_ret2
        exact ⟨rfl, hb2⟩
end Hx
end Go.Proofs.YtjdeomlpipdopaaDoor
