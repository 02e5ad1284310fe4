/-
  Texts of one seat, put together: EscD, NumT, NumU, NumX, TextX, TextY.
-/
import Derived.Test.YtbjgfaflikgobaaGreatDoorH12
import Derived.Test.YtbjgfaflikgobaaGreatDoorH05
import Derived.Test.YtbjgfaflikgobaaGreatDoorH08
import Derived.OwnWalk
import Derived.OneCell
import Derived.Deep.AppendLies
import Derived.Test.YtbjgfaflikgobaaGreatDoorH11
namespace Go.Proofs.YtbjgfaflikgobaaGreatDoor
open Go.RowKit
namespace Hx
open Tx Nmb Es
set_option linter.unusedVariables false
/-- The library's variable strconv.ErrSyntax holds an error. -/
def Ev (w : World) : Prop := ∃ te pe, w.cell? ⟨6, 0, none⟩ = some (.iface te pe)
theorem Ev.to {w w' : World} (h : Ev w) (hb : Below w.heap.size w w') : Ev w' := by
  obtain ⟨te, pe, h⟩ := h
  exact ⟨te, pe, (hb.cell (show (⟨6, 0, none⟩ : Addr).block < w.heap.size from Lib.lt_of_cell h)).trans h⟩
theorem toerr8 (fn s : ByteArray) (base bits : Int) (w : World) (hlim : s.size ≤ 1000000) (hE : Ev w) :
    Calls Tryz.prog 217 #[.string fn, .string s, .int .i64 base, .int .i64 bits, puE] w fun e w' => ∃ v, e = .returned (.iface 225 v) ∧ Below w.heap.size w w' := by
  obtain ⟨te, pe, h⟩ := hE
  exact (Tryz.strconv_toError_syntax fn s base bits _ w (by omega) h (.inr ⟨te, pe, rfl⟩)).mono fun e w' ⟨N, h1, _, _, h2⟩ => ⟨_, h1, h2⟩
set_option maxHeartbeats 1000000 in
set_option maxRecDepth 100000 in
theorem ipu_empty (t : ByteArray) (w : World) (h0 : t.size = 0) :
    Calls Tryz.prog 216 #[.string t, .int .i64 16, .int .i64 64] w fun e w' => e = .returned (puV none puE) ∧ Below w.heap.size w w' := by
  have hemp : t.toList.isEmpty = true := by
    rw [ByteArray.toList_eq, List.isEmpty_iff]
    exact List.eq_nil_of_length_eq_zero (by rw [ba_len5]; exact h0)
  clear h0
  go_enter Tryz.func216, Tryz.ntmps216
  go_wp2_with fail
  go_ret2
  exact ⟨rfl, Below.refl _ _⟩
/-- The number of hexadecimal digits, six at most, whatever stands first. -/
def hexO (l : List UInt8) : Option Nat := if l = [] then none else hexF l
theorem ipu (t : ByteArray) (w : World) (h6 : t.size ≤ 6) (o : Option Nat) (ho : hexO t.data.toList = o) :
    Calls Tryz.prog 216 #[.string t, .int .i64 16, .int .i64 64] w fun e w' => e = .returned (puV o puE) ∧ Below w.heap.size w w' := by
  have hl : t.data.toList.length = t.size := ba_len5 t
  by_cases h0 : t.size = 0
  · unfold hexO at ho
    rw [if_pos (List.eq_nil_of_length_eq_zero (by omega))] at ho
    subst ho
    exact ipu_empty t w h0
  · refine ipu8 t w (by omega) h6 o ?_
    unfold hexO at ho
    rwa [if_neg (fun e => by rw [e] at hl; exact h0 hl.symm)] at ho
set_option maxHeartbeats 1000000 in
set_option maxRecDepth 100000 in
theorem pu_some (t : ByteArray) (n : Nat) (w : World) (h6 : t.size ≤ 6) (ho : hexO t.data.toList = some n) :
    Calls Tryz.prog 205 #[.string t, .int .i64 16, .int .i64 64] w fun e w' => e = .returned (.tuple #[.int .u64 (n : Int), .nilIface]) ∧ Below w.heap.size w w' := by
  have H : Hid (Calls Tryz.prog 216 #[.string t, .int .i64 16, .int .i64 64] w fun e w' => e = .returned (.tuple #[.int .u64 (n : Int), .nilIface]) ∧ Below w.heap.size w w') := ipu t w h6 _ ho
  clear h6 ho
  go_enter Tryz.func205, Tryz.ntmps205
  go_wp2_with (first
    | (go_at_call 216; (with_reducible refine (H.out).mono ?_); rintro e w1 ⟨rfl, hb1⟩)
    | fail)
  go_ret2
  exact ⟨rfl, hb1⟩
set_option maxHeartbeats 1000000 in
set_option maxRecDepth 100000 in
theorem pu_none (t : ByteArray) (w : World) (h6 : t.size ≤ 6) (ho : hexO t.data.toList = none) (hE : Ev w) :
    Calls Tryz.prog 205 #[.string t, .int .i64 16, .int .i64 64] w fun e w' => (∃ v, e = .returned (.tuple #[.int .u64 0, .iface 225 v])) ∧ Below w.heap.size w w' := by
  have H : Hid (Calls Tryz.prog 216 #[.string t, .int .i64 16, .int .i64 64] w fun e w' => e = .returned (.tuple #[.int .u64 0, puE]) ∧ Below w.heap.size w w') := ipu t w h6 _ ho
  have HL : Hid (t.size ≤ 1000000) := Lib.hid (by omega)
  have HE := Lib.hid hE
  unfold puE at H
  clear h6 ho hE
  go_enter Tryz.func205, Tryz.ntmps205
  go_wp2_with (first
    | (go_at_call 216; (with_reducible refine (H.out).mono ?_); rintro e w1 ⟨rfl, hb1⟩)
    | (go_at_call 217; refine (toerr8 _ t 16 64 w1 HL.out (HE.out.to hb1)).mono ?_; rintro e w2 ⟨v, rfl, hb2⟩)
    | fail)
  go_ret2
  exact ⟨⟨v, rfl⟩, stp hb1 hb2⟩
/-- What hexadecimal answers. -/
def hexI (l : List UInt8) : Int × Int := match hexV l with | some n => ((n : Int), 0) | none => (0, 80)
theorem hexO_le {l : List UInt8} {n : Nat} (h : hexO l = some n) (h6 : l.length ≤ 6) : n ≤ 16777215 := by
  unfold hexO at h
  split at h
  · cases h
  · have key : ∀ (k : Nat), k ≤ l.length → ∀ m, hexF (l.take k) = some m → m + 1 ≤ 16 ^ k := by
      intro k
      induction k with
      | zero => intro _ m h; cases h; decide
      | succ k ih =>
        intro hk m hm
        have hc : l[k]? = some (l[k]'(by omega)) := List.getElem?_eq_getElem (by omega)
        rw [take_next8 hc, hexF_snoc] at hm
        cases h1 : hexF (l.take k) with
        | none => rw [h1] at hm; cases hm
        | some p =>
          have := ih (by omega) p h1
          rw [h1] at hm
          cases h3 : hxv (l[k]'(by omega)) with
          | none => rw [h3] at hm; cases hm
          | some d =>
            rw [h3] at hm
            have hd : d ≤ 15 := by
              unfold hxv at h3
              split at h3
              · cases h3; omega
              · split at h3
                · cases h3; omega
                · split at h3
                  · cases h3; omega
                  · cases h3
            have : m = 16 * p + d := by simpa using hm.symm
            rw [this, Nat.pow_succ]
            omega
    have := key l.length (Nat.le_refl _) n (by rw [List.take_length]; exact h)
    have h2 : 16 ^ l.length ≤ 16 ^ 6 := Nat.pow_le_pow_right (by decide) h6
    have h3 : (16 : Nat) ^ 6 = 16777216 := by decide
    omega
theorem hexV_O {l : List UInt8} (h6 : ¬ 6 < l.length) (h : l.head? ≠ some 48) : hexV l = hexO l := by
  unfold hexO
  by_cases h0 : l = []
  · rw [if_pos h0, hexV_out (.inl h0)]
  · rw [if_neg h0, hexV_in h0 h6 h]
theorem pre48 (l : List UInt8) : Lib.hasPrefix l [48] = decide (l.head? = some 48) := by
  cases l with
  | nil => rfl
  | cons c r =>
    by_cases hb : c = 48
    · subst hb; simp [Lib.hasPrefix, List.isPrefixOf]
    · have hb2 : (48 == c) = false := by simpa using Ne.symm hb
      have e : decide ((c :: r).head? = some 48) = false := decide_eq_false (fun h => hb (Option.some.inj h))
      rw [e]
      simp [Lib.hasPrefix, List.isPrefixOf, hb2]
theorem hp48 (s : ByteArray) (b : Bool) (w : World) (h : decide (s.data.toList.head? = some 48) = b) :
    Calls Tryz.prog 124 #[.string s, .string ⟨#[48]⟩] w fun e w' => e = .returned (.bool b) ∧ w = w' :=
  (Tryz.strings_HasPrefix s ⟨#[48]⟩ w).mono fun e w' ⟨h1, h2⟩ => ⟨by rw [h1, ← h]; exact congrArg _ (congrArg _ (pre48 _)), h2.symm⟩
set_option maxHeartbeats 2000000 in
set_option maxRecDepth 100000 in
theorem hex8 (s : ByteArray) (a b : Int) (w : World) (hm : s.size ≤ 1000000) (h : hexI s.data.toList = (a, b)) (hE : Ev w) :
    Calls Tryz.prog 186 #[.string s] w fun e w' => e = .returned (.tuple #[.int .i64 a, .int .i64 b]) ∧ Below w.heap.size w w' := by
  have hl : s.data.toList.length = s.size := ba_len5 s
  have HE := Lib.hid hE
  unfold hexI at h
  by_cases h6 : 6 < s.size
  · rw [hexV_out (.inr (.inl (by omega)))] at h
    obtain ⟨rfl, rfl⟩ : (0 : Int) = a ∧ (80 : Int) = b := by cases h; exact ⟨rfl, rfl⟩
    have d0 : decide ((6 : Int) < (s.size : Int)) = true := by simp; omega
    clear h hE hl
    go_enter Tryz.func186, Tryz.ntmps186
    go_wp2_with fail
    go_ret2
    exact ⟨rfl, Below.refl _ _⟩
  · have d0 : decide ((6 : Int) < (s.size : Int)) = false := by simp; omega
    by_cases h48 : s.data.toList.head? = some 48
    · rw [hexV_out (.inr (.inr h48))] at h
      obtain ⟨rfl, rfl⟩ : (0 : Int) = a ∧ (80 : Int) = b := by cases h; exact ⟨rfl, rfl⟩
      have HP : Hid (decide (s.data.toList.head? = some 48) = true) := Lib.hid (decide_eq_true h48)
      have b6 : (s.size : Int) ≤ 6 := by omega
      clear h hE hl h48 h6
      go_enter Tryz.func186, Tryz.ntmps186
      go_wp2_with (first
        | (go_at_call 124; (with_reducible refine (hp48 s true w HP.out).mono ?_); rintro e w1 ⟨rfl, rfl⟩)
        | fail)
      go_ret2
      exact ⟨rfl, Below.refl _ _⟩
    · rw [hexV_O (by omega) h48] at h
      have HP : Hid (decide (s.data.toList.head? = some 48) = false) := Lib.hid (decide_eq_false h48)
      have b6 : (s.size : Int) ≤ 6 := by omega
      have H6 : Hid (s.size ≤ 6) := Lib.hid (by omega)
      cases ho : hexO s.data.toList with
      | none =>
        rw [ho] at h
        obtain ⟨rfl, rfl⟩ : (0 : Int) = a ∧ (80 : Int) = b := by cases h; exact ⟨rfl, rfl⟩
        have HO := Lib.hid ho
        clear h hE hl h48 h6 ho
        go_enter Tryz.func186, Tryz.ntmps186
        go_wp2_with (first
          | (go_at_call 124; (with_reducible refine (hp48 s false w HP.out).mono ?_); rintro e w1 ⟨rfl, rfl⟩)
          | (go_at_call 205; (with_reducible refine (pu_none s w H6.out HO.out HE.out).mono ?_); rintro e w2 ⟨⟨v, rfl⟩, hb2⟩)
          | fail)
        go_ret2
        exact ⟨rfl, hb2⟩
      | some n =>
        rw [ho] at h
        have hn := hexO_le ho (by omega)
        obtain ⟨rfl, rfl⟩ : (n : Int) = a ∧ (0 : Int) = b := by cases h; exact ⟨rfl, rfl⟩
        have HO := Lib.hid ho
        have bn : IntKind.i64.wrap (n : Int) = (n : Int) := IntWalk.i64_in _ (by omega)
        clear h hE hl h48 h6 ho hn
        go_enter Tryz.func186, Tryz.ntmps186
        go_wp2_with (first
          | (go_at_call 124; (with_reducible refine (hp48 s false w HP.out).mono ?_); rintro e w1 ⟨rfl, rfl⟩)
          | (go_at_call 205; (with_reducible refine (pu_some s n w H6.out HO.out).mono ?_); rintro e w2 ⟨rfl, hb2⟩)
          | fail)
        go_ret2
        exact ⟨rfl, hb2⟩
end Hx
end Go.Proofs.YtbjgfaflikgobaaGreatDoor
namespace Go.Proofs.YtbjgfaflikgobaaGreatDoor
open Go.RowKit
namespace Hx
open Nmb
set_option linter.unusedVariables false
/-- What Write answers. -/
def writeR (n : Int) : ByteArray × Int := if 0 ≤ n ∧ n ≤ 9007199254740991 then (⟨(dg n.toNat).toArray⟩, 0) else (⟨#[]⟩, 2)
/-- What Sum answers. -/
def sumR (n m : Int) : Int × Int := if 0 ≤ n ∧ n ≤ 9007199254740991 ∧ -9007199254740991 ≤ m ∧ m ≤ 9007199254740991 ∧ 0 ≤ n + m ∧ n + m ≤ 9007199254740991 then (n + m, 0) else (0, 2)
/-- What Level answers. -/
def levR (l : List UInt8) : Int × Int := match ((List.range 256).map fun k : Nat => (k : Int) - 128).find? (fun n => decide (sgn n = l)) with | some n => (n, 0) | none => (0, 60)
end Hx
end Go.Proofs.YtbjgfaflikgobaaGreatDoor
namespace Go.Proofs.YtbjgfaflikgobaaGreatDoor
open Go.RowKit
namespace Hx
open Nmb
set_option linter.unusedVariables false
/-- What Version answers. -/
def verR (l : List UInt8) : Int × Int × Int := match ((List.range 100).flatMap fun n => (List.range 100).map fun m => (n, m)).find? (fun p => decide (ver p.1 p.2 = l)) with | some p => (p.1, p.2, 0) | none => (0, 0, 60)
end Hx
end Go.Proofs.YtbjgfaflikgobaaGreatDoor
namespace Go.Proofs.YtbjgfaflikgobaaGreatDoor
open Go.RowKit
namespace Hx
open Nmb
set_option linter.unusedVariables false
theorem val_grows (a b : List UInt8) : val a ≤ val (a ++ b) := by
  have gen : ∀ (r : List UInt8) (x : Nat), x ≤ r.foldl (fun n b => 10 * n + (b.toNat - 48)) x := by
    intro r
    induction r with
    | nil => exact fun x => Nat.le_refl _
    | cons c r ih => exact fun x => Nat.le_trans (show x ≤ 10 * x + (c.toNat - 48) by omega) (ih _)
  unfold val
  rw [List.foldl_append]
  exact gen b _
theorem val_take (l : List UInt8) (k : Nat) : val (l.take k) ≤ val l := by
  have := val_grows (l.take k) (l.drop k)
  rwa [List.take_append_drop] at this
/-- A byte that is no digit. -/
theorem readN_sign (l : List UInt8) (k : Nat) (h : k < l.length) (h2 : isDg (l[k]'h) = false) : readN l = none := by
  unfold readN okN
  rw [not_all6 l k h h2]
  simp
/-- A 0 ahead of others. -/
theorem readN_zero (l : List UInt8) (k : Nat) (h : k < l.length) (h0 : 0 < k) (ha : (l.take k).all isDg = true) (hv : val (l.take k) = 0) : readN l = none := by
  have hn : l.take k ≠ [] := by
    intro e
    have := congrArg List.length e
    rw [List.length_take, List.length_nil] at this
    omega
  by_cases hf : (l.take k).head? = some 48
  · have hl : l.head? = some 48 := by
      rw [← head_app (r := l.drop k) hn, List.take_append_drop] at hf
      exact hf
    have hlen : (l.length == 1) = false := by simp; omega
    unfold readN okN
    rw [hl, hlen]
    simp
  · have := val_pos (l.take k) ha hn hf
    omega
/-- One that is too great. -/
theorem readN_great (l : List UInt8) (k : Nat) (h : most < val (l.take k)) : readN l = none := by
  unfold readN
  have := val_take l k
  rw [if_neg]
  rw [Bool.and_eq_true, decide_eq_true_eq]
  omega
/-- What was read of a text so far. -/
def okP (l : List UInt8) (k : Nat) : Prop := (l.take k).all isDg = true ∧ val (l.take k) ≤ most ∧ (2 ≤ k → (l.take k).head? ≠ some 48)
theorem okP_step (l : List UInt8) (k : Nat) (h : k < l.length) (h1 : okP l k) (hd : isDg (l[k]'h) = true) (h2 : k = 0 ∨ val (l.take k) ≠ 0) (h3 : val (l.take (k + 1)) ≤ most) : okP l (k + 1) := by
  refine ⟨?_, h3, fun hk => ?_⟩
  · rw [List.take_succ_eq_append_getElem h, List.all_append, h1.1]
    simp [hd]
  · have hn : l.take k ≠ [] := by
      intro e
      have := congrArg List.length e
      rw [List.length_take, List.length_nil] at this
      omega
    rw [List.take_succ_eq_append_getElem h, head_app hn]
    by_cases hk2 : 2 ≤ k
    · exact h1.2.2 hk2
    · obtain rfl : k = 1 := by omega
      intro e
      apply h2.resolve_left (by omega)
      cases l with
      | nil => simp at h
      | cons b r =>
        simp only [List.take_succ_cons, List.take_zero, List.head?_cons, Option.some.injEq] at e ⊢
        subst e
        rfl
theorem okP_end (l : List UInt8) (h0 : 0 < l.length) (h : okP l l.length) : readN l = some (val l) := by
  obtain ⟨h1, h2, h3⟩ := h
  rw [List.take_of_length_le (Nat.le_refl _)] at h1 h2 h3
  unfold readN okN
  rw [if_pos]
  rw [Bool.and_eq_true, decide_eq_true_eq]
  refine ⟨?_, h2⟩
  rw [h1]
  have hn : l.isEmpty = false := by rw [List.isEmpty_eq_false_iff]; intro e; rw [e] at h0; simp at h0
  rw [hn]
  by_cases hl : l.length = 1
  · simp [hl]
  · have := h3 (by omega)
    simp [this]
set_option maxHeartbeats 4000000 in
set_option maxRecDepth 100000 in
theorem read6 (s : ByteArray) (w : World) (hm : s.size ≤ 1000000) (a b : Int) (h : readR s.data.toList = (a, b)) :
    Calls Tryz.prog 187 #[.string s] w fun e w' => e = .returned (.tuple #[.int .i64 a, .int .i64 b]) ∧ Below w.heap.size w w' := by
  have hempty : s.toList.isEmpty = decide (s.size = 0) := by
    rw [ByteArray.toList_eq, Bool.eq_iff_iff, List.isEmpty_iff, decide_eq_true_eq, ← ba_len6]
    constructor
    · intro e; rw [e]; rfl
    · exact List.eq_nil_of_length_eq_zero
  obtain ⟨ie, his⟩ : ∃ ie, decide (s.size = 0) = ie := ⟨_, rfl⟩
  rw [his] at hempty
  have HIS := Lib.hid his
  have HH := Lib.hid h
  have HM := Lib.hid hm
  clear his h hm
  go_enter Tryz.func187, Tryz.ntmps187
  go_wp2_with fail
  go_step3
  go_wp2_with fail
  go_step3
  go_wp2_with fail
  go_loopw [12, 4, 5] (fun i n x wr => ∃ k : Nat, k ≤ s.size ∧ i = .int .i64 k ∧ n = .int .i64 (val (s.data.toList.take k) : Nat) ∧ x = .bool (!ie) ∧ okP s.data.toList k ∧ Below w.heap.size w wr) (fun i _ _ _ => s.size - (intOf i).toNat)
  case atStart => exact ⟨0, Nat.zero_le _, rfl, rfl, rfl, ⟨rfl, Nat.zero_le _, fun h => absurd h (by omega)⟩, Below.refl _ _⟩
  case round =>
    obtain ⟨k, hk, rfl, rfl, rfl, hok, hbw⟩ := hrel
    have hs := HM.out
    by_cases hlt : k < s.size
    · obtain rfl : false = ie := by rw [← HIS.out, decide_eq_false (by omega)]
      obtain ⟨m, hm⟩ : ∃ m, val (s.data.toList.take k) = m := ⟨_, rfl⟩
      have hml : m ≤ 9007199254740991 := by have := hok.2.1; unfold most at this; omega
      obtain ⟨c, hc⟩ : ∃ c, s[k]'hlt = c := ⟨_, rfl⟩
      have hca : ∀ h, s[k]'h = c := fun _ => hc
      have hcl := c.toNat_lt
      have hkl : k < s.data.toList.length := by rw [ba_len6]; exact hlt
      have hck : s.data.toList[k]'hkl = c := (at6 s k hlt).trans hc
      have bk : (0 : Int) ≤ (k : Int) ∧ (k : Int) < (s.size : Int) := by omega
      have HBW := Lib.hid hbw
      have hm2 := hm
      rw [hm]
      by_cases h1 : c.toNat < 48
      · have d1 : decide ((c.toNat : Int) < 48) = true := by simp; omega
        have HX := Lib.hid (readN_sign s.data.toList k hkl (by rw [hck]; simp [isDg]; omega))
        obtain ⟨rfl, rfl⟩ : 0 = a ∧ 60 = b := by
          have h := HH.out
          unfold readR at h
          rw [HX.out] at h
          exact (Prod.mk.injEq _ _ _ _).mp h
        clear hck hok hbw hm2 hm hc HH
        go_wp2_with fail
        rw [Exit.noGoto_ret]
        go_ret2
        exact ⟨rfl, HBW.out⟩
      · by_cases h2 : 57 < c.toNat
        · have d1 : decide ((c.toNat : Int) < 48) = false := by simp; omega
          have d2 : decide ((57 : Int) < (c.toNat : Int)) = true := by simp; omega
          have HX := Lib.hid (readN_sign s.data.toList k hkl (by rw [hck]; simp [isDg]; omega))
          obtain ⟨rfl, rfl⟩ : 0 = a ∧ 60 = b := by
            have h := HH.out
            unfold readR at h
            rw [HX.out] at h
            exact (Prod.mk.injEq _ _ _ _).mp h
          clear hck hok hbw hm2 hm hc HH
          go_wp2_with fail
          rw [Exit.noGoto_ret]
          go_ret2
          exact ⟨rfl, HBW.out⟩
        · have d1 : decide ((c.toNat : Int) < 48) = false := by simp; omega
          have d2 : decide ((57 : Int) < (c.toNat : Int)) = false := by simp; omega
          by_cases h0 : 0 < k
          · by_cases h3 : m = 0
            · subst h3
              have HX := Lib.hid (readN_zero s.data.toList k hkl h0 hok.1 hm)
              obtain ⟨rfl, rfl⟩ : 0 = a ∧ 60 = b := by
                have h := HH.out
                unfold readR at h
                rw [HX.out] at h
                exact (Prod.mk.injEq _ _ _ _).mp h
              clear hck hok hbw hm2 hm hc HH
              go_wp2_with fail
              rw [Exit.noGoto_ret]
              go_ret2
              exact ⟨rfl, HBW.out⟩
            · have d4 : ((m : Int) == 0) = false := by simp; omega
              have hv : val (s.data.toList.take (k + 1)) = 10 * m + (c.toNat - 48) := by rw [List.take_succ_eq_append_getElem hkl, hck, val_snoc, hm]
              by_cases h5 : (9007199254740991 - ((c.toNat : Int) - 48)) / 10 < (m : Int)
              · have d5 : decide ((9007199254740991 - ((c.toNat : Int) - 48)) / 10 < (m : Int)) = true := by simpa using h5
                have HX := Lib.hid (readN_great s.data.toList (k + 1) (by rw [hv]; unfold most; omega))
                obtain ⟨rfl, rfl⟩ : 0 = a ∧ 60 = b := by
                  have h := HH.out
                  unfold readR at h
                  rw [HX.out] at h
                  exact (Prod.mk.injEq _ _ _ _).mp h
                clear hck hok hbw hm2 hm hc HH hv h5
                go_wp2_with fail
                rw [Exit.noGoto_ret]
                go_ret2
                exact ⟨rfl, HBW.out⟩
              · have d5 : decide ((9007199254740991 - ((c.toNat : Int) - 48)) / 10 < (m : Int)) = false := by simpa using h5
                have HK := Lib.hid (okP_step s.data.toList k hkl hok (by rw [hck]; simp [isDg]; omega) (Or.inr (by omega)) (by rw [hv]; unfold most; omega))
                have bm : (0 : Int) ≤ 10 * (m : Int) + ((c.toNat : Int) - 48) ∧ 10 * (m : Int) + ((c.toNat : Int) - 48) ≤ 9007199254740991 := by omega
                have HV : Hid (((val (s.data.toList.take (k + 1)) : Nat) : Int) = 10 * (m : Int) + ((c.toNat : Int) - 48)) := Lib.hid (by rw [hv]; omega)
                clear hck hok hbw hm2 hm hc hv h5
                go_wp2_with fail
                go_roundw
                case rel => exact ⟨k + 1, hlt, by go_num, by rw [HV.out], rfl, HK.out, HBW.out⟩
                case measure => simp [intOf]; omega
          · have hk0 : k = 0 := by omega
            have HK0 := Lib.hid hk0
            clear hk0
            have hv : val (s.data.toList.take (k + 1)) = 10 * m + (c.toNat - 48) := by rw [List.take_succ_eq_append_getElem hkl, hck, val_snoc, hm]
            by_cases h5 : (9007199254740991 - ((c.toNat : Int) - 48)) / 10 < (m : Int)
            · have d5 : decide ((9007199254740991 - ((c.toNat : Int) - 48)) / 10 < (m : Int)) = true := by simpa using h5
              have HX := Lib.hid (readN_great s.data.toList (k + 1) (by rw [hv]; unfold most; omega))
              obtain ⟨rfl, rfl⟩ : 0 = a ∧ 60 = b := by
                have h := HH.out
                unfold readR at h
                rw [HX.out] at h
                exact (Prod.mk.injEq _ _ _ _).mp h
              clear hck hok hbw hm2 hm hc HH hv h5
              go_wp2_with fail
              rw [Exit.noGoto_ret]
              go_ret2
              exact ⟨rfl, HBW.out⟩
            · have d5 : decide ((9007199254740991 - ((c.toNat : Int) - 48)) / 10 < (m : Int)) = false := by simpa using h5
              have HK := Lib.hid (okP_step s.data.toList k hkl hok (by rw [hck]; simp [isDg]; omega) (Or.inl HK0.out) (by rw [hv]; unfold most; omega))
              have bm : (0 : Int) ≤ 10 * (m : Int) + ((c.toNat : Int) - 48) ∧ 10 * (m : Int) + ((c.toNat : Int) - 48) ≤ 9007199254740991 := by omega
              have HV : Hid (((val (s.data.toList.take (k + 1)) : Nat) : Int) = 10 * (m : Int) + ((c.toNat : Int) - 48)) := Lib.hid (by rw [hv]; omega)
              clear hck hok hbw hm2 hm hc hv h5
              go_wp2_with fail
              go_roundw
              case rel => exact ⟨k + 1, hlt, by go_num, by rw [HV.out], rfl, HK.out, HBW.out⟩
              case measure => simp [intOf]; omega
    · obtain rfl : k = s.size := by omega
      have h := HH.out
      unfold readR at h
      cases ie
      · have h0 := of_decide_eq_false HIS.out
        have hl := ba_len6 s
        rw [okP_end s.data.toList (by omega) (by rw [hl]; exact hok)] at h
        obtain ⟨hv, rfl⟩ : (val s.data.toList : Int) = a ∧ 0 = b := (Prod.mk.injEq _ _ _ _).mp h
        have he : s.data.toList.take s.size = s.data.toList := List.take_of_length_le (by omega)
        rw [he, hv]
        clear hok h HH hv he
        go_wp2_with fail
        rw [Exit.noGoto_ret]
        go_ret2
        exact ⟨rfl, hbw⟩
      · have h0 := of_decide_eq_true HIS.out
        have hl := ba_len6 s
        have hn : s.data.toList = [] := List.eq_nil_of_length_eq_zero (by omega)
        rw [hn] at h
        obtain ⟨rfl, rfl⟩ : 0 = a ∧ 60 = b := (Prod.mk.injEq _ _ _ _).mp h
        clear hok h HH hn hl
        go_wp2_with fail
        rw [Exit.noGoto_ret]
        go_ret2
        exact ⟨rfl, hbw⟩
end Hx
end Go.Proofs.YtbjgfaflikgobaaGreatDoor
namespace Go.Proofs.YtbjgfaflikgobaaGreatDoor
open Go.RowKit
namespace Hx
open Tx
set_option linter.unusedVariables false
end Hx
end Go.Proofs.YtbjgfaflikgobaaGreatDoor
namespace Go.Proofs.YtbjgfaflikgobaaGreatDoor
open Go.RowKit
namespace Hx
open Tx
set_option linter.unusedVariables false
/-- A box with the bytes put so far. -/
def Box (B g : Nat) (l : List UInt8) (w : World) : Prop := ∃ v, w.heap[g]? = some (.cells #[v] 70 (0, 0)) ∧ w.ownsRow B 5 1 v l.length (Lib.byteCells l)
/-- What the closure does. -/
def PutTo (B g : Nat) (l : List UInt8) (w : World) (e : Ending) (w' : World) : Prop := e = .returned (.tuple #[]) ∧ Below B w w' ∧ Box B g l w'
theorem own_nbox {w : World} {B n g : Nat} {v u : Value} {xs : List Value} (h : w.ownsRow B 5 1 v n xs) (hk : w.heap[g]? = some (.cells #[u] 70 (0, 0))) : some g ≠ v.ownBlock := by
  rcases h.2 with ⟨rfl, _⟩ | ⟨g', cap, cur, rfl, hb, hg, rest⟩
  · simp [Value.ownBlock]
  · intro e
    simp only [Value.ownBlock, Option.some.injEq] at e
    subst e
    rw [hk] at hg
    cases hg
theorem box_grown {w w' : World} {row : Option Nat} {g : Nat} {o : Obj} (hk : w.heap[g]? = some o) (hg : w.grownBy w' row) (hne : some g ≠ row) : w'.heap[g]? = some o :=
  (hg.block g (lt_of_block hk) hne).trans hk
theorem box_alloc {w : World} {g : Nat} {o' : Obj} (hk : w.heap[g]? = some o') (o : Obj) : (w.alloc o).heap[g]? = some o' :=
  box_grown hk (World.grownBy_alloc w o none) (by simp)
/-- Behind the store. -/
theorem box_put {w w4 : World} {B g m : Nat} {v v4 : Value} {E : List UInt8} {l : List UInt8} (hg : w4.heap[g]? = some (.cells #[v] 70 (0, 0))) (hown : w4.ownsRow B 5 1 v4 (l.length + m) (Lib.byteCells l ++ Lib.byteCells E)) (hE : E.length = m) (hB : B ≤ g) (hb : Below B w w4) :
    PutTo B g (l ++ E) w (.returned (.tuple #[])) (w4.setCell ⟨g, 0, none⟩ v4) := by
  refine ⟨rfl, hb.setCell hB _, v4, one_setCell hg, ?_⟩
  rw [List.length_append, hE, Lib.byteCells_append]
  exact ownsRow_setCell_other hown (fun h => own_nbox hown hg h.symm) _
set_option maxHeartbeats 2000000 in
set_option maxRecDepth 100000 in
theorem put_1 (n : Nat) (b : UInt8) (B g : Nat) (l : List UInt8) (w : World) (h : n < 128) (hb : bt n = b) (hbx : Box B g l w) (hB : B ≤ g) (hl : l.length ≤ 1000000) (hBw : B ≤ w.heap.size) :
    Calls Tryz.prog 206 #[.int .i64 n, .pointer (some ⟨g, 0, none⟩)] w (PutTo B g (l ++ [b]) w) := by
  obtain ⟨i0, hi, hz0, hz1, hz2⟩ := info_parts infoU8
  obtain ⟨v, hg, hown⟩ := hbx
  have d1 : decide ((n : Int) < 128) = true := by simp; omega
  have g1 : IntKind.u8.wrap (n : Int) = (b.toNat : Int) := by rw [IntWalk.u8_in _ (by omega), ← hb, bt_nat _ (by omega)]
  have c0 := cell_of_one hg
  have HG := Lib.hid hg
  have HO := Lib.hid hown
  have HI := Lib.hid hi
  have HZ0 := Lib.hid hz0
  have HZ1 := Lib.hid hz1
  have HZ2 := Lib.hid hz2
  obtain ⟨A0, k0, rfl⟩ := own_form hown
  clear hg hown hi hz0 hz1 hz2 hb
  go_enter Tryz.func206, Tryz.ntmps206
  go_wp2_with (first
    | (at_builtin; refine wpList_append_rd rfl (.tmp 21) (.tmp 24) 70 rfl B 5 i0 (.int .u8 0) Tryz.underlying70 HI.out HZ0.out HZ1.out HZ2.out rfl _ l.length _ rfl (HO.out.alloc (.cells #[.int .u8 b.toNat] 5)) (w.heap.size + 1) (some ⟨w.heap.size, 0, none⟩) 1 1 [b] rfl (RdA.new w 5 [b]) rfl (fun h => by cases h) (by omega) (by rw [World.size_alloc]; omega) ?_; intro v4 w4 hown4 hgr4; obtain ⟨A4, k4, rfl⟩ := own_form hown4; have HG4 := Lib.hid (box_grown (box_alloc HG.out _) hgr4 (own_nbox HO.out HG.out)); have HB4 : Hid (Below B w w4) := Lib.hid (((Below.refl B w).alloc hBw _).grown hgr4 (by rw [World.size_alloc]; omega) (fun g hg => (HO.out.lt g hg).1)); have HO4 := Lib.hid hown4; have c4 := cell_of_one HG4.out; have f4 := free_of_one HG4.out; clear hown4 hgr4)
    | fail)
  go_end0
  exact box_put HG4.out HO4.out rfl hB HB4.out
/-- The world with a new row of bytes in which the append is met. -/
theorem row_drew {w : World} {B g n : Nat} {v : Value} {l : List UInt8} (hg : w.heap[g]? = some (.cells #[v] 70 (0, 0))) (hown : w.ownsRow B 5 1 v n (Lib.byteCells l)) (hBw : B ≤ w.heap.size) (E : List UInt8) :
    ∃ W, (w.alloc (.cells (Lib.byteCells E).toArray 5)).drew = W ∧ W.heap[g]? = some (.cells #[v] 70 (0, 0)) ∧ W.ownsRow B 5 1 v n (Lib.byteCells l) ∧ RdA W W.heap.size (some ⟨w.heap.size, 0, none⟩) E ∧ Below B w W ∧ B ≤ W.heap.size :=
  ⟨_, rfl, box_alloc hg _, hown.alloc _, RdA.newS w 5 E, ((Below.refl B w).alloc hBw _).drew, by show B ≤ (w.alloc _).heap.size; rw [World.size_alloc]; omega⟩
/-- The append at a step of a region. -/
theorem step_append_rda {P : Program} {w : World} {ops : Array Oper} {o : Oper} {a : Act} {K : Act → World → Prop} {Q : Exit → Act → World → Prop} {E' : Prop} (hgd : o.guard = none) (s x : Operand) (t : TypeId)
    (ho : o.op = .call { callee := .builtin .append, args := #[s, x], argTypes := #[t, t] })
    (base : Nat) (e : TypeId) (i : TypeInfo) (z : Value) (ht : P.underlying t = some (.slice e)) (hi : P.info? e = some i) (hz : i.zero = some z) (hsize : i.size = 1) (hby : i.bytes = 1) (hzs : z.cells.size = 1)
    (v : Value) (n : Nat) (xs : List Value) (hs : a.eval s = v) (hown : w.ownsRow base e 1 v n xs)
    (B : Nat) (A : Option Addr) (m c : Nat) (l : List UInt8) (hx : a.eval x = .slice A m c) (hr : RdA w B A l) (hl : l.length = m) (hc0 : A = none → c = 0) (hb : n + m ≤ 1000000000000) (hbase : base ≤ w.heap.size)
    (h : ∀ v' w', w'.ownsRow base e 1 v' (n + m) (xs ++ Lib.byteCells l) → w.grownBy w' v.ownBlock → K (a.put o.dst v') w') : if Region.wanted o (yielded ops a.tmps) = true then Oper.wp P o a w K Q else E' :=
  step_append_rdg (enc := fun b : UInt8 => Value.int .u8 b.toNat) (fun _ => rfl) hgd s x t ho base e i z 1 ht hi hz hsize hby (by decide) hzs v n xs hs hown B A m c l hx hr hl hc0 hb hbase h
set_option maxHeartbeats 4000000 in
set_option maxRecDepth 100000 in
theorem put_2 (n : Nat) (b0 b1 : UInt8) (B g : Nat) (l : List UInt8) (w : World) (h : 128 ≤ n) (h2 : n < 2048) (hb0 : bt (192 + n / 64) = b0) (hb1 : bt (128 + n % 64) = b1) (hbx : Box B g l w) (hB : B ≤ g) (hl : l.length ≤ 1000000) (hBw : B ≤ w.heap.size) :
    Calls Tryz.prog 206 #[.int .i64 n, .pointer (some ⟨g, 0, none⟩)] w (PutTo B g (l ++ [b0, b1]) w) := by
  obtain ⟨i0, hi, hz0, hz1, hz2⟩ := info_parts infoU8
  obtain ⟨v, hg, hown⟩ := hbx
  have d1 : decide ((n : Int) < 128) = false := by simp; omega
  have d2 : decide ((n : Int) < 2048) = true := by simp; omega
  have c0 := cell_of_one hg
  obtain ⟨A0, k0, rfl⟩ := own_form hown
  obtain ⟨W, hW, hWg, hWo, hWr, hWb, hWB⟩ := row_drew hg hown hBw [b0, b1]
  have hW' : (w.alloc (.cells #[.int .u8 b0.toNat, .int .u8 b1.toNat] 5)).drew = W := hW
  have HG := Lib.hid hg
  have HWG := Lib.hid hWg
  have HWO := Lib.hid hWo
  have HWR := Lib.hid hWr
  have HWB := Lib.hid hWb
  have HI := Lib.hid hi
  have HZ0 := Lib.hid hz0
  have HZ1 := Lib.hid hz1
  have HZ2 := Lib.hid hz2
  have HN : Hid (n ≤ 1114111) := Lib.hid (by omega)
  obtain ⟨q6, hq6⟩ : ∃ q6 : Nat, n / 64 = q6 := ⟨_, rfl⟩
  have eq6 : (n : Int) / 64 = (q6 : Int) := by omega
  have hb0' := hb0
  have k0' : (b0.toNat : Int) = 192 + (q6 : Int) := by rw [← hb0, bt_nat _ (by omega)]; omega
  have g1 : IntKind.u8.wrap (q6 : Int) = (q6 : Int) := IntWalk.u8_in _ (by omega)
  have g2 : IntKind.u8.wrap (192 + (q6 : Int)) = (b0.toNat : Int) := by rw [IntWalk.u8_in _ (by omega)]; omega
  have H1 : Hid (bt (128 + n % 64) = b1) := by show _ = _; rw [← hb1]
  have N1 : Hid (n ≤ 1114111) := Lib.hid (by omega)
  have cW := cell_of_one hWg
  clear hg hown hi hz0 hz1 hz2 hb0 hb1 hb0' k0' hW hWg hWo hWr hWb hq6
  go_enter Tryz.func206, Tryz.ntmps206
  go_wp2_with fail
  refine wp_region_noPanic ?_
  refine wp_region_Z (fun w' => w'.cell? ⟨g, 0, none⟩ = some (.slice A0 l.length k0)) 9 (by kernel_rfl) ?_
  have hS : w.drew.cell? ⟨g, 0, none⟩ = some (.slice A0 l.length k0) := c0
  refine takeZ (i := 0) (v := .slice A0 l.length k0) rfl (by kernel_rfl) (by kernel_rfl) (by kernel_rfl) (by kernel_rfl) (fun _ _ _ h => h) (Or.inl ⟨by rfl, ?_⟩) hS ?_
  · intro w' hSw; (try dsimp only at hSw); go_simp
  try simp only [Act.put, List.setIfInBounds_toArray, List.set_cons_zero, List.set_cons_succ]
  refine takeZ (i := 1) (v := .int .i64 n) rfl (by kernel_rfl) (by kernel_rfl) (by kernel_rfl) (by kernel_rfl) (fun _ _ _ h => h) (Or.inl ⟨by rfl, ?_⟩) hS ?_
  · intro w' hSw; (try dsimp only at hSw); go_simp
  try simp only [Act.put, List.setIfInBounds_toArray, List.set_cons_zero, List.set_cons_succ]
  refine takeZ (i := 2) (v := .int .i64 q6) rfl (by kernel_rfl) (by kernel_rfl) (by kernel_rfl) (by kernel_rfl) (fun _ _ _ h => h) (Or.inl ⟨by rfl, ?_⟩) hS ?_
  · intro w' hSw; (try dsimp only at hSw); go_simp
  try simp only [Act.put, List.setIfInBounds_toArray, List.set_cons_zero, List.set_cons_succ]
  refine takeZ (i := 3) (v := .int .u8 q6) rfl (by kernel_rfl) (by kernel_rfl) (by kernel_rfl) (by kernel_rfl) (fun _ _ _ h => h) (Or.inl ⟨by rfl, ?_⟩) hS ?_
  · intro w' hSw; (try dsimp only at hSw); go_simp
  try simp only [Act.put, List.setIfInBounds_toArray, List.set_cons_zero, List.set_cons_succ]
  refine takeZ (i := 4) (v := .int .u8 b0.toNat) rfl (by kernel_rfl) (by kernel_rfl) (by kernel_rfl) (by kernel_rfl) (fun _ _ _ h => h) (Or.inl ⟨by rfl, ?_⟩) hS ?_
  · intro w' hSw; (try dsimp only at hSw); go_simp
  try simp only [Act.put, List.setIfInBounds_toArray, List.set_cons_zero, List.set_cons_succ]
  refine takeZ (i := 5) (v := .int .i64 n) rfl (by kernel_rfl) (by kernel_rfl) (by kernel_rfl) (by kernel_rfl) (fun _ _ _ h => h) (Or.inl ⟨by rfl, ?_⟩) hS ?_
  · intro w' hSw; (try dsimp only at hSw); go_simp
  try simp only [Act.put, List.setIfInBounds_toArray, List.set_cons_zero, List.set_cons_succ]
  refine stepZ (i := 6) (by kernel_rfl) rfl (fun K hK => ?_)
  go_simp
  go_at_call 207; (with_reducible refine (sixT n b1 _ N1.out H1.out).mono ?_); rintro e w1 ⟨rfl, rfl⟩
  go_wp2_with fail
  refine hK.out _ _ (fun _ => hS) (fun _ => ?_)
  clear hK K
  try simp only [Act.put, List.setIfInBounds_toArray, List.set_cons_zero, List.set_cons_succ]
  refine stepZ (i := 7) (by kernel_rfl) rfl (fun K hK => ?_)
  go_simp
  refine hK.out _ _ (fun _ => cW) (fun _ => ?_)
  clear hK K
  try simp only [Act.put, List.setIfInBounds_toArray, List.set_cons_zero, List.set_cons_succ]
  refine stepZ (i := 8) (by kernel_rfl) rfl (fun K hK => ?_)
  refine step_append_rda rfl (.tmp 29) (.tmp 36) 70 rfl B 5 i0 (.int .u8 0) Tryz.underlying70 HI.out HZ0.out HZ1.out HZ2.out rfl _ l.length _ rfl HWO.out W.heap.size (some ⟨w.heap.size, 0, none⟩) 2 2 [b0, b1] rfl HWR.out rfl (fun h => by cases h) (by omega) hWB ?_
  intro v4 w4 hown4 hgr4
  obtain ⟨A4, k4, rfl⟩ := own_form hown4
  have HG4 := Lib.hid (box_grown HWG.out hgr4 (own_nbox HWO.out HWG.out))
  have HB4 : Hid (Below B w w4) := Lib.hid (HWB.out.grown hgr4 hWB (fun g hg => (HWO.out.lt g hg).1))
  have HO4 := Lib.hid hown4
  have c4 := cell_of_one HG4.out
  have f4 := free_of_one HG4.out
  clear hown4 hgr4
  refine hK.out _ _ (fun _ => c4) (fun _ => ?_)
  clear hK K
  try simp only [Act.put, List.setIfInBounds_toArray, List.set_cons_zero, List.set_cons_succ]
  refine stepZ (i := 9) (by kernel_rfl) rfl (fun K hK => ?_)
  go_simp
  refine hK.out _ _ (fun h => absurd rfl h) (fun _ => ?_)
  clear hK K
  try simp only [Act.put, List.setIfInBounds_toArray, List.set_cons_zero, List.set_cons_succ]
  refine doneZ (by kernel_rfl) ?_ _
  refine NoPanic.normal ?_
  go_wp2_with fail
  go_end0
  exact box_put HG4.out HO4.out rfl hB HB4.out
set_option maxHeartbeats 4000000 in
set_option maxRecDepth 100000 in
theorem put_3 (n : Nat) (b0 b1 b2 : UInt8) (B g : Nat) (l : List UInt8) (w : World) (h : 2048 ≤ n) (h2 : n < 65536) (hb0 : bt (224 + n / 4096) = b0) (hb1 : bt (128 + n / 64 % 64) = b1) (hb2 : bt (128 + n % 64) = b2) (hbx : Box B g l w) (hB : B ≤ g) (hl : l.length ≤ 1000000) (hBw : B ≤ w.heap.size) :
    Calls Tryz.prog 206 #[.int .i64 n, .pointer (some ⟨g, 0, none⟩)] w (PutTo B g (l ++ [b0, b1, b2]) w) := by
  obtain ⟨i0, hi, hz0, hz1, hz2⟩ := info_parts infoU8
  obtain ⟨v, hg, hown⟩ := hbx
  have d1 : decide ((n : Int) < 128) = false := by simp; omega
  have d2 : decide ((n : Int) < 2048) = false := by simp; omega
  have d3 : decide ((n : Int) < 65536) = true := by simp; omega
  have c0 := cell_of_one hg
  obtain ⟨A0, k0, rfl⟩ := own_form hown
  obtain ⟨W, hW, hWg, hWo, hWr, hWb, hWB⟩ := row_drew hg hown hBw [b0, b1, b2]
  have hW' : (w.alloc (.cells #[.int .u8 b0.toNat, .int .u8 b1.toNat, .int .u8 b2.toNat] 5)).drew = W := hW
  have HG := Lib.hid hg
  have HWG := Lib.hid hWg
  have HWO := Lib.hid hWo
  have HWR := Lib.hid hWr
  have HWB := Lib.hid hWb
  have HI := Lib.hid hi
  have HZ0 := Lib.hid hz0
  have HZ1 := Lib.hid hz1
  have HZ2 := Lib.hid hz2
  have HN : Hid (n ≤ 1114111) := Lib.hid (by omega)
  obtain ⟨q6, hq6⟩ : ∃ q6 : Nat, n / 64 = q6 := ⟨_, rfl⟩
  have eq6 : (n : Int) / 64 = (q6 : Int) := by omega
  obtain ⟨q12, hq12⟩ : ∃ q12 : Nat, n / 4096 = q12 := ⟨_, rfl⟩
  have eq12 : (n : Int) / 4096 = (q12 : Int) := by omega
  have hb0' := hb0
  have k0' : (b0.toNat : Int) = 224 + (q12 : Int) := by rw [← hb0, bt_nat _ (by omega)]; omega
  have g1 : IntKind.u8.wrap (q12 : Int) = (q12 : Int) := IntWalk.u8_in _ (by omega)
  have g2 : IntKind.u8.wrap (224 + (q12 : Int)) = (b0.toNat : Int) := by rw [IntWalk.u8_in _ (by omega)]; omega
  have H1 : Hid (bt (128 + q6 % 64) = b1) := by show _ = _; rw [← hb1, ← hq6]
  have N1 : Hid (q6 ≤ 1114111) := Lib.hid (by omega)
  have H2 : Hid (bt (128 + n % 64) = b2) := by show _ = _; rw [← hb2]
  have N2 : Hid (n ≤ 1114111) := Lib.hid (by omega)
  have cW := cell_of_one hWg
  clear hg hown hi hz0 hz1 hz2 hb0 hb1 hb2 hb0' k0' hW hWg hWo hWr hWb hq6 hq12
  go_enter Tryz.func206, Tryz.ntmps206
  go_wp2_with fail
  refine wp_region_noPanic ?_
  refine wp_region_Z (fun w' => w'.cell? ⟨g, 0, none⟩ = some (.slice A0 l.length k0)) 12 (by kernel_rfl) ?_
  have hS : w.drew.cell? ⟨g, 0, none⟩ = some (.slice A0 l.length k0) := c0
  refine takeZ (i := 0) (v := .slice A0 l.length k0) rfl (by kernel_rfl) (by kernel_rfl) (by kernel_rfl) (by kernel_rfl) (fun _ _ _ h => h) (Or.inl ⟨by rfl, ?_⟩) hS ?_
  · intro w' hSw; (try dsimp only at hSw); go_simp
  try simp only [Act.put, List.setIfInBounds_toArray, List.set_cons_zero, List.set_cons_succ]
  refine takeZ (i := 1) (v := .int .i64 n) rfl (by kernel_rfl) (by kernel_rfl) (by kernel_rfl) (by kernel_rfl) (fun _ _ _ h => h) (Or.inl ⟨by rfl, ?_⟩) hS ?_
  · intro w' hSw; (try dsimp only at hSw); go_simp
  try simp only [Act.put, List.setIfInBounds_toArray, List.set_cons_zero, List.set_cons_succ]
  refine takeZ (i := 2) (v := .int .i64 q12) rfl (by kernel_rfl) (by kernel_rfl) (by kernel_rfl) (by kernel_rfl) (fun _ _ _ h => h) (Or.inl ⟨by rfl, ?_⟩) hS ?_
  · intro w' hSw; (try dsimp only at hSw); go_simp
  try simp only [Act.put, List.setIfInBounds_toArray, List.set_cons_zero, List.set_cons_succ]
  refine takeZ (i := 3) (v := .int .u8 q12) rfl (by kernel_rfl) (by kernel_rfl) (by kernel_rfl) (by kernel_rfl) (fun _ _ _ h => h) (Or.inl ⟨by rfl, ?_⟩) hS ?_
  · intro w' hSw; (try dsimp only at hSw); go_simp
  try simp only [Act.put, List.setIfInBounds_toArray, List.set_cons_zero, List.set_cons_succ]
  refine takeZ (i := 4) (v := .int .u8 b0.toNat) rfl (by kernel_rfl) (by kernel_rfl) (by kernel_rfl) (by kernel_rfl) (fun _ _ _ h => h) (Or.inl ⟨by rfl, ?_⟩) hS ?_
  · intro w' hSw; (try dsimp only at hSw); go_simp
  try simp only [Act.put, List.setIfInBounds_toArray, List.set_cons_zero, List.set_cons_succ]
  refine takeZ (i := 5) (v := .int .i64 n) rfl (by kernel_rfl) (by kernel_rfl) (by kernel_rfl) (by kernel_rfl) (fun _ _ _ h => h) (Or.inl ⟨by rfl, ?_⟩) hS ?_
  · intro w' hSw; (try dsimp only at hSw); go_simp
  try simp only [Act.put, List.setIfInBounds_toArray, List.set_cons_zero, List.set_cons_succ]
  refine takeZ (i := 6) (v := .int .i64 q6) rfl (by kernel_rfl) (by kernel_rfl) (by kernel_rfl) (by kernel_rfl) (fun _ _ _ h => h) (Or.inl ⟨by rfl, ?_⟩) hS ?_
  · intro w' hSw; (try dsimp only at hSw); go_simp
  try simp only [Act.put, List.setIfInBounds_toArray, List.set_cons_zero, List.set_cons_succ]
  refine takeZ (i := 8) (v := .int .i64 n) rfl (by kernel_rfl) (by kernel_rfl) (by kernel_rfl) (by kernel_rfl) (fun _ _ _ h => h) (Or.inl ⟨by rfl, ?_⟩) hS ?_
  · intro w' hSw; (try dsimp only at hSw); go_simp
  try simp only [Act.put, List.setIfInBounds_toArray, List.set_cons_zero, List.set_cons_succ]
  refine stepZ (i := 7) (by kernel_rfl) rfl (fun K hK => ?_)
  go_simp
  go_at_call 207; (with_reducible refine (sixT q6 b1 _ N1.out H1.out).mono ?_); rintro e w1 ⟨rfl, rfl⟩
  go_wp2_with fail
  refine hK.out _ _ (fun _ => hS) (fun _ => ?_)
  clear hK K
  try simp only [Act.put, List.setIfInBounds_toArray, List.set_cons_zero, List.set_cons_succ]
  refine stepZ (i := 9) (by kernel_rfl) rfl (fun K hK => ?_)
  go_simp
  go_at_call 207; (with_reducible refine (sixT n b2 _ N2.out H2.out).mono ?_); rintro e w1 ⟨rfl, rfl⟩
  go_wp2_with fail
  refine hK.out _ _ (fun _ => hS) (fun _ => ?_)
  clear hK K
  try simp only [Act.put, List.setIfInBounds_toArray, List.set_cons_zero, List.set_cons_succ]
  refine stepZ (i := 10) (by kernel_rfl) rfl (fun K hK => ?_)
  go_simp
  refine hK.out _ _ (fun _ => cW) (fun _ => ?_)
  clear hK K
  try simp only [Act.put, List.setIfInBounds_toArray, List.set_cons_zero, List.set_cons_succ]
  refine stepZ (i := 11) (by kernel_rfl) rfl (fun K hK => ?_)
  refine step_append_rda rfl (.tmp 41) (.tmp 51) 70 rfl B 5 i0 (.int .u8 0) Tryz.underlying70 HI.out HZ0.out HZ1.out HZ2.out rfl _ l.length _ rfl HWO.out W.heap.size (some ⟨w.heap.size, 0, none⟩) 3 3 [b0, b1, b2] rfl HWR.out rfl (fun h => by cases h) (by omega) hWB ?_
  intro v4 w4 hown4 hgr4
  obtain ⟨A4, k4, rfl⟩ := own_form hown4
  have HG4 := Lib.hid (box_grown HWG.out hgr4 (own_nbox HWO.out HWG.out))
  have HB4 : Hid (Below B w w4) := Lib.hid (HWB.out.grown hgr4 hWB (fun g hg => (HWO.out.lt g hg).1))
  have HO4 := Lib.hid hown4
  have c4 := cell_of_one HG4.out
  have f4 := free_of_one HG4.out
  clear hown4 hgr4
  refine hK.out _ _ (fun _ => c4) (fun _ => ?_)
  clear hK K
  try simp only [Act.put, List.setIfInBounds_toArray, List.set_cons_zero, List.set_cons_succ]
  refine stepZ (i := 12) (by kernel_rfl) rfl (fun K hK => ?_)
  go_simp
  refine hK.out _ _ (fun h => absurd rfl h) (fun _ => ?_)
  clear hK K
  try simp only [Act.put, List.setIfInBounds_toArray, List.set_cons_zero, List.set_cons_succ]
  refine doneZ (by kernel_rfl) ?_ _
  refine NoPanic.normal ?_
  go_wp2_with fail
  go_end0
  exact box_put HG4.out HO4.out rfl hB HB4.out
set_option maxHeartbeats 4000000 in
set_option maxRecDepth 100000 in
theorem put_4 (n : Nat) (b0 b1 b2 b3 : UInt8) (B g : Nat) (l : List UInt8) (w : World) (h : 65536 ≤ n) (h2 : n ≤ 1114111) (hb0 : bt (240 + n / 262144) = b0) (hb1 : bt (128 + n / 4096 % 64) = b1) (hb2 : bt (128 + n / 64 % 64) = b2) (hb3 : bt (128 + n % 64) = b3) (hbx : Box B g l w) (hB : B ≤ g) (hl : l.length ≤ 1000000) (hBw : B ≤ w.heap.size) :
    Calls Tryz.prog 206 #[.int .i64 n, .pointer (some ⟨g, 0, none⟩)] w (PutTo B g (l ++ [b0, b1, b2, b3]) w) := by
  obtain ⟨i0, hi, hz0, hz1, hz2⟩ := info_parts infoU8
  obtain ⟨v, hg, hown⟩ := hbx
  have d1 : decide ((n : Int) < 128) = false := by simp; omega
  have d2 : decide ((n : Int) < 2048) = false := by simp; omega
  have d3 : decide ((n : Int) < 65536) = false := by simp; omega
  have c0 := cell_of_one hg
  obtain ⟨A0, k0, rfl⟩ := own_form hown
  obtain ⟨W, hW, hWg, hWo, hWr, hWb, hWB⟩ := row_drew hg hown hBw [b0, b1, b2, b3]
  have hW' : (w.alloc (.cells #[.int .u8 b0.toNat, .int .u8 b1.toNat, .int .u8 b2.toNat, .int .u8 b3.toNat] 5)).drew = W := hW
  have HG := Lib.hid hg
  have HWG := Lib.hid hWg
  have HWO := Lib.hid hWo
  have HWR := Lib.hid hWr
  have HWB := Lib.hid hWb
  have HI := Lib.hid hi
  have HZ0 := Lib.hid hz0
  have HZ1 := Lib.hid hz1
  have HZ2 := Lib.hid hz2
  have HN : Hid (n ≤ 1114111) := Lib.hid (by omega)
  obtain ⟨q6, hq6⟩ : ∃ q6 : Nat, n / 64 = q6 := ⟨_, rfl⟩
  have eq6 : (n : Int) / 64 = (q6 : Int) := by omega
  obtain ⟨q12, hq12⟩ : ∃ q12 : Nat, n / 4096 = q12 := ⟨_, rfl⟩
  have eq12 : (n : Int) / 4096 = (q12 : Int) := by omega
  obtain ⟨q18, hq18⟩ : ∃ q18 : Nat, n / 262144 = q18 := ⟨_, rfl⟩
  have eq18 : (n : Int) / 262144 = (q18 : Int) := by omega
  have hb0' := hb0
  have k0' : (b0.toNat : Int) = 240 + (q18 : Int) := by rw [← hb0, bt_nat _ (by omega)]; omega
  have g1 : IntKind.u8.wrap (q18 : Int) = (q18 : Int) := IntWalk.u8_in _ (by omega)
  have g2 : IntKind.u8.wrap (240 + (q18 : Int)) = (b0.toNat : Int) := by rw [IntWalk.u8_in _ (by omega)]; omega
  have H1 : Hid (bt (128 + q12 % 64) = b1) := by show _ = _; rw [← hb1, ← hq12]
  have N1 : Hid (q12 ≤ 1114111) := Lib.hid (by omega)
  have H2 : Hid (bt (128 + q6 % 64) = b2) := by show _ = _; rw [← hb2, ← hq6]
  have N2 : Hid (q6 ≤ 1114111) := Lib.hid (by omega)
  have H3 : Hid (bt (128 + n % 64) = b3) := by show _ = _; rw [← hb3]
  have N3 : Hid (n ≤ 1114111) := Lib.hid (by omega)
  have cW := cell_of_one hWg
  clear hg hown hi hz0 hz1 hz2 hb0 hb1 hb2 hb3 hb0' k0' hW hWg hWo hWr hWb hq6 hq12 hq18
  go_enter Tryz.func206, Tryz.ntmps206
  go_wp2_with fail
  refine wp_region_noPanic ?_
  refine wp_region_Z (fun w' => w'.cell? ⟨g, 0, none⟩ = some (.slice A0 l.length k0)) 15 (by kernel_rfl) ?_
  have hS : w.drew.cell? ⟨g, 0, none⟩ = some (.slice A0 l.length k0) := c0
  refine takeZ (i := 0) (v := .slice A0 l.length k0) rfl (by kernel_rfl) (by kernel_rfl) (by kernel_rfl) (by kernel_rfl) (fun _ _ _ h => h) (Or.inl ⟨by rfl, ?_⟩) hS ?_
  · intro w' hSw; (try dsimp only at hSw); go_simp
  try simp only [Act.put, List.setIfInBounds_toArray, List.set_cons_zero, List.set_cons_succ]
  refine takeZ (i := 1) (v := .int .i64 n) rfl (by kernel_rfl) (by kernel_rfl) (by kernel_rfl) (by kernel_rfl) (fun _ _ _ h => h) (Or.inl ⟨by rfl, ?_⟩) hS ?_
  · intro w' hSw; (try dsimp only at hSw); go_simp
  try simp only [Act.put, List.setIfInBounds_toArray, List.set_cons_zero, List.set_cons_succ]
  refine takeZ (i := 2) (v := .int .i64 q18) rfl (by kernel_rfl) (by kernel_rfl) (by kernel_rfl) (by kernel_rfl) (fun _ _ _ h => h) (Or.inl ⟨by rfl, ?_⟩) hS ?_
  · intro w' hSw; (try dsimp only at hSw); go_simp
  try simp only [Act.put, List.setIfInBounds_toArray, List.set_cons_zero, List.set_cons_succ]
  refine takeZ (i := 3) (v := .int .u8 q18) rfl (by kernel_rfl) (by kernel_rfl) (by kernel_rfl) (by kernel_rfl) (fun _ _ _ h => h) (Or.inl ⟨by rfl, ?_⟩) hS ?_
  · intro w' hSw; (try dsimp only at hSw); go_simp
  try simp only [Act.put, List.setIfInBounds_toArray, List.set_cons_zero, List.set_cons_succ]
  refine takeZ (i := 4) (v := .int .u8 b0.toNat) rfl (by kernel_rfl) (by kernel_rfl) (by kernel_rfl) (by kernel_rfl) (fun _ _ _ h => h) (Or.inl ⟨by rfl, ?_⟩) hS ?_
  · intro w' hSw; (try dsimp only at hSw); go_simp
  try simp only [Act.put, List.setIfInBounds_toArray, List.set_cons_zero, List.set_cons_succ]
  refine takeZ (i := 5) (v := .int .i64 n) rfl (by kernel_rfl) (by kernel_rfl) (by kernel_rfl) (by kernel_rfl) (fun _ _ _ h => h) (Or.inl ⟨by rfl, ?_⟩) hS ?_
  · intro w' hSw; (try dsimp only at hSw); go_simp
  try simp only [Act.put, List.setIfInBounds_toArray, List.set_cons_zero, List.set_cons_succ]
  refine takeZ (i := 6) (v := .int .i64 q12) rfl (by kernel_rfl) (by kernel_rfl) (by kernel_rfl) (by kernel_rfl) (fun _ _ _ h => h) (Or.inl ⟨by rfl, ?_⟩) hS ?_
  · intro w' hSw; (try dsimp only at hSw); go_simp
  try simp only [Act.put, List.setIfInBounds_toArray, List.set_cons_zero, List.set_cons_succ]
  refine takeZ (i := 8) (v := .int .i64 n) rfl (by kernel_rfl) (by kernel_rfl) (by kernel_rfl) (by kernel_rfl) (fun _ _ _ h => h) (Or.inl ⟨by rfl, ?_⟩) hS ?_
  · intro w' hSw; (try dsimp only at hSw); go_simp
  try simp only [Act.put, List.setIfInBounds_toArray, List.set_cons_zero, List.set_cons_succ]
  refine takeZ (i := 9) (v := .int .i64 q6) rfl (by kernel_rfl) (by kernel_rfl) (by kernel_rfl) (by kernel_rfl) (fun _ _ _ h => h) (Or.inl ⟨by rfl, ?_⟩) hS ?_
  · intro w' hSw; (try dsimp only at hSw); go_simp
  try simp only [Act.put, List.setIfInBounds_toArray, List.set_cons_zero, List.set_cons_succ]
  refine takeZ (i := 11) (v := .int .i64 n) rfl (by kernel_rfl) (by kernel_rfl) (by kernel_rfl) (by kernel_rfl) (fun _ _ _ h => h) (Or.inl ⟨by rfl, ?_⟩) hS ?_
  · intro w' hSw; (try dsimp only at hSw); go_simp
  try simp only [Act.put, List.setIfInBounds_toArray, List.set_cons_zero, List.set_cons_succ]
  refine stepZ (i := 7) (by kernel_rfl) rfl (fun K hK => ?_)
  go_simp
  go_at_call 207; (with_reducible refine (sixT q12 b1 _ N1.out H1.out).mono ?_); rintro e w1 ⟨rfl, rfl⟩
  go_wp2_with fail
  refine hK.out _ _ (fun _ => hS) (fun _ => ?_)
  clear hK K
  try simp only [Act.put, List.setIfInBounds_toArray, List.set_cons_zero, List.set_cons_succ]
  refine stepZ (i := 10) (by kernel_rfl) rfl (fun K hK => ?_)
  go_simp
  go_at_call 207; (with_reducible refine (sixT q6 b2 _ N2.out H2.out).mono ?_); rintro e w1 ⟨rfl, rfl⟩
  go_wp2_with fail
  refine hK.out _ _ (fun _ => hS) (fun _ => ?_)
  clear hK K
  try simp only [Act.put, List.setIfInBounds_toArray, List.set_cons_zero, List.set_cons_succ]
  refine stepZ (i := 12) (by kernel_rfl) rfl (fun K hK => ?_)
  go_simp
  go_at_call 207; (with_reducible refine (sixT n b3 _ N3.out H3.out).mono ?_); rintro e w1 ⟨rfl, rfl⟩
  go_wp2_with fail
  refine hK.out _ _ (fun _ => hS) (fun _ => ?_)
  clear hK K
  try simp only [Act.put, List.setIfInBounds_toArray, List.set_cons_zero, List.set_cons_succ]
  refine stepZ (i := 13) (by kernel_rfl) rfl (fun K hK => ?_)
  go_simp
  refine hK.out _ _ (fun _ => cW) (fun _ => ?_)
  clear hK K
  try simp only [Act.put, List.setIfInBounds_toArray, List.set_cons_zero, List.set_cons_succ]
  refine stepZ (i := 14) (by kernel_rfl) rfl (fun K hK => ?_)
  refine step_append_rda rfl (.tmp 3) (.tmp 16) 70 rfl B 5 i0 (.int .u8 0) Tryz.underlying70 HI.out HZ0.out HZ1.out HZ2.out rfl _ l.length _ rfl HWO.out W.heap.size (some ⟨w.heap.size, 0, none⟩) 4 4 [b0, b1, b2, b3] rfl HWR.out rfl (fun h => by cases h) (by omega) hWB ?_
  intro v4 w4 hown4 hgr4
  obtain ⟨A4, k4, rfl⟩ := own_form hown4
  have HG4 := Lib.hid (box_grown HWG.out hgr4 (own_nbox HWO.out HWG.out))
  have HB4 : Hid (Below B w w4) := Lib.hid (HWB.out.grown hgr4 hWB (fun g hg => (HWO.out.lt g hg).1))
  have HO4 := Lib.hid hown4
  have c4 := cell_of_one HG4.out
  have f4 := free_of_one HG4.out
  clear hown4 hgr4
  refine hK.out _ _ (fun _ => c4) (fun _ => ?_)
  clear hK K
  try simp only [Act.put, List.setIfInBounds_toArray, List.set_cons_zero, List.set_cons_succ]
  refine stepZ (i := 15) (by kernel_rfl) rfl (fun K hK => ?_)
  go_simp
  refine hK.out _ _ (fun h => absurd rfl h) (fun _ => ?_)
  clear hK K
  try simp only [Act.put, List.setIfInBounds_toArray, List.set_cons_zero, List.set_cons_succ]
  refine doneZ (by kernel_rfl) ?_ _
  refine NoPanic.normal ?_
  go_wp2_with fail
  go_end0
  exact box_put HG4.out HO4.out rfl hB HB4.out
end Hx
end Go.Proofs.YtbjgfaflikgobaaGreatDoor
