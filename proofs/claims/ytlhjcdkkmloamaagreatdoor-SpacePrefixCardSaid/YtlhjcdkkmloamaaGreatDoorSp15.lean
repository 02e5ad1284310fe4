/-
  Texts of one seat, put together: EscD, NumT, NumU, NumX, TextX, RegZ.
-/
import Derived.Test.YtlhjcdkkmloamaaGreatDoorSp14
import Derived.Test.YtlhjcdkkmloamaaGreatDoorSp04
import Derived.Test.YtlhjcdkkmloamaaGreatDoorSp08
import Derived.OrdersHeld
import Derived.Deep.RegionHeld3
set_option linter.unusedSimpArgs false
namespace Go.Proofs.YtlhjcdkkmloamaaGreatDoor
open Go.RowKit
namespace Hx
open Tx Nmb Es
set_option maxRecDepth 100000
set_option maxHeartbeats 16000000
set_option linter.unusedVariables false
def Ev (w : World) : Prop := ∃ te pe, w.cell? ⟨6, 0, none⟩ = some (.iface te pe)
theorem Ev.to {w w' : World} (h : Ev w) (hb : Below w.heap.size w w') : Ev w' := by
  obtain ⟨te, pe, h⟩ := h
  exact ⟨te, pe, (hb.cell (show (⟨6, 0, none⟩ : Addr).block < w.heap.size from Lib.lt_of_cell h)).trans h⟩
theorem toerr8 (fn s : ByteArray) (base bits : Int) (w : World) (hlim : s.size ≤ 1000000) (hE : Ev w) :
    Calls Tryz.prog 151 #[.string fn, .string s, .int .i64 base, .int .i64 bits, puE] w fun e w' => ∃ v, e = .returned (.iface 185 v) ∧ Below w.heap.size w w' := by
  obtain ⟨te, pe, h⟩ := hE
  exact (Tryz.strconv_toError_syntax fn s base bits _ w (by omega) h (.inr ⟨te, pe, rfl⟩)).mono fun e w' ⟨N, h1, _, _, h2⟩ => ⟨_, h1, h2⟩
theorem ipu_empty (t : ByteArray) (w : World) (h0 : t.size = 0) :
    Calls Tryz.prog 150 #[.string t, .int .i64 16, .int .i64 64] w fun e w' => e = .returned (puV none puE) ∧ Below w.heap.size w w' := by
  have hemp : t.toList.isEmpty = true := by
    rw [ByteArray.toList_eq, List.isEmpty_iff]
    exact List.eq_nil_of_length_eq_zero (by rw [ba_len5]; exact h0)
  clear h0
  go_enter Tryz.func150, Tryz.ntmps150
  go_wp2_with fail
  go_ret2
  exact ⟨rfl, Below.refl _ _⟩
def hexO (l : List UInt8) : Option Nat := if l = [] then none else hexF l
theorem ipu (t : ByteArray) (w : World) (h6 : t.size ≤ 6) (o : Option Nat) (ho : hexO t.data.toList = o) :
    Calls Tryz.prog 150 #[.string t, .int .i64 16, .int .i64 64] w fun e w' => e = .returned (puV o puE) ∧ Below w.heap.size w w' := by
  have hl : t.data.toList.length = t.size := ba_len5 t
  by_cases h0 : t.size = 0
  · unfold hexO at ho
    rw [if_pos (List.eq_nil_of_length_eq_zero (by omega))] at ho
    subst ho
    exact ipu_empty t w h0
  · refine ipu8 t w (by omega) h6 o ?_
    unfold hexO at ho
    rwa [if_neg (fun e => by rw [e] at hl; exact h0 hl.symm)] at ho
theorem pu_some (t : ByteArray) (n : Nat) (w : World) (h6 : t.size ≤ 6) (ho : hexO t.data.toList = some n) :
    Calls Tryz.prog 136 #[.string t, .int .i64 16, .int .i64 64] w fun e w' => e = .returned (.tuple #[.int .u64 (n : Int), .nilIface]) ∧ Below w.heap.size w w' := by
  have H : Hid (Calls Tryz.prog 150 #[.string t, .int .i64 16, .int .i64 64] w fun e w' => e = .returned (.tuple #[.int .u64 (n : Int), .nilIface]) ∧ Below w.heap.size w w') := ipu t w h6 _ ho
  clear h6 ho
  go_enter Tryz.func136, Tryz.ntmps136
  go_wp2_with (first
    | (go_at_call 150; (with_reducible refine (H.out).mono ?_); rintro e w1 ⟨rfl, hb1⟩)
    | fail)
  go_ret2
  exact ⟨rfl, hb1⟩
theorem pu_none (t : ByteArray) (w : World) (h6 : t.size ≤ 6) (ho : hexO t.data.toList = none) (hE : Ev w) :
    Calls Tryz.prog 136 #[.string t, .int .i64 16, .int .i64 64] w fun e w' => (∃ v, e = .returned (.tuple #[.int .u64 0, .iface 185 v])) ∧ Below w.heap.size w w' := by
  have H : Hid (Calls Tryz.prog 150 #[.string t, .int .i64 16, .int .i64 64] w fun e w' => e = .returned (.tuple #[.int .u64 0, puE]) ∧ Below w.heap.size w w') := ipu t w h6 _ ho
  have HL : Hid (t.size ≤ 1000000) := Lib.hid (by omega)
  have HE := Lib.hid hE
  unfold puE at H
  clear h6 ho hE
  go_enter Tryz.func136, Tryz.ntmps136
  go_wp2_with (first
    | (go_at_call 150; (with_reducible refine (H.out).mono ?_); rintro e w1 ⟨rfl, hb1⟩)
    | (go_at_call 151; refine (toerr8 _ t 16 64 w1 HL.out (HE.out.to hb1)).mono ?_; rintro e w2 ⟨v, rfl, hb2⟩)
    | fail)
  go_ret2
  exact ⟨⟨v, rfl⟩, stp hb1 hb2⟩
def hexI (l : List UInt8) : Int × Int := match hexV l with | some n => ((n : Int), 0) | none => (0, 80)
theorem hexO_le {l : List UInt8} {n : Nat} (h : hexO l = some n) (h6 : l.length ≤ 6) : n ≤ 16777215 := by
  unfold hexO at h
  split at h
  · cases h
  · have key : ∀ (k : Nat), k ≤ l.length → ∀ m, hexF (l.take k) = some m → m + 1 ≤ 16 ^ k := by
      intro k
      induction k with
      | zero => intro _ m h; cases h; decide
      | succ k ih =>
        intro hk m hm
        have hc : l[k]? = some (l[k]'(by omega)) := List.getElem?_eq_getElem (by omega)
        rw [take_next8 hc, hexF_snoc] at hm
        cases h1 : hexF (l.take k) with
        | none => rw [h1] at hm; cases hm
        | some p =>
          have := ih (by omega) p h1
          rw [h1] at hm
          cases h3 : hxv (l[k]'(by omega)) with
          | none => rw [h3] at hm; cases hm
          | some d =>
            rw [h3] at hm
            have hd : d ≤ 15 := by
              unfold hxv at h3
              split at h3
              · cases h3; omega
              · split at h3
                · cases h3; omega
                · split at h3
                  · cases h3; omega
                  · cases h3
            have : m = 16 * p + d := by simpa using hm.symm
            rw [this, Nat.pow_succ]
            omega
    have := key l.length (Nat.le_refl _) n (by rw [List.take_length]; exact h)
    have h2 : 16 ^ l.length ≤ 16 ^ 6 := Nat.pow_le_pow_right (by decide) h6
    have h3 : (16 : Nat) ^ 6 = 16777216 := by decide
    omega
theorem hexV_O {l : List UInt8} (h6 : ¬ 6 < l.length) (h : l.head? ≠ some 48) : hexV l = hexO l := by
  unfold hexO
  by_cases h0 : l = []
  · rw [if_pos h0, hexV_out (.inl h0)]
  · rw [if_neg h0, hexV_in h0 h6 h]
theorem pre48 (l : List UInt8) : Lib.hasPrefix l [48] = decide (l.head? = some 48) := by
  cases l with
  | nil => rfl
  | cons c r =>
    by_cases hb : c = 48
    · subst hb; simp [Lib.hasPrefix, List.isPrefixOf]
    · have hb2 : (48 == c) = false := by simpa using Ne.symm hb
      have e : decide ((c :: r).head? = some 48) = false := decide_eq_false (fun h => hb (Option.some.inj h))
      rw [e]
      simp [Lib.hasPrefix, List.isPrefixOf, hb2]
theorem hp48 (s : ByteArray) (b : Bool) (w : World) (h : decide (s.data.toList.head? = some 48) = b) :
    Calls Tryz.prog 49 #[.string s, .string ⟨#[48]⟩] w fun e w' => e = .returned (.bool b) ∧ w = w' :=
  (Tryz.strings_HasPrefix s ⟨#[48]⟩ w).mono fun e w' ⟨h1, h2⟩ => ⟨by rw [h1, ← h]; exact congrArg _ (congrArg _ (pre48 _)), h2.symm⟩
theorem hex8 (s : ByteArray) (a b : Int) (w : World) (hm : s.size ≤ 1000000) (h : hexI s.data.toList = (a, b)) (hE : Ev w) :
    Calls Tryz.prog 118 #[.string s] w fun e w' => e = .returned (.tuple #[.int .i64 a, .int .i64 b]) ∧ Below w.heap.size w w' := by
  have hl : s.data.toList.length = s.size := ba_len5 s
  have HE := Lib.hid hE
  unfold hexI at h
  by_cases h6 : 6 < s.size
  · rw [hexV_out (.inr (.inl (by omega)))] at h
    obtain ⟨rfl, rfl⟩ : (0 : Int) = a ∧ (80 : Int) = b := by cases h; exact ⟨rfl, rfl⟩
    have d0 : decide ((6 : Int) < (s.size : Int)) = true := by simp; omega
    clear h hE hl
    go_enter Tryz.func118, Tryz.ntmps118
    go_wp2_with fail
    go_ret2
    exact ⟨rfl, Below.refl _ _⟩
  · have d0 : decide ((6 : Int) < (s.size : Int)) = false := by simp; omega
    by_cases h48 : s.data.toList.head? = some 48
    · rw [hexV_out (.inr (.inr h48))] at h
      obtain ⟨rfl, rfl⟩ : (0 : Int) = a ∧ (80 : Int) = b := by cases h; exact ⟨rfl, rfl⟩
      have HP : Hid (decide (s.data.toList.head? = some 48) = true) := Lib.hid (decide_eq_true h48)
      have b6 : (s.size : Int) ≤ 6 := by omega
      clear h hE hl h48 h6
      go_enter Tryz.func118, Tryz.ntmps118
      go_wp2_with (first
        | (go_at_call 49; (with_reducible refine (hp48 s true w HP.out).mono ?_); rintro e w1 ⟨rfl, rfl⟩)
        | fail)
      go_ret2
      exact ⟨rfl, Below.refl _ _⟩
    · rw [hexV_O (by omega) h48] at h
      have HP : Hid (decide (s.data.toList.head? = some 48) = false) := Lib.hid (decide_eq_false h48)
      have b6 : (s.size : Int) ≤ 6 := by omega
      have H6 : Hid (s.size ≤ 6) := Lib.hid (by omega)
      cases ho : hexO s.data.toList with
      | none =>
        rw [ho] at h
        obtain ⟨rfl, rfl⟩ : (0 : Int) = a ∧ (80 : Int) = b := by cases h; exact ⟨rfl, rfl⟩
        have HO := Lib.hid ho
        clear h hE hl h48 h6 ho
        go_enter Tryz.func118, Tryz.ntmps118
        go_wp2_with (first
          | (go_at_call 49; (with_reducible refine (hp48 s false w HP.out).mono ?_); rintro e w1 ⟨rfl, rfl⟩)
          | (go_at_call 136; (with_reducible refine (pu_none s w H6.out HO.out HE.out).mono ?_); rintro e w2 ⟨⟨v, rfl⟩, hb2⟩)
          | fail)
        go_ret2
        exact ⟨rfl, hb2⟩
      | some n =>
        rw [ho] at h
        have hn := hexO_le ho (by omega)
        obtain ⟨rfl, rfl⟩ : (n : Int) = a ∧ (0 : Int) = b := by cases h; exact ⟨rfl, rfl⟩
        have HO := Lib.hid ho
        have bn : IntKind.i64.wrap (n : Int) = (n : Int) := IntWalk.i64_in _ (by omega)
        clear h hE hl h48 h6 ho hn
        go_enter Tryz.func118, Tryz.ntmps118
        go_wp2_with (first
          | (go_at_call 49; (with_reducible refine (hp48 s false w HP.out).mono ?_); rintro e w1 ⟨rfl, rfl⟩)
          | (go_at_call 136; (with_reducible refine (pu_some s n w H6.out HO.out).mono ?_); rintro e w2 ⟨rfl, hb2⟩)
          | fail)
        go_ret2
        exact ⟨rfl, hb2⟩
end Hx
end Go.Proofs.YtlhjcdkkmloamaaGreatDoor
namespace Go.Proofs.YtlhjcdkkmloamaaGreatDoor
open Go.RowKit
namespace Hx
open Nmb
set_option linter.unusedVariables false
end Hx
end Go.Proofs.YtlhjcdkkmloamaaGreatDoor
namespace Go.Proofs.YtlhjcdkkmloamaaGreatDoor
open Go.RowKit
namespace Hx
open Nmb
set_option maxRecDepth 100000
set_option maxHeartbeats 16000000
set_option linter.unusedVariables false
theorem val_grows (a b : List UInt8) : val a ≤ val (a ++ b) := by
  have gen : ∀ (r : List UInt8) (x : Nat), x ≤ r.foldl (fun n b => 10 * n + (b.toNat - 48)) x := by
    intro r
    induction r with
    | nil => exact fun x => Nat.le_refl _
    | cons c r ih => exact fun x => Nat.le_trans (show x ≤ 10 * x + (c.toNat - 48) by omega) (ih _)
  unfold val
  rw [List.foldl_append]
  exact gen b _
theorem val_take (l : List UInt8) (k : Nat) : val (l.take k) ≤ val l := by
  have := val_grows (l.take k) (l.drop k)
  rwa [List.take_append_drop] at this
theorem readN_sign (l : List UInt8) (k : Nat) (h : k < l.length) (h2 : isDg (l[k]'h) = false) : readN l = none := by
  unfold readN okN
  rw [not_all6 l k h h2]
  simp
theorem readN_zero (l : List UInt8) (k : Nat) (h : k < l.length) (h0 : 0 < k) (ha : (l.take k).all isDg = true) (hv : val (l.take k) = 0) : readN l = none := by
  have hn : l.take k ≠ [] := by
    intro e
    have := congrArg List.length e
    rw [List.length_take, List.length_nil] at this
    omega
  by_cases hf : (l.take k).head? = some 48
  · have hl : l.head? = some 48 := by
      rw [← head_app (r := l.drop k) hn, List.take_append_drop] at hf
      exact hf
    have hlen : (l.length == 1) = false := by simp; omega
    unfold readN okN
    rw [hl, hlen]
    simp
  · have := val_pos (l.take k) ha hn hf
    omega
theorem readN_great (l : List UInt8) (k : Nat) (h : most < val (l.take k)) : readN l = none := by
  unfold readN
  have := val_take l k
  rw [if_neg]
  rw [Bool.and_eq_true, decide_eq_true_eq]
  omega
def okP (l : List UInt8) (k : Nat) : Prop := (l.take k).all isDg = true ∧ val (l.take k) ≤ most ∧ (2 ≤ k → (l.take k).head? ≠ some 48)
theorem okP_step (l : List UInt8) (k : Nat) (h : k < l.length) (h1 : okP l k) (hd : isDg (l[k]'h) = true) (h2 : k = 0 ∨ val (l.take k) ≠ 0) (h3 : val (l.take (k + 1)) ≤ most) : okP l (k + 1) := by
  refine ⟨?_, h3, fun hk => ?_⟩
  · rw [List.take_succ_eq_append_getElem h, List.all_append, h1.1]
    simp [hd]
  · have hn : l.take k ≠ [] := by
      intro e
      have := congrArg List.length e
      rw [List.length_take, List.length_nil] at this
      omega
    rw [List.take_succ_eq_append_getElem h, head_app hn]
    by_cases hk2 : 2 ≤ k
    · exact h1.2.2 hk2
    · obtain rfl : k = 1 := by omega
      intro e
      apply h2.resolve_left (by omega)
      cases l with
      | nil => simp at h
      | cons b r =>
        simp only [List.take_succ_cons, List.take_zero, List.head?_cons, Option.some.injEq] at e ⊢
        subst e
        rfl
theorem okP_end (l : List UInt8) (h0 : 0 < l.length) (h : okP l l.length) : readN l = some (val l) := by
  obtain ⟨h1, h2, h3⟩ := h
  rw [List.take_of_length_le (Nat.le_refl _)] at h1 h2 h3
  unfold readN okN
  rw [if_pos]
  rw [Bool.and_eq_true, decide_eq_true_eq]
  refine ⟨?_, h2⟩
  rw [h1]
  have hn : l.isEmpty = false := by rw [List.isEmpty_eq_false_iff]; intro e; rw [e] at h0; simp at h0
  rw [hn]
  by_cases hl : l.length = 1
  · simp [hl]
  · have := h3 (by omega)
    simp [this]
theorem read6 (s : ByteArray) (w : World) (hm : s.size ≤ 1000000) (a b : Int) (h : readR s.data.toList = (a, b)) :
    Calls Tryz.prog 119 #[.string s] w fun e w' => e = .returned (.tuple #[.int .i64 a, .int .i64 b]) ∧ Below w.heap.size w w' := by
  have hempty : s.toList.isEmpty = decide (s.size = 0) := by
    rw [ByteArray.toList_eq, Bool.eq_iff_iff, List.isEmpty_iff, decide_eq_true_eq, ← ba_len6]
    constructor
    · intro e; rw [e]; rfl
    · exact List.eq_nil_of_length_eq_zero
  obtain ⟨ie, his⟩ : ∃ ie, decide (s.size = 0) = ie := ⟨_, rfl⟩
  rw [his] at hempty
  have HIS := Lib.hid his
  have HH := Lib.hid h
  have HM := Lib.hid hm
  clear his h hm
  go_enter Tryz.func119, Tryz.ntmps119
  go_wp2_with fail
  go_step3
  go_wp2_with fail
  go_step3
  go_wp2_with fail
  go_loopw [12, 4, 5] (fun i n x wr => ∃ k : Nat, k ≤ s.size ∧ i = .int .i64 k ∧ n = .int .i64 (val (s.data.toList.take k) : Nat) ∧ x = .bool (!ie) ∧ okP s.data.toList k ∧ Below w.heap.size w wr) (fun i _ _ _ => s.size - (intOf i).toNat)
  case atStart => exact ⟨0, Nat.zero_le _, rfl, rfl, rfl, ⟨rfl, Nat.zero_le _, fun h => absurd h (by omega)⟩, Below.refl _ _⟩
  case round =>
    obtain ⟨k, hk, rfl, rfl, rfl, hok, hbw⟩ := hrel
    have hs := HM.out
    by_cases hlt : k < s.size
    · obtain rfl : false = ie := by rw [← HIS.out, decide_eq_false (by omega)]
      obtain ⟨m, hm⟩ : ∃ m, val (s.data.toList.take k) = m := ⟨_, rfl⟩
      have hml : m ≤ 9007199254740991 := by have := hok.2.1; unfold most at this; omega
      obtain ⟨c, hc⟩ : ∃ c, s[k]'hlt = c := ⟨_, rfl⟩
      have hca : ∀ h, s[k]'h = c := fun _ => hc
      have hcl := c.toNat_lt
      have hkl : k < s.data.toList.length := by rw [ba_len6]; exact hlt
      have hck : s.data.toList[k]'hkl = c := (at6 s k hlt).trans hc
      have bk : (0 : Int) ≤ (k : Int) ∧ (k : Int) < (s.size : Int) := by omega
      have HBW := Lib.hid hbw
      have hm2 := hm
      rw [hm]
      by_cases h1 : c.toNat < 48
      · have d1 : decide ((c.toNat : Int) < 48) = true := by simp; omega
        have HX := Lib.hid (readN_sign s.data.toList k hkl (by rw [hck]; simp [isDg]; omega))
        obtain ⟨rfl, rfl⟩ : 0 = a ∧ 60 = b := by
          have h := HH.out
          unfold readR at h
          rw [HX.out] at h
          exact (Prod.mk.injEq _ _ _ _).mp h
        clear hck hok hbw hm2 hm hc HH
        go_wp2_with fail
        rw [Exit.noGoto_ret]
        go_ret2
        exact ⟨rfl, HBW.out⟩
      · by_cases h2 : 57 < c.toNat
        · have d1 : decide ((c.toNat : Int) < 48) = false := by simp; omega
          have d2 : decide ((57 : Int) < (c.toNat : Int)) = true := by simp; omega
          have HX := Lib.hid (readN_sign s.data.toList k hkl (by rw [hck]; simp [isDg]; omega))
          obtain ⟨rfl, rfl⟩ : 0 = a ∧ 60 = b := by
            have h := HH.out
            unfold readR at h
            rw [HX.out] at h
            exact (Prod.mk.injEq _ _ _ _).mp h
          clear hck hok hbw hm2 hm hc HH
          go_wp2_with fail
          rw [Exit.noGoto_ret]
          go_ret2
          exact ⟨rfl, HBW.out⟩
        · have d1 : decide ((c.toNat : Int) < 48) = false := by simp; omega
          have d2 : decide ((57 : Int) < (c.toNat : Int)) = false := by simp; omega
          by_cases h0 : 0 < k
          · by_cases h3 : m = 0
            · subst h3
              have HX := Lib.hid (readN_zero s.data.toList k hkl h0 hok.1 hm)
              obtain ⟨rfl, rfl⟩ : 0 = a ∧ 60 = b := by
                have h := HH.out
                unfold readR at h
                rw [HX.out] at h
                exact (Prod.mk.injEq _ _ _ _).mp h
              clear hck hok hbw hm2 hm hc HH
              go_wp2_with fail
              rw [Exit.noGoto_ret]
              go_ret2
              exact ⟨rfl, HBW.out⟩
            · have d4 : ((m : Int) == 0) = false := by simp; omega
              have hv : val (s.data.toList.take (k + 1)) = 10 * m + (c.toNat - 48) := by rw [List.take_succ_eq_append_getElem hkl, hck, val_snoc, hm]
              by_cases h5 : (9007199254740991 - ((c.toNat : Int) - 48)) / 10 < (m : Int)
              · have d5 : decide ((9007199254740991 - ((c.toNat : Int) - 48)) / 10 < (m : Int)) = true := by simpa using h5
                have HX := Lib.hid (readN_great s.data.toList (k + 1) (by rw [hv]; unfold most; omega))
                obtain ⟨rfl, rfl⟩ : 0 = a ∧ 60 = b := by
                  have h := HH.out
                  unfold readR at h
                  rw [HX.out] at h
                  exact (Prod.mk.injEq _ _ _ _).mp h
                clear hck hok hbw hm2 hm hc HH hv h5
                go_wp2_with fail
                rw [Exit.noGoto_ret]
                go_ret2
                exact ⟨rfl, HBW.out⟩
              · have d5 : decide ((9007199254740991 - ((c.toNat : Int) - 48)) / 10 < (m : Int)) = false := by simpa using h5
                have HK := Lib.hid (okP_step s.data.toList k hkl hok (by rw [hck]; simp [isDg]; omega) (Or.inr (by omega)) (by rw [hv]; unfold most; omega))
                have bm : (0 : Int) ≤ 10 * (m : Int) + ((c.toNat : Int) - 48) ∧ 10 * (m : Int) + ((c.toNat : Int) - 48) ≤ 9007199254740991 := by omega
                have HV : Hid (((val (s.data.toList.take (k + 1)) : Nat) : Int) = 10 * (m : Int) + ((c.toNat : Int) - 48)) := Lib.hid (by rw [hv]; omega)
                clear hck hok hbw hm2 hm hc hv h5
                go_wp2_with fail
                go_roundw
                case rel => exact ⟨k + 1, hlt, by go_num, by rw [HV.out], rfl, HK.out, HBW.out⟩
                case measure => simp [intOf]; omega
          · have hk0 : k = 0 := by omega
            have HK0 := Lib.hid hk0
            clear hk0
            have hv : val (s.data.toList.take (k + 1)) = 10 * m + (c.toNat - 48) := by rw [List.take_succ_eq_append_getElem hkl, hck, val_snoc, hm]
            by_cases h5 : (9007199254740991 - ((c.toNat : Int) - 48)) / 10 < (m : Int)
            · have d5 : decide ((9007199254740991 - ((c.toNat : Int) - 48)) / 10 < (m : Int)) = true := by simpa using h5
              have HX := Lib.hid (readN_great s.data.toList (k + 1) (by rw [hv]; unfold most; omega))
              obtain ⟨rfl, rfl⟩ : 0 = a ∧ 60 = b := by
                have h := HH.out
                unfold readR at h
                rw [HX.out] at h
                exact (Prod.mk.injEq _ _ _ _).mp h
              clear hck hok hbw hm2 hm hc HH hv h5
              go_wp2_with fail
              rw [Exit.noGoto_ret]
              go_ret2
              exact ⟨rfl, HBW.out⟩
            · have d5 : decide ((9007199254740991 - ((c.toNat : Int) - 48)) / 10 < (m : Int)) = false := by simpa using h5
              have HK := Lib.hid (okP_step s.data.toList k hkl hok (by rw [hck]; simp [isDg]; omega) (Or.inl HK0.out) (by rw [hv]; unfold most; omega))
              have bm : (0 : Int) ≤ 10 * (m : Int) + ((c.toNat : Int) - 48) ∧ 10 * (m : Int) + ((c.toNat : Int) - 48) ≤ 9007199254740991 := by omega
              have HV : Hid (((val (s.data.toList.take (k + 1)) : Nat) : Int) = 10 * (m : Int) + ((c.toNat : Int) - 48)) := Lib.hid (by rw [hv]; omega)
              clear hck hok hbw hm2 hm hc hv h5
              go_wp2_with fail
              go_roundw
              case rel => exact ⟨k + 1, hlt, by go_num, by rw [HV.out], rfl, HK.out, HBW.out⟩
              case measure => simp [intOf]; omega
    · obtain rfl : k = s.size := by omega
      have h := HH.out
      unfold readR at h
      cases ie
      · have h0 := of_decide_eq_false HIS.out
        have hl := ba_len6 s
        rw [okP_end s.data.toList (by omega) (by rw [hl]; exact hok)] at h
        obtain ⟨hv, rfl⟩ : (val s.data.toList : Int) = a ∧ 0 = b := (Prod.mk.injEq _ _ _ _).mp h
        have he : s.data.toList.take s.size = s.data.toList := List.take_of_length_le (by omega)
        rw [he, hv]
        clear hok h HH hv he
        go_wp2_with fail
        rw [Exit.noGoto_ret]
        go_ret2
        exact ⟨rfl, hbw⟩
      · have h0 := of_decide_eq_true HIS.out
        have hl := ba_len6 s
        have hn : s.data.toList = [] := List.eq_nil_of_length_eq_zero (by omega)
        rw [hn] at h
        obtain ⟨rfl, rfl⟩ : 0 = a ∧ 60 = b := (Prod.mk.injEq _ _ _ _).mp h
        clear hok h HH hn hl
        go_wp2_with fail
        rw [Exit.noGoto_ret]
        go_ret2
        exact ⟨rfl, hbw⟩
end Hx
end Go.Proofs.YtlhjcdkkmloamaaGreatDoor
namespace Go.Proofs.YtlhjcdkkmloamaaGreatDoor
open Go.RowKit
namespace Hx
open Tx
set_option linter.unusedVariables false
end Hx
end Go.Proofs.YtlhjcdkkmloamaaGreatDoor
namespace Go.Proofs.YtlhjcdkkmloamaaGreatDoor
namespace Hx
open Go
section
variable {P : Program} {ops : Array Oper} {Q : Exit → Act → World → Prop} {md : Region.Mode} {S : World → Prop} {z : Nat}
def wpAnyZ (P : Program) (md : Region.Mode) (ops : Array Oper) (Q : Exit → Act → World → Prop) (S : World → Prop) (z : Nat) : Nat → Array Bool → Act → World → Prop
  | 0, listed, a, w => Region.ready md ops listed = [] ∧ Q .normal a w
  | fuel + 1, listed, a, w =>
    (Region.ready md ops listed = [] → Q .normal a w) ∧
    ∀ i ∈ Region.ready md ops listed, wpOp P ops Q i (fun a' w' => (i ≠ z → S w') ∧ wpAnyZ P md ops Q S z fuel (listed.setIfInBounds i true) a' w') a w
theorem wpAny_of_Z : ∀ (fuel : Nat) (listed : Array Bool) (a : Act) (w : World), wpAnyZ P md ops Q S z fuel listed a w → wpAny P md ops Q fuel listed a w
  | 0, _, _, _, h => h
  | fuel + 1, _, _, _, h => ⟨h.1, fun i hi => wpOp_mono (fun a' w' h' => wpAny_of_Z fuel _ a' w' h'.2) (h.2 i hi)⟩
theorem wpAnyZ_first {i : Nat} {oi : Oper} {v : Value} (hi : ops[i]? = some oi) (hsel : ∀ (j : Nat) (o : Oper) cs b, ops[j]? = some o → o.op ≠ .select cs b)
    (hQ : ∀ c a w, Q (.panic c) (a.put oi.dst v) w → Q (.panic c) a w) (hz : ∀ oz, ops[z]? = some oz → ∃ e ∈ oz.after, Region.binds md e = true ∧ e.on = i) :
    ∀ (fuel : Nat) (listed : Array Bool) (a : Act) (w : World),
      (∀ j oj, ops[j]? = some oj → j ≠ i → listed.getD j true = false → (∀ e ∈ oj.after, Region.binds md e = true → e.on ≠ i) → oi.apart ops oj = true) →
      i ∈ Region.ready md ops listed → YieldsIf P ops S oi v a → S w →
      wpAnyZ P md ops Q S z fuel (listed.setIfInBounds i true) (a.put oi.dst v) w → wpAnyZ P md ops Q S z (fuel + 1) listed a w := by
  intro fuel
  induction fuel with
  | zero =>
    intro listed a w _ hr hy hS H
    refine ⟨fun h => (by rw [h] at hr; cases hr), fun j hj => ?_⟩
    by_cases hji : j = i
    · subst hji; exact hy.wpOp hi hS ⟨fun _ => hS, H⟩
    · have := ready_mono hj hji
      rw [H.1] at this
      cases this
  | succ fuel ih =>
    intro listed a w hfree hr hy hS H
    refine ⟨fun h => (by rw [h] at hr; cases hr), fun j hj => ?_⟩
    by_cases hji : j = i
    · subst hji; exact hy.wpOp hi hS ⟨fun _ => hS, H⟩
    · have h1 := H.2 j (ready_mono hj hji)
      obtain ⟨hjun, oj, hoj, hall⟩ := mem_ready.1 hj
      have hnot : ∀ e ∈ oj.after, Region.binds md e = true → e.on ≠ i := fun e he hb heq => by
        have h1 := hall e he hb
        have h0 := (mem_ready.1 hr).1
        rw [heq] at h1
        rcases Nat.lt_or_ge i listed.size with h' | h'
        · simp [h'] at h0 h1; rw [h0] at h1; cases h1
        · simp [Array.getElem?_eq_none h'] at h1
      have hjz : j ≠ z := by
        rintro rfl
        obtain ⟨e, he, hb, heq⟩ := hz oj hoj
        exact hnot e he hb heq
      have h2 := wpOp_putIf hoj (hfree j oj hoj hji hjun hnot) (fun cs b => hsel i oi cs b hi) (fun cs b => hsel j oj cs b hoj) hQ hy h1
      have hfree' : ∀ k ok, ops[k]? = some ok → k ≠ i → (listed.setIfInBounds j true).getD k true = false →
          (∀ e ∈ ok.after, Region.binds md e = true → e.on ≠ i) → oi.apart ops ok = true := fun k ok hk hki hun hno => by
        refine hfree k ok hk hki ?_ hno
        by_cases hjk : j = k
        · subst hjk; exact hjun
        · rw [getD_set_ne true hjk] at hun; exact hun
      refine wpOp_mono (fun a' w' h3 => ⟨fun _ => h3.2.1 hjz, ih (listed.setIfInBounds j true) a' w' hfree' (ready_mono hr (Ne.symm hji)) h3.1 (h3.2.1 hjz) ?_⟩) h2
      rw [Array.setIfInBounds_comm _ _ hji]
      exact h3.2.2
theorem takeZ {i : Nat} {oi : Oper} {rest : List Oper} {v : Value} {fuel : Nat} {listed : Array Bool} {a : Act} {w : World} (hd : ops.toList.drop i = oi :: rest)
    (hs : Region.noSelect ops = true) (hf : Region.free md ops listed i = true) (hr : (Region.ready md ops listed).contains i = true)
    (hz : ((ops[z]?).map fun o => o.after.any fun e => Region.binds md e && e.on == i) = some true)
    (hQ : ∀ c a w, Q (.panic c) (a.put oi.dst v) w → Q (.panic c) a w) (hy : YieldsIf P ops S oi v a) (hS : S w)
    (h : wpAnyZ P md ops Q S z fuel (listed.setIfInBounds i true) (a.put oi.dst v) w) : wpAnyZ P md ops Q S z (fuel + 1) listed a w := by
  have hi : ops[i]? = some oi := by
    have e : (ops.toList.drop i)[0]? = some oi := by rw [hd]; rfl
    rw [List.getElem?_drop, Nat.add_zero] at e
    simpa using e
  refine wpAnyZ_first hi (Region.noSelect_spec hs) hQ (fun oz hoz => ?_) fuel listed a w (Region.free_spec hi hf) (by simpa using hr) hy hS h
  rw [hoz] at hz
  simp only [Option.map_some, Option.some.injEq, Array.any_eq_true] at hz
  obtain ⟨k, hk, he⟩ := hz
  rw [Bool.and_eq_true, beq_iff_eq] at he
  exact ⟨_, Array.getElem_mem hk, he.1, he.2⟩
theorem stepZ {i : Nat} {oi : Oper} {rest : List Oper} {fuel : Nat} {listed : Array Bool} {a : Act} {w : World} (hr : Region.ready md ops listed = [i]) (hd : ops.toList.drop i = oi :: rest)
    (h : ∀ K' : Act → World → Prop, Shut (∀ a w, (i ≠ z → S w) → ((i ≠ z → S w) → wpAnyZ P md ops Q S z fuel (listed.setIfInBounds i true) a w) → K' a w) → if Region.wanted oi (yielded ops a.tmps) = true then Oper.wp P oi a w K' Q else K' (a.put oi.dst undef) w) :
    wpAnyZ P md ops Q S z (fuel + 1) listed a w := by
  have hi : ops[i]? = some oi := by
    have e : (ops.toList.drop i)[0]? = some oi := by rw [hd]; rfl
    rw [List.getElem?_drop, Nat.add_zero] at e
    simpa using e
  refine ⟨fun h0 => (by rw [hr] at h0; cases h0), fun j hj => ?_⟩
  rw [hr] at hj
  obtain rfl : j = i := by simpa using hj
  have := h (fun a' w' => (j ≠ z → S w') ∧ wpAnyZ P md ops Q S z fuel (listed.setIfInBounds j true) a' w') (fun a w hS hk => ⟨hS, hk hS⟩)
  unfold wpOp
  simp only [hi]
  by_cases hw : Region.wanted oi (yielded ops a.tmps) = true
  · rw [if_pos hw] at this ⊢
    exact .inl this
  · rw [if_neg hw] at this ⊢
    exact this
theorem doneZ {listed : Array Bool} {a : Act} {w : World} (hr : Region.ready md ops listed = []) (h : Q .normal a w) : ∀ fuel, wpAnyZ P md ops Q S z fuel listed a w
  | 0 => ⟨hr, h⟩
  | _ + 1 => ⟨fun _ => h, by rw [hr]; simp⟩
theorem wp_region_Z {id : Nat} {a : Act} {w : World} (S : World → Prop) (z : Nat) (hm : P.follows .mixedOrders = true)
    (h : wpAnyZ P .any ops Q S z ops.size (Array.replicate ops.size false) a w.drew) : (Code.region id ops true).wp P Q a w :=
  wp_region_any hm (wpAny_of_Z _ _ _ _ h)
end
end Hx
end Go.Proofs.YtlhjcdkkmloamaaGreatDoor
