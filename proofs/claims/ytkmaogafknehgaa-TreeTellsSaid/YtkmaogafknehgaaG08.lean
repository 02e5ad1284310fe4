/-
  Texts of one seat, put together: EscA, NumT, NumU, NumX, TextX, RegZ.
-/
import Derived.Test.YtkmaogafknehgaaG01
import Derived.Test.YtkmaogafknehgaaG00
import Derived.Test.YtkmaogafknehgaaG05
import Derived.OrdersHeld
import Derived.Deep.RegionHeld3
namespace Go.Proofs.Ytkmaogafknehgaa
open Go.RowKit
namespace Hx
open Tx Nmb Es
set_option linter.unusedVariables false
/-- What is written for a byte: the reference; whether just where it is quoted. -/
def sgV (l : List UInt8) (q : Bool) : Value := .agg #[.string ⟨l.toArray⟩, .bool q]
def sgK (c : Int) : Value := .int .u8 c
def SG : Array MapEntry := #[⟨sgK 38, sgV [38, 97, 109, 112, 59] false, 0⟩, ⟨sgK 60, sgV [38, 108, 116, 59] false, 1⟩, ⟨sgK 62, sgV [38, 103, 116, 59] false, 2⟩, ⟨sgK 13, sgV [38, 35, 49, 51, 59] false, 3⟩,
  ⟨sgK 34, sgV [38, 113, 117, 111, 116, 59] true, 4⟩, ⟨sgK 9, sgV [38, 35, 57, 59] true, 5⟩, ⟨sgK 10, sgV [38, 35, 49, 48, 59] true, 6⟩]
theorem u8_key (c : Int) : MapKept.IsKey (.int .u8) (.int .u8 c) := by simp [MapKept.IsKey]
/-- What the map tells of a byte: which reference, whether just where it is quoted, whether any. -/
def sgT (c : UInt8) : ByteArray × Bool × Bool :=
  if c = 38 then (⟨#[38, 97, 109, 112, 59]⟩, false, true) else if c = 60 then (⟨#[38, 108, 116, 59]⟩, false, true) else if c = 62 then (⟨#[38, 103, 116, 59]⟩, false, true) else if c = 13 then (⟨#[38, 35, 49, 51, 59]⟩, false, true)
  else if c = 34 then (⟨#[38, 113, 117, 111, 116, 59]⟩, true, true) else if c = 9 then (⟨#[38, 35, 57, 59]⟩, true, true) else if c = 10 then (⟨#[38, 35, 49, 48, 59]⟩, true, true) else (⟨#[]⟩, false, false)
theorem sgT_escb (c : UInt8) (q : Bool) : escb q c = if (sgT c).2.2 && (q || !(sgT c).2.1) then (sgT c).1.data.toList else [c] := by
  cases q
  · exact u8_every (fun c => escb false c = if (sgT c).2.2 && (false || !(sgT c).2.1) then (sgT c).1.data.toList else [c]) (by decide +kernel) c
  · exact u8_every (fun c => escb true c = if (sgT c).2.2 && (true || !(sgT c).2.1) then (sgT c).1.data.toList else [c]) (by decide +kernel) c
def sgF (c : UInt8) : Option (Nat × Value) :=
  if c = 38 then some (0, sgV [38, 97, 109, 112, 59] false) else if c = 60 then some (1, sgV [38, 108, 116, 59] false) else if c = 62 then some (2, sgV [38, 103, 116, 59] false) else if c = 13 then some (3, sgV [38, 35, 49, 51, 59] false)
  else if c = 34 then some (4, sgV [38, 113, 117, 111, 116, 59] true) else if c = 9 then some (5, sgV [38, 35, 57, 59] true) else if c = 10 then some (6, sgV [38, 35, 49, 48, 59] true) else none
theorem int_beq (c : UInt8) (n : Nat) (hn : n < 256) : ((c.toNat : Int) == (n : Int)) = decide (c = UInt8.ofNat n) := by
  rw [Bool.eq_iff_iff, beq_iff_eq, decide_eq_true_eq]
  constructor
  · intro h
    have h : c.toNat = n := by omega
    apply UInt8.toNat_inj.1
    rw [h]
    simp
    omega
  · intro h
    rw [h]
    simp
    omega
theorem sg_one (c : UInt8) (n : Nat) (hn : n < 256) (v : Value) (b : Nat) (l : List MapEntry) (i : Nat) :
    Instr.findNow (.int .u8) (.int .u8 (c.toNat : Int)) (⟨sgK n, v, b⟩ :: l) i = if c = UInt8.ofNat n then some (some (i, v)) else Instr.findNow (.int .u8) (.int .u8 (c.toNat : Int)) l (i + 1) := by
  rw [Instr.findNow]
  show (match (if IntKind.u8 = IntKind.u8 then some ((c.toNat : Int) == (n : Int)) else none) with | some true => _ | some false => _ | none => _) = _
  rw [if_pos rfl, int_beq c n hn]
  by_cases h : c = UInt8.ofNat n
  · rw [if_pos h, decide_eq_true h]
  · rw [if_neg h, decide_eq_false h]
theorem sg_find (c : UInt8) : Instr.findNow (.int .u8) (.int .u8 (c.toNat : Int)) SG.toList 0 = some (sgF c) := by
  show Instr.findNow (.int .u8) (.int .u8 (c.toNat : Int)) [⟨sgK (38 : Nat), _, 0⟩, ⟨sgK (60 : Nat), _, 1⟩, ⟨sgK (62 : Nat), _, 2⟩, ⟨sgK (13 : Nat), _, 3⟩, ⟨sgK (34 : Nat), _, 4⟩, ⟨sgK (9 : Nat), _, 5⟩, ⟨sgK (10 : Nat), _, 6⟩] 0 = _
  rw [sg_one c 38 (by decide), sg_one c 60 (by decide), sg_one c 62 (by decide), sg_one c 13 (by decide), sg_one c 34 (by decide), sg_one c 9 (by decide), sg_one c 10 (by decide)]
  unfold sgF
  show (if c = 38 then _ else if c = 60 then _ else if c = 62 then _ else if c = 13 then _ else if c = 34 then _ else if c = 9 then _ else if c = 10 then _ else _) = _
  split
  · rfl
  split
  · rfl
  split
  · rfl
  split
  · rfl
  split
  · rfl
  split
  · rfl
  split
  · rfl
  · rfl
theorem sgF_T (c : UInt8) : lookV (sgV [] false) (sgF c) = .tuple #[.agg #[.string (sgT c).1, .bool (sgT c).2.1], .bool (sgT c).2.2] := by
  unfold sgF sgT
  split
  · rfl
  split
  · rfl
  split
  · rfl
  split
  · rfl
  split
  · rfl
  split
  · rfl
  split
  · rfl
  · rfl
end Hx
end Go.Proofs.Ytkmaogafknehgaa
namespace Go.Proofs.Ytkmaogafknehgaa
open Go.RowKit
namespace Hx
open Nmb
set_option linter.unusedVariables false
/-- What Write answers. -/
def writeR (n : Int) : ByteArray × Int := if 0 ≤ n ∧ n ≤ 9007199254740991 then (⟨(dg n.toNat).toArray⟩, 0) else (⟨#[]⟩, 2)
/-- What Sum answers. -/
def sumR (n m : Int) : Int × Int := if 0 ≤ n ∧ n ≤ 9007199254740991 ∧ -9007199254740991 ≤ m ∧ m ≤ 9007199254740991 ∧ 0 ≤ n + m ∧ n + m ≤ 9007199254740991 then (n + m, 0) else (0, 2)
/-- What Level answers. -/
def levR (l : List UInt8) : Int × Int := match ((List.range 256).map fun k : Nat => (k : Int) - 128).find? (fun n => decide (sgn n = l)) with | some n => (n, 0) | none => (0, 60)
theorem levR_spec {l : List UInt8} {a b : Int} (h : levR l = (a, b)) : (-128 ≤ a ∧ a ≤ 127 ∧ sgn a = l ∧ b = 0) ∨ ((∀ n, -128 ≤ n → n ≤ 127 → sgn n ≠ l) ∧ a = 0 ∧ b = 60) := by
  unfold levR at h
  cases hf : ((List.range 256).map fun k : Nat => (k : Int) - 128).find? (fun n => decide (sgn n = l)) with
  | some n =>
    rw [hf] at h
    obtain ⟨rfl, rfl⟩ := (Prod.mk.injEq _ _ _ _).mp h
    have h1 := List.find?_some hf
    have h2 := List.mem_of_find?_eq_some hf
    obtain ⟨k, hk, rfl⟩ := List.mem_map.1 h2
    have := List.mem_range.1 hk
    exact .inl ⟨by omega, by omega, of_decide_eq_true h1, rfl⟩
  | none =>
    rw [hf] at h
    obtain ⟨rfl, rfl⟩ := (Prod.mk.injEq _ _ _ _).mp h
    refine .inr ⟨fun n h0 h1 => ?_, rfl, rfl⟩
    have := List.find?_eq_none.1 hf n (List.mem_map.2 ⟨(n + 128).toNat, List.mem_range.2 (by omega), by omega⟩)
    simpa using this
end Hx
end Go.Proofs.Ytkmaogafknehgaa
namespace Go.Proofs.Ytkmaogafknehgaa
open Go.RowKit
namespace Hx
open Nmb
set_option linter.unusedVariables false
/-- What Version answers. -/
def verR (l : List UInt8) : Int × Int × Int := match ((List.range 100).flatMap fun n => (List.range 100).map fun m => (n, m)).find? (fun p => decide (ver p.1 p.2 = l)) with | some p => (p.1, p.2, 0) | none => (0, 0, 60)
theorem verR_spec {l : List UInt8} {a b c : Int} (h : verR l = (a, b, c)) : (∃ n m : Nat, n ≤ 99 ∧ m ≤ 99 ∧ ver n m = l ∧ a = n ∧ b = m ∧ c = 0) ∨ ((∀ n m, n ≤ 99 → m ≤ 99 → ver n m ≠ l) ∧ a = 0 ∧ b = 0 ∧ c = 60) := by
  unfold verR at h
  cases hf : ((List.range 100).flatMap fun n => (List.range 100).map fun m => (n, m)).find? (fun p => decide (ver p.1 p.2 = l)) with
  | some p =>
    rw [hf] at h
    obtain ⟨rfl, rfl, rfl⟩ : _ = a ∧ _ = b ∧ _ = c := by simpa only [Prod.mk.injEq] using h
    have h1 := List.find?_some hf
    have h2 := List.mem_of_find?_eq_some hf
    obtain ⟨n, hn, h3⟩ := List.mem_flatMap.1 h2
    obtain ⟨m, hm, rfl⟩ := List.mem_map.1 h3
    have q1 := List.mem_range.1 hn
    have q2 := List.mem_range.1 hm
    exact .inl ⟨n, m, by omega, by omega, of_decide_eq_true h1, rfl, rfl, rfl⟩
  | none =>
    rw [hf] at h
    obtain ⟨rfl, rfl, rfl⟩ : _ = a ∧ _ = b ∧ _ = c := by simpa only [Prod.mk.injEq] using h
    refine .inr ⟨fun n m h0 h1 => ?_, rfl, rfl, rfl⟩
    have := List.find?_eq_none.1 hf (n, m) (List.mem_flatMap.2 ⟨n, List.mem_range.2 (by omega), List.mem_map.2 ⟨m, List.mem_range.2 (by omega), rfl⟩⟩)
    simpa using this
theorem ver_length {n m : Nat} (hn : n ≤ 99) (hm : m ≤ 99) : (ver n m).length ≤ 5 := by
  have h1 := dg_short 1 n (by omega)
  have h2 := dg_short 1 m (by omega)
  unfold ver
  rw [List.length_append, List.length_cons]
  omega
/-- The text of a version, put together. -/
theorem ver_text (n m : Nat) (hn : n ≤ 99) (hm : m ≤ 99) : ∃ u v x t : ByteArray, u = ⟨(dg n).toArray⟩ ∧ v = ⟨(dg m).toArray⟩ ∧ t = ⟨(ver n m).toArray⟩ ∧ (∀ (P : Program) W, (Op.stringOp .add u ⟨#[46]⟩).run P W = .ok (.string x) W) ∧ (∀ (P : Program) W, (Op.stringOp .add x v).run P W = .ok (.string t) W) := by
  have h1 : (dg n).length ≤ 2 := dg_short 1 n (by omega)
  have h2 : (dg m).length ≤ 2 := dg_short 1 m (by omega)
  refine ⟨⟨(dg n).toArray⟩, ⟨(dg m).toArray⟩, ⟨(dg n ++ [46]).toArray⟩, ⟨(ver n m).toArray⟩, rfl, rfl, rfl, fun P W => ?_, fun P W => ?_⟩
  · exact run_string_add_lists W (dg n) [46] (by omega) (by simp)
  · rw [run_string_add_lists W (dg n ++ [46]) (dg m) (by rw [List.length_append]; simp; omega) (by omega)]
    unfold ver
    simp
end Hx
end Go.Proofs.Ytkmaogafknehgaa
namespace Go.Proofs.Ytkmaogafknehgaa
open Go.RowKit
namespace Hx
open Nmb
set_option linter.unusedVariables false
theorem val_grows (a b : List UInt8) : val a ≤ val (a ++ b) := by
  have gen : ∀ (r : List UInt8) (x : Nat), x ≤ r.foldl (fun n b => 10 * n + (b.toNat - 48)) x := by
    intro r
    induction r with
    | nil => exact fun x => Nat.le_refl _
    | cons c r ih => exact fun x => Nat.le_trans (show x ≤ 10 * x + (c.toNat - 48) by omega) (ih _)
  unfold val
  rw [List.foldl_append]
  exact gen b _
theorem val_take (l : List UInt8) (k : Nat) : val (l.take k) ≤ val l := by
  have := val_grows (l.take k) (l.drop k)
  rwa [List.take_append_drop] at this
/-- A byte that is no digit. -/
theorem readN_sign (l : List UInt8) (k : Nat) (h : k < l.length) (h2 : isDg (l[k]'h) = false) : readN l = none := by
  unfold readN okN
  rw [not_all6 l k h h2]
  simp
/-- A 0 ahead of others. -/
theorem readN_zero (l : List UInt8) (k : Nat) (h : k < l.length) (h0 : 0 < k) (ha : (l.take k).all isDg = true) (hv : val (l.take k) = 0) : readN l = none := by
  have hn : l.take k ≠ [] := by
    intro e
    have := congrArg List.length e
    rw [List.length_take, List.length_nil] at this
    omega
  by_cases hf : (l.take k).head? = some 48
  · have hl : l.head? = some 48 := by
      rw [← head_app (r := l.drop k) hn, List.take_append_drop] at hf
      exact hf
    have hlen : (l.length == 1) = false := by simp; omega
    unfold readN okN
    rw [hl, hlen]
    simp
  · have := val_pos (l.take k) ha hn hf
    omega
/-- One that is too great. -/
theorem readN_great (l : List UInt8) (k : Nat) (h : most < val (l.take k)) : readN l = none := by
  unfold readN
  have := val_take l k
  rw [if_neg]
  rw [Bool.and_eq_true, decide_eq_true_eq]
  omega
/-- What was read of a text so far. -/
def okP (l : List UInt8) (k : Nat) : Prop := (l.take k).all isDg = true ∧ val (l.take k) ≤ most ∧ (2 ≤ k → (l.take k).head? ≠ some 48)
theorem okP_step (l : List UInt8) (k : Nat) (h : k < l.length) (h1 : okP l k) (hd : isDg (l[k]'h) = true) (h2 : k = 0 ∨ val (l.take k) ≠ 0) (h3 : val (l.take (k + 1)) ≤ most) : okP l (k + 1) := by
  refine ⟨?_, h3, fun hk => ?_⟩
  · rw [List.take_succ_eq_append_getElem h, List.all_append, h1.1]
    simp [hd]
  · have hn : l.take k ≠ [] := by
      intro e
      have := congrArg List.length e
      rw [List.length_take, List.length_nil] at this
      omega
    rw [List.take_succ_eq_append_getElem h, head_app hn]
    by_cases hk2 : 2 ≤ k
    · exact h1.2.2 hk2
    · obtain rfl : k = 1 := by omega
      intro e
      apply h2.resolve_left (by omega)
      cases l with
      | nil => simp at h
      | cons b r =>
        simp only [List.take_succ_cons, List.take_zero, List.head?_cons, Option.some.injEq] at e ⊢
        subst e
        rfl
theorem okP_end (l : List UInt8) (h0 : 0 < l.length) (h : okP l l.length) : readN l = some (val l) := by
  obtain ⟨h1, h2, h3⟩ := h
  rw [List.take_of_length_le (Nat.le_refl _)] at h1 h2 h3
  unfold readN okN
  rw [if_pos]
  rw [Bool.and_eq_true, decide_eq_true_eq]
  refine ⟨?_, h2⟩
  rw [h1]
  have hn : l.isEmpty = false := by rw [List.isEmpty_eq_false_iff]; intro e; rw [e] at h0; simp at h0
  rw [hn]
  by_cases hl : l.length = 1
  · simp [hl]
  · have := h3 (by omega)
    simp [this]
end Hx
end Go.Proofs.Ytkmaogafknehgaa
namespace Go.Proofs.Ytkmaogafknehgaa
open Go.RowKit
namespace Hx
open Tx
set_option linter.unusedVariables false
end Hx
end Go.Proofs.Ytkmaogafknehgaa
namespace Go.Proofs.Ytkmaogafknehgaa
namespace Hx
open Go
section
variable {P : Program} {ops : Array Oper} {Q : Exit → Act → World → Prop} {md : Region.Mode} {S : World → Prop} {z : Nat}
/-- Whatever order is picked from here on; S holds behind every operation but number z. -/
def wpAnyZ (P : Program) (md : Region.Mode) (ops : Array Oper) (Q : Exit → Act → World → Prop) (S : World → Prop) (z : Nat) : Nat → Array Bool → Act → World → Prop
  | 0, listed, a, w => Region.ready md ops listed = [] ∧ Q .normal a w
  | fuel + 1, listed, a, w =>
    (Region.ready md ops listed = [] → Q .normal a w) ∧
    ∀ i ∈ Region.ready md ops listed, wpOp P ops Q i (fun a' w' => (i ≠ z → S w') ∧ wpAnyZ P md ops Q S z fuel (listed.setIfInBounds i true) a' w') a w
theorem wpAny_of_Z : ∀ (fuel : Nat) (listed : Array Bool) (a : Act) (w : World), wpAnyZ P md ops Q S z fuel listed a w → wpAny P md ops Q fuel listed a w
  | 0, _, _, _, h => h
  | fuel + 1, _, _, _, h => ⟨h.1, fun i hi => wpOp_mono (fun a' w' h' => wpAny_of_Z fuel _ a' w' h'.2) (h.2 i hi)⟩
theorem wpAnyZ_first {i : Nat} {oi : Oper} {v : Value} (hi : ops[i]? = some oi) (hsel : ∀ (j : Nat) (o : Oper) cs b, ops[j]? = some o → o.op ≠ .select cs b)
    (hQ : ∀ c a w, Q (.panic c) (a.put oi.dst v) w → Q (.panic c) a w) (hz : ∀ oz, ops[z]? = some oz → ∃ e ∈ oz.after, Region.binds md e = true ∧ e.on = i) :
    ∀ (fuel : Nat) (listed : Array Bool) (a : Act) (w : World),
      (∀ j oj, ops[j]? = some oj → j ≠ i → listed.getD j true = false → (∀ e ∈ oj.after, Region.binds md e = true → e.on ≠ i) → oi.apart ops oj = true) →
      i ∈ Region.ready md ops listed → YieldsIf P ops S oi v a → S w →
      wpAnyZ P md ops Q S z fuel (listed.setIfInBounds i true) (a.put oi.dst v) w → wpAnyZ P md ops Q S z (fuel + 1) listed a w := by
  intro fuel
  induction fuel with
  | zero =>
    intro listed a w _ hr hy hS H
    refine ⟨fun h => (by rw [h] at hr; cases hr), fun j hj => ?_⟩
    by_cases hji : j = i
    · subst hji; exact hy.wpOp hi hS ⟨fun _ => hS, H⟩
    · have := ready_mono hj hji
      rw [H.1] at this
      cases this
  | succ fuel ih =>
    intro listed a w hfree hr hy hS H
    refine ⟨fun h => (by rw [h] at hr; cases hr), fun j hj => ?_⟩
    by_cases hji : j = i
    · subst hji; exact hy.wpOp hi hS ⟨fun _ => hS, H⟩
    · have h1 := H.2 j (ready_mono hj hji)
      obtain ⟨hjun, oj, hoj, hall⟩ := mem_ready.1 hj
      have hnot : ∀ e ∈ oj.after, Region.binds md e = true → e.on ≠ i := fun e he hb heq => by
        have h1 := hall e he hb
        have h0 := (mem_ready.1 hr).1
        rw [heq] at h1
        rcases Nat.lt_or_ge i listed.size with h' | h'
        · simp [h'] at h0 h1; rw [h0] at h1; cases h1
        · simp [Array.getElem?_eq_none h'] at h1
      have hjz : j ≠ z := by
        rintro rfl
        obtain ⟨e, he, hb, heq⟩ := hz oj hoj
        exact hnot e he hb heq
      have h2 := wpOp_putIf hoj (hfree j oj hoj hji hjun hnot) (fun cs b => hsel i oi cs b hi) (fun cs b => hsel j oj cs b hoj) hQ hy h1
      have hfree' : ∀ k ok, ops[k]? = some ok → k ≠ i → (listed.setIfInBounds j true).getD k true = false →
          (∀ e ∈ ok.after, Region.binds md e = true → e.on ≠ i) → oi.apart ops ok = true := fun k ok hk hki hun hno => by
        refine hfree k ok hk hki ?_ hno
        by_cases hjk : j = k
        · subst hjk; exact hjun
        · rw [getD_set_ne true hjk] at hun; exact hun
      refine wpOp_mono (fun a' w' h3 => ⟨fun _ => h3.2.1 hjz, ih (listed.setIfInBounds j true) a' w' hfree' (ready_mono hr (Ne.symm hji)) h3.1 (h3.2.1 hjz) ?_⟩) h2
      rw [Array.setIfInBounds_comm _ _ hji]
      exact h3.2.2
/-- One operation that yields in every world that meets S, taken first; the operation written out. -/
theorem takeZ {i : Nat} {oi : Oper} {rest : List Oper} {v : Value} {fuel : Nat} {listed : Array Bool} {a : Act} {w : World} (hd : ops.toList.drop i = oi :: rest)
    (hs : Region.noSelect ops = true) (hf : Region.free md ops listed i = true) (hr : (Region.ready md ops listed).contains i = true)
    (hz : ((ops[z]?).map fun o => o.after.any fun e => Region.binds md e && e.on == i) = some true)
    (hQ : ∀ c a w, Q (.panic c) (a.put oi.dst v) w → Q (.panic c) a w) (hy : YieldsIf P ops S oi v a) (hS : S w)
    (h : wpAnyZ P md ops Q S z fuel (listed.setIfInBounds i true) (a.put oi.dst v) w) : wpAnyZ P md ops Q S z (fuel + 1) listed a w := by
  have hi : ops[i]? = some oi := by
    have e : (ops.toList.drop i)[0]? = some oi := by rw [hd]; rfl
    rw [List.getElem?_drop, Nat.add_zero] at e
    simpa using e
  refine wpAnyZ_first hi (Region.noSelect_spec hs) hQ (fun oz hoz => ?_) fuel listed a w (Region.free_spec hi hf) (by simpa using hr) hy hS h
  rw [hoz] at hz
  simp only [Option.map_some, Option.some.injEq, Array.any_eq_true] at hz
  obtain ⟨k, hk, he⟩ := hz
  rw [Bool.and_eq_true, beq_iff_eq] at he
  exact ⟨_, Array.getElem_mem hk, he.1, he.2⟩
/-- One operation that alone may come up; behind it S is shown anew, but behind the last one. -/
theorem stepZ {i : Nat} {oi : Oper} {rest : List Oper} {fuel : Nat} {listed : Array Bool} {a : Act} {w : World} (hr : Region.ready md ops listed = [i]) (hd : ops.toList.drop i = oi :: rest)
    (h : ∀ K' : Act → World → Prop, Shut (∀ a w, (i ≠ z → S w) → ((i ≠ z → S w) → wpAnyZ P md ops Q S z fuel (listed.setIfInBounds i true) a w) → K' a w) → if Region.wanted oi (yielded ops a.tmps) = true then Oper.wp P oi a w K' Q else K' (a.put oi.dst undef) w) :
    wpAnyZ P md ops Q S z (fuel + 1) listed a w := by
  have hi : ops[i]? = some oi := by
    have e : (ops.toList.drop i)[0]? = some oi := by rw [hd]; rfl
    rw [List.getElem?_drop, Nat.add_zero] at e
    simpa using e
  refine ⟨fun h0 => (by rw [hr] at h0; cases h0), fun j hj => ?_⟩
  rw [hr] at hj
  obtain rfl : j = i := by simpa using hj
  have := h (fun a' w' => (j ≠ z → S w') ∧ wpAnyZ P md ops Q S z fuel (listed.setIfInBounds j true) a' w') (fun a w hS hk => ⟨hS, hk hS⟩)
  unfold wpOp
  simp only [hi]
  by_cases hw : Region.wanted oi (yielded ops a.tmps) = true
  · rw [if_pos hw] at this ⊢
    exact .inl this
  · rw [if_neg hw] at this ⊢
    exact this
theorem doneZ {listed : Array Bool} {a : Act} {w : World} (hr : Region.ready md ops listed = []) (h : Q .normal a w) : ∀ fuel, wpAnyZ P md ops Q S z fuel listed a w
  | 0 => ⟨hr, h⟩
  | _ + 1 => ⟨fun _ => h, by rw [hr]; simp⟩
theorem wp_region_Z {id : Nat} {a : Act} {w : World} (S : World → Prop) (z : Nat) (hm : P.follows .mixedOrders = true)
    (h : wpAnyZ P .any ops Q S z ops.size (Array.replicate ops.size false) a w.drew) : (Code.region id ops true).wp P Q a w :=
  wp_region_any hm (wpAny_of_Z _ _ _ _ h)
end
end Hx
end Go.Proofs.Ytkmaogafknehgaa
