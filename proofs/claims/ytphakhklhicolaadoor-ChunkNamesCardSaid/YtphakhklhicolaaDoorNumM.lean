/-
  Plain mathematics of numbers in decimal digits.
-/
import Derived.Test.YtphakhklhicolaaDoorMem
namespace Go.Proofs.YtphakhklhicolaaDoor
namespace Nmb
set_option linter.unusedVariables false
/-- The digit of n. -/
def dgt (n : Nat) : UInt8 := UInt8.ofNat (48 + n)
theorem dgt_nat {n : Nat} (h : n < 10) : (dgt n).toNat = 48 + n := by unfold dgt; rw [UInt8.toNat_ofNat']; omega
/-- The decimal digits of n. -/
def dg (n : Nat) : List UInt8 := if h : n < 10 then [dgt n] else dg (n / 10) ++ [dgt (n % 10)]
termination_by n
decreasing_by omega
theorem dg_small {n : Nat} (h : n < 10) : dg n = [dgt n] := by rw [dg, dif_pos h]
theorem dg_more {n : Nat} (h : 10 ≤ n) : dg n = dg (n / 10) ++ [dgt (n % 10)] := by rw [dg, dif_neg (by omega)]
def isDg (b : UInt8) : Bool := decide (48 ≤ b.toNat) && decide (b.toNat ≤ 57)
theorem isDg_dgt {n : Nat} (h : n < 10) : isDg (dgt n) = true := by unfold isDg; rw [dgt_nat h]; simp; omega
theorem dgt_of {b : UInt8} (h : isDg b = true) : dgt (b.toNat - 48) = b := by
  simp only [isDg, Bool.and_eq_true, decide_eq_true_eq] at h
  unfold dgt
  rw [show 48 + (b.toNat - 48) = b.toNat by omega]
  exact UInt8.ofNat_toNat
/-- The number that digits tell. -/
def val (l : List UInt8) : Nat := l.foldl (fun n b => 10 * n + (b.toNat - 48)) 0
theorem val_nil : val [] = 0 := rfl
theorem val_snoc (l : List UInt8) (b : UInt8) : val (l ++ [b]) = 10 * val l + (b.toNat - 48) := by unfold val; rw [List.foldl_append]; rfl
theorem val_dg (n : Nat) : val (dg n) = n := by
  induction n using Nat.strongRecOn with
  | ind n ih =>
    by_cases h : n < 10
    · rw [dg_small h, ← List.nil_append [dgt n], val_snoc, val_nil, dgt_nat h]
      omega
    · rw [dg_more (by omega), val_snoc, ih (n / 10) (by omega), dgt_nat (by omega)]
      omega
theorem dg_inj {n m : Nat} (h : dg n = dg m) : n = m := by rw [← val_dg n, h, val_dg]
theorem dg_all (n : Nat) : (dg n).all isDg = true := by
  induction n using Nat.strongRecOn with
  | ind n ih =>
    by_cases h : n < 10
    · rw [dg_small h]; simp [isDg_dgt h]
    · rw [dg_more (by omega), List.all_append, ih (n / 10) (by omega)]
      simp [isDg_dgt (show n % 10 < 10 by omega)]
theorem dg_length (n : Nat) : 1 ≤ (dg n).length := by
  by_cases h : n < 10
  · rw [dg_small h]; simp
  · rw [dg_more (by omega)]; simp
theorem dg_ne (n : Nat) : dg n ≠ [] := fun h => by have := dg_length n; rw [h] at this; simp at this
theorem head_app {l r : List UInt8} (h : l ≠ []) : (l ++ r).head? = l.head? := by
  cases l with
  | nil => exact absurd rfl h
  | cons a l => rfl
theorem dg_first (n : Nat) (h0 : 0 < n) : (dg n).head? ≠ some 48 := by
  induction n using Nat.strongRecOn with
  | ind n ih =>
    by_cases h : n < 10
    · rw [dg_small h]
      simp only [List.head?_cons, ne_eq, Option.some.injEq]
      intro q
      have := congrArg UInt8.toNat q
      rw [dgt_nat h] at this
      simp at this
      omega
    · rw [dg_more (by omega), head_app (dg_ne _)]
      exact ih (n / 10) (by omega) (by omega)
/-- Is that a number's text, however great? -/
def okN (l : List UInt8) : Bool := !l.isEmpty && l.all isDg && (l.length == 1 || l.head? != some 48)
theorem okN_dg (n : Nat) : okN (dg n) = true := by
  unfold okN
  rw [dg_all]
  by_cases h : n = 0
  · subst h
    rw [dg_small (by omega)]
    rfl
  · have h1 := dg_first n (by omega)
    have h2 := dg_ne n
    simp [h1, h2]
theorem val_pos (l : List UInt8) (h : l.all isDg = true) (hn : l ≠ []) (hf : l.head? ≠ some 48) : 0 < val l := by
  cases l with
  | nil => exact absurd rfl hn
  | cons b r =>
    simp only [List.head?_cons, ne_eq, Option.some.injEq] at hf
    rw [List.all_cons, Bool.and_eq_true] at h
    have hb : 0 < b.toNat - 48 := by
      have h1 := h.1
      simp only [isDg, Bool.and_eq_true, decide_eq_true_eq] at h1
      have : b.toNat ≠ 48 := fun q => hf (UInt8.toNat_inj.1 (by rw [q]; rfl))
      omega
    have gen : ∀ (r : List UInt8) (x : Nat), 0 < x → 0 < r.foldl (fun n b => 10 * n + (b.toNat - 48)) x := by
      intro r
      induction r with
      | nil => exact fun x hx => hx
      | cons c r ih => exact fun x hx => ih (10 * x + (c.toNat - 48)) (by omega)
    exact gen r (10 * 0 + (b.toNat - 48)) (by omega)
theorem dg_val (l : List UInt8) (h : okN l = true) : dg (val l) = l := by
  simp only [okN, Bool.and_eq_true, Bool.or_eq_true, bne_iff_ne, beq_iff_eq, Bool.not_eq_true', List.isEmpty_eq_false_iff] at h
  obtain ⟨⟨hn, ha⟩, hf⟩ := h
  obtain ⟨k, hk⟩ : ∃ k, l.length = k := ⟨_, rfl⟩
  induction k generalizing l with
  | zero => exact absurd (List.eq_nil_of_length_eq_zero hk) hn
  | succ k ih =>
    obtain ⟨r, b, rfl⟩ : ∃ r b, l = r ++ [b] := ⟨l.dropLast, l.getLast hn, (List.dropLast_concat_getLast hn).symm⟩
    rw [List.all_append, Bool.and_eq_true] at ha
    have hb : isDg b = true := by simpa using ha.2
    have hb2 := hb
    simp only [isDg, Bool.and_eq_true, decide_eq_true_eq] at hb2
    rw [val_snoc]
    by_cases hr : r = []
    · subst hr
      rw [val_nil, dg_small (by omega), show 10 * 0 + (b.toNat - 48) = b.toNat - 48 by omega, dgt_of hb]
      rfl
    · have hrl : 0 < r.length := List.length_pos_iff.2 hr
      have hf' : r.head? ≠ some 48 := by
        rcases hf with hf | hf
        · rw [List.length_append] at hf; simp only [List.length_cons, List.length_nil] at hf; omega
        · rw [head_app hr] at hf; exact hf
      have hp := val_pos r ha.1 hr hf'
      have hrk : r.length = k := by rw [List.length_append] at hk; simpa using hk
      have hi : dg (val r) = r := by apply ih <;> first | exact ha.1 | assumption | exact Or.inr hf'
      rw [dg_more (by omega), show (10 * val r + (b.toNat - 48)) / 10 = val r by omega, show (10 * val r + (b.toNat - 48)) % 10 = b.toNat - 48 by omega, hi, dgt_of hb]
theorem val_lt (l : List UInt8) (h : l.all isDg = true) : val l < 10 ^ l.length := by
  obtain ⟨k, hk⟩ : ∃ k, l.length = k := ⟨_, rfl⟩
  rw [hk]
  induction k generalizing l with
  | zero => rw [List.eq_nil_of_length_eq_zero hk]; decide
  | succ k ih =>
    have hn : l ≠ [] := fun q => by rw [q] at hk; simp at hk
    obtain ⟨r, b, rfl⟩ : ∃ r b, l = r ++ [b] := ⟨l.dropLast, l.getLast hn, (List.dropLast_concat_getLast hn).symm⟩
    rw [List.all_append, Bool.and_eq_true] at h
    have hb : isDg b = true := by simpa using h.2
    simp only [isDg, Bool.and_eq_true, decide_eq_true_eq] at hb
    have := ih r h.1 (by rw [List.length_append] at hk; simpa using hk)
    rw [val_snoc, Nat.pow_succ]
    omega
theorem dg_lt (n k : Nat) (h : (dg n).length ≤ k) : n < 10 ^ k := by
  have := val_lt (dg n) (dg_all n)
  rw [val_dg] at this
  exact Nat.lt_of_lt_of_le this (Nat.pow_le_pow_right (by decide) h)
theorem dg_short (k n : Nat) (h : n < 10 ^ (k + 1)) : (dg n).length ≤ k + 1 := by
  induction k generalizing n with
  | zero => rw [dg_small (by simpa using h)]; simp
  | succ k ih =>
    by_cases h9 : n < 10
    · rw [dg_small h9]; simp
    · rw [dg_more (by omega), List.length_append]
      have := ih (n / 10) (by rw [Nat.pow_succ] at h; omega)
      simp
      omega
/-- Numbers are in the order of their texts, the longer ones behind. -/
theorem lex_pre {x y u v : List UInt8} (hl : x.length = y.length) (h : x < y) : x ++ u < y ++ v := by
  induction x generalizing y with
  | nil =>
    cases y with
    | nil => exact absurd h (List.lt_irrefl _)
    | cons b y => simp at hl
  | cons a x ih =>
    cases y with
    | nil => simp at hl
    | cons b y =>
      rw [List.cons_append, List.cons_append, List.cons_lt_cons_iff]
      rw [List.cons_lt_cons_iff] at h
      rcases h with h | ⟨rfl, h⟩
      · exact .inl h
      · exact .inr ⟨rfl, ih (by simpa using hl) h⟩
theorem lex_post {x u v : List UInt8} (h : u < v) : x ++ u < x ++ v := by
  induction x with
  | nil => exact h
  | cons a x ih => rw [List.cons_append, List.cons_append, List.cons_lt_cons_iff]; exact .inr ⟨rfl, ih⟩
theorem dgt_lt {a b : Nat} (ha : a < 10) (hb : b < 10) (h : a < b) : dgt a < dgt b := by rw [UInt8.lt_iff_toNat_lt, dgt_nat ha, dgt_nat hb]; omega
theorem dg_mono (n m : Nat) (h : n < m) : (dg n).length < (dg m).length ∨ ((dg n).length = (dg m).length ∧ dg n < dg m) := by
  induction m using Nat.strongRecOn generalizing n with
  | ind m ih =>
    by_cases hm : m < 10
    · rw [dg_small hm, dg_small (by omega)]
      exact .inr ⟨rfl, List.cons_lt_cons_iff.2 (.inl (dgt_lt (by omega) hm h))⟩
    · rw [dg_more (by omega : 10 ≤ m)]
      have hl := dg_length (m / 10)
      by_cases hn : n < 10
      · rw [dg_small hn]
        exact .inl (by simp; omega)
      · rw [dg_more (by omega : 10 ≤ n)]
        by_cases hd : n / 10 < m / 10
        · rcases ih (m / 10) (by omega) (n / 10) hd with q | ⟨q, r⟩
          · exact .inl (by simp; omega)
          · exact .inr ⟨by simp; omega, lex_pre q r⟩
        · have he : n / 10 = m / 10 := by omega
          rw [he]
          exact .inr ⟨by simp, lex_post (List.cons_lt_cons_iff.2 (.inl (dgt_lt (by omega) (by omega) (by omega))))⟩
theorem dg_order (n m : Nat) : n < m ↔ (dg n).length < (dg m).length ∨ ((dg n).length = (dg m).length ∧ dg n < dg m) := by
  refine ⟨dg_mono n m, fun h => ?_⟩
  rcases Nat.lt_trichotomy n m with q | rfl | q
  · exact q
  · rcases h with h | ⟨_, h⟩
    · omega
    · exact absurd h (List.lt_irrefl _)
  · rcases dg_mono m n q with r | ⟨r, s⟩
    · rcases h with h | ⟨h, _⟩ <;> omega
    · rcases h with h | ⟨_, h⟩
      · omega
      · exact absurd (List.lt_trans h s) (List.lt_irrefl _)
/-- The greatest number. -/
def most : Nat := 9007199254740991
/-- The number whose text that is. -/
def readN (l : List UInt8) : Option Nat := if okN l && decide (val l ≤ most) then some (val l) else none
theorem readN_iff (l : List UInt8) (n : Nat) : readN l = some n ↔ l = dg n ∧ n ≤ most := by
  unfold readN
  constructor
  · intro h
    split at h
    · rename_i hc
      rw [Bool.and_eq_true, decide_eq_true_eq] at hc
      injection h with h
      subst h
      exact ⟨(dg_val l hc.1).symm, hc.2⟩
    · cases h
  · rintro ⟨rfl, h⟩
    rw [okN_dg, val_dg, if_pos (by simpa using h)]
theorem dg_most {n : Nat} (h : n ≤ most) : (dg n).length ≤ 16 := dg_short 15 n (by unfold most at h; omega)
theorem readN_long (l : List UInt8) (h : 16 < l.length) : readN l = none := by
  cases hr : readN l with
  | none => rfl
  | some n =>
    obtain ⟨rfl, hn⟩ := (readN_iff l n).1 hr
    have := dg_most hn
    omega
/-- A level's text. -/
def sgn (n : Int) : List UInt8 := if n < 0 then 45 :: dg (-n).toNat else dg n.toNat
theorem dg_no (n : Nat) (b : UInt8) (r : List UInt8) (hb : isDg b = false) : dg n ≠ b :: r := fun h => by
  have := dg_all n
  rw [h, List.all_cons, hb] at this
  cases this
theorem sgn_inj {n m : Int} (h : sgn n = sgn m) : n = m := by
  unfold sgn at h
  split at h <;> split at h
  · injection h with _ h
    have := dg_inj h
    omega
  · exact absurd h.symm (dg_no _ _ _ (by decide))
  · exact absurd h (dg_no _ _ _ (by decide))
  · have := dg_inj h
    omega
/-- A version's text. -/
def ver (n m : Nat) : List UInt8 := dg n ++ 46 :: dg m
theorem split_at {x x' y y' : List UInt8} {b : UInt8} (hx : b ∉ x) (hx' : b ∉ x') (h : x ++ b :: y = x' ++ b :: y') : x = x' ∧ y = y' := by
  induction x generalizing x' with
  | nil =>
    cases x' with
    | nil => injection h with _ h; exact ⟨rfl, h⟩
    | cons a x' => injection h with h _; exact absurd (h ▸ List.mem_cons_self) hx'
  | cons a x ih =>
    cases x' with
    | nil => injection h with h _; exact absurd (h ▸ List.mem_cons_self) hx
    | cons a' x' =>
      injection h with h1 h2
      obtain ⟨e1, e2⟩ := ih (fun q => hx (List.mem_cons_of_mem _ q)) (fun q => hx' (List.mem_cons_of_mem _ q)) h2
      exact ⟨by rw [h1, e1], e2⟩
theorem dg_not (n : Nat) (b : UInt8) (hb : isDg b = false) : b ∉ dg n := fun h => by
  have := List.all_eq_true.1 (dg_all n) b h
  rw [hb] at this
  cases this
theorem ver_inj {n m n' m' : Nat} (h : ver n m = ver n' m') : n = n' ∧ m = m' := by
  obtain ⟨h1, h2⟩ := split_at (dg_not n 46 (by decide)) (dg_not n' 46 (by decide)) h
  exact ⟨dg_inj h1, dg_inj h2⟩
end Nmb
end Go.Proofs.YtphakhklhicolaaDoor
