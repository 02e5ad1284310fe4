/-
  Plain mathematics of contents in chunks: one step, decoding, encoding; what stands behind.
-/
import GoSem.Core.Utf8
namespace Go.Proofs.YtphakhklhicolaaDoor
namespace Ck
set_option linter.unusedVariables false
/-- A hexadecimal digit's number. -/
def hv (c : UInt8) : Option Nat := if 48 ≤ c.toNat ∧ c.toNat ≤ 57 then some (c.toNat - 48) else if 97 ≤ c.toNat ∧ c.toNat ≤ 102 then some (c.toNat - 87) else if 65 ≤ c.toNat ∧ c.toNat ≤ 70 then some (c.toNat - 55) else none
def last5 : List UInt8 := [48, 13, 10, 13, 10]
/-- What digits tell: the number, and how many they are, at most f more. -/
def szF : Nat → Nat → Nat → List UInt8 → Nat × Nat
  | 0, n, k, _ => (n, k)
  | f + 1, n, k, [] => (n, k)
  | f + 1, n, k, c :: r => match hv c with
    | none => (n, k)
    | some d => if k = 0 ∧ c = 48 then (n, k) else szF f (16 * n + d) (k + 1) r
def sz (l : List UInt8) : Nat × Nat := szF 4 0 0 l
theorem szF_le : ∀ (f n k : Nat) (l : List UInt8), k ≤ (szF f n k l).2 ∧ (szF f n k l).2 ≤ k + f ∧ (szF f n k l).2 ≤ k + l.length
  | 0, n, k, l => by simp [szF]
  | f + 1, n, k, [] => by simp [szF]
  | f + 1, n, k, c :: r => by
    rw [szF]
    cases hv c with
    | none => simp
    | some d =>
      dsimp only
      split
      · simp
      · have := szF_le f (16 * n + d) (k + 1) r
        rw [List.length_cons]
        omega
/-- More behind turns nothing, unless the digits go on to the end. -/
theorem szF_app : ∀ (f n k : Nat) (l x : List UInt8), (szF f n k l).2 < k + l.length → szF f n k (l ++ x) = szF f n k l
  | 0, n, k, l, x, h => rfl
  | f + 1, n, k, [], x, h => by simp [szF] at h
  | f + 1, n, k, c :: r, x, h => by
    rw [List.cons_append, szF, szF]
    rw [szF] at h
    cases hc : hv c with
    | none => rfl
    | some d =>
      rw [hc] at h
      dsimp only at h ⊢
      split
      · rfl
      · rename_i hk
        rw [if_neg hk] at h
        exact szF_app f _ _ r x (by rw [List.length_cons] at h; omega)
theorem szF_pos : ∀ (f n k : Nat) (l : List UInt8), k ≤ n → (0 < k → 0 < n) → 0 < (szF f n k l).2 → 0 < (szF f n k l).1
  | 0, n, k, l, h0, h1, h2 => h1 h2
  | f + 1, n, k, [], h0, h1, h2 => h1 h2
  | f + 1, n, k, c :: r, h0, h1, h2 => by
    rw [szF] at h2 ⊢
    cases hc : hv c with
    | none => rw [hc] at h2; exact h1 h2
    | some d =>
      rw [hc] at h2
      dsimp only at h2 ⊢
      split
      · rename_i hk; rw [if_pos hk] at h2; exact h1 h2
      · rename_i hk
        rw [if_neg hk] at h2
        have hp : 0 < 16 * n + d := by
          by_cases hk0 : 0 < k
          · have := h1 hk0; omega
          · have hk00 : k = 0 := by omega
            have hc0 : c ≠ 48 := fun e => hk ⟨hk00, e⟩
            have : c.toNat ≠ 48 := fun e => hc0 (UInt8.toNat_inj.1 e)
            unfold hv at hc
            split at hc
            · cases hc; omega
            · split at hc
              · cases hc; omega
              · split at hc
                · cases hc; omega
                · cases hc
        exact szF_pos f _ _ r (by omega) (fun _ => hp) h2
theorem sz_pos {l : List UInt8} (h : 0 < (sz l).2) : 0 < (sz l).1 := szF_pos 4 0 0 l (Nat.le_refl _) (fun h => absurd h (Nat.lt_irrefl _)) h
theorem hv_lt {c : UInt8} {d : Nat} (h : hv c = some d) : d < 16 := by
  unfold hv at h
  split at h
  · cases h; omega
  · split at h
    · cases h; omega
    · split at h
      · cases h; omega
      · cases h
theorem szF_lt : ∀ (f n k : Nat) (l : List UInt8), n < 16 ^ k → (szF f n k l).1 < 16 ^ (szF f n k l).2
  | 0, n, k, l, h => h
  | f + 1, n, k, [], h => h
  | f + 1, n, k, c :: r, h => by
    rw [szF]
    cases hc : hv c with
    | none => exact h
    | some d =>
      dsimp only
      split
      · exact h
      · exact szF_lt f _ _ r (by have := hv_lt hc; rw [Nat.pow_succ]; omega)
theorem sz_lt {l : List UInt8} {n k : Nat} (h : sz l = (n, k)) : n < 65536 := by
  have h1 := szF_lt 4 0 0 l (by decide)
  have h2 := (szF_le 4 0 0 l).2.1
  unfold sz at h
  rw [h] at h1 h2
  exact Nat.lt_of_lt_of_le h1 (Nat.pow_le_pow_right (by decide) (show k ≤ 4 by omega))
theorem sz_len (l : List UInt8) : (sz l).2 ≤ 4 ∧ (sz l).2 ≤ l.length := by have := szF_le 4 0 0 l; unfold sz; omega
theorem sz_app {l : List UInt8} (x : List UInt8) (h : (sz l).2 < l.length) : sz (l ++ x) = sz l := szF_app 4 0 0 l x (by unfold sz at h; omega)
/-- One step: what came next. -/
inductive Chk where
  | fin : Chk
  | begun : Chk
  | bad : Chk
  | many : Chk
  | go (data rest : List UInt8) : Chk
def stepL (len : Nat) (l : List UInt8) : Chk :=
  if last5 <+: l then .fin
  else if l <+: last5 then .begun
  else if (sz l).2 = 0 then .bad
  else if (sz l).2 = l.length ∨ l.drop (sz l).2 = [13] then .begun
  else if ¬ [13, 10] <+: l.drop (sz l).2 then .bad
  else if 8192 < len + (sz l).1 then .many
  else if (l.drop ((sz l).2 + 2)).length ≤ (sz l).1 ∨ ((l.drop ((sz l).2 + 2)).drop (sz l).1 <+: [13, 10] ∧ (l.drop ((sz l).2 + 2)).length < (sz l).1 + 2) then .begun
  else if ¬ [13, 10] <+: (l.drop ((sz l).2 + 2)).drop (sz l).1 then .bad
  else .go ((l.drop ((sz l).2 + 2)).take (sz l).1) ((l.drop ((sz l).2 + 2)).drop ((sz l).1 + 2))
theorem step_go {len : Nat} {l d r : List UInt8} (h : stepL len l = .go d r) :
    0 < (sz l).2 ∧ len + (sz l).1 ≤ 8192 ∧ d.length = (sz l).1 ∧ r.length + ((sz l).2 + 2 + (sz l).1 + 2) = l.length ∧ r = l.drop ((sz l).2 + 2 + (sz l).1 + 2) ∧ d = (l.drop ((sz l).2 + 2)).take (sz l).1 := by
  unfold stepL at h
  split at h
  · cases h
  split at h
  · cases h
  split at h
  · cases h
  rename_i h0
  split at h
  · cases h
  split at h
  · cases h
  split at h
  · cases h
  rename_i hm
  split at h
  · cases h
  rename_i ho
  split at h
  · cases h
  rename_i hb
  cases h
  have hb := Classical.not_not.1 hb
  have hl := hb.length_le
  rw [List.length_drop, List.length_drop] at hl
  simp only [List.length_cons, List.length_nil] at hl
  refine ⟨by omega, by omega, ?_, ?_, ?_, rfl⟩
  · rw [List.length_take, List.length_drop]; omega
  · rw [List.length_drop, List.length_drop]; omega
  · rw [List.drop_drop]
    congr 1
theorem step_len {len : Nat} {l d r : List UInt8} (h : stepL len l = .go d r) : r.length < l.length := by
  obtain ⟨_, _, _, h1, _, _⟩ := step_go h
  omega
/-- What came, as a whole. -/
def decL (body : List UInt8) (pos : Nat) (l : List UInt8) : List UInt8 × Nat × Bool × Int :=
  match h : stepL body.length l with
  | .fin => (body, pos + 5, true, 0)
  | .begun => ([], 0, false, 0)
  | .bad => ([], 0, false, 160)
  | .many => ([], 0, false, 4)
  | .go d r => decL (body ++ d) (pos + (l.length - r.length)) r
termination_by l.length
decreasing_by exact step_len h
theorem pre_app {a b x : List UInt8} (h1 : ¬ a <+: b) (h2 : ¬ b <+: a) : ¬ a <+: b ++ x := fun h =>
  (List.prefix_or_prefix_of_prefix h (List.prefix_append b x)).elim h1 h2
theorem crlf_app {l x : List UInt8} (h0 : l ≠ []) (h1 : l ≠ [13]) : ([13, 10] <+: l ++ x) ↔ ([13, 10] <+: l) := by
  match l, h0, h1 with
  | [c], _, h1 =>
    constructor
    · rintro ⟨t, e⟩
      have : (13 : UInt8) = c := by
        have := congrArg List.head? e
        simpa using this
      exact absurd (by rw [this]) h1
    · rintro ⟨t, e⟩
      have := congrArg List.length e
      simp at this
  | c :: d :: r, _, _ =>
    constructor
    · rintro ⟨t, e⟩
      rw [List.cons_append, List.cons_append] at e
      injection e with e1 e
      injection e with e2 e
      exact ⟨r, by rw [e1, e2]; rfl⟩
    · rintro ⟨t, e⟩
      exact ⟨t ++ x, by rw [← List.append_assoc, e]⟩
/-- A step that is told is told, whatever stands behind. -/
theorem step_app {len : Nat} {l : List UInt8} (x : List UInt8) (h : stepL len l ≠ .begun) :
    stepL len (l ++ x) = match stepL len l with | .go d r => .go d (r ++ x) | s => s := by
  by_cases h1 : last5 <+: l
  · have e : stepL len l = .fin := by unfold stepL; rw [if_pos h1]
    rw [e]
    unfold stepL
    rw [if_pos (h1.trans (List.prefix_append _ _))]
  by_cases h2 : l <+: last5
  · exact absurd (by unfold stepL; rw [if_neg h1, if_pos h2]) h
  have g1 : ¬ last5 <+: l ++ x := pre_app h1 h2
  have g2 : ¬ l ++ x <+: last5 := fun k => h2 ((List.prefix_append _ _).trans k)
  have hne : l ≠ [] := fun e => h2 (by rw [e]; exact List.nil_prefix)
  by_cases h3 : (sz l).2 = 0
  · have hs : sz (l ++ x) = sz l := sz_app x (by rw [h3]; exact List.length_pos_iff.2 hne)
    have e : stepL len l = .bad := by unfold stepL; rw [if_neg h1, if_neg h2, if_pos h3]
    rw [e]
    unfold stepL
    rw [if_neg g1, if_neg g2, hs, if_pos h3]
  by_cases h4 : (sz l).2 = l.length ∨ l.drop (sz l).2 = [13]
  · exact absurd (by unfold stepL; rw [if_neg h1, if_neg h2, if_neg h3, if_pos h4]) h
  rw [not_or] at h4
  have hk := (sz_len l).2
  have hlt : (sz l).2 < l.length := by omega
  have hs : sz (l ++ x) = sz l := sz_app x hlt
  have hd : (l ++ x).drop (sz l).2 = l.drop (sz l).2 ++ x := List.drop_append_of_le_length hk
  have hdn : l.drop (sz l).2 ≠ [] := fun e => by have := congrArg List.length e; rw [List.length_drop] at this; simp at this; omega
  have g4 : ¬ ((sz l).2 = (l ++ x).length ∨ l.drop (sz l).2 ++ x = [13]) := by
    rintro (k | k)
    · rw [List.length_append] at k; omega
    · rcases List.append_eq_singleton_iff.1 k with ⟨k1, _⟩ | ⟨k1, _⟩
      · exact hdn k1
      · exact h4.2 k1
  have hc := crlf_app (x := x) hdn h4.2
  by_cases h5 : [13, 10] <+: l.drop (sz l).2
  · have hkl : (sz l).2 + 2 ≤ l.length := by have := h5.length_le; rw [List.length_drop] at this; simp at this; omega
    have hd2 : (l ++ x).drop ((sz l).2 + 2) = l.drop ((sz l).2 + 2) ++ x := List.drop_append_of_le_length hkl
    by_cases h6 : 8192 < len + (sz l).1
    · have e : stepL len l = .many := by unfold stepL; rw [if_neg h1, if_neg h2, if_neg h3, if_neg (by rw [not_or]; exact h4), if_neg (fun k => k h5), if_pos h6]
      rw [e]
      unfold stepL
      rw [if_neg g1, if_neg g2, hs, if_neg h3, hd, if_neg g4, if_neg (fun k => k (hc.2 h5)), if_pos h6]
    · obtain ⟨D, hD⟩ : ∃ D, l.drop ((sz l).2 + 2) = D := ⟨_, rfl⟩
      by_cases h7 : D.length ≤ (sz l).1 ∨ (D.drop (sz l).1 <+: [13, 10] ∧ D.length < (sz l).1 + 2)
      · exact absurd (by unfold stepL; rw [if_neg h1, if_neg h2, if_neg h3, if_neg (by rw [not_or]; exact h4), if_neg (fun k => k h5), if_neg h6, hD, if_pos h7]) h
      · rw [not_or, Nat.not_le] at h7
        obtain ⟨h7, h8⟩ := h7
        have hd3 : (D ++ x).drop (sz l).1 = D.drop (sz l).1 ++ x := List.drop_append_of_le_length (Nat.le_of_lt h7)
        have hn3 : D.drop (sz l).1 ≠ [] := fun e => by have := congrArg List.length e; rw [List.length_drop] at this; simp at this; omega
        have hn4 : D.drop (sz l).1 ≠ [13] := fun e => h8 ⟨by rw [e]; exact ⟨[10], rfl⟩, by have := congrArg List.length e; rw [List.length_drop] at this; simp at this; omega⟩
        have g7 : ¬ ((D ++ x).length ≤ (sz l).1 ∨ (D.drop (sz l).1 ++ x <+: [13, 10] ∧ (D ++ x).length < (sz l).1 + 2)) := by
          rw [List.length_append]
          rintro (k | ⟨k1, k2⟩)
          · omega
          · exact h8 ⟨(List.prefix_append _ _).trans k1, by omega⟩
        have hc2 := crlf_app (x := x) hn3 hn4
        by_cases h9 : [13, 10] <+: D.drop (sz l).1
        · have hD2 : (sz l).1 + 2 ≤ D.length := by have := h9.length_le; rw [List.length_drop] at this; simp at this; omega
          have e : stepL len l = .go (D.take (sz l).1) (D.drop ((sz l).1 + 2)) := by unfold stepL; rw [if_neg h1, if_neg h2, if_neg h3, if_neg (by rw [not_or]; exact h4), if_neg (fun k => k h5), if_neg h6, hD, if_neg (by rw [not_or, Nat.not_le]; exact ⟨h7, h8⟩), if_neg (fun k => k h9)]
          rw [e]
          unfold stepL
          rw [if_neg g1, if_neg g2, hs, if_neg h3, hd, if_neg g4, if_neg (fun k => k (hc.2 h5)), if_neg h6, hd2, hD, hd3, if_neg g7, if_neg (fun k => k (hc2.2 h9))]
          dsimp only
          rw [List.take_append_of_le_length (Nat.le_of_lt h7), List.drop_append_of_le_length hD2]
        · have e : stepL len l = .bad := by unfold stepL; rw [if_neg h1, if_neg h2, if_neg h3, if_neg (by rw [not_or]; exact h4), if_neg (fun k => k h5), if_neg h6, hD, if_neg (by rw [not_or, Nat.not_le]; exact ⟨h7, h8⟩), if_pos h9]
          rw [e]
          unfold stepL
          rw [if_neg g1, if_neg g2, hs, if_neg h3, hd, if_neg g4, if_neg (fun k => k (hc.2 h5)), if_neg h6, hd2, hD, hd3, if_neg g7, if_pos (fun k => h9 (hc2.1 k))]
  · have e : stepL len l = .bad := by unfold stepL; rw [if_neg h1, if_neg h2, if_neg h3, if_neg (by rw [not_or]; exact h4), if_pos h5]
    rw [e]
    unfold stepL
    rw [if_neg g1, if_neg g2, hs, if_neg h3, hd, if_neg g4, if_pos (fun k => h5 (hc.1 k))]
/-- What is done, or has an error, has that, whatever stands behind. -/
theorem dec_app (x : List UInt8) : ∀ (m : Nat) (l body : List UInt8) (pos : Nat), l.length ≤ m → ((decL body pos l).2.2.1 = true ∨ (decL body pos l).2.2.2 ≠ 0) → decL body pos (l ++ x) = decL body pos l := by
  intro m
  induction m with
  | zero =>
    intro l body pos hm hr
    have : l = [] := List.eq_nil_of_length_eq_zero (by omega)
    subst this
    have e : stepL body.length [] = .begun := by unfold stepL; rw [if_neg (by decide), if_pos (List.nil_prefix)]
    rw [decL] at hr
    split at hr <;> rename_i h <;> rw [e] at h <;> first | cases h | skip
    simp at hr
  | succ m ih =>
    intro l body pos hm hr
    have hs := fun h => step_app (len := body.length) (l := l) x h
    rw [decL] at hr
    split at hr
    · rename_i h
      rw [h] at hs
      have hs := hs (fun k => by cases k)
      rw [decL, decL]
      split <;> rename_i h2 <;> rw [hs] at h2 <;> cases h2
      split <;> rename_i h3 <;> rw [h] at h3 <;> cases h3
    · simp at hr
    · rename_i h
      rw [h] at hs
      have hs := hs (fun k => by cases k)
      rw [decL, decL]
      split <;> rename_i h2 <;> rw [hs] at h2 <;> cases h2
      split <;> rename_i h3 <;> rw [h] at h3 <;> cases h3
    · rename_i h
      rw [h] at hs
      have hs := hs (fun k => by cases k)
      rw [decL, decL]
      split <;> rename_i h2 <;> rw [hs] at h2 <;> cases h2
      split <;> rename_i h3 <;> rw [h] at h3 <;> cases h3
    · rename_i d r h
      rw [h] at hs
      have hs := hs (fun k => by cases k)
      have hl := step_len h
      have hi := ih r (body ++ d) (pos + (l.length - r.length)) (by omega) hr
      rw [decL]
      split <;> rename_i h2 <;> rw [hs] at h2 <;> cases h2
      rw [List.length_append, List.length_append, show l.length + x.length - (r.length + x.length) = l.length - r.length by omega, hi]
      conv => rhs; rw [decL]
      split <;> rename_i h3 <;> rw [h] at h3 <;> cases h3
      rfl
/-- A number's hexadecimal digits (small letters). -/
def hx (n : Nat) : UInt8 := if n < 10 then UInt8.ofNat (48 + n) else UInt8.ofNat (87 + n)
def hexL (n : Nat) : List UInt8 := if h : n = 0 then [] else hexL (n / 16) ++ [hx (n % 16)]
termination_by n
decreasing_by omega
theorem hv_hx {n : Nat} (h : n < 16) : hv (hx n) = some n := by
  have : ∀ k : Fin 16, hv (hx k.val) = some k.val := by decide +kernel
  exact this ⟨n, h⟩
theorem hx_0 {n : Nat} (h : n < 16) : hx n = 48 ↔ n = 0 := by
  have : ∀ k : Fin 16, hx k.val = 48 ↔ k.val = 0 := by decide +kernel
  exact this ⟨n, h⟩
theorem hexL_0 : hexL 0 = [] := by rw [hexL, dif_pos rfl]
theorem hexL_pos {n : Nat} (h : 0 < n) : hexL n = hexL (n / 16) ++ [hx (n % 16)] := by rw [hexL, dif_neg (by omega)]
theorem hexL_small {n : Nat} (h0 : 0 < n) (h : n < 16) : hexL n = [hx n] := by
  rw [hexL_pos h0, Nat.div_eq_of_lt h, hexL_0, Nat.mod_eq_of_lt h]
  rfl
theorem hv_13 : hv 13 = none := by decide
theorem hexL_ne {n : Nat} (h : 0 < n) : hexL n ≠ [] := by rw [hexL_pos h]; simp
theorem hexL_len : ∀ (k n : Nat), n < 16 ^ k → (hexL n).length ≤ k
  | 0, n, h => by
    have : n = 0 := by simp at h; omega
    subst this
    rw [hexL_0]
    exact Nat.le_refl _
  | k + 1, n, h => by
    by_cases h0 : n = 0
    · subst h0; rw [hexL_0]; exact Nat.zero_le _
    · rw [hexL_pos (by omega), List.length_append]
      have := hexL_len k (n / 16) (by rw [Nat.pow_succ] at h; omega)
      simp
      exact this
theorem hexL_lt : ∀ (n : Nat), n < 16 ^ (hexL n).length := by
  intro n
  induction n using Nat.strongRecOn with
  | ind n ih =>
    by_cases h0 : n = 0
    · subst h0; rw [hexL_0]; decide
    · have := ih (n / 16) (by omega)
      rw [hexL_pos (by omega), List.length_append, List.length_cons, List.length_nil, Nat.zero_add, Nat.pow_succ]
      omega
/-- The first digit is not 0. -/
theorem hexL_head : ∀ (n : Nat), 0 < n → ∃ c r, hexL n = c :: r ∧ c ≠ 48 := by
  intro n
  induction n using Nat.strongRecOn with
  | ind n ih =>
    intro h0
    by_cases h : n < 16
    · exact ⟨hx n, [], hexL_small h0 h, fun e => by have := (hx_0 h).1 e; omega⟩
    · obtain ⟨c, r, e, hc⟩ := ih (n / 16) (by omega) (by omega)
      exact ⟨c, r ++ [hx (n % 16)], by rw [hexL_pos h0, e]; rfl, hc⟩
theorem szF_hex : ∀ (n : Nat), 0 < n → ∀ (f m j : Nat) (y : List UInt8), (hexL n).length ≤ f → szF f m j (hexL n ++ y) = szF (f - (hexL n).length) (m * 16 ^ (hexL n).length + n) (j + (hexL n).length) y := by
  intro n
  induction n using Nat.strongRecOn with
  | ind n ih =>
    intro h0 f m j y hf
    by_cases h : n < 16
    · rw [hexL_small h0 h] at hf ⊢
      obtain ⟨f, rfl⟩ : ∃ g, f = g + 1 := ⟨f - 1, by simp at hf; omega⟩
      rw [List.cons_append, szF, hv_hx h]
      dsimp only
      rw [if_neg (by rintro ⟨_, e⟩; have := (hx_0 h).1 e; omega)]
      simp
      rw [Nat.mul_comm]
    · have hl : hexL n = hexL (n / 16) ++ [hx (n % 16)] := hexL_pos h0
      rw [hl] at hf ⊢
      rw [List.length_append, List.length_cons, List.length_nil] at hf ⊢
      have h1 := List.length_pos_iff.2 (hexL_ne (n := n / 16) (by omega))
      rw [List.append_assoc, ih (n / 16) (by omega) (by omega) f m j _ (by omega)]
      obtain ⟨g, hg⟩ : ∃ g, f - (hexL (n / 16)).length = g + 1 := ⟨f - (hexL (n / 16)).length - 1, by omega⟩
      rw [hg, List.cons_append, szF, hv_hx (by omega)]
      dsimp only
      rw [if_neg (by omega), List.nil_append]
      congr 1
      · omega
      · rw [Nat.zero_add, Nat.pow_succ]
        have : 16 * (m * 16 ^ (hexL (n / 16)).length + n / 16) = m * (16 ^ (hexL (n / 16)).length * 16) + 16 * (n / 16) := by
          rw [Nat.mul_add, Nat.mul_comm 16 (m * _), Nat.mul_assoc]
        omega
theorem sz_hex {n : Nat} (h0 : 0 < n) (h : n ≤ 8192) (r : List UInt8) : sz (hexL n ++ 13 :: r) = (n, (hexL n).length) := by
  have hl := hexL_len 4 n (by omega)
  unfold sz
  rw [szF_hex n h0 4 0 0 _ hl]
  rw [Nat.zero_mul, Nat.zero_add, Nat.zero_add]
  cases hg : 4 - (hexL n).length with
  | zero => rfl
  | succ g => rw [szF, hv_13]
/-- A chunk. -/
def chunkL (d : List UInt8) : List UInt8 := hexL d.length ++ 13 :: 10 :: (d ++ [13, 10])
theorem step_chunk {len : Nat} {d : List UInt8} (h0 : d ≠ []) (h : len + d.length ≤ 8192) (r : List UInt8) : stepL len (chunkL d ++ r) = .go d r := by
  have hp := List.length_pos_iff.2 h0
  obtain ⟨c, t, e, hc⟩ := hexL_head d.length hp
  have hs : sz (chunkL d ++ r) = (d.length, (hexL d.length).length) := by
    unfold chunkL
    rw [List.append_assoc]
    exact sz_hex hp (by omega) _
  have hd : (chunkL d ++ r).drop (hexL d.length).length = 13 :: 10 :: (d ++ 13 :: 10 :: r) := by
    unfold chunkL
    rw [List.append_assoc, List.drop_left]
    simp
  have hd2 : (chunkL d ++ r).drop ((hexL d.length).length + 2) = d ++ 13 :: 10 :: r := by
    rw [← List.drop_drop, hd]
    rfl
  have hc0 : (chunkL d ++ r) = c :: (t ++ 13 :: 10 :: (d ++ 13 :: 10 :: r)) := by
    unfold chunkL
    rw [e]
    simp
  have h1 : ¬ last5 <+: chunkL d ++ r := by
    rw [hc0]
    rintro ⟨u, k⟩
    injection k with k _
    exact hc k.symm
  have h2 : ¬ chunkL d ++ r <+: last5 := by
    rw [hc0]
    rintro ⟨u, k⟩
    injection k with k _
    exact hc k
  have hk : (hexL d.length).length ≠ 0 := fun k => hexL_ne hp (List.eq_nil_of_length_eq_zero k)
  unfold stepL
  rw [if_neg h1, if_neg h2, hs]
  dsimp only
  rw [if_neg hk, hd, if_neg, if_neg (fun k => k ⟨_, rfl⟩), if_neg (by omega), hd2, List.drop_left, if_neg, if_neg (fun k => k ⟨_, rfl⟩), List.take_left]
  · congr 1
    rw [← List.drop_drop, List.drop_left]
    rfl
  · rw [List.length_append]
    rintro (k | ⟨k, k2⟩)
    · simp at k; omega
    · simp at k2; omega
  · rintro (k | k)
    · have := congrArg List.length hc0
      have h3 := congrArg List.length hd
      rw [List.length_drop] at h3
      simp only [List.length_cons] at h3
      omega
    · cases k
def encC (ds : List (List UInt8)) : List UInt8 := ds.flatMap chunkL ++ last5
/-- What is encoded is decoded, whatever stands behind. -/
theorem dec_enc (more : List UInt8) : ∀ (ds : List (List UInt8)) (body : List UInt8) (pos : Nat), (∀ d ∈ ds, d ≠ []) → body.length + ds.flatten.length ≤ 8192 → decL body pos (encC ds ++ more) = (body ++ ds.flatten, pos + (encC ds).length, true, 0)
  | [], body, pos, _, _ => by
    have e : stepL body.length (encC [] ++ more) = .fin := by unfold stepL; rw [if_pos ⟨more, rfl⟩]
    rw [decL]
    split <;> rename_i h <;> rw [e] at h <;> cases h
    simp [encC, last5]
  | d :: ds, body, pos, h0, h => by
    rw [List.flatten_cons, List.length_append] at h
    have hsp : encC (d :: ds) ++ more = chunkL d ++ (encC ds ++ more) := by unfold encC; rw [List.flatMap_cons]; simp
    have e := step_chunk (len := body.length) (h0 d (by simp)) (by omega) (encC ds ++ more)
    have ih := dec_enc more ds (body ++ d) (pos + (encC (d :: ds) ++ more).length - (encC ds ++ more).length) (fun x hx => h0 x (List.mem_cons_of_mem _ hx)) (by rw [List.length_append]; omega)
    have hlen : (encC (d :: ds)).length = (chunkL d).length + (encC ds).length := by unfold encC; rw [List.flatMap_cons]; simp only [List.length_append]; omega
    have hge : (encC ds ++ more).length ≤ (encC (d :: ds) ++ more).length := by rw [List.length_append, List.length_append, hlen]; omega
    rw [decL]
    split <;> rename_i h2 <;> rw [hsp, e] at h2 <;> cases h2
    rw [show pos + ((encC (d :: ds) ++ more).length - (encC ds ++ more).length) = pos + (encC (d :: ds) ++ more).length - (encC ds ++ more).length by omega, ih, List.flatten_cons, List.append_assoc]
    congr 2
    rw [List.length_append, List.length_append, hlen]
    omega
/-- What a decoding that is done, or not, looks like. -/
theorem dec_form : ∀ (m : Nat) (l body : List UInt8) (pos : Nat), l.length ≤ m → (∃ u, decL body pos l = ((decL body pos l).1, u, true, 0) ∧ body <+: (decL body pos l).1 ∧ u ≤ pos + l.length ∧ pos + ((decL body pos l).1.length - body.length) + 5 ≤ u) ∨ (∃ e, decL body pos l = ([], 0, false, e) ∧ (e = 0 ∨ e = 160 ∨ e = 4)) := by
  intro m
  induction m with
  | zero =>
    intro l body pos hm
    have : l = [] := List.eq_nil_of_length_eq_zero (by omega)
    subst this
    have e : stepL body.length [] = .begun := by unfold stepL; rw [if_neg (by decide), if_pos (List.nil_prefix)]
    right
    refine ⟨0, ?_, .inl rfl⟩
    rw [decL]
    split <;> rename_i h <;> rw [e] at h <;> cases h
  | succ m ih =>
    intro l body pos hm
    cases hs : stepL body.length l with
    | fin =>
      have e : decL body pos l = (body, pos + 5, true, 0) := by rw [decL]; split <;> rename_i h <;> rw [hs] at h <;> cases h
      left
      rw [e]
      refine ⟨pos + 5, rfl, List.prefix_refl _, ?_, by dsimp only; omega⟩
      unfold stepL at hs
      by_cases h1 : last5 <+: l
      · have := h1.length_le; simp [last5] at this; omega
      · rw [if_neg h1] at hs
        split at hs
        · cases hs
        split at hs
        · cases hs
        split at hs
        · cases hs
        split at hs
        · cases hs
        split at hs
        · cases hs
        split at hs
        · cases hs
        split at hs
        · cases hs
        · cases hs
    | begun => exact .inr ⟨0, (by rw [decL]; split <;> rename_i h <;> rw [hs] at h <;> cases h), .inl rfl⟩
    | bad => exact .inr ⟨160, (by rw [decL]; split <;> rename_i h <;> rw [hs] at h <;> cases h), .inr (.inl rfl)⟩
    | many => exact .inr ⟨4, (by rw [decL]; split <;> rename_i h <;> rw [hs] at h <;> cases h), .inr (.inr rfl)⟩
    | go d r =>
      have e : decL body pos l = decL (body ++ d) (pos + (l.length - r.length)) r := by rw [decL]; split <;> rename_i h <;> rw [hs] at h <;> cases h; rfl
      have hl := step_len hs
      obtain ⟨_, _, g3, g4, _, _⟩ := step_go hs
      rw [e]
      rcases ih r (body ++ d) (pos + (l.length - r.length)) (by omega) with ⟨u, k1, k2, k3, k4⟩ | h
      · left
        refine ⟨u, k1, (List.prefix_append _ _).trans k2, by omega, ?_⟩
        rw [List.length_append] at k4
        have := k2.length_le
        rw [List.length_append] at this
        omega
      · exact .inr h
/-- Each beginning, but the whole, is the beginning of contents. -/
theorem dec_begun {s b : List UInt8} (h : decL [] 0 s = (b, s.length, true, 0)) {k : Nat} (hk : k < s.length) : decL [] 0 (s.take k) = ([], 0, false, 0) := by
  rcases dec_form _ (s.take k) [] 0 (Nat.le_refl _) with ⟨u, h1, _, h3, _⟩ | ⟨e, h1, he⟩
  · have h2 := dec_app (s.drop k) _ (s.take k) [] 0 (Nat.le_refl _) (.inl (by rw [h1]))
    rw [List.take_append_drop, h] at h2
    rw [← h2] at h1
    have : s.length = u := (Prod.mk.inj (Prod.mk.inj h1).2).1
    rw [List.length_take] at h3
    omega
  · by_cases he0 : e = 0
    · rw [h1, he0]
    · have h2 := dec_app (s.drop k) _ (s.take k) [] 0 (Nat.le_refl _) (.inr (by rw [h1]; exact he0))
      rw [List.take_append_drop, h, h1] at h2
      have : true = false := (Prod.mk.inj (Prod.mk.inj (Prod.mk.inj h2).2).2).1
      cases this
theorem dec_fin {b l : List UInt8} {p : Nat} (h : stepL b.length l = .fin) : decL b p l = (b, p + 5, true, 0) := by
  rw [decL]; split <;> rename_i k <;> rw [h] at k <;> cases k
theorem dec_open {b l : List UInt8} {p : Nat} (h : stepL b.length l = .begun) : decL b p l = ([], 0, false, 0) := by
  rw [decL]; split <;> rename_i k <;> rw [h] at k <;> cases k
theorem dec_bad {b l : List UInt8} {p : Nat} (h : stepL b.length l = .bad) : decL b p l = ([], 0, false, 160) := by
  rw [decL]; split <;> rename_i k <;> rw [h] at k <;> cases k
theorem dec_many {b l : List UInt8} {p : Nat} (h : stepL b.length l = .many) : decL b p l = ([], 0, false, 4) := by
  rw [decL]; split <;> rename_i k <;> rw [h] at k <;> cases k
theorem dec_go {b l d r : List UInt8} {p : Nat} (h : stepL b.length l = .go d r) : decL b p l = decL (b ++ d) (p + (l.length - r.length)) r := by
  rw [decL]; split <;> rename_i k <;> rw [h] at k <;> cases k; rfl
end Ck
end Go.Proofs.YtphakhklhicolaaDoor
