/-
  What Encode answers, as plain mathematics: how it is decoded again.
-/
import Derived.Test.YtphakhklhicolaaDoorChkM
namespace Go.Proofs.YtphakhklhicolaaDoor
namespace Ck
/-- What Encode answers. -/
def encF (body : List UInt8) : Nat → List UInt8 → List Int → List UInt8 × Int
  | a, acc, [] => if a = body.length then (acc ++ last5, 0) else ([], 2)
  | a, acc, x :: t => if x < 1 ∨ (body.length : Int) - (a : Int) < x then ([], 2) else encF body (a + x.toNat) (acc ++ chunkL ((body.drop a).take x.toNat)) t
def encR (body : List UInt8) (l : List Int) : List UInt8 × Int := if 8192 < body.length ∨ body.length < l.length then ([], 2) else encF body 0 [] l
theorem encF_lits (body : List UInt8) : ∀ (l : List Int) (a : Nat) (acc : List UInt8), a ≤ body.length → encF body a acc l = ([], 2) ∨ ∃ ds, (∀ d ∈ ds, d ≠ []) ∧ ds.flatten = body.drop a ∧ encF body a acc l = (acc ++ encC ds, 0)
  | [], a, acc, ha => by
    unfold encF
    by_cases h : a = body.length
    · rw [if_pos h]
      exact .inr ⟨[], by simp, by rw [h, List.drop_length]; rfl, by simp [encC]⟩
    · rw [if_neg h]
      exact .inl rfl
  | x :: t, a, acc, ha => by
    unfold encF
    by_cases h : x < 1 ∨ (body.length : Int) - (a : Int) < x
    · rw [if_pos h]
      exact .inl rfl
    · rw [if_neg h]
      rcases encF_lits body t (a + x.toNat) (acc ++ chunkL ((body.drop a).take x.toNat)) (by omega) with h1 | ⟨ds, h1, h2, h3⟩
      · exact .inl h1
      · refine .inr ⟨(body.drop a).take x.toNat :: ds, ?_, ?_, ?_⟩
        · intro d hd
          rcases List.mem_cons.1 hd with rfl | hd
          · intro k
            have := congrArg List.length k
            rw [List.length_take, List.length_drop, List.length_nil] at this
            omega
          · exact h1 d hd
        · rw [List.flatten_cons, h2, ← List.drop_drop, List.take_append_drop]
        · rw [h3]
          unfold encC
          rw [List.flatMap_cons]
          simp
theorem encR_lits (body : List UInt8) (l : List Int) : encR body l = ([], 2) ∨ ∃ ds, (∀ d ∈ ds, d ≠ []) ∧ ds.flatten = body ∧ body.length ≤ 8192 ∧ encR body l = (encC ds, 0) := by
  unfold encR
  by_cases h : 8192 < body.length ∨ body.length < l.length
  · rw [if_pos h]; exact .inl rfl
  · rw [if_neg h]
    rcases encF_lits body l 0 [] (Nat.zero_le _) with h1 | ⟨ds, h1, h2, h3⟩
    · exact .inl h1
    · exact .inr ⟨ds, h1, by rw [h2, List.drop_zero], by omega, by rw [h3, List.nil_append]⟩
/-- What is encoded is decoded, whatever stands behind. -/
theorem enc_back {body t : List UInt8} {l : List Int} (h : encR body l = (t, 0)) (more : List UInt8) : decL [] 0 (t ++ more) = (body, t.length, true, 0) := by
  rcases encR_lits body l with h1 | ⟨ds, h1, h2, h3, h4⟩
  · rw [h1] at h
    cases h
  · rw [h4] at h
    obtain rfl : encC ds = t := (Prod.mk.inj h).1
    have := dec_enc more ds [] 0 h1 (by rw [h2, List.length_nil]; omega)
    rw [this, h2, List.nil_append, Nat.zero_add]
theorem enc_begun {body t : List UInt8} {l : List Int} (h : encR body l = (t, 0)) {k : Nat} (hk : k < t.length) : decL [] 0 (t.take k) = ([], 0, false, 0) := by
  have := enc_back h []
  rw [List.append_nil] at this
  exact dec_begun this hk
/-- The size of a number's digits. -/
theorem hex_add {n r k j : Nat} (hk : 0 < k) (hn : n < 16 ^ k) (hr : (hexL r).length ≤ j) : (hexL (n + r)).length ≤ k + j := by
  by_cases h0 : r = 0
  · subst h0
    exact Nat.le_trans (hexL_len k _ hn) (Nat.le_add_right _ _)
  · have hj : 0 < (hexL r).length := List.length_pos_iff.2 (hexL_ne (by omega))
    refine hexL_len _ _ ?_
    have h1 := hexL_lt r
    have h2 : 16 ^ (hexL r).length ≤ 16 ^ j := Nat.pow_le_pow_right (by decide) hr
    have h3 : 16 ^ 1 ≤ 16 ^ k := Nat.pow_le_pow_right (by decide) hk
    have h4 : 16 ^ 1 ≤ 16 ^ j := Nat.pow_le_pow_right (by decide) (by omega)
    rw [Nat.pow_add]
    generalize 16 ^ k = a at *
    generalize 16 ^ j = b at *
    have h5 : 16 * b ≤ a * b := Nat.mul_le_mul_right _ h3
    have h6 : a * 16 ≤ a * b := Nat.mul_le_mul_left _ h4
    omega
/-- What the bytes of a content cost. -/
theorem dec_cost : ∀ (m : Nat) (l body b : List UInt8) (pos u : Nat), l.length ≤ m → decL body pos l = (b, u, true, 0) → body.length ≤ 8192 → ∃ x, b = body ++ x ∧ b.length ≤ 8192 ∧ u ≤ pos + l.length ∧ pos + (hexL x.length).length + (if x.length = 0 then 0 else 4) + x.length + 5 ≤ u := by
  intro m
  induction m with
  | zero =>
    intro l body b pos u hm h hb
    have : l = [] := List.eq_nil_of_length_eq_zero (by omega)
    subst this
    have e : stepL body.length [] = .begun := by unfold stepL; rw [if_neg (by decide), if_pos (List.nil_prefix)]
    rw [dec_open e] at h
    cases h
  | succ m ih =>
    intro l body b pos u hm h hb
    cases hs : stepL body.length l with
    | fin =>
      have hf := dec_form _ l body pos (Nat.le_refl _)
      rw [dec_fin hs] at h hf
      cases h
      refine ⟨[], by simp, hb, ?_, ?_⟩
      · rcases hf with ⟨u, h1, _, h2, _⟩ | ⟨e, h1, _⟩
        · have := (Prod.mk.inj (Prod.mk.inj h1).2).1
          omega
        · cases h1
      · simp [hexL_0]
    | begun => rw [dec_open hs] at h; cases h
    | bad => rw [dec_bad hs] at h; cases h
    | many => rw [dec_many hs] at h; cases h
    | go d r =>
      rw [dec_go hs] at h
      obtain ⟨g1, g2, g3, g4, _, _⟩ := step_go hs
      have hlt : (sz l).1 < 16 ^ (sz l).2 := szF_lt 4 0 0 l (by decide)
      have hpos : 0 < (sz l).1 := sz_pos g1
      obtain ⟨x, h1, h2, h3, h4⟩ := ih r (body ++ d) b (pos + (l.length - r.length)) u (by omega) h (by rw [List.length_append]; omega)
      refine ⟨d ++ x, by rw [h1, List.append_assoc], h2, by omega, ?_⟩
      have hh := hex_add g1 hlt (Nat.le_refl (hexL x.length).length)
      rw [List.length_append, g3]
      have hne : ¬ (sz l).1 + x.length = 0 := by omega
      rw [if_neg hne]
      split at h4 <;> omega
/-- What is done is encoded alike, in one chunk. -/
theorem dec_done {s x : List UInt8} {u : Nat} (h : decL [] 0 s = (x, u, true, 0)) :
    u ≤ s.length ∧ x.length + 5 ≤ u ∧ x.length ≤ 8192 ∧ ∃ t, encR x (if x.length = 0 then [] else [(x.length : Int)]) = (t, 0) ∧ decL [] 0 t = (x, t.length, true, 0) ∧ t.length ≤ u := by
  obtain ⟨y, h1, h2, h3, h4⟩ := dec_cost _ s [] x 0 u (Nat.le_refl _) h (by simp)
  rw [List.nil_append] at h1
  subst h1
  refine ⟨by omega, by omega, h2, ?_⟩
  by_cases h0 : x.length = 0
  · have : x = [] := List.eq_nil_of_length_eq_zero h0
    subst this
    refine ⟨last5, by simp [encR, encF], ?_, ?_⟩
    · have := enc_back (body := []) (t := last5) (l := []) (by simp [encR, encF]) []
      rw [List.append_nil] at this
      exact this
    · rw [show last5.length = 5 from rfl]; omega
  · rw [if_neg h0] at h4
    rw [if_neg h0]
    have he : encR x [(x.length : Int)] = (chunkL x ++ last5, 0) := by
      unfold encR
      rw [if_neg (by simp only [List.length_cons, List.length_nil]; omega)]
      unfold encF
      rw [if_neg (by omega), Int.toNat_natCast, List.drop_zero, List.take_length, Nat.zero_add]
      unfold encF
      rw [if_pos rfl, List.nil_append]
    refine ⟨_, he, ?_, ?_⟩
    · have := enc_back he []
      rw [List.append_nil] at this
      exact this
    · unfold chunkL
      simp only [List.length_append, List.length_cons, List.length_nil, show last5.length = 5 from rfl]
      omega
end Ck
end Go.Proofs.YtphakhklhicolaaDoor
