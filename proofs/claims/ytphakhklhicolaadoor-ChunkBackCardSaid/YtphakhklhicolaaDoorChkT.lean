/-
  The machine that goes through the bytes, as plain mathematics: it answers what decoding answers.
-/
import Derived.Test.YtphakhklhicolaaDoorChkN
namespace Go.Proofs.YtphakhklhicolaaDoor
namespace Ck
set_option linter.unusedVariables false
/-- What is known of the bytes that came: the state, the size's digits, the size, the content. -/
structure Mc where
  now : Nat
  dig : Nat
  size : Nat
  body : List UInt8
/-- The state behind an end of a line's first or second byte. -/
def ret (m : Mc) (c : UInt8) : Mc × Int := if c = 13 then ({ m with now := m.now + 1 }, 0) else (m, 160)
def feed (m : Mc) (c : UInt8) : Mc × Int := if c = 10 then ({ m with now := m.now + 1 }, 0) else (m, 160)
/-- A digit, or the line's end behind the digits. -/
def more (m : Mc) (c : UInt8) : Mc × Int :=
  match hv c with
  | some d => if m.dig = 4 then ret m c else ({ m with now := 3, dig := m.dig + 1, size := m.size * 16 + d }, 0)
  | none => if m.dig = 0 then (m, 160) else ret m c
/-- The machine, turned by a byte. -/
def tk (m : Mc) (c : UInt8) : Mc × Int :=
  if m.now = 2 then (if c = 48 then ({ m with now := 6 }, 0) else more m c)
  else if m.now = 3 then more m c
  else if m.now = 0 ∨ m.now = 6 ∨ m.now = 8 then ret m c
  else if m.now = 4 then (if c = 10 ∧ 8192 < m.body.length + m.size then (m, 4) else feed m c)
  else if m.now = 1 ∨ m.now = 7 ∨ m.now = 9 then feed m c
  else if m.now = 5 then (if m.size = 1 then (⟨0, 0, 0, m.body ++ [c]⟩, 0) else ({ m with size := m.size - 1, body := m.body ++ [c] }, 0))
  else (m, 0)
/-- The bytes gone through. -/
def run (m : Mc) (at' : Nat) : List UInt8 → List UInt8 × Nat × Bool × Int
  | [] => ([], 0, false, 0)
  | c :: r => if (tk m c).2 ≠ 0 then ([], 0, false, (tk m c).2) else if (tk m c).1.now = 10 then ((tk m c).1.body, at' + 1, true, 0) else run (tk m c).1 (at' + 1) r
theorem run_bad {m : Mc} {p : Nat} {c : UInt8} {r : List UInt8} {e : Int} (h : (tk m c).2 = e) (he : e ≠ 0) : run m p (c :: r) = ([], 0, false, e) := by rw [run, if_pos (by rw [h]; exact he), h]
theorem run_go {m m' : Mc} {p : Nat} {c : UInt8} {r : List UInt8} (h : tk m c = (m', 0)) (hn : m'.now ≠ 10) : run m p (c :: r) = run m' (p + 1) r := by rw [run, h, if_neg (by simp), if_neg hn]
theorem run_nil (m : Mc) (p : Nat) : run m p [] = ([], 0, false, 0) := rfl
/-- Within a chunk. -/
theorem run_chunk (b : List UInt8) (p k : Nat) : ∀ (n : Nat) (body r : List UInt8) (p : Nat), 0 < n → run ⟨5, k, n, body⟩ p r = if r.length < n then ([], 0, false, 0) else run ⟨0, 0, 0, body ++ r.take n⟩ (p + n) (r.drop n) := by
  intro n
  induction n with
  | zero => intro _ _ _ h; omega
  | succ n ih =>
    intro body r p _
    cases r with
    | nil => rw [if_pos (by simp), run_nil]
    | cons c r =>
      by_cases h1 : n = 0
      · subst h1
        have ht : tk ⟨5, k, 0 + 1, body⟩ c = (⟨0, 0, 0, body ++ [c]⟩, 0) := by simp [tk]
        rw [run_go ht (by simp), if_neg (by simp)]
        rfl
      · have ht : tk ⟨5, k, n + 1, body⟩ c = (⟨5, k, n, body ++ [c]⟩, 0) := by simp [tk, h1]
        rw [run_go ht (by simp), ih _ _ _ (by omega)]
        by_cases h2 : r.length < n
        · rw [if_pos h2, if_pos (by rw [List.length_cons]; omega)]
        · rw [if_neg h2, if_neg (by rw [List.length_cons]; omega)]
          rw [List.append_assoc, show p + 1 + n = p + (n + 1) by omega]
          rfl
/-- Behind a chunk's bytes. -/
theorem run_crlf {body r : List UInt8} {p : Nat} : run ⟨0, 0, 0, body⟩ p r = if r = [] ∨ r = [13] then ([], 0, false, 0) else if [13, 10] <+: r then run ⟨2, 0, 0, body⟩ (p + 2) (r.drop 2) else ([], 0, false, 160) := by
  match r with
  | [] => rw [if_pos (.inl rfl), run_nil]
  | c :: r =>
    by_cases hc : c = 13
    · subst hc
      rw [run_go (m' := ⟨1, 0, 0, body⟩) (by simp [tk, ret]) (by simp)]
      match r with
      | [] => rw [if_pos (.inr rfl), run_nil]
      | d :: r =>
        rw [if_neg (by simp)]
        by_cases hd : d = 10
        · subst hd
          rw [run_go (m' := ⟨2, 0, 0, body⟩) (by simp [tk, feed]) (by simp), if_pos ⟨r, rfl⟩]
          rfl
        · rw [run_bad (e := 160) (by simp [tk, feed, hd]) (by decide), if_neg]
          rintro ⟨t, e⟩
          injection e with _ e
          injection e with e _
          exact hd e.symm
    · rw [run_bad (e := 160) (by simp [tk, ret, hc]) (by decide), if_neg (by simp [hc]), if_neg]
      rintro ⟨t, e⟩
      injection e with e _
      exact hc e.symm
theorem pre_cons {a b : UInt8} {l r : List UInt8} : (a :: l <+: b :: r) ↔ a = b ∧ l <+: r := by
  constructor
  · rintro ⟨t, e⟩
    injection e with e1 e2
    exact ⟨e1, t, e2⟩
  · rintro ⟨rfl, t, e⟩
    exact ⟨t, by rw [List.cons_append, e]⟩
/-- The last chunk. -/
theorem run_last {body r : List UInt8} {p : Nat} : run ⟨6, 0, 0, body⟩ p r = if [13, 10, 13, 10] <+: r then (body, p + 4, true, 0) else if r <+: [13, 10, 13, 10] then ([], 0, false, 0) else ([], 0, false, 160) := by
  match r with
  | [] => rw [if_neg (by decide), if_pos (by decide), run_nil]
  | c :: r =>
    by_cases hc : c = 13
    rotate_left
    · rw [run_bad (e := 160) (by simp [tk, ret, hc]) (by decide), if_neg, if_neg]
      · rw [pre_cons]; exact fun h => hc h.1
      · rw [pre_cons]; exact fun h => hc h.1.symm
    subst hc
    rw [run_go (m' := ⟨7, 0, 0, body⟩) (by simp [tk, ret]) (by simp)]
    simp only [pre_cons, true_and]
    match r with
    | [] => rw [if_neg (by decide), if_pos (by decide), run_nil]
    | c :: r =>
      by_cases hc : c = 10
      rotate_left
      · rw [run_bad (e := 160) (by simp [tk, feed, hc]) (by decide), if_neg, if_neg]
        · rw [pre_cons]; exact fun h => hc h.1
        · rw [pre_cons]; exact fun h => hc h.1.symm
      subst hc
      rw [run_go (m' := ⟨8, 0, 0, body⟩) (by simp [tk, feed]) (by simp)]
      simp only [pre_cons, true_and]
      match r with
      | [] => rw [if_neg (by decide), if_pos (by decide), run_nil]
      | c :: r =>
        by_cases hc : c = 13
        rotate_left
        · rw [run_bad (e := 160) (by simp [tk, ret, hc]) (by decide), if_neg, if_neg]
          · rw [pre_cons]; exact fun h => hc h.1
          · rw [pre_cons]; exact fun h => hc h.1.symm
        subst hc
        rw [run_go (m' := ⟨9, 0, 0, body⟩) (by simp [tk, ret]) (by simp)]
        simp only [pre_cons, true_and]
        match r with
        | [] => rw [if_neg (by decide), if_pos (by decide), run_nil]
        | c :: r =>
          by_cases hc : c = 10
          rotate_left
          · rw [run_bad (e := 160) (by simp [tk, feed, hc]) (by decide), if_neg, if_neg]
            · rw [pre_cons]; exact fun h => hc h.1
            · rw [pre_cons]; exact fun h => hc h.1.symm
          subst hc
          rw [run, show tk ⟨9, 0, 0, body⟩ 10 = (⟨10, 0, 0, body⟩, 0) by simp [tk, feed], if_neg (by simp), if_pos rfl]
          rw [if_pos (by rw [pre_cons]; exact ⟨rfl, List.nil_prefix⟩)]
/-- The size's line, behind its digits. -/
theorem run_line {k n p : Nat} {body r : List UInt8} (hk : 0 < k) (hd : ∀ c t, r = c :: t → hv c = none ∨ k = 4) :
    run ⟨3, k, n, body⟩ p r = if r = [] ∨ r = [13] then ([], 0, false, 0) else if [13, 10] <+: r then (if 8192 < body.length + n then ([], 0, false, 4) else run ⟨5, k, n, body⟩ (p + 2) (r.drop 2)) else ([], 0, false, 160) := by
  match r with
  | [] => rw [if_pos (.inl rfl), run_nil]
  | c :: r =>
    have hm : tk ⟨3, k, n, body⟩ c = ret ⟨3, k, n, body⟩ c := by
      have hk0 : ¬ k = 0 := by omega
      simp only [tk, more]
      rcases hd c r rfl with h | h
      · rw [h]; simp [hk0]
      · subst h
        cases hv c <;> simp
    by_cases hc : c = 13
    · subst hc
      rw [run_go (m' := ⟨4, k, n, body⟩) (by rw [hm]; simp [ret]) (by simp)]
      match r with
      | [] => rw [if_pos (.inr rfl), run_nil]
      | d :: r =>
        rw [if_neg (by simp)]
        by_cases hd : d = 10
        · subst hd
          rw [if_pos ⟨r, rfl⟩]
          by_cases hm : 8192 < body.length + n
          · rw [if_pos hm, run_bad (e := 4) (by simp [tk, hm]) (by decide)]
          · rw [if_neg hm, run_go (m' := ⟨5, k, n, body⟩) (by simp [tk, feed, hm]) (by simp)]
            rfl
        · rw [run_bad (e := 160) (by simp [tk, feed, hd]) (by decide), if_neg]
          rintro ⟨t, e⟩
          injection e with _ e
          injection e with e _
          exact hd e.symm
    · rw [run_bad (e := 160) (by rw [hm]; simp [ret, hc]) (by decide), if_neg (by simp [hc]), if_neg]
      rintro ⟨t, e⟩
      injection e with e _
      exact hc e.symm
/-- The digits of a size, from the second one on. -/
theorem run_digs {body : List UInt8} : ∀ (f n k p : Nat) (r : List UInt8), 0 < k → k + f = 4 →
    run ⟨3, k, n, body⟩ p r = run ⟨3, (szF f n k r).2, (szF f n k r).1, body⟩ (p + ((szF f n k r).2 - k)) (r.drop ((szF f n k r).2 - k)) ∧ (∀ c t, r.drop ((szF f n k r).2 - k) = c :: t → hv c = none ∨ (szF f n k r).2 = 4)
  | 0, n, k, p, r, hk, h4 => by
    rw [szF, Nat.sub_self]
    exact ⟨rfl, fun _ _ _ => .inr (by omega)⟩
  | f + 1, n, k, p, [], hk, h4 => by
    rw [szF, Nat.sub_self]
    exact ⟨rfl, fun _ _ h => by cases h⟩
  | f + 1, n, k, p, c :: r, hk, h4 => by
    rw [szF]
    cases hc : hv c with
    | none =>
      dsimp only
      rw [Nat.sub_self]
      exact ⟨rfl, fun c' t h => by rw [List.drop_zero] at h; injection h with h _; subst h; exact .inl hc⟩
    | some d =>
      dsimp only
      have hk0 : ¬ (k = 0 ∧ c = 48) := by omega
      have hk4 : ¬ k = 4 := by omega
      rw [if_neg hk0]
      obtain ⟨h1, h2⟩ := run_digs (body := body) f (16 * n + d) (k + 1) (p + 1) r (by omega) (by omega)
      have hle := (szF_le f (16 * n + d) (k + 1) r).1
      have e : (szF f (16 * n + d) (k + 1) r).2 - k = (szF f (16 * n + d) (k + 1) r).2 - (k + 1) + 1 := by omega
      refine ⟨?_, ?_⟩
      · rw [run_go (m' := ⟨3, k + 1, 16 * n + d, body⟩) (by simp [tk, more, hc, hk4, Nat.mul_comm]) (by simp), h1, e, List.drop_succ_cons]
        congr 1
        omega
      · intro c' t h
        rw [e, List.drop_succ_cons] at h
        exact h2 c' t h
theorem bool3 {a b c : Prop} (h : a ∨ b) (h' : ¬ a) : b := h.resolve_left h'
/-- THE MACHINE ANSWERS WHAT DECODING ANSWERS. -/
theorem run_dec : ∀ (m : Nat) (l body : List UInt8) (p : Nat), l.length ≤ m → run ⟨2, 0, 0, body⟩ p l = decL body p l := by
  intro m
  induction m with
  | zero =>
    intro l body p hm
    have : l = [] := List.eq_nil_of_length_eq_zero (by omega)
    subst this
    rw [dec_open (by unfold stepL; rw [if_neg (by decide), if_pos (List.nil_prefix)]), run_nil]
  | succ m ih =>
    intro l body p hm
    match l with
    | [] => rw [dec_open (by unfold stepL; rw [if_neg (by decide), if_pos (List.nil_prefix)]), run_nil]
    | c :: r =>
      by_cases h0 : c = 48
      · subst h0
        rw [run_go (m' := ⟨6, 0, 0, body⟩) (by simp [tk]) (by simp), run_last]
        have p1 : (last5 <+: 48 :: r) ↔ [13, 10, 13, 10] <+: r := by unfold last5; rw [pre_cons]; simp
        have p2 : (48 :: r <+: last5) ↔ r <+: [13, 10, 13, 10] := by unfold last5; rw [pre_cons]; simp
        have hz : (sz (48 :: r)).2 = 0 := by unfold sz; rw [szF]; simp [hv]
        by_cases g1 : [13, 10, 13, 10] <+: r
        · rw [if_pos g1, dec_fin (by unfold stepL; rw [if_pos (p1.2 g1)])]
        · rw [if_neg g1]
          by_cases g2 : r <+: [13, 10, 13, 10]
          · rw [if_pos g2, dec_open (by unfold stepL; rw [if_neg (fun k => g1 (p1.1 k)), if_pos (p2.2 g2)])]
          · rw [if_neg g2, dec_bad (by unfold stepL; rw [if_neg (fun k => g1 (p1.1 k)), if_neg (fun k => g2 (p2.1 k)), if_pos hz])]
      · have q1 : ¬ last5 <+: c :: r := by unfold last5; rw [pre_cons]; exact fun k => h0 k.1.symm
        have q2 : ¬ c :: r <+: last5 := by unfold last5; rw [pre_cons]; exact fun k => h0 k.1
        have hst : ∀ m' e, more ⟨2, 0, 0, body⟩ c = (m', e) → tk ⟨2, 0, 0, body⟩ c = (m', e) := fun m' e h => by unfold tk; rw [if_pos rfl, if_neg h0, h]
        cases hc : hv c with
        | none =>
          have hz : (sz (c :: r)).2 = 0 := by unfold sz; rw [szF, hc]
          rw [run_bad (e := 160) (by rw [hst ⟨2, 0, 0, body⟩ 160 (by simp [more, hc])]) (by decide), dec_bad (by unfold stepL; rw [if_neg q1, if_neg q2, if_pos hz])]
        | some d =>
          rw [run_go (m' := ⟨3, 1, d, body⟩) (hst _ _ (by simp [more, hc])) (by simp)]
          obtain ⟨h1, h2⟩ := run_digs (body := body) 3 d 1 (p + 1) r (by omega) (by omega)
          have hs : sz (c :: r) = szF 3 d 1 r := by unfold sz; rw [szF, hc]; dsimp only; rw [if_neg (fun k => h0 k.2)]; rw [Nat.mul_zero, Nat.zero_add, Nat.zero_add]
          have hle := szF_le 3 d 1 r
          rw [← hs] at h1 h2 hle
          obtain ⟨S, hS⟩ : ∃ S, sz (c :: r) = S := ⟨_, rfl⟩
          have hpos := sz_pos (l := c :: r)
          rw [hS] at h1 h2 hle hpos
          obtain ⟨n, k⟩ := S
          dsimp only at h1 h2 hle hpos
          have hn := hpos (by omega)
          have hdr : r.drop (k - 1) = (c :: r).drop k := by
            obtain ⟨j, rfl⟩ : ∃ j, k = j + 1 := ⟨k - 1, by omega⟩
            rfl
          have hdl : ((c :: r).drop k).length = (c :: r).length - k := List.length_drop
          rw [h1, run_line (by omega) h2, hdr, show p + 1 + (k - 1) = p + k by omega]
          rw [hdr] at h2
          have e0 : (sz (c :: r)).2 = k := by rw [hS]
          have e1 : (sz (c :: r)).1 = n := by rw [hS]
          have hk0 : ¬ (sz (c :: r)).2 = 0 := by omega
          by_cases g1 : (c :: r).drop k = [] ∨ (c :: r).drop k = [13]
          · rw [if_pos g1, dec_open]
            unfold stepL
            rw [if_neg q1, if_neg q2, if_neg hk0, e0, if_pos]
            rcases g1 with g1 | g1
            · left
              rw [g1, List.length_nil] at hdl
              rw [List.length_cons] at hdl ⊢
              omega
            · exact .inr g1
          · rw [if_neg g1]
            have g1' : ¬ ((sz (c :: r)).2 = (c :: r).length ∨ (c :: r).drop (sz (c :: r)).2 = [13]) := by
              rw [e0]
              rintro (h | h)
              · exact g1 (.inl (by rw [h, List.drop_length]))
              · exact g1 (.inr h)
            by_cases g2 : [13, 10] <+: (c :: r).drop k
            rotate_left
            · rw [if_neg g2, dec_bad]
              unfold stepL
              rw [if_neg q1, if_neg q2, if_neg hk0, if_neg g1', if_pos (by rw [e0]; exact g2)]
            rw [if_pos g2]
            by_cases g3 : 8192 < body.length + n
            · rw [if_pos g3, dec_many]
              unfold stepL
              rw [if_neg q1, if_neg q2, if_neg hk0, if_neg g1', if_neg (by rw [e0]; exact fun k => k g2), if_pos (by rw [e1]; exact g3)]
            rw [if_neg g3, run_chunk [] 0 k n body _ _ hn, List.drop_drop]
            obtain ⟨D, hD⟩ : ∃ D, (c :: r).drop (k + 2) = D := ⟨_, rfl⟩
            have hstep : stepL body.length (c :: r) = (if D.length ≤ n ∨ (D.drop n <+: [13, 10] ∧ D.length < n + 2) then Chk.begun else if ¬ [13, 10] <+: D.drop n then .bad else .go (D.take n) (D.drop (n + 2))) := by
              unfold stepL
              rw [if_neg q1, if_neg q2, if_neg hk0, if_neg g1', if_neg (by rw [e0]; exact fun k => k g2), if_neg (by rw [e1]; exact g3), e0, e1, hD]
            rw [hD]
            have hDn : (D.drop n).length = D.length - n := List.length_drop
            by_cases g4 : D.length < n
            · rw [if_pos g4, dec_open (by rw [hstep, if_pos (.inl (by omega))])]
            rw [if_neg g4, run_crlf]
            by_cases g5 : D.drop n = [] ∨ D.drop n = [13]
            · rw [if_pos g5, dec_open]
              rw [hstep, if_pos]
              rcases g5 with g5 | g5
              · left; rw [g5, List.length_nil] at hDn; omega
              · right
                rw [g5] at hDn ⊢
                simp at hDn
                exact ⟨by decide, by omega⟩
            · rw [if_neg g5]
              have g6 : ¬ (D.length ≤ n ∨ (D.drop n <+: [13, 10] ∧ D.length < n + 2)) := by
                rintro (h | ⟨h1, h2⟩)
                · exact g5 (.inl (List.eq_nil_of_length_eq_zero (by omega)))
                · match hx : D.drop n, h1 with
                  | [], _ => exact g5 (.inl hx)
                  | [x], h1 => rw [pre_cons] at h1; exact g5 (.inr (by rw [hx, h1.1]))
                  | x :: y :: z, _ => rw [hx] at hDn; simp at hDn; omega
              by_cases g7 : [13, 10] <+: D.drop n
              · have hst2 : stepL body.length (c :: r) = .go (D.take n) (D.drop (n + 2)) := by rw [hstep, if_neg g6, if_neg (fun k => k g7)]
                have hl := step_len hst2
                obtain ⟨_, _, _, g8, _, _⟩ := step_go hst2
                rw [e0, e1] at g8
                rw [if_pos g7, dec_go hst2, List.drop_drop, ih _ _ _ (by rw [List.length_cons] at hm hl; omega)]
                congr 1
                omega
              · rw [if_neg g7, dec_bad]
                rw [hstep, if_neg g6, if_pos g7]
end Ck
end Go.Proofs.YtphakhklhicolaaDoor
