/-
  Plain mathematics of tokens: what Lex and Join answer.
-/
import Derived.Test.YtichboamakgabaaLexO
namespace Go.Proofs.Ytichboamakgabaa
namespace Lx
open Tx Nmb Es
set_option linter.unusedVariables false
theorem isP_behind {g l : List UInt8} (h : isP (g ++ l) = true) (hg : ∀ c ∈ g, c.toNat < 128) : isP l = true := by
  induction g with
  | nil => exact h
  | cons c g ih => exact ih (isP_split (a := []) (b := g ++ l) (c := c) h (hg c (by simp))).2.1 (fun x hx => hg x (by simp [hx]))
theorem blk_low {c : UInt8} (h : blk c = true) : c.toNat < 128 := (blk_far h).2.2.2.2.2.2.2
theorem wch_low {c : UInt8} (h : wch c = true) : c.toNat < 128 := (wch_far h).2.2.2.2.2.2.2.1
theorem q_low {q : UInt8} (h : q = 34 ∨ q = 39) : q.toNat < 128 := by rcases h with rfl | rfl <;> decide
/-- An attribute that is read of a text may be; what is left is a text. -/
theorem attrL_text {l r : List UInt8} {p : Pr} (h : attrL l = some (p, r)) (hp : isP l = true) (hl : l.length ≤ 16384) : fullL p.name = true ∧ okT p.value = true ∧ isP r = true ∧ (writeA p).length + 6 * r.length ≤ 6 * l.length + 5 := by
  obtain ⟨g1, g2, x, rfl, h1, h2, h3, h4⟩ := (attrL_iff _ _ _).1 h
  obtain ⟨q, raw, rfl, h5, h6, h7⟩ := (valL_iff _ _ _).1 h4
  have k1 := isP_behind hp (fun c hc => wch_low (fullL_all h1 c hc))
  have k2 := isP_behind k1 (fun c hc => blk_low (h2 c hc))
  have k3 := (isP_split (a := []) (c := 61) k2 (by decide)).2.1
  have k4 := isP_behind k3 (fun c hc => blk_low (h3 c hc))
  have k5 := (isP_split (a := []) (c := q) k4 (q_low h5)).2.1
  obtain ⟨k6, k7, _⟩ := isP_split k5 (q_low h5)
  obtain ⟨k8, k9⟩ := toldL_text k6 h7
  have hel := (escL_len true p.value).2
  simp only [List.length_append, List.length_cons] at hl
  refine ⟨h1, by unfold okT; rw [k8, Bool.and_true, decide_eq_true_eq]; omega, k7, ?_⟩
  unfold writeA
  simp only [List.length_append, List.length_cons, List.length_nil]
  omega
theorem TagI.text {acc : List Pr} {l : List UInt8} {b : Bool} {at1 : List Pr} {x : List UInt8} (h : TagI acc l b at1 x) (hp : isP l = true) (hl : l.length ≤ 16384) : ∃ more, at1 = acc ++ more ∧ attrsF acc more = true ∧ isP x = true ∧ (more.flatMap writeA).length + (if b then 2 else 1) + 6 * x.length ≤ 6 * l.length := by
  induction h with
  | shut acc g x hg =>
    have := isP_behind hp (fun c hc => blk_low (hg c hc))
    exact ⟨[], by simp, rfl, (isP_split (a := []) (c := 62) this (by decide)).2.1, by simp; omega⟩
  | bare acc g x hg =>
    have := isP_behind hp (fun c hc => blk_low (hg c hc))
    have := (isP_split (a := []) (c := 47) this (by decide)).2.1
    exact ⟨[], by simp, rfl, (isP_split (a := []) (c := 62) this (by decide)).2.1, by simp; omega⟩
  | attr acc g l y p b at1 x hg hn ha hh _ ih =>
    have k1 := isP_behind hp (fun c hc => blk_low (hg c hc))
    rw [List.length_append] at hl
    obtain ⟨k2, k3, k4, k5⟩ := attrL_text ha k1 (by omega)
    have hy := attrL_len ha
    obtain ⟨more, e1, e2, e3, e4⟩ := ih k4 (by omega)
    refine ⟨p :: more, by rw [e1]; simp, ?_, e3, ?_⟩
    · unfold attrsF
      rw [k2, hh, k3, e2]
      rfl
    · rw [List.flatMap_cons, List.length_append, List.length_append]
      have : 1 ≤ g.length := List.length_pos_iff.2 hn
      omega
/-- A token that is read of a text may be, but for how many attributes it has. -/
def mayL (t : Tk) : Prop := t.attrs.length ≤ 16 → mayT t = true
theorem mayL_tag {b : Bool} {name : List UInt8} {at1 : List Pr} (h1 : fullL name = true) (h2 : attrsF [] at1 = true) : mayL ⟨if b then 3 else 1, name, at1, []⟩ := by
  intro hl
  unfold mayT
  dsimp only at hl ⊢
  rw [if_pos (by cases b <;> simp)]
  unfold attrsOk
  rw [h1, h2]
  simp [hl]
theorem oneL_text1 {l r : List UInt8} {t : Tk} (h : oneL l = some (t, r)) (hp : isP l = true) (hl : l.length ≤ 16384) : mayL t ∧ isP r = true ∧ (writeT t).length + 6 * r.length ≤ 6 * l.length := by
  rcases oneL_kind h with ⟨h1, s, rfl, ht⟩ | ⟨h1, h2, a, x, rfl, h3, h4, h5, rfl, h6⟩
  · have k0 := (isP_split (a := []) (c := 60) hp (by decide)).2.1
    rw [List.length_cons] at hl
    rcases (tagL_iff _ _ _).1 ht with ⟨g, rfl, k1, k2, k3⟩ | ⟨b, y, rfl, k1, k2, k3⟩
    · have q1 := (isP_split (a := []) (c := 47) k0 (by decide)).2.1
      have q2 := isP_behind q1 (fun c hc => wch_low (fullL_all k1 c hc))
      have q3 := isP_behind q2 (fun c hc => blk_low (k2 c hc))
      have q4 := (isP_split (a := []) (c := 62) q3 (by decide)).2.1
      refine ⟨fun _ => ?_, q4, ?_⟩
      · rw [k3]
        unfold mayT
        simp [k1]
      · rw [k3]
        unfold writeT
        simp only [List.length_append, List.length_cons]
        rw [if_neg (by decide), if_pos trivial]
        simp only [List.length_append, List.length_cons, List.length_nil]
        omega
    · have q2 := isP_behind k0 (fun c hc => wch_low (fullL_all k1 c hc))
      rw [List.length_append] at hl
      obtain ⟨more, e1, e2, e3, e4⟩ := k2.text q2 (by omega)
      rw [List.nil_append] at e1
      rw [k3]
      refine ⟨mayL_tag k1 (by rw [e1]; exact e2), e3, ?_⟩
      unfold writeT
      rw [e1]
      dsimp only
      rw [if_neg (by cases b <;> simp), if_neg (by cases b <;> simp)]
      simp only [List.length_append, List.length_cons]
      cases b
      · rw [if_neg (by simp)]
        simp only [List.length_cons, List.length_nil, Bool.false_eq_true, if_false] at e4 ⊢
        omega
      · rw [if_pos (by simp)]
        simp only [List.length_cons, List.length_nil, if_true] at e4 ⊢
        omega
  · have ha : isP a = true ∧ isP r = true := by
      cases r with
      | nil => rw [List.append_nil] at hp; exact ⟨hp, rfl⟩
      | cons c s =>
        obtain rfl := h6 c s rfl
        obtain ⟨q1, q2, q3⟩ := isP_split hp (by decide)
        exact ⟨q1, isP_app (a := [60]) (by decide +kernel) q2⟩
    have hx := rd_text _ _ _ (Nat.le_refl _) ha.1 h5
    obtain ⟨hx2, hx3⟩ := rd_len _ _ _ (Nat.le_refl _) h5
    rw [List.length_append] at hl
    have hel := (escL_len false x).2
    refine ⟨fun _ => ?_, ha.2, ?_⟩
    · unfold mayT
      have : x ≠ [] := hx3 h3
      have h16 : x.length ≤ 16384 := by omega
      simp [okT, hx, this, h16]
    · unfold writeT
      rw [if_pos rfl, List.length_append]
      dsimp only
      omega
theorem LexI.text {a : List Tk} {l : List UInt8} (h : LexI a l) (hp : isP l = true) (hl : l.length ≤ 16384) : (∀ t ∈ a, mayL t) ∧ apart a = true ∧ (a.flatMap writeT).length ≤ 6 * l.length := by
  induction h with
  | nil => exact ⟨fun t h => (by cases h), rfl, Nat.le_refl _⟩
  | cons t ts l r h1 h2 ih =>
    obtain ⟨k1, k2, k3⟩ := oneL_text1 h1 hp hl
    have := oneL_len h1
    obtain ⟨i1, i2, i3⟩ := ih k2 (by omega)
    refine ⟨fun x hx => ?_, ?_, ?_⟩
    · rcases List.mem_cons.1 hx with rfl | hx
      · exact k1
      · exact i1 x hx
    · cases ts with
      | nil => rfl
      | cons u ts =>
        unfold apart
        rw [i2, Bool.and_true]
        rcases oneL_kind h1 with ⟨q1, _⟩ | ⟨q1, _, a, x, _, _, _, _, _, q6⟩
        · simp [q1]
        · cases h2 with
          | cons _ _ _ r2 h3 h4 =>
            rcases oneL_kind h3 with ⟨p1, _⟩ | ⟨_, p2, b, x2, rfl, p3, p4, _⟩
            · simp [p1]
            · exfalso
              cases b with
              | nil => exact p3 rfl
              | cons c s => exact p4 c (by simp) (q6 c (s ++ r2) rfl)
    · rw [List.flatMap_cons, List.length_append]
      omega
/-- Token by token: these, or the error and how much is left. -/
def lexE : Nat → Nat → List UInt8 → Except (Int × Nat) (List Tk)
  | _, _, [] => .ok []
  | 0, _, _ :: _ => .ok []
  | f + 1, n, c :: l => match oneL (c :: l) with
    | none => .error (if n = 512 then 4 else 80, l.length + 1)
    | some (t, r) => if n = 512 ∨ 16 < t.attrs.length then .error (4, l.length + 1) else (lexE f (n + 1) r).map (t :: ·)
theorem lexE_ok : ∀ (f n : Nat) (l : List UInt8) (ts : List Tk), l.length ≤ f → n ≤ 512 → (lexE f n l = .ok ts ↔ LexI ts l ∧ n + ts.length ≤ 512 ∧ ∀ t ∈ ts, t.attrs.length ≤ 16) := by
  intro f
  induction f with
  | zero =>
    intro n l ts hl hn
    obtain rfl := List.eq_nil_of_length_eq_zero (Nat.le_zero.1 hl)
    constructor
    · intro h
      obtain rfl : [] = ts := Except.ok.inj h
      exact ⟨.nil, hn, fun t h => by cases h⟩
    · rintro ⟨h, _⟩
      cases h with
      | nil => rfl
      | cons t ts l r h1 h2 => cases h1
  | succ f ih =>
    intro n l ts hl hn
    cases l with
    | nil =>
      constructor
      · intro h
        obtain rfl : [] = ts := Except.ok.inj h
        exact ⟨.nil, hn, fun t h => by cases h⟩
      · rintro ⟨h, _⟩
        cases h with
        | nil => rfl
        | cons t ts l r h1 h2 => cases h1
    | cons c l =>
      show (match oneL (c :: l) with | none => _ | some (t, r) => _) = _ ↔ _
      cases ho : oneL (c :: l) with
      | none =>
        constructor
        · intro h; cases h
        · rintro ⟨h, _⟩
          cases h with
          | cons t ts _ r h1 h2 => rw [ho] at h1; cases h1
      | some q =>
        obtain ⟨t, r⟩ := q
        have hrl := oneL_len ho
        dsimp only
        by_cases hc : n = 512 ∨ 16 < t.attrs.length
        · rw [if_pos hc]
          constructor
          · intro h; cases h
          · rintro ⟨h, h2, h3⟩
            cases h with
            | cons t' ts _ r' h1 h4 =>
              rw [ho] at h1
              obtain ⟨rfl, rfl⟩ := (Prod.mk.injEq _ _ _ _).mp (Option.some.inj h1)
              rw [List.length_cons] at h2
              have := h3 t (by simp)
              omega
        · rw [if_neg hc]
          have hn2 : n + 1 ≤ 512 := by omega
          rw [List.length_cons] at hl hrl
          constructor
          · intro h
            cases he : lexE f (n + 1) r with
            | error e => rw [he] at h; cases h
            | ok ts' =>
              rw [he] at h
              obtain rfl : t :: ts' = ts := Except.ok.inj h
              obtain ⟨k1, k2, k3⟩ := (ih (n + 1) r ts' (by omega) hn2).1 he
              refine ⟨.cons t ts' _ r ho k1, by rw [List.length_cons]; omega, fun x hx => ?_⟩
              rcases List.mem_cons.1 hx with rfl | hx
              · omega
              · exact k3 x hx
          · rintro ⟨h, h2, h3⟩
            cases h with
            | cons t' ts _ r' h1 h4 =>
              rw [ho] at h1
              obtain ⟨rfl, rfl⟩ := (Prod.mk.injEq _ _ _ _).mp (Option.some.inj h1)
              rw [List.length_cons] at h2
              rw [(ih (n + 1) r ts (by omega) hn2).2 ⟨h4, by omega, fun x hx => h3 x (by simp [hx])⟩]
              rfl
theorem lexE_err : ∀ (f n : Nat) (l : List UInt8) (e : Int) (k : Nat), l.length ≤ f → n ≤ 512 → lexE f n l = .error (e, k) → (e = 4 ∨ e = 80) ∧ 0 < k ∧ k ≤ l.length := by
  intro f
  induction f with
  | zero =>
    intro n l e k hl hn h
    obtain rfl := List.eq_nil_of_length_eq_zero (Nat.le_zero.1 hl)
    cases h
  | succ f ih =>
    intro n l e k hl hn h
    cases l with
    | nil => cases h
    | cons c l =>
      have h' : (match oneL (c :: l) with
        | none => Except.error (if n = 512 then (4 : Int) else 80, l.length + 1)
        | some (t, r) => if n = 512 ∨ 16 < t.attrs.length then .error (4, l.length + 1) else (lexE f (n + 1) r).map (t :: ·)) = Except.error (e, k) := h
      cases ho : oneL (c :: l) with
      | none =>
        rw [ho] at h'
        dsimp only at h'
        obtain ⟨rfl, rfl⟩ := (Prod.mk.injEq _ _ _ _).mp (Except.error.inj h')
        refine ⟨?_, by omega, by rw [List.length_cons]; omega⟩
        split
        · exact .inl rfl
        · exact .inr rfl
      | some q =>
        obtain ⟨t, r⟩ := q
        rw [ho] at h'
        dsimp only at h'
        have hrl := oneL_len ho
        rw [List.length_cons] at hl hrl
        by_cases hc : n = 512 ∨ 16 < t.attrs.length
        · rw [if_pos hc] at h'
          obtain ⟨rfl, rfl⟩ := (Prod.mk.injEq _ _ _ _).mp (Except.error.inj h')
          exact ⟨.inl rfl, by omega, by rw [List.length_cons]; omega⟩
        · rw [if_neg hc] at h'
          cases he : lexE f (n + 1) r with
          | error p =>
            obtain ⟨e', k'⟩ := p
            rw [he] at h'
            obtain ⟨rfl, rfl⟩ := (Prod.mk.injEq _ _ _ _).mp (Except.error.inj h')
            obtain ⟨q1, q2, q3⟩ := ih (n + 1) r e' k' (by omega) (by omega) he
            exact ⟨q1, q2, by rw [List.length_cons]; omega⟩
          | ok ts => rw [he] at h'; cases h'
/-- What Lex answers: tokens, a place, an error. -/
def lexR (l : List UInt8) : List Tk × Int × Int :=
  if 16384 < l.length then ([], 0, 4) else if isP l then (match lexE l.length 0 l with | .ok ts => (ts, 0, 0) | .error (e, k) => ([], (l.length : Int) - k, e)) else ([], 0, 50)
/-- What Join answers. -/
def joinR (l : List Tk) : List UInt8 × Int :=
  if l.all mayT = true ∧ apart l = true then (if 512 < l.length ∨ 16384 < (l.flatMap writeT).length then ([], 4) else (l.flatMap writeT, 0)) else ([], 8)
theorem lexR_ok {l : List UInt8} {ts : List Tk} {n : Int} (h : lexR l = (ts, n, 0)) : n = 0 ∧ LexI ts l ∧ isP l = true ∧ l.length ≤ 16384 ∧ ts.length ≤ 512 ∧ ∀ t ∈ ts, t.attrs.length ≤ 16 := by
  unfold lexR at h
  by_cases h1 : 16384 < l.length
  · rw [if_pos h1] at h; cases h
  · rw [if_neg h1] at h
    by_cases h2 : isP l = true
    · rw [if_pos h2] at h
      cases he : lexE l.length 0 l with
      | ok a =>
        rw [he] at h
        obtain ⟨rfl, rfl⟩ : a = ts ∧ 0 = n := by simpa using h
        obtain ⟨k1, k2, k3⟩ := (lexE_ok _ _ _ _ (Nat.le_refl _) (by omega)).1 he
        exact ⟨rfl, k1, h2, by omega, by omega, k3⟩
      | error p =>
        obtain ⟨e, k⟩ := p
        rw [he] at h
        obtain ⟨q, _⟩ := lexE_err _ _ _ _ _ (Nat.le_refl _) (by omega) he
        have : e = 0 := by simp at h; exact h.2.2
        omega
    · rw [if_neg h2] at h; cases h
theorem lexR_of {l : List UInt8} {ts : List Tk} (h1 : LexI ts l) (h2 : isP l = true) (h3 : l.length ≤ 16384) (h4 : ts.length ≤ 512) (h5 : ∀ t ∈ ts, t.attrs.length ≤ 16) : lexR l = (ts, 0, 0) := by
  unfold lexR
  rw [if_neg (by omega), if_pos h2, (lexE_ok _ _ _ _ (Nat.le_refl _) (by omega)).2 ⟨h1, by omega, h5⟩]
theorem lexR_bad {l : List UInt8} {ts : List Tk} {n e : Int} (h : lexR l = (ts, n, e)) (he : e ≠ 0) : ts = [] ∧ (e = 4 ∨ e = 50 ∨ e = 80) ∧ 0 ≤ n ∧ n ≤ l.length ∧ (e = 80 → n < l.length) := by
  unfold lexR at h
  by_cases h1 : 16384 < l.length
  · rw [if_pos h1] at h
    obtain ⟨rfl, rfl, rfl⟩ : [] = ts ∧ 0 = n ∧ 4 = e := by simpa using h
    exact ⟨rfl, .inl rfl, by omega, by omega, by omega⟩
  · rw [if_neg h1] at h
    by_cases h2 : isP l = true
    · rw [if_pos h2] at h
      cases hx : lexE l.length 0 l with
      | ok a =>
        rw [hx] at h
        obtain ⟨_, _, rfl⟩ : a = ts ∧ 0 = n ∧ 0 = e := by simpa using h
        exact absurd rfl he
      | error p =>
        obtain ⟨e', k⟩ := p
        rw [hx] at h
        obtain ⟨rfl, rfl, rfl⟩ : [] = ts ∧ (l.length : Int) - k = n ∧ e' = e := by simpa using h
        obtain ⟨q1, q2, q3⟩ := lexE_err _ _ _ _ _ (Nat.le_refl _) (by omega) hx
        exact ⟨rfl, by omega, by omega, by omega, by omega⟩
    · rw [if_neg h2] at h
      obtain ⟨rfl, rfl, rfl⟩ : [] = ts ∧ 0 = n ∧ 50 = e := by simpa using h
      exact ⟨rfl, .inr (.inl rfl), by omega, by omega, by omega⟩
theorem mayT_attrs {t : Tk} (h : mayT t = true) : t.attrs.length ≤ 16 := by
  rcases mayT_cases h with ⟨b, _, _, h3, _⟩ | ⟨_, _, h3, _⟩ | ⟨_, _, h3, _⟩
  · unfold attrsOk at h3
    rw [Bool.and_eq_true, decide_eq_true_eq] at h3
    exact h3.2
  · rw [h3]; simp
  · rw [h3]; simp
/-- What is written is read as these tokens. -/
theorem join_lex {l : List Tk} {x : List UInt8} (h : joinR l = (x, 0)) : lexR x = (l, 0, 0) := by
  unfold joinR at h
  by_cases h1 : l.all mayT = true ∧ apart l = true
  · rw [if_pos h1] at h
    by_cases h2 : 512 < l.length ∨ 16384 < (l.flatMap writeT).length
    · rw [if_pos h2] at h; cases h
    · rw [if_neg h2] at h
      obtain ⟨rfl, _⟩ := (Prod.mk.injEq _ _ _ _).mp h
      have hm : ∀ t ∈ l, mayT t = true := List.all_eq_true.1 h1.1
      exact lexR_of (LexI_write l hm h1.2) (write_text l hm) (by omega) (by omega) (fun t ht => mayT_attrs (hm t ht))
  · rw [if_neg h1] at h; cases h
/-- What is read may be written again. -/
theorem lex_join {s : List UInt8} {m : List Tk} {n : Int} (h : lexR s = (m, n, 0)) (hs : s.length ≤ 2000) : joinR m = (m.flatMap writeT, 0) := by
  obtain ⟨_, h1, h2, h3, h4, h5⟩ := lexR_ok h
  obtain ⟨k1, k2, k3⟩ := h1.text h2 h3
  unfold joinR
  rw [if_pos ⟨List.all_eq_true.2 fun t ht => k1 t ht (h5 t ht), k2⟩, if_neg (by omega)]
/-- Two texts' tokens are both's. -/
theorem lex_both {a b : List UInt8} {x y : List Tk} {n m : Int} (ha : lexR a = (x, n, 0)) (hb : lexR b = (y, m, 0)) (hl : x.length + y.length ≤ 512) (hs : (a ++ b).length ≤ 16384) (hc : ∀ u v r s, x = r ++ [u] → y = v :: s → u.kind ≠ 4 ∨ v.kind ≠ 4) : lexR (a ++ b) = (x ++ y, 0, 0) := by
  obtain ⟨_, h1, h2, h3, h4, h5⟩ := lexR_ok ha
  obtain ⟨_, k1, k2, k3, k4, k5⟩ := lexR_ok hb
  refine lexR_of (h1.app k1 hc) (isP_app h2 k2) hs (by rw [List.length_append]; exact hl) fun t ht => ?_
  rcases List.mem_append.1 ht with ht | ht
  · exact h5 t ht
  · exact k5 t ht
end Lx
end Go.Proofs.Ytichboamakgabaa
