/-
  Texts of one seat, put together: LexP, LexC, LexR, LexS.
-/
import Derived.Test.YtichboamakgabaaGreatDoorG01
import Derived.Test.YtichboamakgabaaGreatDoorG00
import Derived.Lib.Strings
import Derived.Deep.LoopGhost
namespace Go.Proofs.YtichboamakgabaaGreatDoor
namespace Lx
open Tx Nmb Es
set_option linter.unusedVariables false
theorem isP_behind {g l : List UInt8} (h : isP (g ++ l) = true) (hg : ∀ c ∈ g, c.toNat < 128) : isP l = true := by
  induction g with
  | nil => exact h
  | cons c g ih => exact ih (isP_split (a := []) (b := g ++ l) (c := c) h (hg c (by simp))).2.1 (fun x hx => hg x (by simp [hx]))
theorem blk_low {c : UInt8} (h : blk c = true) : c.toNat < 128 := (blk_far h).2.2.2.2.2.2.2
theorem wch_low {c : UInt8} (h : wch c = true) : c.toNat < 128 := (wch_far h).2.2.2.2.2.2.2.1
theorem q_low {q : UInt8} (h : q = 34 ∨ q = 39) : q.toNat < 128 := by rcases h with rfl | rfl <;> decide
/-- An attribute that is read of a text may be; what is left is a text. -/
theorem attrL_text {l r : List UInt8} {p : Pr} (h : attrL l = some (p, r)) (hp : isP l = true) (hl : l.length ≤ 16384) : fullL p.name = true ∧ okT p.value = true ∧ isP r = true ∧ (writeA p).length + 6 * r.length ≤ 6 * l.length + 5 := by
  obtain ⟨g1, g2, x, rfl, h1, h2, h3, h4⟩ := (attrL_iff _ _ _).1 h
  obtain ⟨q, raw, rfl, h5, h6, h7⟩ := (valL_iff _ _ _).1 h4
  have k1 := isP_behind hp (fun c hc => wch_low (fullL_all h1 c hc))
  have k2 := isP_behind k1 (fun c hc => blk_low (h2 c hc))
  have k3 := (isP_split (a := []) (c := 61) k2 (by decide)).2.1
  have k4 := isP_behind k3 (fun c hc => blk_low (h3 c hc))
  have k5 := (isP_split (a := []) (c := q) k4 (q_low h5)).2.1
  obtain ⟨k6, k7, _⟩ := isP_split k5 (q_low h5)
  obtain ⟨k8, k9⟩ := toldL_text k6 h7
  have hel := (escL_len true p.value).2
  simp only [List.length_append, List.length_cons] at hl
  refine ⟨h1, by unfold okT; rw [k8, Bool.and_true, decide_eq_true_eq]; omega, k7, ?_⟩
  unfold writeA
  simp only [List.length_append, List.length_cons, List.length_nil]
  omega
theorem TagI.text {acc : List Pr} {l : List UInt8} {b : Bool} {at1 : List Pr} {x : List UInt8} (h : TagI acc l b at1 x) (hp : isP l = true) (hl : l.length ≤ 16384) : ∃ more, at1 = acc ++ more ∧ attrsF acc more = true ∧ isP x = true ∧ (more.flatMap writeA).length + (if b then 2 else 1) + 6 * x.length ≤ 6 * l.length := by
  induction h with
  | shut acc g x hg =>
    have := isP_behind hp (fun c hc => blk_low (hg c hc))
    exact ⟨[], by simp, rfl, (isP_split (a := []) (c := 62) this (by decide)).2.1, by simp; omega⟩
  | bare acc g x hg =>
    have := isP_behind hp (fun c hc => blk_low (hg c hc))
    have := (isP_split (a := []) (c := 47) this (by decide)).2.1
    exact ⟨[], by simp, rfl, (isP_split (a := []) (c := 62) this (by decide)).2.1, by simp; omega⟩
  | attr acc g l y p b at1 x hg hn ha hh _ ih =>
    have k1 := isP_behind hp (fun c hc => blk_low (hg c hc))
    rw [List.length_append] at hl
    obtain ⟨k2, k3, k4, k5⟩ := attrL_text ha k1 (by omega)
    have hy := attrL_len ha
    obtain ⟨more, e1, e2, e3, e4⟩ := ih k4 (by omega)
    refine ⟨p :: more, by rw [e1]; simp, ?_, e3, ?_⟩
    · unfold attrsF
      rw [k2, hh, k3, e2]
      rfl
    · rw [List.flatMap_cons, List.length_append, List.length_append]
      have : 1 ≤ g.length := List.length_pos_iff.2 hn
      omega
/-- A token that is read of a text may be, but for how many attributes it has. -/
def mayL (t : Tk) : Prop := t.attrs.length ≤ 16 → mayT t = true
theorem mayL_tag {b : Bool} {name : List UInt8} {at1 : List Pr} (h1 : fullL name = true) (h2 : attrsF [] at1 = true) : mayL ⟨if b then 3 else 1, name, at1, []⟩ := by
  intro hl
  unfold mayT
  dsimp only at hl ⊢
  rw [if_pos (by cases b <;> simp)]
  unfold attrsOk
  rw [h1, h2]
  simp [hl]
theorem oneL_text1 {l r : List UInt8} {t : Tk} (h : oneL l = some (t, r)) (hp : isP l = true) (hl : l.length ≤ 16384) : mayL t ∧ isP r = true ∧ (writeT t).length + 6 * r.length ≤ 6 * l.length := by
  rcases oneL_kind h with ⟨h1, s, rfl, ht⟩ | ⟨h1, h2, a, x, rfl, h3, h4, h5, rfl, h6⟩
  · have k0 := (isP_split (a := []) (c := 60) hp (by decide)).2.1
    rw [List.length_cons] at hl
    rcases (tagL_iff _ _ _).1 ht with ⟨g, rfl, k1, k2, k3⟩ | ⟨b, y, rfl, k1, k2, k3⟩
    · have q1 := (isP_split (a := []) (c := 47) k0 (by decide)).2.1
      have q2 := isP_behind q1 (fun c hc => wch_low (fullL_all k1 c hc))
      have q3 := isP_behind q2 (fun c hc => blk_low (k2 c hc))
      have q4 := (isP_split (a := []) (c := 62) q3 (by decide)).2.1
      refine ⟨fun _ => ?_, q4, ?_⟩
      · rw [k3]
        unfold mayT
        simp [k1]
      · rw [k3]
        unfold writeT
        simp only [List.length_append, List.length_cons]
        rw [if_neg (by decide), if_pos trivial]
        simp only [List.length_append, List.length_cons, List.length_nil]
        omega
    · have q2 := isP_behind k0 (fun c hc => wch_low (fullL_all k1 c hc))
      rw [List.length_append] at hl
      obtain ⟨more, e1, e2, e3, e4⟩ := k2.text q2 (by omega)
      rw [List.nil_append] at e1
      rw [k3]
      refine ⟨mayL_tag k1 (by rw [e1]; exact e2), e3, ?_⟩
      unfold writeT
      rw [e1]
      dsimp only
      rw [if_neg (by cases b <;> simp), if_neg (by cases b <;> simp)]
      simp only [List.length_append, List.length_cons]
      cases b
      · rw [if_neg (by simp)]
        simp only [List.length_cons, List.length_nil, Bool.false_eq_true, if_false] at e4 ⊢
        omega
      · rw [if_pos (by simp)]
        simp only [List.length_cons, List.length_nil, if_true] at e4 ⊢
        omega
  · have ha : isP a = true ∧ isP r = true := by
      cases r with
      | nil => rw [List.append_nil] at hp; exact ⟨hp, rfl⟩
      | cons c s =>
        obtain rfl := h6 c s rfl
        obtain ⟨q1, q2, q3⟩ := isP_split hp (by decide)
        exact ⟨q1, isP_app (a := [60]) (by decide +kernel) q2⟩
    have hx := rd_text _ _ _ (Nat.le_refl _) ha.1 h5
    obtain ⟨hx2, hx3⟩ := rd_len _ _ _ (Nat.le_refl _) h5
    rw [List.length_append] at hl
    have hel := (escL_len false x).2
    refine ⟨fun _ => ?_, ha.2, ?_⟩
    · unfold mayT
      have : x ≠ [] := hx3 h3
      have h16 : x.length ≤ 16384 := by omega
      simp [okT, hx, this, h16]
    · unfold writeT
      rw [if_pos rfl, List.length_append]
      dsimp only
      omega
theorem LexI.text {a : List Tk} {l : List UInt8} (h : LexI a l) (hp : isP l = true) (hl : l.length ≤ 16384) : (∀ t ∈ a, mayL t) ∧ apart a = true ∧ (a.flatMap writeT).length ≤ 6 * l.length := by
  induction h with
  | nil => exact ⟨fun t h => (by cases h), rfl, Nat.le_refl _⟩
  | cons t ts l r h1 h2 ih =>
    obtain ⟨k1, k2, k3⟩ := oneL_text1 h1 hp hl
    have := oneL_len h1
    obtain ⟨i1, i2, i3⟩ := ih k2 (by omega)
    refine ⟨fun x hx => ?_, ?_, ?_⟩
    · rcases List.mem_cons.1 hx with rfl | hx
      · exact k1
      · exact i1 x hx
    · cases ts with
      | nil => rfl
      | cons u ts =>
        unfold apart
        rw [i2, Bool.and_true]
        rcases oneL_kind h1 with ⟨q1, _⟩ | ⟨q1, _, a, x, _, _, _, _, _, q6⟩
        · simp [q1]
        · cases h2 with
          | cons _ _ _ r2 h3 h4 =>
            rcases oneL_kind h3 with ⟨p1, _⟩ | ⟨_, p2, b, x2, rfl, p3, p4, _⟩
            · simp [p1]
            · exfalso
              cases b with
              | nil => exact p3 rfl
              | cons c s => exact p4 c (by simp) (q6 c (s ++ r2) rfl)
    · rw [List.flatMap_cons, List.length_append]
      omega
/-- Token by token: these, or the error and how much is left. -/
def lexE : Nat → Nat → List UInt8 → Except (Int × Nat) (List Tk)
  | _, _, [] => .ok []
  | 0, _, _ :: _ => .ok []
  | f + 1, n, c :: l => match oneL (c :: l) with
    | none => .error (if n = 512 then 4 else 80, l.length + 1)
    | some (t, r) => if n = 512 ∨ 16 < t.attrs.length then .error (4, l.length + 1) else (lexE f (n + 1) r).map (t :: ·)
theorem lexE_ok : ∀ (f n : Nat) (l : List UInt8) (ts : List Tk), l.length ≤ f → n ≤ 512 → (lexE f n l = .ok ts ↔ LexI ts l ∧ n + ts.length ≤ 512 ∧ ∀ t ∈ ts, t.attrs.length ≤ 16) := by
  intro f
  induction f with
  | zero =>
    intro n l ts hl hn
    obtain rfl := List.eq_nil_of_length_eq_zero (Nat.le_zero.1 hl)
    constructor
    · intro h
      obtain rfl : [] = ts := Except.ok.inj h
      exact ⟨.nil, hn, fun t h => by cases h⟩
    · rintro ⟨h, _⟩
      cases h with
      | nil => rfl
      | cons t ts l r h1 h2 => cases h1
  | succ f ih =>
    intro n l ts hl hn
    cases l with
    | nil =>
      constructor
      · intro h
        obtain rfl : [] = ts := Except.ok.inj h
        exact ⟨.nil, hn, fun t h => by cases h⟩
      · rintro ⟨h, _⟩
        cases h with
        | nil => rfl
        | cons t ts l r h1 h2 => cases h1
    | cons c l =>
      show (match oneL (c :: l) with | none => _ | some (t, r) => _) = _ ↔ _
      cases ho : oneL (c :: l) with
      | none =>
        constructor
        · intro h; cases h
        · rintro ⟨h, _⟩
          cases h with
          | cons t ts _ r h1 h2 => rw [ho] at h1; cases h1
      | some q =>
        obtain ⟨t, r⟩ := q
        have hrl := oneL_len ho
        dsimp only
        by_cases hc : n = 512 ∨ 16 < t.attrs.length
        · rw [if_pos hc]
          constructor
          · intro h; cases h
          · rintro ⟨h, h2, h3⟩
            cases h with
            | cons t' ts _ r' h1 h4 =>
              rw [ho] at h1
              obtain ⟨rfl, rfl⟩ := (Prod.mk.injEq _ _ _ _).mp (Option.some.inj h1)
              rw [List.length_cons] at h2
              have := h3 t (by simp)
              omega
        · rw [if_neg hc]
          have hn2 : n + 1 ≤ 512 := by omega
          rw [List.length_cons] at hl hrl
          constructor
          · intro h
            cases he : lexE f (n + 1) r with
            | error e => rw [he] at h; cases h
            | ok ts' =>
              rw [he] at h
              obtain rfl : t :: ts' = ts := Except.ok.inj h
              obtain ⟨k1, k2, k3⟩ := (ih (n + 1) r ts' (by omega) hn2).1 he
              refine ⟨.cons t ts' _ r ho k1, by rw [List.length_cons]; omega, fun x hx => ?_⟩
              rcases List.mem_cons.1 hx with rfl | hx
              · omega
              · exact k3 x hx
          · rintro ⟨h, h2, h3⟩
            cases h with
            | cons t' ts _ r' h1 h4 =>
              rw [ho] at h1
              obtain ⟨rfl, rfl⟩ := (Prod.mk.injEq _ _ _ _).mp (Option.some.inj h1)
              rw [List.length_cons] at h2
              rw [(ih (n + 1) r ts (by omega) hn2).2 ⟨h4, by omega, fun x hx => h3 x (by simp [hx])⟩]
              rfl
theorem lexE_err : ∀ (f n : Nat) (l : List UInt8) (e : Int) (k : Nat), l.length ≤ f → n ≤ 512 → lexE f n l = .error (e, k) → (e = 4 ∨ e = 80) ∧ 0 < k ∧ k ≤ l.length := by
  intro f
  induction f with
  | zero =>
    intro n l e k hl hn h
    obtain rfl := List.eq_nil_of_length_eq_zero (Nat.le_zero.1 hl)
    cases h
  | succ f ih =>
    intro n l e k hl hn h
    cases l with
    | nil => cases h
    | cons c l =>
      have h' : (match oneL (c :: l) with
        | none => Except.error (if n = 512 then (4 : Int) else 80, l.length + 1)
        | some (t, r) => if n = 512 ∨ 16 < t.attrs.length then .error (4, l.length + 1) else (lexE f (n + 1) r).map (t :: ·)) = Except.error (e, k) := h
      cases ho : oneL (c :: l) with
      | none =>
        rw [ho] at h'
        dsimp only at h'
        obtain ⟨rfl, rfl⟩ := (Prod.mk.injEq _ _ _ _).mp (Except.error.inj h')
        refine ⟨?_, by omega, by rw [List.length_cons]; omega⟩
        split
        · exact .inl rfl
        · exact .inr rfl
      | some q =>
        obtain ⟨t, r⟩ := q
        rw [ho] at h'
        dsimp only at h'
        have hrl := oneL_len ho
        rw [List.length_cons] at hl hrl
        by_cases hc : n = 512 ∨ 16 < t.attrs.length
        · rw [if_pos hc] at h'
          obtain ⟨rfl, rfl⟩ := (Prod.mk.injEq _ _ _ _).mp (Except.error.inj h')
          exact ⟨.inl rfl, by omega, by rw [List.length_cons]; omega⟩
        · rw [if_neg hc] at h'
          cases he : lexE f (n + 1) r with
          | error p =>
            obtain ⟨e', k'⟩ := p
            rw [he] at h'
            obtain ⟨rfl, rfl⟩ := (Prod.mk.injEq _ _ _ _).mp (Except.error.inj h')
            obtain ⟨q1, q2, q3⟩ := ih (n + 1) r e' k' (by omega) (by omega) he
            exact ⟨q1, q2, by rw [List.length_cons]; omega⟩
          | ok ts => rw [he] at h'; cases h'
/-- What Lex answers: tokens, a place, an error. -/
def lexR (l : List UInt8) : List Tk × Int × Int :=
  if 16384 < l.length then ([], 0, 4) else if isP l then (match lexE l.length 0 l with | .ok ts => (ts, 0, 0) | .error (e, k) => ([], (l.length : Int) - k, e)) else ([], 0, 50)
/-- What Join answers. -/
def joinR (l : List Tk) : List UInt8 × Int :=
  if l.all mayT = true ∧ apart l = true then (if 512 < l.length ∨ 16384 < (l.flatMap writeT).length then ([], 4) else (l.flatMap writeT, 0)) else ([], 8)
theorem lexR_ok {l : List UInt8} {ts : List Tk} {n : Int} (h : lexR l = (ts, n, 0)) : n = 0 ∧ LexI ts l ∧ isP l = true ∧ l.length ≤ 16384 ∧ ts.length ≤ 512 ∧ ∀ t ∈ ts, t.attrs.length ≤ 16 := by
  unfold lexR at h
  by_cases h1 : 16384 < l.length
  · rw [if_pos h1] at h; cases h
  · rw [if_neg h1] at h
    by_cases h2 : isP l = true
    · rw [if_pos h2] at h
      cases he : lexE l.length 0 l with
      | ok a =>
        rw [he] at h
        obtain ⟨rfl, rfl⟩ : a = ts ∧ 0 = n := by simpa using h
        obtain ⟨k1, k2, k3⟩ := (lexE_ok _ _ _ _ (Nat.le_refl _) (by omega)).1 he
        exact ⟨rfl, k1, h2, by omega, by omega, k3⟩
      | error p =>
        obtain ⟨e, k⟩ := p
        rw [he] at h
        obtain ⟨q, _⟩ := lexE_err _ _ _ _ _ (Nat.le_refl _) (by omega) he
        have : e = 0 := by simp at h; exact h.2.2
        omega
    · rw [if_neg h2] at h; cases h
theorem lexR_of {l : List UInt8} {ts : List Tk} (h1 : LexI ts l) (h2 : isP l = true) (h3 : l.length ≤ 16384) (h4 : ts.length ≤ 512) (h5 : ∀ t ∈ ts, t.attrs.length ≤ 16) : lexR l = (ts, 0, 0) := by
  unfold lexR
  rw [if_neg (by omega), if_pos h2, (lexE_ok _ _ _ _ (Nat.le_refl _) (by omega)).2 ⟨h1, by omega, h5⟩]
theorem lexR_bad {l : List UInt8} {ts : List Tk} {n e : Int} (h : lexR l = (ts, n, e)) (he : e ≠ 0) : ts = [] ∧ (e = 4 ∨ e = 50 ∨ e = 80) ∧ 0 ≤ n ∧ n ≤ l.length ∧ (e = 80 → n < l.length) := by
  unfold lexR at h
  by_cases h1 : 16384 < l.length
  · rw [if_pos h1] at h
    obtain ⟨rfl, rfl, rfl⟩ : [] = ts ∧ 0 = n ∧ 4 = e := by simpa using h
    exact ⟨rfl, .inl rfl, by omega, by omega, by omega⟩
  · rw [if_neg h1] at h
    by_cases h2 : isP l = true
    · rw [if_pos h2] at h
      cases hx : lexE l.length 0 l with
      | ok a =>
        rw [hx] at h
        obtain ⟨_, _, rfl⟩ : a = ts ∧ 0 = n ∧ 0 = e := by simpa using h
        exact absurd rfl he
      | error p =>
        obtain ⟨e', k⟩ := p
        rw [hx] at h
        obtain ⟨rfl, rfl, rfl⟩ : [] = ts ∧ (l.length : Int) - k = n ∧ e' = e := by simpa using h
        obtain ⟨q1, q2, q3⟩ := lexE_err _ _ _ _ _ (Nat.le_refl _) (by omega) hx
        exact ⟨rfl, by omega, by omega, by omega, by omega⟩
    · rw [if_neg h2] at h
      obtain ⟨rfl, rfl, rfl⟩ : [] = ts ∧ 0 = n ∧ 50 = e := by simpa using h
      exact ⟨rfl, .inr (.inl rfl), by omega, by omega, by omega⟩
theorem mayT_attrs {t : Tk} (h : mayT t = true) : t.attrs.length ≤ 16 := by
  rcases mayT_cases h with ⟨b, _, _, h3, _⟩ | ⟨_, _, h3, _⟩ | ⟨_, _, h3, _⟩
  · unfold attrsOk at h3
    rw [Bool.and_eq_true, decide_eq_true_eq] at h3
    exact h3.2
  · rw [h3]; simp
  · rw [h3]; simp
/-- What is written is read as these tokens. -/
theorem join_lex {l : List Tk} {x : List UInt8} (h : joinR l = (x, 0)) : lexR x = (l, 0, 0) := by
  unfold joinR at h
  by_cases h1 : l.all mayT = true ∧ apart l = true
  · rw [if_pos h1] at h
    by_cases h2 : 512 < l.length ∨ 16384 < (l.flatMap writeT).length
    · rw [if_pos h2] at h; cases h
    · rw [if_neg h2] at h
      obtain ⟨rfl, _⟩ := (Prod.mk.injEq _ _ _ _).mp h
      have hm : ∀ t ∈ l, mayT t = true := List.all_eq_true.1 h1.1
      exact lexR_of (LexI_write l hm h1.2) (write_text l hm) (by omega) (by omega) (fun t ht => mayT_attrs (hm t ht))
  · rw [if_neg h1] at h; cases h
/-- What is read may be written again. -/
theorem lex_join {s : List UInt8} {m : List Tk} {n : Int} (h : lexR s = (m, n, 0)) (hs : s.length ≤ 2000) : joinR m = (m.flatMap writeT, 0) := by
  obtain ⟨_, h1, h2, h3, h4, h5⟩ := lexR_ok h
  obtain ⟨k1, k2, k3⟩ := h1.text h2 h3
  unfold joinR
  rw [if_pos ⟨List.all_eq_true.2 fun t ht => k1 t ht (h5 t ht), k2⟩, if_neg (by omega)]
/-- Two texts' tokens are both's. -/
theorem lex_both {a b : List UInt8} {x y : List Tk} {n m : Int} (ha : lexR a = (x, n, 0)) (hb : lexR b = (y, m, 0)) (hl : x.length + y.length ≤ 512) (hs : (a ++ b).length ≤ 16384) (hc : ∀ u v r s, x = r ++ [u] → y = v :: s → u.kind ≠ 4 ∨ v.kind ≠ 4) : lexR (a ++ b) = (x ++ y, 0, 0) := by
  obtain ⟨_, h1, h2, h3, h4, h5⟩ := lexR_ok ha
  obtain ⟨_, k1, k2, k3, k4, k5⟩ := lexR_ok hb
  refine lexR_of (h1.app k1 hc) (isP_app h2 k2) hs (by rw [List.length_append]; exact hl) fun t ht => ?_
  rcases List.mem_append.1 ht with ht | ht
  · exact h5 t ht
  · exact k5 t ht
end Lx
end Go.Proofs.YtichboamakgabaaGreatDoor
namespace Go.Proofs.YtichboamakgabaaGreatDoor
open Go.RowKit
namespace Hx
open Lx
set_option linter.unusedVariables false
def PrC : Cod Pr where
  k := 2
  R _ _ cs p := ∃ s t : ByteArray, cs = [.string s, .string t] ∧ s.data.toList = p.name ∧ t.data.toList = p.value
  len := by rintro _ _ _ _ ⟨s, t, rfl, _⟩; rfl
  keep := fun h _ _ => h
def TkC : Cod Tk where
  k := 4
  R w B cs t := ∃ (s : ByteArray) (A : Option Addr) (c : Nat) (u : ByteArray), cs = [.int .u8 (t.kind : Int), .string s, .slice A t.attrs.length c, .string u] ∧ t.kind < 256 ∧ s.data.toList = t.name ∧ u.data.toList = t.text ∧ t.attrs.length ≤ c ∧ c ≤ maxLen ∧ (A = none → c = 0) ∧ RdC PrC w B A t.attrs
  len := by rintro _ _ _ _ ⟨s, A, c, u, rfl, _⟩; rfl
  keep := fun ⟨s, A, c, u, h1, h2, h3, h4, h5, h6, h7, h8⟩ hB hk => ⟨s, A, c, u, h1, h2, h3, h4, h5, h6, h7, h8.keep hB hk⟩
theorem two_of {cs : List Value} (h : cs.length = 2) : ∃ x y, cs = [x, y] := by
  match cs, h with
  | [x, y], _ => exact ⟨x, y, rfl⟩
theorem four_of {cs : List Value} (h : cs.length = 4) : ∃ x y z u, cs = [x, y, z, u] := by
  match cs, h with
  | [x, y, z, u], _ => exact ⟨x, y, z, u, rfl⟩
section
variable {H : Type} {enc : TypeId × Value → H}
theorem cells_one1 : Tryz.prog.cellsOf 9 = 1 ∧ Tryz.prog.cellsOf 5 = 1 ∧ Tryz.prog.cellsOf 30 = 1 ∧ Tryz.prog.cellsOf 35 = 2 ∧ Tryz.prog.cellsOf 32 = 4 := ⟨by kernel_rfl, by kernel_rfl, by kernel_rfl, by kernel_rfl, by kernel_rfl⟩
theorem opens_pair : Opens enc Tryz.prog PrC 35 := fun W sp held fuel cs x h => by
  obtain ⟨c1, _, _, c2, _⟩ := cells_one1
  obtain ⟨xs, n, _, _, hl, hx, hf⟩ := DataW.trod_struct Tryz.underlying35 h
  rw [c2] at hl
  obtain ⟨a, b, rfl⟩ := two_of hl
  have h0 : DataW.trod enc Tryz.prog W 0 sp held n 9 (([a, b].drop 0).take (Tryz.prog.cellsOf 9)) = xs[0]? := hf 0 _ rfl
  have h1 : DataW.trod enc Tryz.prog W 0 sp held n 9 (([a, b].drop 1).take (Tryz.prog.cellsOf 9)) = xs[1]? := hf 1 _ rfl
  have hx2 : xs.length = 2 := hx
  simp only [c1, List.drop_zero, List.drop_succ_cons, List.take_succ_cons, List.take_zero] at h0 h1
  obtain ⟨s, e1, _⟩ := DataW.trod_string Tryz.underlying9 (h0.trans (List.getElem?_eq_getElem (by omega)))
  obtain ⟨t, e2, _⟩ := DataW.trod_string Tryz.underlying9 (h1.trans (List.getElem?_eq_getElem (by omega)))
  obtain ⟨rfl, _⟩ := List.cons.inj e1
  obtain ⟨rfl, _⟩ := List.cons.inj e2
  exact ⟨⟨_, _⟩, s, t, rfl, rfl, rfl⟩
theorem opens_token : Opens enc Tryz.prog TkC 32 := fun W sp held fuel cs x h => by
  obtain ⟨c1, c3, c4, c2, c5⟩ := cells_one1
  obtain ⟨xs, n, _, _, hl, hx, hf⟩ := DataW.trod_struct Tryz.underlying32 h
  rw [c5] at hl
  obtain ⟨a, b, c, d, rfl⟩ := four_of hl
  have h0 : DataW.trod enc Tryz.prog W 0 sp held n 5 (([a, b, c, d].drop 0).take (Tryz.prog.cellsOf 5)) = xs[0]? := hf 0 _ rfl
  have h1 : DataW.trod enc Tryz.prog W 0 sp held n 9 (([a, b, c, d].drop 1).take (Tryz.prog.cellsOf 9)) = xs[1]? := hf 1 _ rfl
  have h2 : DataW.trod enc Tryz.prog W 0 sp held n 30 (([a, b, c, d].drop 2).take (Tryz.prog.cellsOf 30)) = xs[2]? := hf 2 _ rfl
  have h3 : DataW.trod enc Tryz.prog W 0 sp held n 9 (([a, b, c, d].drop 3).take (Tryz.prog.cellsOf 9)) = xs[3]? := hf 3 _ rfl
  have hx2 : xs.length = 4 := hx
  simp only [c1, c3, c4, List.drop_zero, List.drop_succ_cons, List.take_succ_cons, List.take_zero] at h0 h1 h2 h3
  obtain ⟨m, e0, _, w0⟩ := DataW.trod_int Tryz.underlying5 (h0.trans (List.getElem?_eq_getElem (by omega)))
  obtain ⟨s, e1, _⟩ := DataW.trod_string Tryz.underlying9 (h1.trans (List.getElem?_eq_getElem (by omega)))
  obtain ⟨l, A, cp, e2, k1, k2, k3, k4⟩ := (Opens.slice Tryz.underlying30 c2 (by decide) opens_pair) W sp held _ _ _ (h2.trans (List.getElem?_eq_getElem (by omega)))
  obtain ⟨u, e3, _⟩ := DataW.trod_string Tryz.underlying9 (h3.trans (List.getElem?_eq_getElem (by omega)))
  obtain ⟨rfl, _⟩ := List.cons.inj e0
  obtain ⟨rfl, _⟩ := List.cons.inj e1
  obtain ⟨rfl, _⟩ := List.cons.inj e2
  obtain ⟨rfl, _⟩ := List.cons.inj e3
  have hb := bounds_u8 w0
  obtain ⟨k, rfl⟩ : ∃ k : Nat, m = (k : Int) := ⟨m.toNat, by omega⟩
  exact ⟨⟨k, _, l, _⟩, s, A, cp, u, rfl, by show k < 256; omega, rfl, rfl, k1, k2, k3, k4⟩
theorem opens_tokens : Opens enc Tryz.prog (SlC TkC) 23 := Opens.slice Tryz.underlying23 cells_one1.2.2.2.2 (by decide) opens_token
end
end Hx
end Go.Proofs.YtichboamakgabaaGreatDoor
namespace Go.Proofs.YtichboamakgabaaGreatDoor
open Go.RowKit
namespace Hx
open Lx
set_option linter.unusedVariables false
theorem ba_l (s : ByteArray) : s.data.toList.length = s.size := by cases s; simp [ByteArray.size]
theorem at_l (s : ByteArray) (k : Nat) (h : k < s.size) : s.data.toList[k]'(by rw [ba_l]; exact h) = s[k]'h := by cases s; rfl
theorem ba_x {s t : ByteArray} (h : s.data.toList = t.data.toList) : s = t := by
  cases s; cases t
  simpa using h
theorem empty_l (s : ByteArray) : s.toList.isEmpty = decide (s.size = 0) := by
  rw [ByteArray.toList_eq, Bool.eq_iff_iff, List.isEmpty_iff, decide_eq_true_eq, ← ba_l]
  constructor
  · intro e; rw [e]; rfl
  · exact List.eq_nil_of_length_eq_zero
theorem extract_l (s : ByteArray) (a b : Nat) (h : b ≤ s.size) : (s.extract a b).data.toList = (s.data.toList.drop a).take (b - a) := Lib.extract_data s a b
set_option maxHeartbeats 1000000 in
set_option maxRecDepth 100000 in
theorem rletter9 (c : UInt8) (w : World) (b : Bool) (h : ltr c = b) :
    Calls Tryz.prog 34 #[.int .u8 c.toNat] w fun e w' => e = .returned (.bool b) ∧ w = w' := by
  have hlim := c.toNat_lt
  rcases (show (0 ≤ c.toNat ∧ c.toNat ≤ 64) ∨ (65 ≤ c.toNat ∧ c.toNat ≤ 90) ∨ (91 ≤ c.toNat ∧ c.toNat ≤ 94) ∨ (95 ≤ c.toNat ∧ c.toNat ≤ 95) ∨ (96 ≤ c.toNat ∧ c.toNat ≤ 96) ∨ (97 ≤ c.toNat ∧ c.toNat ≤ 122) ∨ (123 ≤ c.toNat ∧ c.toNat ≤ 255) by omega) with ⟨q1, q2⟩ | ⟨q1, q2⟩ | ⟨q1, q2⟩ | ⟨q1, q2⟩ | ⟨q1, q2⟩ | ⟨q1, q2⟩ | ⟨q1, q2⟩
  · obtain rfl : false = b := by
      rw [← h]
      unfold ltr
      have e95 : (c == 95) = false := by rw [Bool.eq_iff_iff]; simp [← UInt8.toNat_inj]; omega
      rw [e95]
      simp <;> omega
    clear h
    have fge97 : decide ((97 : Int) ≤ (c.toNat : Int)) = false := decide_eq_false (by omega)
    have fle122 : decide ((c.toNat : Int) ≤ 122) = true := decide_eq_true (by omega)
    have fge65 : decide ((65 : Int) ≤ (c.toNat : Int)) = false := decide_eq_false (by omega)
    have fle90 : decide ((c.toNat : Int) ≤ 90) = true := decide_eq_true (by omega)
    have feq95 : ((c.toNat : Int) == 95) = false := by simp; omega
    go_enter Tryz.func34, Tryz.ntmps34
    go_wp2_with fail
    go_ret
    exact ⟨rfl, rfl⟩
  · obtain rfl : true = b := by
      rw [← h]
      unfold ltr
      have e95 : (c == 95) = false := by rw [Bool.eq_iff_iff]; simp [← UInt8.toNat_inj]; omega
      rw [e95]
      simp <;> omega
    clear h
    have fge97 : decide ((97 : Int) ≤ (c.toNat : Int)) = false := decide_eq_false (by omega)
    have fle122 : decide ((c.toNat : Int) ≤ 122) = true := decide_eq_true (by omega)
    have fge65 : decide ((65 : Int) ≤ (c.toNat : Int)) = true := decide_eq_true (by omega)
    have fle90 : decide ((c.toNat : Int) ≤ 90) = true := decide_eq_true (by omega)
    have feq95 : ((c.toNat : Int) == 95) = false := by simp; omega
    go_enter Tryz.func34, Tryz.ntmps34
    go_wp2_with fail
    go_ret
    exact ⟨rfl, rfl⟩
  · obtain rfl : false = b := by
      rw [← h]
      unfold ltr
      have e95 : (c == 95) = false := by rw [Bool.eq_iff_iff]; simp [← UInt8.toNat_inj]; omega
      rw [e95]
      simp <;> omega
    clear h
    have fge97 : decide ((97 : Int) ≤ (c.toNat : Int)) = false := decide_eq_false (by omega)
    have fle122 : decide ((c.toNat : Int) ≤ 122) = true := decide_eq_true (by omega)
    have fge65 : decide ((65 : Int) ≤ (c.toNat : Int)) = true := decide_eq_true (by omega)
    have fle90 : decide ((c.toNat : Int) ≤ 90) = false := decide_eq_false (by omega)
    have feq95 : ((c.toNat : Int) == 95) = false := by simp; omega
    go_enter Tryz.func34, Tryz.ntmps34
    go_wp2_with fail
    go_ret
    exact ⟨rfl, rfl⟩
  · obtain rfl : true = b := by
      rw [← h]
      unfold ltr
      have e95 : (c == 95) = true := by rw [Bool.eq_iff_iff]; simp [← UInt8.toNat_inj]; omega
      rw [e95]
      simp <;> omega
    clear h
    have fge97 : decide ((97 : Int) ≤ (c.toNat : Int)) = false := decide_eq_false (by omega)
    have fle122 : decide ((c.toNat : Int) ≤ 122) = true := decide_eq_true (by omega)
    have fge65 : decide ((65 : Int) ≤ (c.toNat : Int)) = true := decide_eq_true (by omega)
    have fle90 : decide ((c.toNat : Int) ≤ 90) = false := decide_eq_false (by omega)
    have feq95 : ((c.toNat : Int) == 95) = true := by simp; omega
    go_enter Tryz.func34, Tryz.ntmps34
    go_wp2_with fail
    go_ret
    exact ⟨rfl, rfl⟩
  · obtain rfl : false = b := by
      rw [← h]
      unfold ltr
      have e95 : (c == 95) = false := by rw [Bool.eq_iff_iff]; simp [← UInt8.toNat_inj]; omega
      rw [e95]
      simp <;> omega
    clear h
    have fge97 : decide ((97 : Int) ≤ (c.toNat : Int)) = false := decide_eq_false (by omega)
    have fle122 : decide ((c.toNat : Int) ≤ 122) = true := decide_eq_true (by omega)
    have fge65 : decide ((65 : Int) ≤ (c.toNat : Int)) = true := decide_eq_true (by omega)
    have fle90 : decide ((c.toNat : Int) ≤ 90) = false := decide_eq_false (by omega)
    have feq95 : ((c.toNat : Int) == 95) = false := by simp; omega
    go_enter Tryz.func34, Tryz.ntmps34
    go_wp2_with fail
    go_ret
    exact ⟨rfl, rfl⟩
  · obtain rfl : true = b := by
      rw [← h]
      unfold ltr
      have e95 : (c == 95) = false := by rw [Bool.eq_iff_iff]; simp [← UInt8.toNat_inj]; omega
      rw [e95]
      simp <;> omega
    clear h
    have fge97 : decide ((97 : Int) ≤ (c.toNat : Int)) = true := decide_eq_true (by omega)
    have fle122 : decide ((c.toNat : Int) ≤ 122) = true := decide_eq_true (by omega)
    have fge65 : decide ((65 : Int) ≤ (c.toNat : Int)) = true := decide_eq_true (by omega)
    have fle90 : decide ((c.toNat : Int) ≤ 90) = false := decide_eq_false (by omega)
    have feq95 : ((c.toNat : Int) == 95) = false := by simp; omega
    go_enter Tryz.func34, Tryz.ntmps34
    go_wp2_with fail
    go_ret
    exact ⟨rfl, rfl⟩
  · obtain rfl : false = b := by
      rw [← h]
      unfold ltr
      have e95 : (c == 95) = false := by rw [Bool.eq_iff_iff]; simp [← UInt8.toNat_inj]; omega
      rw [e95]
      simp <;> omega
    clear h
    have fge97 : decide ((97 : Int) ≤ (c.toNat : Int)) = true := decide_eq_true (by omega)
    have fle122 : decide ((c.toNat : Int) ≤ 122) = false := decide_eq_false (by omega)
    have fge65 : decide ((65 : Int) ≤ (c.toNat : Int)) = true := decide_eq_true (by omega)
    have fle90 : decide ((c.toNat : Int) ≤ 90) = false := decide_eq_false (by omega)
    have feq95 : ((c.toNat : Int) == 95) = false := by simp; omega
    go_enter Tryz.func34, Tryz.ntmps34
    go_wp2_with fail
    go_ret
    exact ⟨rfl, rfl⟩
set_option maxHeartbeats 1000000 in
set_option maxRecDepth 100000 in
theorem rblank9 (c : UInt8) (w : World) (b : Bool) (h : blk c = b) :
    Calls Tryz.prog 85 #[.int .u8 c.toNat] w fun e w' => e = .returned (.bool b) ∧ w = w' := by
  have hlim := c.toNat_lt
  rcases (show (0 ≤ c.toNat ∧ c.toNat ≤ 8) ∨ (9 ≤ c.toNat ∧ c.toNat ≤ 9) ∨ (10 ≤ c.toNat ∧ c.toNat ≤ 10) ∨ (11 ≤ c.toNat ∧ c.toNat ≤ 12) ∨ (13 ≤ c.toNat ∧ c.toNat ≤ 13) ∨ (14 ≤ c.toNat ∧ c.toNat ≤ 31) ∨ (32 ≤ c.toNat ∧ c.toNat ≤ 32) ∨ (33 ≤ c.toNat ∧ c.toNat ≤ 255) by omega) with ⟨q1, q2⟩ | ⟨q1, q2⟩ | ⟨q1, q2⟩ | ⟨q1, q2⟩ | ⟨q1, q2⟩ | ⟨q1, q2⟩ | ⟨q1, q2⟩ | ⟨q1, q2⟩
  · obtain rfl : false = b := by
      rw [← h]
      unfold blk
      have e32 : (c == 32) = false := by rw [Bool.eq_iff_iff]; simp [← UInt8.toNat_inj]; omega
      have e9 : (c == 9) = false := by rw [Bool.eq_iff_iff]; simp [← UInt8.toNat_inj]; omega
      have e10 : (c == 10) = false := by rw [Bool.eq_iff_iff]; simp [← UInt8.toNat_inj]; omega
      have e13 : (c == 13) = false := by rw [Bool.eq_iff_iff]; simp [← UInt8.toNat_inj]; omega
      first
        | (rw [e32, e9, e10, e13]; done)
        | (rw [e32, e9, e10, e13]; rfl)
    clear h
    have feq32 : ((c.toNat : Int) == 32) = false := by simp; omega
    have feq9 : ((c.toNat : Int) == 9) = false := by simp; omega
    have feq10 : ((c.toNat : Int) == 10) = false := by simp; omega
    have feq13 : ((c.toNat : Int) == 13) = false := by simp; omega
    go_enter Tryz.func85, Tryz.ntmps85
    go_wp2_with fail
    go_ret
    exact ⟨rfl, rfl⟩
  · obtain rfl : true = b := by
      rw [← h]
      unfold blk
      have e32 : (c == 32) = false := by rw [Bool.eq_iff_iff]; simp [← UInt8.toNat_inj]; omega
      have e9 : (c == 9) = true := by rw [Bool.eq_iff_iff]; simp [← UInt8.toNat_inj]; omega
      have e10 : (c == 10) = false := by rw [Bool.eq_iff_iff]; simp [← UInt8.toNat_inj]; omega
      have e13 : (c == 13) = false := by rw [Bool.eq_iff_iff]; simp [← UInt8.toNat_inj]; omega
      first
        | (rw [e32, e9, e10, e13]; done)
        | (rw [e32, e9, e10, e13]; rfl)
    clear h
    have feq32 : ((c.toNat : Int) == 32) = false := by simp; omega
    have feq9 : ((c.toNat : Int) == 9) = true := by simp; omega
    have feq10 : ((c.toNat : Int) == 10) = false := by simp; omega
    have feq13 : ((c.toNat : Int) == 13) = false := by simp; omega
    go_enter Tryz.func85, Tryz.ntmps85
    go_wp2_with fail
    go_ret
    exact ⟨rfl, rfl⟩
  · obtain rfl : true = b := by
      rw [← h]
      unfold blk
      have e32 : (c == 32) = false := by rw [Bool.eq_iff_iff]; simp [← UInt8.toNat_inj]; omega
      have e9 : (c == 9) = false := by rw [Bool.eq_iff_iff]; simp [← UInt8.toNat_inj]; omega
      have e10 : (c == 10) = true := by rw [Bool.eq_iff_iff]; simp [← UInt8.toNat_inj]; omega
      have e13 : (c == 13) = false := by rw [Bool.eq_iff_iff]; simp [← UInt8.toNat_inj]; omega
      first
        | (rw [e32, e9, e10, e13]; done)
        | (rw [e32, e9, e10, e13]; rfl)
    clear h
    have feq32 : ((c.toNat : Int) == 32) = false := by simp; omega
    have feq9 : ((c.toNat : Int) == 9) = false := by simp; omega
    have feq10 : ((c.toNat : Int) == 10) = true := by simp; omega
    have feq13 : ((c.toNat : Int) == 13) = false := by simp; omega
    go_enter Tryz.func85, Tryz.ntmps85
    go_wp2_with fail
    go_ret
    exact ⟨rfl, rfl⟩
  · obtain rfl : false = b := by
      rw [← h]
      unfold blk
      have e32 : (c == 32) = false := by rw [Bool.eq_iff_iff]; simp [← UInt8.toNat_inj]; omega
      have e9 : (c == 9) = false := by rw [Bool.eq_iff_iff]; simp [← UInt8.toNat_inj]; omega
      have e10 : (c == 10) = false := by rw [Bool.eq_iff_iff]; simp [← UInt8.toNat_inj]; omega
      have e13 : (c == 13) = false := by rw [Bool.eq_iff_iff]; simp [← UInt8.toNat_inj]; omega
      first
        | (rw [e32, e9, e10, e13]; done)
        | (rw [e32, e9, e10, e13]; rfl)
    clear h
    have feq32 : ((c.toNat : Int) == 32) = false := by simp; omega
    have feq9 : ((c.toNat : Int) == 9) = false := by simp; omega
    have feq10 : ((c.toNat : Int) == 10) = false := by simp; omega
    have feq13 : ((c.toNat : Int) == 13) = false := by simp; omega
    go_enter Tryz.func85, Tryz.ntmps85
    go_wp2_with fail
    go_ret
    exact ⟨rfl, rfl⟩
  · obtain rfl : true = b := by
      rw [← h]
      unfold blk
      have e32 : (c == 32) = false := by rw [Bool.eq_iff_iff]; simp [← UInt8.toNat_inj]; omega
      have e9 : (c == 9) = false := by rw [Bool.eq_iff_iff]; simp [← UInt8.toNat_inj]; omega
      have e10 : (c == 10) = false := by rw [Bool.eq_iff_iff]; simp [← UInt8.toNat_inj]; omega
      have e13 : (c == 13) = true := by rw [Bool.eq_iff_iff]; simp [← UInt8.toNat_inj]; omega
      first
        | (rw [e32, e9, e10, e13]; done)
        | (rw [e32, e9, e10, e13]; rfl)
    clear h
    have feq32 : ((c.toNat : Int) == 32) = false := by simp; omega
    have feq9 : ((c.toNat : Int) == 9) = false := by simp; omega
    have feq10 : ((c.toNat : Int) == 10) = false := by simp; omega
    have feq13 : ((c.toNat : Int) == 13) = true := by simp; omega
    go_enter Tryz.func85, Tryz.ntmps85
    go_wp2_with fail
    go_ret
    exact ⟨rfl, rfl⟩
  · obtain rfl : false = b := by
      rw [← h]
      unfold blk
      have e32 : (c == 32) = false := by rw [Bool.eq_iff_iff]; simp [← UInt8.toNat_inj]; omega
      have e9 : (c == 9) = false := by rw [Bool.eq_iff_iff]; simp [← UInt8.toNat_inj]; omega
      have e10 : (c == 10) = false := by rw [Bool.eq_iff_iff]; simp [← UInt8.toNat_inj]; omega
      have e13 : (c == 13) = false := by rw [Bool.eq_iff_iff]; simp [← UInt8.toNat_inj]; omega
      first
        | (rw [e32, e9, e10, e13]; done)
        | (rw [e32, e9, e10, e13]; rfl)
    clear h
    have feq32 : ((c.toNat : Int) == 32) = false := by simp; omega
    have feq9 : ((c.toNat : Int) == 9) = false := by simp; omega
    have feq10 : ((c.toNat : Int) == 10) = false := by simp; omega
    have feq13 : ((c.toNat : Int) == 13) = false := by simp; omega
    go_enter Tryz.func85, Tryz.ntmps85
    go_wp2_with fail
    go_ret
    exact ⟨rfl, rfl⟩
  · obtain rfl : true = b := by
      rw [← h]
      unfold blk
      have e32 : (c == 32) = true := by rw [Bool.eq_iff_iff]; simp [← UInt8.toNat_inj]; omega
      have e9 : (c == 9) = false := by rw [Bool.eq_iff_iff]; simp [← UInt8.toNat_inj]; omega
      have e10 : (c == 10) = false := by rw [Bool.eq_iff_iff]; simp [← UInt8.toNat_inj]; omega
      have e13 : (c == 13) = false := by rw [Bool.eq_iff_iff]; simp [← UInt8.toNat_inj]; omega
      first
        | (rw [e32, e9, e10, e13]; done)
        | (rw [e32, e9, e10, e13]; rfl)
    clear h
    have feq32 : ((c.toNat : Int) == 32) = true := by simp; omega
    have feq9 : ((c.toNat : Int) == 9) = false := by simp; omega
    have feq10 : ((c.toNat : Int) == 10) = false := by simp; omega
    have feq13 : ((c.toNat : Int) == 13) = false := by simp; omega
    go_enter Tryz.func85, Tryz.ntmps85
    go_wp2_with fail
    go_ret
    exact ⟨rfl, rfl⟩
  · obtain rfl : false = b := by
      rw [← h]
      unfold blk
      have e32 : (c == 32) = false := by rw [Bool.eq_iff_iff]; simp [← UInt8.toNat_inj]; omega
      have e9 : (c == 9) = false := by rw [Bool.eq_iff_iff]; simp [← UInt8.toNat_inj]; omega
      have e10 : (c == 10) = false := by rw [Bool.eq_iff_iff]; simp [← UInt8.toNat_inj]; omega
      have e13 : (c == 13) = false := by rw [Bool.eq_iff_iff]; simp [← UInt8.toNat_inj]; omega
      first
        | (rw [e32, e9, e10, e13]; done)
        | (rw [e32, e9, e10, e13]; rfl)
    clear h
    have feq32 : ((c.toNat : Int) == 32) = false := by simp; omega
    have feq9 : ((c.toNat : Int) == 9) = false := by simp; omega
    have feq10 : ((c.toNat : Int) == 10) = false := by simp; omega
    have feq13 : ((c.toNat : Int) == 13) = false := by simp; omega
    go_enter Tryz.func85, Tryz.ntmps85
    go_wp2_with fail
    go_ret
    exact ⟨rfl, rfl⟩
theorem ret_b9 {x y : Bool} (h : x = y) : Ending.returned (.bool x) = .returned (.bool y) := by rw [h]
/-- So far a name. -/
def nameP (l : List UInt8) : Prop := l = [] ∨ nameL l = true
theorem nameP_step {l : List UInt8} {c : UInt8} (h : nameP l) (h0 : l = [] → ltr c = true) (h1 : nch c = true) : nameP (l ++ [c]) := by
  right
  cases l with
  | nil => show (ltr c && [].all nch) = true; rw [h0 rfl]; rfl
  | cons d r =>
    rcases h with h | h
    · cases h
    · unfold nameL at h ⊢
      rw [Bool.and_eq_true] at h
      show (ltr d && (r ++ [c]).all nch) = true
      rw [h.1, List.all_append, h.2]
      simp [h1]
theorem nameL_no {l : List UInt8} {k : Nat} (h : k < l.length) (h1 : nch (l[k]'h) = false) : nameL l = false := by
  cases hq : nameL l with
  | false => rfl
  | true => have := nameL_all hq _ (List.getElem_mem h); rw [h1] at this; cases this
theorem nameL_no0 {l : List UInt8} (h : 0 < l.length) (h1 : ltr (l[0]'h) = false) : nameL l = false := by
  cases l with
  | nil => simp at h
  | cons c r =>
    have h1' : ltr c = false := h1
    show (ltr c && r.all nch) = false
    rw [h1']
    rfl
theorem nch_not {c : UInt8} (h : ltr c = false) : nch c = (decide (48 ≤ c.toNat) && decide (c.toNat ≤ 57) || c == 46 || c == 45) := by unfold nch; rw [h]; simp
set_option maxHeartbeats 4000000 in
set_option maxRecDepth 100000 in
theorem rname9 (s : ByteArray) (w : World) (hm : s.size ≤ 1000000) (b : Bool) (h : nameL s.data.toList = b) :
    Calls Tryz.prog 18 #[.string s] w fun e w' => e = .returned (.bool b) ∧ w = w' := by
  have hem := empty_l s
  have HH := Lib.hid h
  have HM := Lib.hid hm
  obtain ⟨ie, hie⟩ : ∃ ie, decide (s.size = 0) = ie := ⟨_, rfl⟩
  rw [hie] at hem
  have HIE := Lib.hid hie
  clear h hm hie
  go_enter Tryz.func18, Tryz.ntmps18
  go_wp2_with fail
  go_loopw [3] (fun i wr => ∃ k : Nat, k ≤ s.size ∧ i = .int .i64 k ∧ nameP (s.data.toList.take k) ∧ w = wr) (fun i _ => s.size - (intOf i).toNat)
  case atStart => exact ⟨0, Nat.zero_le _, rfl, .inl rfl, by first | rfl | trivial⟩
  case round =>
    obtain ⟨k, hk, rfl, hn, rfl⟩ := hrel
    have hs := HM.out
    by_cases hlt : k < s.size
    · obtain ⟨c, hc⟩ : ∃ c, s[k]'hlt = c := ⟨_, rfl⟩
      have hca : ∀ h, s[k]'h = c := fun _ => hc
      have hkl : k < s.data.toList.length := by rw [ba_l]; exact hlt
      have hck : s.data.toList[k]'hkl = c := (at_l s k hlt).trans hc
      have bk : (0 : Int) ≤ (k : Int) ∧ (k : Int) < (s.size : Int) := by omega
      have hstep := fun h0 h1 => nameP_step (c := c) hn h0 h1
      rw [← hck, ← List.take_succ_eq_append_getElem hkl, hck] at hstep
      have HST := Lib.hid hstep
      have HCK := Lib.hid hck
      clear hck hc hn hstep
      cases hl : ltr c
      · have HL := Lib.hid hl
        by_cases h0 : k = 0
        · subst h0
          obtain rfl : false = b := by
            have := nameL_no0 (l := s.data.toList) hkl (by rw [HCK.out]; exact HL.out)
            rw [← HH.out, this]
          clear hl hem
          go_wp2_with (first
            | (go_at_call 34; (with_reducible refine (rletter9 c _ false HL.out).mono ?_); rintro e w1 ⟨rfl, rfl⟩)
            | fail)
          go_ret
          exact ⟨rfl, rfl⟩
        · have hk0 : ((k : Int) == 0) = false := by simp; omega
          have HK0 : Hid (s.data.toList.take k ≠ []) := Lib.hid fun e => by
            have := congrArg List.length e
            rw [List.length_take, List.length_nil] at this
            omega
          clear hl h0
          have hlim := c.toNat_lt
          rcases (show (0 ≤ c.toNat ∧ c.toNat ≤ 44) ∨ (45 ≤ c.toNat ∧ c.toNat ≤ 45) ∨ (46 ≤ c.toNat ∧ c.toNat ≤ 46) ∨ (47 ≤ c.toNat ∧ c.toNat ≤ 47) ∨ (48 ≤ c.toNat ∧ c.toNat ≤ 57) ∨ (58 ≤ c.toNat ∧ c.toNat ≤ 255) by omega) with ⟨q1, q2⟩ | ⟨q1, q2⟩ | ⟨q1, q2⟩ | ⟨q1, q2⟩ | ⟨q1, q2⟩ | ⟨q1, q2⟩
          · have hv : nch c = false := by
              rw [nch_not HL.out]
              have e45 : (c == 45) = false := by rw [Bool.eq_iff_iff]; simp [← UInt8.toNat_inj]; omega
              have e46 : (c == 46) = false := by rw [Bool.eq_iff_iff]; simp [← UInt8.toNat_inj]; omega
              rw [e45, e46]
              simp
              omega
            have flt48 : decide ((c.toNat : Int) < 48) = true := decide_eq_true (by omega)
            have fgt57 : decide ((57 : Int) < (c.toNat : Int)) = false := decide_eq_false (by omega)
            have fne46 : ((c.toNat : Int) != 46) = true := by simp; omega
            have fne45 : ((c.toNat : Int) != 45) = true := by simp; omega
            obtain rfl : false = b := by
              have := nameL_no (l := s.data.toList) hkl (by rw [HCK.out]; exact hv)
              rw [← HH.out, this]
            clear hv hem
            go_wp2_with (first
              | (go_at_call 34; (with_reducible refine (rletter9 c _ false HL.out).mono ?_); rintro e w1 ⟨rfl, rfl⟩)
              | fail)
            go_ret
            exact ⟨rfl, rfl⟩
          · have hv : nch c = true := by
              rw [nch_not HL.out]
              have e45 : (c == 45) = true := by rw [Bool.eq_iff_iff]; simp [← UInt8.toNat_inj]; omega
              have e46 : (c == 46) = false := by rw [Bool.eq_iff_iff]; simp [← UInt8.toNat_inj]; omega
              rw [e45, e46]
              simp
            have flt48 : decide ((c.toNat : Int) < 48) = true := decide_eq_true (by omega)
            have fgt57 : decide ((57 : Int) < (c.toNat : Int)) = false := decide_eq_false (by omega)
            have fne46 : ((c.toNat : Int) != 46) = true := by simp; omega
            have fne45 : ((c.toNat : Int) != 45) = false := by simp; omega
            have HV := Lib.hid (HST.out (fun e => absurd e HK0.out) hv)
            clear hv
            go_wp2_with (first
              | (go_at_call 34; (with_reducible refine (rletter9 c _ false HL.out).mono ?_); rintro e w1 ⟨rfl, rfl⟩)
              | fail)
            go_roundw
            case rel => exact ⟨k + 1, hlt, by go_num, HV.out, by first | rfl | trivial⟩
            case measure => simp [intOf]; omega
          · have hv : nch c = true := by
              rw [nch_not HL.out]
              have e45 : (c == 45) = false := by rw [Bool.eq_iff_iff]; simp [← UInt8.toNat_inj]; omega
              have e46 : (c == 46) = true := by rw [Bool.eq_iff_iff]; simp [← UInt8.toNat_inj]; omega
              rw [e45, e46]
              simp
            have flt48 : decide ((c.toNat : Int) < 48) = true := decide_eq_true (by omega)
            have fgt57 : decide ((57 : Int) < (c.toNat : Int)) = false := decide_eq_false (by omega)
            have fne46 : ((c.toNat : Int) != 46) = false := by simp; omega
            have fne45 : ((c.toNat : Int) != 45) = true := by simp; omega
            have HV := Lib.hid (HST.out (fun e => absurd e HK0.out) hv)
            clear hv
            go_wp2_with (first
              | (go_at_call 34; (with_reducible refine (rletter9 c _ false HL.out).mono ?_); rintro e w1 ⟨rfl, rfl⟩)
              | fail)
            go_roundw
            case rel => exact ⟨k + 1, hlt, by go_num, HV.out, by first | rfl | trivial⟩
            case measure => simp [intOf]; omega
          · have hv : nch c = false := by
              rw [nch_not HL.out]
              have e45 : (c == 45) = false := by rw [Bool.eq_iff_iff]; simp [← UInt8.toNat_inj]; omega
              have e46 : (c == 46) = false := by rw [Bool.eq_iff_iff]; simp [← UInt8.toNat_inj]; omega
              rw [e45, e46]
              simp
              omega
            have flt48 : decide ((c.toNat : Int) < 48) = true := decide_eq_true (by omega)
            have fgt57 : decide ((57 : Int) < (c.toNat : Int)) = false := decide_eq_false (by omega)
            have fne46 : ((c.toNat : Int) != 46) = true := by simp; omega
            have fne45 : ((c.toNat : Int) != 45) = true := by simp; omega
            obtain rfl : false = b := by
              have := nameL_no (l := s.data.toList) hkl (by rw [HCK.out]; exact hv)
              rw [← HH.out, this]
            clear hv hem
            go_wp2_with (first
              | (go_at_call 34; (with_reducible refine (rletter9 c _ false HL.out).mono ?_); rintro e w1 ⟨rfl, rfl⟩)
              | fail)
            go_ret
            exact ⟨rfl, rfl⟩
          · have hv : nch c = true := by
              rw [nch_not HL.out]
              have e45 : (c == 45) = false := by rw [Bool.eq_iff_iff]; simp [← UInt8.toNat_inj]; omega
              have e46 : (c == 46) = false := by rw [Bool.eq_iff_iff]; simp [← UInt8.toNat_inj]; omega
              rw [e45, e46]
              simp
              omega
            have flt48 : decide ((c.toNat : Int) < 48) = false := decide_eq_false (by omega)
            have fgt57 : decide ((57 : Int) < (c.toNat : Int)) = false := decide_eq_false (by omega)
            have fne46 : ((c.toNat : Int) != 46) = true := by simp; omega
            have fne45 : ((c.toNat : Int) != 45) = true := by simp; omega
            have HV := Lib.hid (HST.out (fun e => absurd e HK0.out) hv)
            clear hv
            go_wp2_with (first
              | (go_at_call 34; (with_reducible refine (rletter9 c _ false HL.out).mono ?_); rintro e w1 ⟨rfl, rfl⟩)
              | fail)
            go_roundw
            case rel => exact ⟨k + 1, hlt, by go_num, HV.out, by first | rfl | trivial⟩
            case measure => simp [intOf]; omega
          · have hv : nch c = false := by
              rw [nch_not HL.out]
              have e45 : (c == 45) = false := by rw [Bool.eq_iff_iff]; simp [← UInt8.toNat_inj]; omega
              have e46 : (c == 46) = false := by rw [Bool.eq_iff_iff]; simp [← UInt8.toNat_inj]; omega
              rw [e45, e46]
              simp
              omega
            have flt48 : decide ((c.toNat : Int) < 48) = false := decide_eq_false (by omega)
            have fgt57 : decide ((57 : Int) < (c.toNat : Int)) = true := decide_eq_true (by omega)
            have fne46 : ((c.toNat : Int) != 46) = true := by simp; omega
            have fne45 : ((c.toNat : Int) != 45) = true := by simp; omega
            obtain rfl : false = b := by
              have := nameL_no (l := s.data.toList) hkl (by rw [HCK.out]; exact hv)
              rw [← HH.out, this]
            clear hv hem
            go_wp2_with (first
              | (go_at_call 34; (with_reducible refine (rletter9 c _ false HL.out).mono ?_); rintro e w1 ⟨rfl, rfl⟩)
              | fail)
            go_ret
            exact ⟨rfl, rfl⟩
      · have HL := Lib.hid hl
        have HV := Lib.hid (HST.out (fun _ => hl) (nch_of_ltr hl))
        clear hl
        go_wp2_with (first
          | (go_at_call 34; (with_reducible refine (rletter9 c _ true HL.out).mono ?_); rintro e w1 ⟨rfl, rfl⟩)
          | fail)
        go_roundw
        case rel => exact ⟨k + 1, hlt, by go_num, HV.out, by first | rfl | trivial⟩
        case measure => simp [intOf]; omega
    · obtain rfl : k = s.size := by omega
      have HX : Hid ((!ie) = b) := Lib.hid (by
        have hn' := hn
        rw [List.take_of_length_le (by rw [ba_l]; omega)] at hn'
        rw [← HIE.out, ← HH.out]
        rcases hn' with h | h
        · rw [h]
          have : s.size = 0 := by rw [← ba_l, h]; rfl
          simp [this, nameL]
        · rw [h]
          have : s.size ≠ 0 := by
            intro e
            rw [List.eq_nil_of_length_eq_zero ((ba_l s).trans e)] at h
            cases h
          simp [this])
      clear hn
      go_wp2_with fail
      go_ret
      exact ⟨ret_b9 HX.out, rfl⟩
end Hx
end Go.Proofs.YtichboamakgabaaGreatDoor
namespace Go.Proofs.YtichboamakgabaaGreatDoor
open Go.RowKit
namespace Hx
open Lx
set_option linter.unusedVariables false
theorem cutC_at {l : List UInt8} {k : Nat} (h : k < l.length) (h1 : (58 : UInt8) ∉ l.take k) (h2 : l[k]'h = 58) : cutC l = some (l.take k, l.drop (k + 1)) := by
  have e : l = l.take k ++ 58 :: l.drop (k + 1) := by rw [← h2, ← List.drop_eq_getElem_cons h, List.take_append_drop]
  have gen : ∀ (a b : List UInt8), (58 : UInt8) ∉ a → cutC (a ++ 58 :: b) = some (a, b) := by
    intro a
    induction a with
    | nil => intro b _; show (if (58 : UInt8) = 58 then _ else _) = _; rw [if_pos rfl]
    | cons c a ih =>
      intro b hn
      rw [List.mem_cons, not_or] at hn
      show (if c = 58 then _ else _) = _
      rw [if_neg (Ne.symm hn.1)]
      show Option.map _ (cutC (a ++ 58 :: b)) = _
      rw [ih b hn.2]
      rfl
  have := gen _ (l.drop (k + 1)) h1
  rwa [← e] at this
theorem cutC_no {l : List UInt8} (h : (58 : UInt8) ∉ l) : cutC l = none := by
  induction l with
  | nil => rfl
  | cons c l ih =>
    rw [List.mem_cons, not_or] at h
    show (if c = 58 then _ else _) = _
    rw [if_neg (Ne.symm h.1), ih h.2]
    rfl
/-- What Parts answers. -/
def PartsTo (s : ByteArray) (w : World) (e : Ending) (w' : World) : Prop := (∃ n, w' = w.drewN n) ∧
  ((∃ x y : ByteArray, cutC s.data.toList = some (x.data.toList, y.data.toList) ∧ e = .returned (.tuple #[.string x, .string y, .bool true])) ∨ (cutC s.data.toList = none ∧ e = .returned (.tuple #[.string ⟨#[]⟩, .string s, .bool false])))
set_option maxHeartbeats 2000000 in
set_option maxRecDepth 100000 in
theorem rparts9 (s : ByteArray) (w : World) (hm : s.size ≤ 1000000) : Calls Tryz.prog 36 #[.string s] w (PartsTo s w) := by
  have HM := Lib.hid hm
  clear hm
  go_enter Tryz.func36, Tryz.ntmps36
  go_wp2_with fail
  go_loopw [5] (fun i wr => ∃ k : Nat, k ≤ s.size ∧ i = .int .i64 k ∧ (58 : UInt8) ∉ s.data.toList.take k ∧ w = wr) (fun i _ => s.size - (intOf i).toNat)
  case atStart => exact ⟨0, Nat.zero_le _, rfl, by simp, by first | rfl | trivial⟩
  case round =>
    obtain ⟨k, hk, rfl, hn, rfl⟩ := hrel
    have hs := HM.out
    by_cases hlt : k < s.size
    · obtain ⟨c, hc⟩ : ∃ c, s[k]'hlt = c := ⟨_, rfl⟩
      have hca : ∀ h, s[k]'h = c := fun _ => hc
      have hkl : k < s.data.toList.length := by rw [ba_l]; exact hlt
      have hck : s.data.toList[k]'hkl = c := (at_l s k hlt).trans hc
      have bk : (0 : Int) ≤ (k : Int) ∧ (k : Int) < (s.size : Int) := by omega
      have hcl := c.toNat_lt
      by_cases h58 : c.toNat = 58
      · have e58 : c = 58 := UInt8.toNat_inj.1 h58
        have f58 : ((c.toNat : Int) == 58) = true := by simp; omega
        obtain ⟨x, hx⟩ : ∃ x, s.extract 0 k = x := ⟨_, rfl⟩
        obtain ⟨y, hy⟩ : ∃ y, s.extract (k + 1) s.size = y := ⟨_, rfl⟩
        have HC : Hid (cutC s.data.toList = some (x.data.toList, y.data.toList)) := Lib.hid (by
          rw [cutC_at hkl hn (hck.trans e58), ← hx, ← hy, extract_l s 0 k hk, extract_l s (k + 1) s.size (Nat.le_refl _), List.drop_zero, Nat.sub_zero, List.take_of_length_le (l := s.data.toList.drop (k + 1)) (by rw [List.length_drop, ba_l]; omega)])
        clear hck hc hn e58 h58
        go_wp2_with fail
        go_region
        go_wp2_with fail
        refine bodyPost_ret (v := .tuple #[.string x, .string y, .bool true]) ?_ rfl ⟨⟨1, rfl⟩, .inl ⟨x, y, HC.out, rfl⟩⟩
        simp [results, Tryz.results36, go_sem]
      · have f58 : ((c.toNat : Int) == 58) = false := by simp; omega
        have HV : Hid ((58 : UInt8) ∉ s.data.toList.take (k + 1)) := Lib.hid (by
          rw [List.take_succ_eq_append_getElem hkl, hck, List.mem_append, not_or]
          refine ⟨hn, ?_⟩
          rw [List.mem_singleton]
          rintro rfl
          exact h58 rfl)
        clear hck hc hn h58
        go_wp2_with fail
        go_roundw
        case rel => exact ⟨k + 1, hlt, by go_num, HV.out, by first | rfl | trivial⟩
        case measure => simp [intOf]; omega
    · obtain rfl : k = s.size := by omega
      have HC : Hid (cutC s.data.toList = none) := Lib.hid (by
        rw [List.take_of_length_le (by rw [ba_l]; omega)] at hn
        exact cutC_no hn)
      clear hn
      go_wp2_with fail
      refine bodyPost_ret (v := .tuple #[.string ⟨#[]⟩, .string s, .bool false]) ?_ rfl ⟨⟨0, rfl⟩, .inr ⟨HC.out, rfl⟩⟩
      simp [results, Tryz.results36, go_sem]
theorem ex_size {l : List UInt8} {x y : ByteArray} (h : cutC l = some (x.data.toList, y.data.toList)) : x.size + y.size + 1 = l.length := by
  have := congrArg List.length (cutC_some h).1
  rw [List.length_append, List.length_cons, ba_l, ba_l] at this
  omega
theorem rparts_some (s x y : ByteArray) (w : World) (hm : s.size ≤ 1000000) (h : cutC s.data.toList = some (x.data.toList, y.data.toList)) : Calls Tryz.prog 36 #[.string s] w fun e w' => e = .returned (.tuple #[.string x, .string y, .bool true]) ∧ ∃ n, w' = w.drewN n :=
  (rparts9 s w hm).mono fun e w' hp => by
    obtain ⟨hb, ⟨x', y', h1, h2⟩ | ⟨h1, _⟩⟩ := hp
    · rw [h] at h1
      obtain ⟨e1, e2⟩ := (Prod.mk.injEq _ _ _ _).mp (Option.some.inj h1)
      rw [ba_x e1, ba_x e2]
      exact ⟨h2, hb⟩
    · rw [h] at h1; cases h1
theorem rparts_none (s : ByteArray) (w : World) (hm : s.size ≤ 1000000) (h : cutC s.data.toList = none) : Calls Tryz.prog 36 #[.string s] w fun e w' => e = .returned (.tuple #[.string ⟨#[]⟩, .string s, .bool false]) ∧ ∃ n, w' = w.drewN n :=
  (rparts9 s w hm).mono fun e w' hp => by
    obtain ⟨hb, ⟨x', y', h1, h2⟩ | ⟨h1, h2⟩⟩ := hp
    · rw [h] at h1; cases h1
    · exact ⟨h2, hb⟩
set_option maxHeartbeats 2000000 in
set_option maxRecDepth 100000 in
theorem rfull9q (s : ByteArray) (w : World) (hm : s.size ≤ 1000000) (b : Bool) (h : fullL s.data.toList = b) :
    Calls Tryz.prog 20 #[.string s] w fun e w' => e = .returned (.bool b) ∧ ∃ n, w' = w.drewN n := by
  unfold fullL at h
  have HM := Lib.hid hm
  cases hc : cutC s.data.toList with
  | none =>
    rw [hc] at h
    have HC := Lib.hid hc
    have HH : Hid (nameL s.data.toList = b) := h
    clear hc h hm
    cases b <;> (
      go_enter Tryz.func20, Tryz.ntmps20
      go_wp2_with (first
        | (go_at_call 36; (with_reducible refine (rparts_none s w HM.out HC.out).mono ?_); rintro e w1 ⟨rfl, n1, rfl⟩)
        | (go_at_call 18; (with_reducible refine (rname9 s _ HM.out _ HH.out).mono ?_); rintro e w2 ⟨rfl, rfl⟩)
        | fail)
      go_ret
      exact ⟨rfl, n1, rfl⟩)
  | some p =>
    obtain ⟨a, c⟩ := p
    rw [hc] at h
    dsimp only at h
    obtain ⟨x, hx⟩ : ∃ x : ByteArray, x.data.toList = a := ⟨⟨a.toArray⟩, rfl⟩
    obtain ⟨y, hy⟩ : ∃ y : ByteArray, y.data.toList = c := ⟨⟨c.toArray⟩, rfl⟩
    subst hx hy
    have hsz := ex_size hc
    rw [ba_l] at hsz
    have HX : Hid (x.size ≤ 1000000) := Lib.hid (by omega)
    have HY : Hid (y.size ≤ 1000000) := Lib.hid (by omega)
    obtain ⟨b1, h1⟩ : ∃ b1, nameL y.data.toList = b1 := ⟨_, rfl⟩
    obtain ⟨b2, h2⟩ : ∃ b2, nameL x.data.toList = b2 := ⟨_, rfl⟩
    rw [h1, h2] at h
    have HC := Lib.hid hc
    have H1 := Lib.hid h1
    have H2 := Lib.hid h2
    clear hc h1 h2 hm hsz
    subst h
    cases b1
    · go_enter Tryz.func20, Tryz.ntmps20
      go_wp2_with (first
        | (go_at_call 36; (with_reducible refine (rparts_some s x y w HM.out HC.out).mono ?_); rintro e w1 ⟨rfl, n1, rfl⟩)
        | (go_at_call 18; (with_reducible refine (rname9 y _ HY.out _ H1.out).mono ?_); rintro e w2 ⟨rfl, rfl⟩)
        | fail)
      go_ret
      exact ⟨rfl, n1, rfl⟩
    · cases b2 <;> (
      go_enter Tryz.func20, Tryz.ntmps20
      go_wp2_with (first
        | (go_at_call 36; (with_reducible refine (rparts_some s x y w HM.out HC.out).mono ?_); rintro e w1 ⟨rfl, n1, rfl⟩)
        | (go_at_call 18; (with_reducible refine (rname9 y _ HY.out _ H1.out).mono ?_); rintro e w2 ⟨rfl, rfl⟩)
        | (go_at_call 18; (with_reducible refine (rname9 x _ HX.out _ H2.out).mono ?_); rintro e w3 ⟨rfl, rfl⟩)
        | fail)
      go_ret
      exact ⟨rfl, n1, rfl⟩)
theorem rfull9 (s : ByteArray) (w : World) (hm : s.size ≤ 1000000) (b : Bool) (h : fullL s.data.toList = b) :
    Calls Tryz.prog 20 #[.string s] w fun e w' => e = .returned (.bool b) ∧ Below w.heap.size w w' :=
  (rfull9q s w hm b h).mono fun e w' ⟨h1, n, h2⟩ => ⟨h1, by rw [h2]; exact ⟨rfl, rfl, rfl, Nat.le_refl _, fun _ _ => rfl⟩⟩
theorem tw_next {p : UInt8 → Bool} {l : List UInt8} {n : Nat} (h : n < l.length) (h1 : (l.take n).all p = true) : (p (l[n]'h) = true → (l.take (n + 1)).all p = true) ∧ (p (l[n]'h) = false → l.takeWhile p = l.take n) := by
  refine ⟨fun h2 => ?_, fun h2 => ?_⟩
  · rw [List.take_succ_eq_append_getElem h, List.all_append, h1]
    simp [h2]
  · have e : l = l.take n ++ l.drop n := (List.take_append_drop n l).symm
    conv => lhs; rw [e]
    refine (tw_app (List.all_eq_true.1 h1) fun c r e2 => ?_).1
    rw [List.drop_eq_getElem_cons h] at e2
    rw [← (List.cons.inj e2).1]
    exact h2
theorem tw_all {p : UInt8 → Bool} {l : List UInt8} (h1 : l.all p = true) : l.takeWhile p = l := by
  have := (tw_app (b := []) (List.all_eq_true.1 h1) (fun c r e => by cases e)).1
  rwa [List.append_nil] at this
set_option maxHeartbeats 2000000 in
set_option maxRecDepth 100000 in
theorem rblanks9 (s : ByteArray) (a : Nat) (w : World) (hm : s.size ≤ 1000000) (ha : a ≤ s.size) (n : Nat) (h : ((s.data.toList.drop a).takeWhile blk).length = n) :
    Calls Tryz.prog 64 #[.string s, .int .i64 a] w fun e w' => e = .returned (.int .i64 n) ∧ w = w' := by
  have HM := Lib.hid hm
  have HA := Lib.hid ha
  have HH := Lib.hid h
  clear hm ha h
  go_enter Tryz.func64, Tryz.ntmps64
  go_wp2_with fail
  go_loopw [5] (fun i wr => ∃ k : Nat, a + k ≤ s.size ∧ i = .int .i64 k ∧ ((s.data.toList.drop a).take k).all blk = true ∧ w = wr) (fun i _ => s.size - (intOf i).toNat)
  case atStart => exact ⟨0, HA.out, rfl, rfl, by first | rfl | trivial⟩
  case round =>
    obtain ⟨k, hk, rfl, hn, rfl⟩ := hrel
    have hs := HM.out
    have hdl : (s.data.toList.drop a).length = s.size - a := by rw [List.length_drop, ba_l]
    by_cases hlt : a + k < s.size
    · obtain ⟨c, hc⟩ : ∃ c, s[a + k]'hlt = c := ⟨_, rfl⟩
      have hca : ∀ h, s[a + k]'h = c := fun _ => hc
      have hkl : k < (s.data.toList.drop a).length := by omega
      have hck : (s.data.toList.drop a)[k]'hkl = c := by rw [List.getElem_drop]; exact (at_l s (a + k) hlt).trans hc
      have bk : (0 : Int) ≤ (a : Int) + (k : Int) ∧ (a : Int) + (k : Int) < (s.size : Int) := by omega
      have hst := tw_next hkl hn
      rw [hck] at hst
      have HST := Lib.hid hst
      cases hb : blk c
      · have HB := Lib.hid hb
        obtain rfl : k = n := by
          have := HST.out.2 hb
          rw [← HH.out, this, List.length_take]
          omega
        clear hck hc hn hst hb hdl hkl
        go_wp2_with (first
          | (go_at_call 85; (with_reducible refine (rblank9 c _ false HB.out).mono ?_); rintro e w1 ⟨rfl, rfl⟩)
          | fail)
        go_ret
        exact ⟨rfl, rfl⟩
      · have HB := Lib.hid hb
        have HV := Lib.hid (HST.out.1 hb)
        clear hck hc hn hst hb hdl hkl
        go_wp2_with (first
          | (go_at_call 85; (with_reducible refine (rblank9 c _ true HB.out).mono ?_); rintro e w1 ⟨rfl, rfl⟩)
          | fail)
        go_roundw
        case rel => exact ⟨k + 1, by omega, by go_num, HV.out, by first | rfl | trivial⟩
        case measure => simp [intOf]; omega
    · obtain rfl : k = n := by
        rw [List.take_of_length_le (by omega)] at hn
        rw [← HH.out, tw_all hn]
        omega
      clear hn hdl
      go_wp2_with fail
      go_ret
      exact ⟨rfl, rfl⟩
theorem wch_not {c : UInt8} (h : ltr c = false) : wch c = (decide (48 ≤ c.toNat) && decide (c.toNat ≤ 57) || c == 46 || c == 45 || c == 58) := by unfold wch; rw [nch_not h]
set_option maxHeartbeats 4000000 in
set_option maxRecDepth 100000 in
theorem rword9 (s : ByteArray) (a : Nat) (w : World) (hm : s.size ≤ 1000000) (ha : a ≤ s.size) (t : ByteArray) (h : t.data.toList = wordL (s.data.toList.drop a)) :
    Calls Tryz.prog 63 #[.string s, .int .i64 a] w fun e w' => e = .returned (.string t) ∧ Below w.heap.size w w' := by
  have HM := Lib.hid hm
  have HA := Lib.hid ha
  have HH := Lib.hid h
  clear hm ha h
  go_enter Tryz.func63, Tryz.ntmps63
  go_wp2_with fail
  go_loopw [5] (fun i wr => ∃ k : Nat, a + k ≤ s.size ∧ i = .int .i64 ((a : Int) + (k : Int)) ∧ ((s.data.toList.drop a).take k).all wch = true ∧ w = wr) (fun i _ => s.size - (intOf i).toNat)
  case atStart => exact ⟨0, HA.out, by simp, rfl, by first | rfl | trivial⟩
  case round =>
    obtain ⟨k, hk, rfl, hn, rfl⟩ := hrel
    have hs := HM.out
    have hdl : (s.data.toList.drop a).length = s.size - a := by rw [List.length_drop, ba_l]
    by_cases hlt : a + k < s.size
    · obtain ⟨c, hc⟩ : ∃ c, s[a + k]'hlt = c := ⟨_, rfl⟩
      have hca : ∀ h, s[a + k]'h = c := fun _ => hc
      have hkl : k < (s.data.toList.drop a).length := by omega
      have hck : (s.data.toList.drop a)[k]'hkl = c := by rw [List.getElem_drop]; exact (at_l s (a + k) hlt).trans hc
      have bk : (0 : Int) ≤ (a : Int) + (k : Int) ∧ (a : Int) + (k : Int) < (s.size : Int) := by omega
      have hst := tw_next hkl hn
      rw [hck] at hst
      have HST := Lib.hid hst
      clear hck hc hn hst hkl
      cases hl : ltr c
      · have HL := Lib.hid hl
        clear hl
        have hlim := c.toNat_lt
        rcases (show (0 ≤ c.toNat ∧ c.toNat ≤ 44) ∨ (45 ≤ c.toNat ∧ c.toNat ≤ 45) ∨ (46 ≤ c.toNat ∧ c.toNat ≤ 46) ∨ (47 ≤ c.toNat ∧ c.toNat ≤ 47) ∨ (48 ≤ c.toNat ∧ c.toNat ≤ 57) ∨ (58 ≤ c.toNat ∧ c.toNat ≤ 58) ∨ (59 ≤ c.toNat ∧ c.toNat ≤ 255) by omega) with ⟨q1, q2⟩ | ⟨q1, q2⟩ | ⟨q1, q2⟩ | ⟨q1, q2⟩ | ⟨q1, q2⟩ | ⟨q1, q2⟩ | ⟨q1, q2⟩
        · have hv : wch c = false := by
            rw [wch_not HL.out]
            have e45 : (c == 45) = false := by rw [Bool.eq_iff_iff]; simp [← UInt8.toNat_inj]; omega
            have e46 : (c == 46) = false := by rw [Bool.eq_iff_iff]; simp [← UInt8.toNat_inj]; omega
            have e58 : (c == 58) = false := by rw [Bool.eq_iff_iff]; simp [← UInt8.toNat_inj]; omega
            rw [e46, e45, e58]
            simp <;> omega
          have fge48 : decide ((48 : Int) ≤ (c.toNat : Int)) = false := decide_eq_false (by omega)
          have fle57 : decide ((c.toNat : Int) ≤ 57) = true := decide_eq_true (by omega)
          have feq46 : ((c.toNat : Int) == 46) = false := by simp; omega
          have feq45 : ((c.toNat : Int) == 45) = false := by simp; omega
          have feq58 : ((c.toNat : Int) == 58) = false := by simp; omega
          have HW := Lib.hid (HST.out.2 hv)
          clear hv
          have hx2 : (s.extract a (a + k)).data.toList = (s.data.toList.drop a).takeWhile wch := by
            rw [extract_l s a (a + k) (by omega), show a + k - a = k by omega]
            exact HW.out.symm
          obtain ⟨x, hx⟩ : ∃ x, s.extract a (a + k) = x := ⟨_, rfl⟩
          rw [hx] at hx2
          have hxs : x.size ≤ 1000000 := by
            have := congrArg List.length hx2
            rw [ba_l, HW.out, List.length_take, hdl] at this
            omega
          have HXS := Lib.hid hxs
          have bj : (0 : Int) ≤ (a : Int) ∧ (a : Int) ≤ (a : Int) + (k : Int) ∧ (a : Int) + (k : Int) ≤ (s.size : Int) := by omega
          obtain ⟨q, hq⟩ : ∃ q, fullL x.data.toList = q := ⟨_, rfl⟩
          have HQ := Lib.hid hq
          have ht := HH.out
          unfold wordL at ht
          rw [← hx2, hq] at ht
          clear hx2 hxs hq hdl
          cases q
          · have HT : Hid ((⟨#[]⟩ : ByteArray) = t) := Lib.hid (ba_x ht.symm)
            clear ht
            go_wp2_with (first
              | (go_at_call 34; (with_reducible refine (rletter9 c _ false HL.out).mono ?_); rintro e w1 ⟨rfl, rfl⟩)
              | (go_at_call 20; (with_reducible refine (rfull9 x _ HXS.out false HQ.out).mono ?_); rintro e w2 ⟨rfl, hb2⟩)
              | fail)
            go_ret
            exact ⟨ret_s HT.out, hb2⟩
          · have HT : Hid (x = t) := Lib.hid (ba_x ht.symm)
            clear ht
            go_wp2_with (first
              | (go_at_call 34; (with_reducible refine (rletter9 c _ false HL.out).mono ?_); rintro e w1 ⟨rfl, rfl⟩)
              | (go_at_call 20; (with_reducible refine (rfull9 x _ HXS.out true HQ.out).mono ?_); rintro e w2 ⟨rfl, hb2⟩)
              | fail)
            go_ret
            exact ⟨ret_s (hx.trans HT.out), hb2⟩
        · have hv : wch c = true := by
            rw [wch_not HL.out]
            have e45 : (c == 45) = true := by rw [Bool.eq_iff_iff]; simp [← UInt8.toNat_inj]; omega
            have e46 : (c == 46) = false := by rw [Bool.eq_iff_iff]; simp [← UInt8.toNat_inj]; omega
            have e58 : (c == 58) = false := by rw [Bool.eq_iff_iff]; simp [← UInt8.toNat_inj]; omega
            rw [e46, e45, e58]
            simp <;> omega
          have fge48 : decide ((48 : Int) ≤ (c.toNat : Int)) = false := decide_eq_false (by omega)
          have fle57 : decide ((c.toNat : Int) ≤ 57) = true := decide_eq_true (by omega)
          have feq46 : ((c.toNat : Int) == 46) = false := by simp; omega
          have feq45 : ((c.toNat : Int) == 45) = true := by simp; omega
          have feq58 : ((c.toNat : Int) == 58) = false := by simp; omega
          have HV := Lib.hid (HST.out.1 hv)
          clear hv
          go_wp2_with (first
            | (go_at_call 34; (with_reducible refine (rletter9 c _ false HL.out).mono ?_); rintro e w1 ⟨rfl, rfl⟩)
            | fail)
          go_roundw
          case rel => exact ⟨k + 1, by omega, by go_num, HV.out, by first | rfl | trivial⟩
          case measure => simp [intOf]; omega
        · have hv : wch c = true := by
            rw [wch_not HL.out]
            have e45 : (c == 45) = false := by rw [Bool.eq_iff_iff]; simp [← UInt8.toNat_inj]; omega
            have e46 : (c == 46) = true := by rw [Bool.eq_iff_iff]; simp [← UInt8.toNat_inj]; omega
            have e58 : (c == 58) = false := by rw [Bool.eq_iff_iff]; simp [← UInt8.toNat_inj]; omega
            rw [e46, e45, e58]
            simp <;> omega
          have fge48 : decide ((48 : Int) ≤ (c.toNat : Int)) = false := decide_eq_false (by omega)
          have fle57 : decide ((c.toNat : Int) ≤ 57) = true := decide_eq_true (by omega)
          have feq46 : ((c.toNat : Int) == 46) = true := by simp; omega
          have feq45 : ((c.toNat : Int) == 45) = false := by simp; omega
          have feq58 : ((c.toNat : Int) == 58) = false := by simp; omega
          have HV := Lib.hid (HST.out.1 hv)
          clear hv
          go_wp2_with (first
            | (go_at_call 34; (with_reducible refine (rletter9 c _ false HL.out).mono ?_); rintro e w1 ⟨rfl, rfl⟩)
            | fail)
          go_roundw
          case rel => exact ⟨k + 1, by omega, by go_num, HV.out, by first | rfl | trivial⟩
          case measure => simp [intOf]; omega
        · have hv : wch c = false := by
            rw [wch_not HL.out]
            have e45 : (c == 45) = false := by rw [Bool.eq_iff_iff]; simp [← UInt8.toNat_inj]; omega
            have e46 : (c == 46) = false := by rw [Bool.eq_iff_iff]; simp [← UInt8.toNat_inj]; omega
            have e58 : (c == 58) = false := by rw [Bool.eq_iff_iff]; simp [← UInt8.toNat_inj]; omega
            rw [e46, e45, e58]
            simp <;> omega
          have fge48 : decide ((48 : Int) ≤ (c.toNat : Int)) = false := decide_eq_false (by omega)
          have fle57 : decide ((c.toNat : Int) ≤ 57) = true := decide_eq_true (by omega)
          have feq46 : ((c.toNat : Int) == 46) = false := by simp; omega
          have feq45 : ((c.toNat : Int) == 45) = false := by simp; omega
          have feq58 : ((c.toNat : Int) == 58) = false := by simp; omega
          have HW := Lib.hid (HST.out.2 hv)
          clear hv
          have hx2 : (s.extract a (a + k)).data.toList = (s.data.toList.drop a).takeWhile wch := by
            rw [extract_l s a (a + k) (by omega), show a + k - a = k by omega]
            exact HW.out.symm
          obtain ⟨x, hx⟩ : ∃ x, s.extract a (a + k) = x := ⟨_, rfl⟩
          rw [hx] at hx2
          have hxs : x.size ≤ 1000000 := by
            have := congrArg List.length hx2
            rw [ba_l, HW.out, List.length_take, hdl] at this
            omega
          have HXS := Lib.hid hxs
          have bj : (0 : Int) ≤ (a : Int) ∧ (a : Int) ≤ (a : Int) + (k : Int) ∧ (a : Int) + (k : Int) ≤ (s.size : Int) := by omega
          obtain ⟨q, hq⟩ : ∃ q, fullL x.data.toList = q := ⟨_, rfl⟩
          have HQ := Lib.hid hq
          have ht := HH.out
          unfold wordL at ht
          rw [← hx2, hq] at ht
          clear hx2 hxs hq hdl
          cases q
          · have HT : Hid ((⟨#[]⟩ : ByteArray) = t) := Lib.hid (ba_x ht.symm)
            clear ht
            go_wp2_with (first
              | (go_at_call 34; (with_reducible refine (rletter9 c _ false HL.out).mono ?_); rintro e w1 ⟨rfl, rfl⟩)
              | (go_at_call 20; (with_reducible refine (rfull9 x _ HXS.out false HQ.out).mono ?_); rintro e w2 ⟨rfl, hb2⟩)
              | fail)
            go_ret
            exact ⟨ret_s HT.out, hb2⟩
          · have HT : Hid (x = t) := Lib.hid (ba_x ht.symm)
            clear ht
            go_wp2_with (first
              | (go_at_call 34; (with_reducible refine (rletter9 c _ false HL.out).mono ?_); rintro e w1 ⟨rfl, rfl⟩)
              | (go_at_call 20; (with_reducible refine (rfull9 x _ HXS.out true HQ.out).mono ?_); rintro e w2 ⟨rfl, hb2⟩)
              | fail)
            go_ret
            exact ⟨ret_s (hx.trans HT.out), hb2⟩
        · have hv : wch c = true := by
            rw [wch_not HL.out]
            have e45 : (c == 45) = false := by rw [Bool.eq_iff_iff]; simp [← UInt8.toNat_inj]; omega
            have e46 : (c == 46) = false := by rw [Bool.eq_iff_iff]; simp [← UInt8.toNat_inj]; omega
            have e58 : (c == 58) = false := by rw [Bool.eq_iff_iff]; simp [← UInt8.toNat_inj]; omega
            rw [e46, e45, e58]
            simp <;> omega
          have fge48 : decide ((48 : Int) ≤ (c.toNat : Int)) = true := decide_eq_true (by omega)
          have fle57 : decide ((c.toNat : Int) ≤ 57) = true := decide_eq_true (by omega)
          have feq46 : ((c.toNat : Int) == 46) = false := by simp; omega
          have feq45 : ((c.toNat : Int) == 45) = false := by simp; omega
          have feq58 : ((c.toNat : Int) == 58) = false := by simp; omega
          have HV := Lib.hid (HST.out.1 hv)
          clear hv
          go_wp2_with (first
            | (go_at_call 34; (with_reducible refine (rletter9 c _ false HL.out).mono ?_); rintro e w1 ⟨rfl, rfl⟩)
            | fail)
          go_roundw
          case rel => exact ⟨k + 1, by omega, by go_num, HV.out, by first | rfl | trivial⟩
          case measure => simp [intOf]; omega
        · have hv : wch c = true := by
            rw [wch_not HL.out]
            have e45 : (c == 45) = false := by rw [Bool.eq_iff_iff]; simp [← UInt8.toNat_inj]; omega
            have e46 : (c == 46) = false := by rw [Bool.eq_iff_iff]; simp [← UInt8.toNat_inj]; omega
            have e58 : (c == 58) = true := by rw [Bool.eq_iff_iff]; simp [← UInt8.toNat_inj]; omega
            rw [e46, e45, e58]
            simp <;> omega
          have fge48 : decide ((48 : Int) ≤ (c.toNat : Int)) = true := decide_eq_true (by omega)
          have fle57 : decide ((c.toNat : Int) ≤ 57) = false := decide_eq_false (by omega)
          have feq46 : ((c.toNat : Int) == 46) = false := by simp; omega
          have feq45 : ((c.toNat : Int) == 45) = false := by simp; omega
          have feq58 : ((c.toNat : Int) == 58) = true := by simp; omega
          have HV := Lib.hid (HST.out.1 hv)
          clear hv
          go_wp2_with (first
            | (go_at_call 34; (with_reducible refine (rletter9 c _ false HL.out).mono ?_); rintro e w1 ⟨rfl, rfl⟩)
            | fail)
          go_roundw
          case rel => exact ⟨k + 1, by omega, by go_num, HV.out, by first | rfl | trivial⟩
          case measure => simp [intOf]; omega
        · have hv : wch c = false := by
            rw [wch_not HL.out]
            have e45 : (c == 45) = false := by rw [Bool.eq_iff_iff]; simp [← UInt8.toNat_inj]; omega
            have e46 : (c == 46) = false := by rw [Bool.eq_iff_iff]; simp [← UInt8.toNat_inj]; omega
            have e58 : (c == 58) = false := by rw [Bool.eq_iff_iff]; simp [← UInt8.toNat_inj]; omega
            rw [e46, e45, e58]
            simp <;> omega
          have fge48 : decide ((48 : Int) ≤ (c.toNat : Int)) = true := decide_eq_true (by omega)
          have fle57 : decide ((c.toNat : Int) ≤ 57) = false := decide_eq_false (by omega)
          have feq46 : ((c.toNat : Int) == 46) = false := by simp; omega
          have feq45 : ((c.toNat : Int) == 45) = false := by simp; omega
          have feq58 : ((c.toNat : Int) == 58) = false := by simp; omega
          have HW := Lib.hid (HST.out.2 hv)
          clear hv
          have hx2 : (s.extract a (a + k)).data.toList = (s.data.toList.drop a).takeWhile wch := by
            rw [extract_l s a (a + k) (by omega), show a + k - a = k by omega]
            exact HW.out.symm
          obtain ⟨x, hx⟩ : ∃ x, s.extract a (a + k) = x := ⟨_, rfl⟩
          rw [hx] at hx2
          have hxs : x.size ≤ 1000000 := by
            have := congrArg List.length hx2
            rw [ba_l, HW.out, List.length_take, hdl] at this
            omega
          have HXS := Lib.hid hxs
          have bj : (0 : Int) ≤ (a : Int) ∧ (a : Int) ≤ (a : Int) + (k : Int) ∧ (a : Int) + (k : Int) ≤ (s.size : Int) := by omega
          obtain ⟨q, hq⟩ : ∃ q, fullL x.data.toList = q := ⟨_, rfl⟩
          have HQ := Lib.hid hq
          have ht := HH.out
          unfold wordL at ht
          rw [← hx2, hq] at ht
          clear hx2 hxs hq hdl
          cases q
          · have HT : Hid ((⟨#[]⟩ : ByteArray) = t) := Lib.hid (ba_x ht.symm)
            clear ht
            go_wp2_with (first
              | (go_at_call 34; (with_reducible refine (rletter9 c _ false HL.out).mono ?_); rintro e w1 ⟨rfl, rfl⟩)
              | (go_at_call 20; (with_reducible refine (rfull9 x _ HXS.out false HQ.out).mono ?_); rintro e w2 ⟨rfl, hb2⟩)
              | fail)
            go_ret
            exact ⟨ret_s HT.out, hb2⟩
          · have HT : Hid (x = t) := Lib.hid (ba_x ht.symm)
            clear ht
            go_wp2_with (first
              | (go_at_call 34; (with_reducible refine (rletter9 c _ false HL.out).mono ?_); rintro e w1 ⟨rfl, rfl⟩)
              | (go_at_call 20; (with_reducible refine (rfull9 x _ HXS.out true HQ.out).mono ?_); rintro e w2 ⟨rfl, hb2⟩)
              | fail)
            go_ret
            exact ⟨ret_s (hx.trans HT.out), hb2⟩
      · have HL := Lib.hid hl
        have HV := Lib.hid (HST.out.1 (by unfold wch; rw [nch_of_ltr hl]; rfl))
        clear hl
        go_wp2_with (first
          | (go_at_call 34; (with_reducible refine (rletter9 c _ true HL.out).mono ?_); rintro e w1 ⟨rfl, rfl⟩)
          | fail)
        go_roundw
        case rel => exact ⟨k + 1, by omega, by go_num, HV.out, by first | rfl | trivial⟩
        case measure => simp [intOf]; omega
    · have HW : Hid ((s.data.toList.drop a).takeWhile wch = (s.data.toList.drop a).take k) := Lib.hid (by
        rw [List.take_of_length_le (by omega)] at hn ⊢
        exact tw_all hn)
      clear hn
      have hx2 : (s.extract a (a + k)).data.toList = (s.data.toList.drop a).takeWhile wch := by
        rw [extract_l s a (a + k) (by omega), show a + k - a = k by omega]
        exact HW.out.symm
      obtain ⟨x, hx⟩ : ∃ x, s.extract a (a + k) = x := ⟨_, rfl⟩
      rw [hx] at hx2
      have hxs : x.size ≤ 1000000 := by
        have := congrArg List.length hx2
        rw [ba_l, HW.out, List.length_take, hdl] at this
        omega
      have HXS := Lib.hid hxs
      have bj : (0 : Int) ≤ (a : Int) ∧ (a : Int) ≤ (a : Int) + (k : Int) ∧ (a : Int) + (k : Int) ≤ (s.size : Int) := by omega
      obtain ⟨q, hq⟩ : ∃ q, fullL x.data.toList = q := ⟨_, rfl⟩
      have HQ := Lib.hid hq
      have ht := HH.out
      unfold wordL at ht
      rw [← hx2, hq] at ht
      clear hx2 hxs hq hdl
      cases q
      · have HT : Hid ((⟨#[]⟩ : ByteArray) = t) := Lib.hid (ba_x ht.symm)
        clear ht
        go_wp2_with (first
          | (go_at_call 20; (with_reducible refine (rfull9 x _ HXS.out false HQ.out).mono ?_); rintro e w2 ⟨rfl, hb2⟩)
          | fail)
        go_ret
        exact ⟨ret_s HT.out, hb2⟩
      · have HT : Hid (x = t) := Lib.hid (ba_x ht.symm)
        clear ht
        go_wp2_with (first
          | (go_at_call 20; (with_reducible refine (rfull9 x _ HXS.out true HQ.out).mono ?_); rintro e w2 ⟨rfl, hb2⟩)
          | fail)
        go_ret
        exact ⟨ret_s (hx.trans HT.out), hb2⟩
end Hx
end Go.Proofs.YtichboamakgabaaGreatDoor
