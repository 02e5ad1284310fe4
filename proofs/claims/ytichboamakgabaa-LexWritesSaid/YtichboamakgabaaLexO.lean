/-
  Plain mathematics of tokens: what is written is read as these tokens; two texts' tokens are both's; just tokens that may be are read.
-/
import Derived.Test.YtichboamakgabaaLexN
namespace Go.Proofs.Ytichboamakgabaa
namespace Lx
open Tx Nmb Es
set_option linter.unusedVariables false
/-- Is that a text? -/
def okT (l : List UInt8) : Bool := decide (l.length ≤ 16384) && isP l
/-- May attributes be, behind others? -/
def attrsF : List Pr → List Pr → Bool
  | _, [] => true
  | acc, p :: r => fullL p.name && !hasL acc p.name && okT p.value && attrsF (acc ++ [p]) r
def attrsOk (l : List Pr) : Bool := attrsF [] l && decide (l.length ≤ 16)
/-- May a token be? -/
def mayT (t : Tk) : Bool :=
  if t.kind = 1 ∨ t.kind = 3 then fullL t.name && attrsOk t.attrs && t.text.isEmpty
  else if t.kind = 2 then fullL t.name && t.attrs.isEmpty && t.text.isEmpty
  else if t.kind = 4 then t.name.isEmpty && t.attrs.isEmpty && !t.text.isEmpty && okT t.text else false
/-- An attribute as it is written; a token. -/
def writeA (p : Pr) : List UInt8 := 32 :: (p.name ++ 61 :: 34 :: (escL true p.value ++ [34]))
def writeT (t : Tk) : List UInt8 :=
  if t.kind = 4 then escL false t.text else if t.kind = 2 then 60 :: 47 :: (t.name ++ [62])
  else 60 :: (t.name ++ (t.attrs.flatMap writeA ++ (if t.kind = 3 then [47, 62] else [62])))
/-- No two texts stand side by side. -/
def apart : List Tk → Bool
  | [] => true
  | [_] => true
  | a :: b :: r => !(decide (a.kind = 4) && decide (b.kind = 4)) && apart (b :: r)
theorem attrL_write (p : Pr) (hf : fullL p.name = true) (r : List UInt8) : attrL (p.name ++ 61 :: 34 :: (escL true p.value ++ 34 :: r)) = some (p, r) := by
  refine (attrL_iff _ _ _).2 ⟨[], [], 34 :: (escL true p.value ++ 34 :: r), by simp, hf, by simp, by simp, (valL_iff _ _ _).2 ⟨34, escL true p.value, rfl, .inl rfl, fun h => ?_, toldL_esc _⟩⟩
  exact ((escL_ok true p.value 34 h).2.2.2 rfl).1 rfl
theorem TagI_write : ∀ (l acc : List Pr) (b : Bool) (r : List UInt8), attrsF acc l = true → TagI acc (l.flatMap writeA ++ ((if b then [47, 62] else [62]) ++ r)) b (acc ++ l) r := by
  intro l
  induction l with
  | nil =>
    intro acc b r _
    rw [List.append_nil]
    cases b
    · exact .shut acc [] r (by simp)
    · exact .bare acc [] r (by simp)
  | cons p l ih =>
    intro acc b r h
    unfold attrsF at h
    simp only [Bool.and_eq_true, Bool.not_eq_true'] at h
    obtain ⟨⟨⟨h1, h2⟩, h3⟩, h4⟩ := h
    have e : (p :: l).flatMap writeA ++ ((if b then [47, 62] else [62]) ++ r) = [32] ++ (p.name ++ 61 :: 34 :: (escL true p.value ++ 34 :: (l.flatMap writeA ++ ((if b then [47, 62] else [62]) ++ r)))) := by
      rw [List.flatMap_cons]
      simp [writeA]
    rw [e]
    have := ih (acc ++ [p]) b r h4
    rw [List.append_assoc, List.singleton_append] at this
    exact .attr acc [32] _ _ p b _ r (by decide) (by simp) (attrL_write p h1 _) h2 this
theorem mayT_cases {t : Tk} (h : mayT t = true) : (∃ b : Bool, t.kind = (if b then 3 else 1) ∧ fullL t.name = true ∧ attrsOk t.attrs = true ∧ t.text = []) ∨ (t.kind = 2 ∧ fullL t.name = true ∧ t.attrs = [] ∧ t.text = []) ∨ (t.kind = 4 ∧ t.name = [] ∧ t.attrs = [] ∧ t.text ≠ [] ∧ okT t.text = true) := by
  unfold mayT at h
  by_cases h1 : t.kind = 1 ∨ t.kind = 3
  · rw [if_pos h1] at h
    simp only [Bool.and_eq_true, List.isEmpty_iff] at h
    rcases h1 with h1 | h1
    · exact .inl ⟨false, h1, h.1.1, h.1.2, h.2⟩
    · exact .inl ⟨true, h1, h.1.1, h.1.2, h.2⟩
  · rw [if_neg h1] at h
    by_cases h2 : t.kind = 2
    · rw [if_pos h2] at h
      simp only [Bool.and_eq_true, List.isEmpty_iff] at h
      exact .inr (.inl ⟨h2, h.1.1, h.1.2, h.2⟩)
    · rw [if_neg h2] at h
      by_cases h4 : t.kind = 4
      · rw [if_pos h4] at h
        simp only [Bool.and_eq_true, List.isEmpty_iff, Bool.not_eq_true', List.isEmpty_eq_false_iff] at h
        exact .inr (.inr ⟨h4, h.1.1.1, h.1.1.2, h.1.2, h.2⟩)
      · rw [if_neg h4] at h; cases h
theorem oneL_tag (l r : List UInt8) (t : Tk) : oneL (60 :: l) = some (t, r) ↔ tagL l = some (t, r) := by
  unfold oneL
  dsimp only
  rw [if_pos rfl]
/-- A tag that is written is read as that. -/
theorem oneL_write {t : Tk} (h : mayT t = true) (h4 : t.kind ≠ 4) (r : List UInt8) : oneL (writeT t ++ r) = some (t, r) := by
  unfold writeT
  rw [if_neg h4]
  rcases mayT_cases h with ⟨b, h1, h2, h3, h5⟩ | ⟨h1, h2, h3, h5⟩ | ⟨h1, _⟩
  · have hk : t.kind ≠ 2 := by rw [h1]; cases b <;> decide
    rw [if_neg hk]
    have ha : attrsF [] t.attrs = true := by unfold attrsOk at h3; rw [Bool.and_eq_true] at h3; exact h3.1
    have e : (if t.kind = 3 then [47, 62] else [62] : List UInt8) = if b then [47, 62] else [62] := by rw [h1]; cases b <;> rfl
    have ht := TagI_write t.attrs [] b r ha
    rw [e, List.cons_append, List.append_assoc, List.append_assoc]
    refine (oneL_tag _ _ _).2 ((tagL_iff _ _ _).2 (.inr ⟨b, _, rfl, h2, ht, ?_⟩))
    cases t
    simp only at h1 h5
    subst h1 h5
    rfl
  · rw [if_pos h1]
    refine (oneL_tag _ _ _).2 ((tagL_iff _ _ _).2 (.inl ⟨[], by simp, h2, by simp, ?_⟩))
    cases t
    simp only at h1 h3 h5
    subst h1 h3 h5
    rfl
  · exact absurd h1 h4
theorem txt_iff (c : UInt8) : txt c = true ↔ c ≠ 60 := by unfold txt; simp
/-- A text that is written is read as that, ahead of a tag or the end. -/
theorem oneL_text {t : Tk} (h : mayT t = true) (h4 : t.kind = 4) (r : List UInt8) (hr : ∀ c s, r = c :: s → c = 60) : oneL (writeT t ++ r) = some (t, r) := by
  unfold writeT
  rw [if_pos h4]
  rcases mayT_cases h with ⟨b, h1, _⟩ | ⟨h1, _⟩ | ⟨_, h1, h2, h3, h5⟩
  · rw [h4] at h1; cases b <;> cases h1
  · rw [h4] at h1; cases h1
  · have hl := (escL_len false t.text).1
    have hok := escL_ok false t.text
    have hsp := tw_app (p := txt) (a := escL false t.text) (b := r) (fun c hc => (txt_iff c).2 (hok c hc).1) (fun c s e => by rw [hr c s e]; rfl)
    cases he : escL false t.text with
    | nil =>
      rw [he] at hl
      exact absurd (List.eq_nil_of_length_eq_zero (Nat.le_zero.1 hl)) h3
    | cons c s =>
      have hc : c ≠ 60 := (hok c (by rw [he]; simp)).1
      rw [he] at hsp
      rw [List.cons_append] at hsp ⊢
      show (if c = 60 then _ else _) = _
      rw [if_neg hc, hsp.1, hsp.2, ← he, rd_esc]
      show some ((⟨4, [], [], t.text⟩ : Tk), r) = _
      cases t
      simp only at h4 h1 h2
      subst h4 h1 h2
      rfl
/-- What a text that begins with a token begins with. -/
theorem oneL_kind {l r : List UInt8} {t : Tk} (h : oneL l = some (t, r)) : (t.kind ≠ 4 ∧ ∃ s, l = 60 :: s ∧ tagL s = some (t, r)) ∨
    (t.kind = 4 ∧ l.head? ≠ some 60 ∧ ∃ a x, l = a ++ r ∧ a ≠ [] ∧ (∀ c ∈ a, c ≠ 60) ∧ rd a = some x ∧ t = ⟨4, [], [], x⟩ ∧ ∀ c s, r = c :: s → c = 60) := by
  cases l with
  | nil => cases h
  | cons c s =>
    by_cases hc : c = 60
    · subst hc
      have ht := (oneL_tag _ _ _).1 h
      left
      refine ⟨?_, s, rfl, ht⟩
      rcases (tagL_iff _ _ _).1 ht with ⟨g, _, _, _, e⟩ | ⟨b, y, _, _, _, e⟩
      · rw [e]; simp
      · rw [e]; cases b <;> simp
    · right
      unfold oneL at h
      dsimp only at h
      rw [if_neg hc] at h
      cases hr : rd ((c :: s).takeWhile txt) with
      | none => rw [hr] at h; cases h
      | some x =>
        rw [hr] at h
        obtain ⟨rfl, rfl⟩ := (Prod.mk.injEq _ _ _ _).mp (Option.some.inj h)
        obtain ⟨e1, e2, e3⟩ := tw_split txt (c :: s)
        refine ⟨rfl, by simpa using hc, _, x, e1, ?_, fun d hd => (txt_iff d).1 (e2 d hd), hr, rfl, fun d q e => ?_⟩
        · have : txt c = true := (txt_iff c).2 hc
          rw [List.takeWhile_cons, this]
          simp
        · have := e3 d q e
          unfold txt at this
          simpa using this
theorem oneL_app {l r : List UInt8} {t : Tk} (h : oneL l = some (t, r)) (z : List UInt8) (hz : t.kind ≠ 4 ∨ r ≠ [] ∨ ∀ c s, z = c :: s → c = 60) : oneL (l ++ z) = some (t, r ++ z) := by
  rcases oneL_kind h with ⟨h1, s, rfl, ht⟩ | ⟨h1, h2, a, x, rfl, h3, h4, h5, rfl, h6⟩
  · exact (oneL_tag _ _ _).2 (tagL_app ht z)
  · have hb : ∀ c s, r ++ z = c :: s → txt c = false := by
      intro c s e
      have : c = 60 := by
        cases r with
        | nil =>
          rcases hz with hz | hz | hz
          · exact absurd h1 hz
          · exact absurd rfl hz
          · exact hz c s e
        | cons d q =>
          obtain ⟨rfl, _⟩ := List.cons.inj e
          exact h6 d q rfl
      rw [this]; rfl
    have hsp := tw_app (p := txt) (a := a) (b := r ++ z) (fun c hc => (txt_iff c).2 (h4 c hc)) hb
    rw [List.append_assoc]
    cases a with
    | nil => exact absurd rfl h3
    | cons c s =>
      have hc : c ≠ 60 := h4 c (by simp)
      rw [List.cons_append] at hsp ⊢
      show (if c = 60 then _ else _) = _
      rw [if_neg hc, hsp.1, hsp.2, h5]
      rfl
/-- A text's tokens. -/
inductive LexI : List Tk → List UInt8 → Prop
  | nil : LexI [] []
  | cons (t : Tk) (ts : List Tk) (l r : List UInt8) : oneL l = some (t, r) → LexI ts r → LexI (t :: ts) l
theorem LexI.same {a b : List Tk} {l : List UInt8} (h : LexI a l) (k : LexI b l) : a = b := by
  induction h generalizing b with
  | nil =>
    cases k with
    | nil => rfl
    | cons t ts l r h1 h2 => cases h1
  | cons t ts l r h1 h2 ih =>
    cases k with
    | nil => cases h1
    | cons t' ts' _ r' k1 k2 =>
      rw [h1] at k1
      obtain ⟨rfl, rfl⟩ := (Prod.mk.injEq _ _ _ _).mp (Option.some.inj k1)
      rw [ih k2]
theorem LexI.len {a : List Tk} {l : List UInt8} (h : LexI a l) : a.length ≤ l.length := by
  induction h with
  | nil => exact Nat.le_refl _
  | cons t ts l r h1 h2 ih => have := oneL_len h1; rw [List.length_cons]; omega
theorem LexI.first {t : Tk} {a : List Tk} {l : List UInt8} (h : LexI (t :: a) l) (ht : t.kind ≠ 4) : ∀ c s, l = c :: s → c = 60 := by
  intro c s e
  cases h with
  | cons _ _ _ r h1 h2 =>
    rcases oneL_kind h1 with ⟨_, q, e2, _⟩ | ⟨h3, _⟩
    · rw [e2] at e
      exact (List.cons.inj e).1.symm
    · exact absurd h3 ht
/-- Two texts' tokens are both's, where not both have words at the cut. -/
theorem LexI.app {a b : List Tk} {l m : List UInt8} (h : LexI a l) (k : LexI b m) (hc : ∀ x y r s, a = r ++ [x] → b = y :: s → x.kind ≠ 4 ∨ y.kind ≠ 4) : LexI (a ++ b) (l ++ m) := by
  induction h with
  | nil => exact k
  | cons t ts l r h1 h2 ih =>
    have ih2 := ih (fun x y r s e1 e2 => hc x y (t :: r) s (by rw [e1]; rfl) e2)
    refine .cons t (ts ++ b) (l ++ m) (r ++ m) (oneL_app h1 m ?_) ih2
    by_cases ht : t.kind = 4
    · right
      by_cases hr : r = []
      · right
        subst hr
        have hts : ts = [] := by
          cases h2 with
          | nil => rfl
          | cons _ _ _ _ h3 _ => cases h3
        cases b with
        | nil =>
          cases k
          intro c s e
          cases e
        | cons y s =>
          rcases hc t y [] s (by rw [hts]; rfl) rfl with h3 | h3
          · exact absurd ht h3
          · exact k.first h3
      · exact .inl hr
    · exact .inl ht
theorem apart_tail {t : Tk} {l : List Tk} (h : apart (t :: l) = true) : apart l = true := by
  cases l with
  | nil => rfl
  | cons b r => unfold apart at h; rw [Bool.and_eq_true] at h; exact h.2
/-- What is written of tokens is read as these. -/
theorem LexI_write : ∀ (l : List Tk), (∀ t ∈ l, mayT t = true) → apart l = true → LexI l (l.flatMap writeT) := by
  intro l
  induction l with
  | nil => intro _ _; exact .nil
  | cons t l ih =>
    intro hm ha
    have i := ih (fun x hx => hm x (by simp [hx])) (apart_tail ha)
    rw [List.flatMap_cons]
    refine .cons t l _ (l.flatMap writeT) ?_ i
    by_cases h4 : t.kind = 4
    · refine oneL_text (hm t (by simp)) h4 _ fun c s e => ?_
      cases l with
      | nil => cases e
      | cons b r =>
        unfold apart at ha
        rw [Bool.and_eq_true] at ha
        refine i.first (fun hb => ?_) c s e
        rw [h4, hb] at ha
        exact absurd ha.1 (by decide)
    · exact oneL_write (hm t (by simp)) h4 _
theorem writeT_first {t : Tk} (h : mayT t = true) : writeT t ≠ [] := by
  unfold writeT
  by_cases h4 : t.kind = 4
  · rw [if_pos h4]
    rcases mayT_cases h with ⟨b, h1, _⟩ | ⟨h1, _⟩ | ⟨_, _, _, h3, _⟩
    · rw [h4] at h1; cases b <;> cases h1
    · rw [h4] at h1; cases h1
    · intro e
      have := (escL_len false t.text).1
      rw [e] at this
      exact h3 (List.eq_nil_of_length_eq_zero (Nat.le_zero.1 this))
  · rw [if_neg h4]
    by_cases h2 : t.kind = 2
    · rw [if_pos h2]; simp
    · rw [if_neg h2]; simp
/-- Signs alone are a text. -/
theorem isP_signs (l : List UInt8) (h : ∀ c ∈ l, c.toNat < 128 ∧ may (c.toNat : Int) = true) : isP l = true := by
  induction l with
  | nil => rfl
  | cons c l ih => exact isP_app (isP_one (h c (by simp)).1 (h c (by simp)).2) (ih fun x hx => h x (by simp [hx]))
theorem may_far {n : Nat} (h : 32 ≤ n) (h2 : n < 128) : may (n : Int) = true := by unfold may; rw [if_neg (by omega)]; simp; omega
theorem fullL_text {l : List UInt8} (h : fullL l = true) : isP l = true := isP_signs l fun c hc => by
  obtain ⟨_, _, _, _, _, _, _, h1, h2⟩ := wch_far (fullL_all h c hc)
  exact ⟨h1, may_far (by omega) h1⟩
theorem okT_text {l : List UInt8} (h : okT l = true) : isP l = true := by unfold okT at h; rw [Bool.and_eq_true] at h; exact h.2
theorem attrsF_text : ∀ (l acc : List Pr), attrsF acc l = true → isP (l.flatMap writeA) = true := by
  intro l
  induction l with
  | nil => intro _ _; rfl
  | cons p l ih =>
    intro acc h
    unfold attrsF at h
    simp only [Bool.and_eq_true] at h
    rw [List.flatMap_cons]
    refine isP_app ?_ (ih _ h.2)
    unfold writeA
    have e : (32 :: (p.name ++ 61 :: 34 :: (escL true p.value ++ [34])) : List UInt8) = [32] ++ (p.name ++ ([61, 34] ++ (escL true p.value ++ [34]))) := by simp
    rw [e]
    exact isP_app (by decide +kernel) (isP_app (fullL_text h.1.1.1) (isP_app (by decide +kernel) (isP_app (pts_esc true _ (okT_text h.1.2)) (by decide +kernel))))
theorem writeT_text {t : Tk} (h : mayT t = true) : isP (writeT t) = true := by
  unfold writeT
  rcases mayT_cases h with ⟨b, h1, h2, h3, h5⟩ | ⟨h1, h2, h3, h5⟩ | ⟨h1, _, _, _, h5⟩
  · have hk : t.kind ≠ 4 := by rw [h1]; cases b <;> decide
    have hk2 : t.kind ≠ 2 := by rw [h1]; cases b <;> decide
    have ha : attrsF [] t.attrs = true := by unfold attrsOk at h3; rw [Bool.and_eq_true] at h3; exact h3.1
    rw [if_neg hk, if_neg hk2]
    show isP ([60] ++ _) = true
    refine isP_app (by decide +kernel) (isP_app (fullL_text h2) (isP_app (attrsF_text _ _ ha) ?_))
    split <;> decide +kernel
  · rw [if_neg (by rw [h1]; decide), if_pos h1]
    show isP ([60, 47] ++ (t.name ++ [62])) = true
    exact isP_app (by decide +kernel) (isP_app (fullL_text h2) (by decide +kernel))
  · rw [if_pos h1]
    exact pts_esc false _ (okT_text h5)
theorem write_text (l : List Tk) (h : ∀ t ∈ l, mayT t = true) : isP (l.flatMap writeT) = true := by
  induction l with
  | nil => rfl
  | cons t l ih =>
    rw [List.flatMap_cons]
    exact isP_app (writeT_text (h t (by simp))) (ih fun x hx => h x (by simp [hx]))
end Lx
end Go.Proofs.Ytichboamakgabaa
