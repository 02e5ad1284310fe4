/-
  Plain mathematics of tags and texts.
-/
import Derived.Test.YtichboamakgabaaEscM
namespace Go.Proofs.Ytichboamakgabaa
namespace Lx
open Tx Nmb Es
set_option linter.unusedVariables false
/-- An attribute; a token. -/
structure Pr where
  name : List UInt8
  value : List UInt8
structure Tk where
  kind : Nat
  name : List UInt8
  attrs : List Pr
  text : List UInt8
def ltr (c : UInt8) : Bool := (decide (97 ≤ c.toNat) && decide (c.toNat ≤ 122)) || (decide (65 ≤ c.toNat) && decide (c.toNat ≤ 90)) || c == 95
def nch (c : UInt8) : Bool := ltr c || (decide (48 ≤ c.toNat) && decide (c.toNat ≤ 57)) || c == 46 || c == 45
def wch (c : UInt8) : Bool := nch c || c == 58
def blk (c : UInt8) : Bool := c == 32 || c == 9 || c == 10 || c == 13
/-- Is that a name? -/
def nameL : List UInt8 → Bool
  | [] => false
  | c :: r => ltr c && r.all nch
/-- What stands ahead of the first colon, and behind it. -/
def cutC : List UInt8 → Option (List UInt8 × List UInt8)
  | [] => none
  | c :: r => if c = 58 then some ([], r) else (cutC r).map fun p => (c :: p.1, p.2)
def fullL (l : List UInt8) : Bool := match cutC l with | some (a, b) => nameL b && nameL a | none => nameL l
theorem cutC_some : ∀ {l a b : List UInt8}, cutC l = some (a, b) → l = a ++ 58 :: b ∧ (58 : UInt8) ∉ a := by
  intro l
  induction l with
  | nil => intro a b h; cases h
  | cons c r ih =>
    intro a b h
    unfold cutC at h
    by_cases hc : c = 58
    · rw [if_pos hc] at h
      obtain ⟨rfl, rfl⟩ := (Prod.mk.injEq _ _ _ _).mp (Option.some.inj h)
      exact ⟨by rw [hc]; rfl, by simp⟩
    · rw [if_neg hc] at h
      cases hr : cutC r with
      | none => rw [hr] at h; cases h
      | some p =>
        rw [hr] at h
        obtain ⟨rfl, rfl⟩ := (Prod.mk.injEq _ _ _ _).mp (Option.some.inj h)
        obtain ⟨h1, h2⟩ := ih (a := p.1) (b := p.2) hr
        exact ⟨by rw [h1]; rfl, by rw [List.mem_cons, not_or]; exact ⟨Ne.symm hc, h2⟩⟩
theorem nch_of_ltr {c : UInt8} (h : ltr c = true) : nch c = true := by unfold nch; rw [h]; rfl
theorem nameL_all {l : List UInt8} (h : nameL l = true) : ∀ c ∈ l, nch c = true := by
  cases l with
  | nil => cases h
  | cons c r =>
    unfold nameL at h
    rw [Bool.and_eq_true] at h
    intro x hx
    rcases List.mem_cons.1 hx with rfl | hx
    · exact nch_of_ltr h.1
    · exact List.all_eq_true.1 h.2 x hx
theorem fullL_all {l : List UInt8} (h : fullL l = true) : ∀ c ∈ l, wch c = true := by
  unfold fullL at h
  cases hc : cutC l with
  | none =>
    rw [hc] at h
    intro x hx
    unfold wch
    rw [nameL_all h x hx]
    rfl
  | some p =>
    obtain ⟨a, b⟩ := p
    rw [hc] at h
    simp only [Bool.and_eq_true] at h
    obtain ⟨rfl, _⟩ := cutC_some hc
    intro x hx
    unfold wch
    rcases List.mem_append.1 hx with hx | hx
    · rw [nameL_all h.2 x hx]; rfl
    · rcases List.mem_cons.1 hx with rfl | hx
      · decide
      · rw [nameL_all h.1 x hx]; rfl
theorem fullL_ne {l : List UInt8} (h : fullL l = true) : l ≠ [] := by rintro rfl; cases h
theorem wch_far {c : UInt8} (h : wch c = true) : blk c = false ∧ c ≠ 61 ∧ c ≠ 62 ∧ c ≠ 47 ∧ c ≠ 60 ∧ c ≠ 34 ∧ c ≠ 39 ∧ c.toNat < 128 ∧ 45 ≤ c.toNat := by
  revert h
  exact u8_every (fun c => wch c = true → blk c = false ∧ c ≠ 61 ∧ c ≠ 62 ∧ c ≠ 47 ∧ c ≠ 60 ∧ c ≠ 34 ∧ c ≠ 39 ∧ c.toNat < 128 ∧ 45 ≤ c.toNat) (by decide +kernel) c
theorem blk_far {c : UInt8} (h : blk c = true) : wch c = false ∧ c ≠ 61 ∧ c ≠ 62 ∧ c ≠ 47 ∧ c ≠ 60 ∧ c ≠ 34 ∧ c ≠ 39 ∧ c.toNat < 128 := by
  revert h
  exact u8_every (fun c => blk c = true → wch c = false ∧ c ≠ 61 ∧ c ≠ 62 ∧ c ≠ 47 ∧ c ≠ 60 ∧ c ≠ 34 ∧ c ≠ 39 ∧ c.toNat < 128) (by decide +kernel) c
/-- Taken while, and dropped while, ahead of what is other. -/
theorem tw_app {p : UInt8 → Bool} {a b : List UInt8} (ha : ∀ c ∈ a, p c = true) (hb : ∀ c r, b = c :: r → p c = false) : (a ++ b).takeWhile p = a ∧ (a ++ b).dropWhile p = b := by
  induction a with
  | nil =>
    cases b with
    | nil => exact ⟨rfl, rfl⟩
    | cons c r =>
      have := hb c r rfl
      simp [this]
  | cons c a ih =>
    have hc := ha c (by simp)
    obtain ⟨h1, h2⟩ := ih (fun x hx => ha x (by simp [hx]))
    simp only [List.cons_append, List.takeWhile_cons, List.dropWhile_cons, hc, if_true, h1, h2]
    refine ⟨?_, ?_⟩ <;> first | rfl | trivial
theorem tw_split (p : UInt8 → Bool) (l : List UInt8) : l = l.takeWhile p ++ l.dropWhile p ∧ (∀ c ∈ l.takeWhile p, p c = true) ∧ ∀ c r, l.dropWhile p = c :: r → p c = false := by
  induction l with
  | nil => exact ⟨rfl, by simp, fun c r h => by cases h⟩
  | cons c l ih =>
    by_cases hc : p c = true
    · simp only [List.takeWhile_cons, List.dropWhile_cons, hc, if_true]
      refine ⟨by rw [List.cons_append, ← ih.1], fun x hx => ?_, ih.2.2⟩
      rcases List.mem_cons.1 hx with rfl | hx
      · exact hc
      · exact ih.2.1 x hx
    · simp only [List.takeWhile_cons, List.dropWhile_cons, hc]
      refine ⟨rfl, by simp, fun x r h => ?_⟩
      obtain ⟨rfl, _⟩ := List.cons.inj h
      exact Bool.eq_false_iff.2 hc
/-- The full name that a text begins with; none: empty. -/
def wordL (l : List UInt8) : List UInt8 := if fullL (l.takeWhile wch) then l.takeWhile wch else []
theorem wordL_app {a b : List UInt8} (ha : fullL a = true) (hb : ∀ c r, b = c :: r → wch c = false) : wordL (a ++ b) = a := by
  unfold wordL
  rw [(tw_app (fullL_all ha) hb).1, if_pos ha]
theorem wordL_ne {l : List UInt8} (h : wordL l ≠ []) : fullL (wordL l) = true ∧ l = wordL l ++ l.dropWhile wch ∧ (∀ c r, l.dropWhile wch = c :: r → wch c = false) := by
  unfold wordL at h ⊢
  by_cases hf : fullL (l.takeWhile wch) = true
  · rw [if_pos hf] at h ⊢
    obtain ⟨h1, _, h3⟩ := tw_split wch l
    exact ⟨hf, h1, h3⟩
  · rw [if_neg hf] at h
    exact absurd rfl h
/-- What a value tells. -/
def toldL (l : List UInt8) : Option (List UInt8) := rd (l.map fun c => if blk c then 32 else c)
/-- What stands ahead of a sign, and behind it. -/
def cutQ (q : UInt8) : List UInt8 → Option (List UInt8 × List UInt8)
  | [] => none
  | c :: r => if c = q then some ([], r) else (cutQ q r).map fun p => (c :: p.1, p.2)
theorem cutQ_some {q : UInt8} : ∀ {l a b : List UInt8}, cutQ q l = some (a, b) → l = a ++ q :: b ∧ q ∉ a := by
  intro l
  induction l with
  | nil => intro a b h; cases h
  | cons c r ih =>
    intro a b h
    unfold cutQ at h
    by_cases hc : c = q
    · rw [if_pos hc] at h
      obtain ⟨rfl, rfl⟩ := (Prod.mk.injEq _ _ _ _).mp (Option.some.inj h)
      exact ⟨by rw [hc]; rfl, by simp⟩
    · rw [if_neg hc] at h
      cases hr : cutQ q r with
      | none => rw [hr] at h; cases h
      | some p =>
        rw [hr] at h
        obtain ⟨rfl, rfl⟩ := (Prod.mk.injEq _ _ _ _).mp (Option.some.inj h)
        obtain ⟨h1, h2⟩ := ih (a := p.1) (b := p.2) hr
        exact ⟨by rw [h1]; rfl, by rw [List.mem_cons, not_or]; exact ⟨Ne.symm hc, h2⟩⟩
theorem cutQ_of {q : UInt8} : ∀ {a : List UInt8} (b : List UInt8), q ∉ a → cutQ q (a ++ q :: b) = some (a, b) := by
  intro a
  induction a with
  | nil => intro b _; show (if q = q then _ else _) = _; rw [if_pos rfl]
  | cons c a ih =>
    intro b h
    rw [List.mem_cons, not_or] at h
    show (if c = q then _ else _) = _
    rw [if_neg (Ne.symm h.1)]
    show Option.map _ (cutQ q (a ++ q :: b)) = _
    rw [ih b h.2]
    rfl
theorem cutQ_none {q : UInt8} : ∀ {l : List UInt8}, q ∉ l → cutQ q l = none := by
  intro l
  induction l with
  | nil => intro _; rfl
  | cons c l ih =>
    intro h
    rw [List.mem_cons, not_or] at h
    show (if c = q then _ else _) = _
    rw [if_neg (Ne.symm h.1), ih h.2]
    rfl
/-- A value that begins here, and what stands behind it. -/
def valL (l : List UInt8) : Option (List UInt8 × List UInt8) := match l with
  | [] => none
  | q :: r => if q = 34 ∨ q = 39 then match cutQ q r with | none => none | some (raw, y) => (toldL raw).map fun v => (v, y) else none
/-- The attribute that a text begins with, and what stands behind it. -/
def attrL (l : List UInt8) : Option (Pr × List UInt8) :=
  if wordL l = [] then none else
  match (l.drop (wordL l).length).dropWhile blk with
  | [] => none
  | c :: r => if c = 61 then (valL (r.dropWhile blk)).map fun p => (⟨wordL l, p.1⟩, p.2) else none
theorem valL_iff (l v r : List UInt8) : valL l = some (v, r) ↔ ∃ q raw, l = q :: (raw ++ q :: r) ∧ (q = 34 ∨ q = 39) ∧ q ∉ raw ∧ toldL raw = some v := by
  constructor
  · intro h
    unfold valL at h
    cases l with
    | nil => cases h
    | cons q s =>
      dsimp only at h
      by_cases hq : q = 34 ∨ q = 39
      · rw [if_pos hq] at h
        cases hc : cutQ q s with
        | none => rw [hc] at h; cases h
        | some p =>
          obtain ⟨raw, y⟩ := p
          rw [hc] at h
          dsimp only at h
          obtain ⟨e1, e2⟩ := cutQ_some hc
          cases ht : toldL raw with
          | none => rw [ht] at h; cases h
          | some v' =>
            rw [ht] at h
            obtain ⟨rfl, rfl⟩ := (Prod.mk.injEq _ _ _ _).mp (Option.some.inj h)
            exact ⟨q, raw, by rw [e1], hq, e2, ht⟩
      · rw [if_neg hq] at h
        cases h
  · rintro ⟨q, raw, rfl, hq, hn, ht⟩
    unfold valL
    dsimp only
    rw [if_pos hq, cutQ_of _ hn]
    dsimp only
    rw [ht]
    rfl
theorem attrL_iff (l r : List UInt8) (p : Pr) : attrL l = some (p, r) ↔ ∃ g1 g2 x, l = p.name ++ (g1 ++ 61 :: (g2 ++ x)) ∧ fullL p.name = true ∧ (∀ c ∈ g1, blk c = true) ∧ (∀ c ∈ g2, blk c = true) ∧ valL x = some (p.value, r) := by
  constructor
  · intro h
    unfold attrL at h
    by_cases hw : wordL l = []
    · rw [if_pos hw] at h; cases h
    · rw [if_neg hw] at h
      obtain ⟨h1, h2, h3⟩ := wordL_ne hw
      have hd : l.drop (wordL l).length = l.dropWhile wch := by
        conv => lhs; arg 2; rw [h2]
        rw [List.drop_left]
      rw [hd] at h
      obtain ⟨e1, e2, e3⟩ := tw_split blk (l.dropWhile wch)
      cases hr : (l.dropWhile wch).dropWhile blk with
      | nil => rw [hr] at h; cases h
      | cons c s =>
        rw [hr] at h
        dsimp only at h
        by_cases hc : c = 61
        · rw [if_pos hc] at h
          obtain ⟨f1, f2, f3⟩ := tw_split blk s
          cases hv : valL (s.dropWhile blk) with
          | none => rw [hv] at h; cases h
          | some y =>
            rw [hv] at h
            obtain ⟨rfl, rfl⟩ := (Prod.mk.injEq _ _ _ _).mp (Option.some.inj h)
            refine ⟨_, _, _, ?_, h1, e2, f2, hv⟩
            show l = wordL l ++ _
            rw [← f1, ← hc, ← hr, ← e1]
            exact h2
        · rw [if_neg hc] at h; cases h
  · rintro ⟨g1, g2, x, rfl, hf, h1, h2, hv⟩
    have hb : ∀ c r, g1 ++ 61 :: (g2 ++ x) = c :: r → wch c = false := by
      intro c r e
      cases g1 with
      | nil => obtain ⟨rfl, _⟩ := List.cons.inj e; decide
      | cons d g => obtain ⟨rfl, _⟩ := List.cons.inj e; exact (blk_far (h1 d (by simp))).1
    have hw := wordL_app hf hb
    unfold attrL
    rw [hw, if_neg (fullL_ne hf), List.drop_left, (tw_app h1 (fun c r e => by obtain ⟨rfl, _⟩ := List.cons.inj e; decide)).2]
    dsimp only
    rw [if_pos rfl]
    have hx : ∀ c r, x = c :: r → blk c = false := by
      rintro c r' rfl
      obtain ⟨q, raw, e, hq, _⟩ := (valL_iff _ _ _).1 hv
      obtain ⟨rfl, _⟩ := List.cons.inj e
      rcases hq with rfl | rfl <;> decide
    rw [(tw_app h2 hx).2, hv]
    rfl
theorem attrL_app {l r : List UInt8} {p : Pr} (h : attrL l = some (p, r)) (b : List UInt8) : attrL (l ++ b) = some (p, r ++ b) := by
  obtain ⟨g1, g2, x, rfl, h1, h2, h3, h4⟩ := (attrL_iff _ _ _).1 h
  obtain ⟨q, raw, rfl, h5, h6, h7⟩ := (valL_iff _ _ _).1 h4
  exact (attrL_iff _ _ _).2 ⟨g1, g2, q :: (raw ++ q :: (r ++ b)), by simp, h1, h2, h3, (valL_iff _ _ _).2 ⟨q, raw, rfl, h5, h6, h7⟩⟩
theorem attrL_len {l r : List UInt8} {p : Pr} (h : attrL l = some (p, r)) : r.length + p.name.length + 3 ≤ l.length := by
  obtain ⟨g1, g2, x, rfl, h1, h2, h3, h4⟩ := (attrL_iff _ _ _).1 h
  obtain ⟨q, raw, rfl, h5, h6, h7⟩ := (valL_iff _ _ _).1 h4
  simp only [List.length_append, List.length_cons]
  omega
/-- Has one of some a name? -/
def hasL (l : List Pr) (name : List UInt8) : Bool := l.any fun p => decide (p.name = name)
/-- What stands behind a tag's name: is it bare, its attributes, and what stands behind it. -/
def tagF : Nat → List Pr → List UInt8 → Option (Bool × List Pr × List UInt8)
  | 0, _, _ => none
  | f + 1, acc, l => match l.dropWhile blk with
    | [] => none
    | c :: x => if c = 62 then some (false, acc, x) else if c = 47 ∧ x.head? = some 62 then some (true, acc, x.tail) else
      match attrL (c :: x) with
      | none => none
      | some (p, y) => if l.length = (c :: x).length ∨ hasL acc p.name = true then none else tagF f (acc ++ [p]) y
/-- The closing tag whose < and / stand ahead of a text. -/
def shutL (l : List UInt8) : Option (Tk × List UInt8) :=
  if wordL l = [] then none else
  match (l.drop (wordL l).length).dropWhile blk with
  | [] => none
  | c :: r => if c = 62 then some (⟨2, wordL l, [], []⟩, r) else none
/-- The tag whose < stands ahead of a text. -/
def tagL (l : List UInt8) : Option (Tk × List UInt8) :=
  if l.head? = some 47 then shutL l.tail else
  if wordL l = [] then none else
  (tagF (l.length + 1) [] (l.drop (wordL l).length)).map fun p => (⟨if p.1 then 3 else 1, wordL l, p.2.1, []⟩, p.2.2)
def txt (c : UInt8) : Bool := c != 60
/-- The token that a text begins with, and what stands behind it. -/
def oneL (l : List UInt8) : Option (Tk × List UInt8) := match l with
  | [] => none
  | c :: r => if c = 60 then tagL r else (rd (l.takeWhile txt)).map fun x => (⟨4, [], [], x⟩, l.dropWhile txt)
theorem dropWhile_len (p : UInt8 → Bool) (l : List UInt8) : (l.dropWhile p).length ≤ l.length := by
  have := congrArg List.length (tw_split p l).1
  rw [List.length_append] at this
  omega
theorem tagF_same : ∀ (f g : Nat) (acc : List Pr) (l : List UInt8), l.length < f → l.length < g → tagF f acc l = tagF g acc l := by
  intro f
  induction f with
  | zero => intro g acc l h; omega
  | succ f ih =>
    intro g acc l h1 h2
    cases g with
    | zero => omega
    | succ g =>
      unfold tagF
      have hl := dropWhile_len blk l
      cases hd : l.dropWhile blk with
      | nil => rfl
      | cons c x =>
        dsimp only
        rw [hd] at hl
        by_cases c1 : c = 62
        · rw [if_pos c1, if_pos c1]
        · rw [if_neg c1, if_neg c1]
          by_cases c2 : c = 47 ∧ x.head? = some 62
          · rw [if_pos c2, if_pos c2]
          · rw [if_neg c2, if_neg c2]
            cases ha : attrL (c :: x) with
            | none => rfl
            | some q =>
              obtain ⟨p, y⟩ := q
              dsimp only
              have := attrL_len ha
              by_cases c3 : l.length = (c :: x).length ∨ hasL acc p.name = true
              · rw [if_pos c3, if_pos c3]
              · rw [if_neg c3, if_neg c3]
                exact ih g _ y (by omega) (by omega)
/-- What stands behind a tag's name, put together of its parts. -/
inductive TagI : List Pr → List UInt8 → Bool → List Pr → List UInt8 → Prop
  | shut (acc : List Pr) (g x : List UInt8) : (∀ c ∈ g, blk c = true) → TagI acc (g ++ 62 :: x) false acc x
  | bare (acc : List Pr) (g x : List UInt8) : (∀ c ∈ g, blk c = true) → TagI acc (g ++ 47 :: 62 :: x) true acc x
  | attr (acc : List Pr) (g l y : List UInt8) (p : Pr) (b : Bool) (at1 : List Pr) (x : List UInt8) : (∀ c ∈ g, blk c = true) → g ≠ [] → attrL l = some (p, y) → hasL acc p.name = false → TagI (acc ++ [p]) y b at1 x → TagI acc (g ++ l) b at1 x
theorem attrL_head {c : UInt8} {x : List UInt8} {q : Pr × List UInt8} (h : attrL (c :: x) = some q) : wch c = true := by
  obtain ⟨p, y⟩ := q
  obtain ⟨g1, g2, z, e, hf, _⟩ := (attrL_iff _ _ _).1 h
  have hn := fullL_ne hf
  cases hp : p.name with
  | nil => exact absurd hp hn
  | cons d r =>
    rw [hp] at e
    obtain ⟨rfl, _⟩ := List.cons.inj e
    exact fullL_all hf c (by rw [hp]; simp)
theorem tagF_iff : ∀ (f : Nat) (acc : List Pr) (l : List UInt8) (b : Bool) (at1 : List Pr) (x : List UInt8), l.length < f → (tagF f acc l = some (b, at1, x) ↔ TagI acc l b at1 x) := by
  intro f
  induction f with
  | zero => intro acc l b at1 x h; omega
  | succ f ih =>
    intro acc l b at1 x hl
    have hsp := tw_split blk l
    constructor
    · intro h
      unfold tagF at h
      cases hd : l.dropWhile blk with
      | nil => rw [hd] at h; cases h
      | cons c r =>
        rw [hd] at h hsp
        dsimp only at h
        rw [hsp.1]
        by_cases c1 : c = 62
        · rw [if_pos c1] at h
          obtain ⟨rfl, rfl, rfl⟩ : false = b ∧ acc = at1 ∧ r = x := by simpa using h
          rw [c1]
          exact .shut _ _ _ hsp.2.1
        · rw [if_neg c1] at h
          by_cases c2 : c = 47 ∧ r.head? = some 62
          · rw [if_pos c2] at h
            obtain ⟨rfl, rfl, rfl⟩ : true = b ∧ acc = at1 ∧ r.tail = x := by simpa using h
            rw [c2.1]
            cases r with
            | nil => exact absurd c2.2 (by simp)
            | cons d r =>
              obtain rfl : d = 62 := by simpa using c2.2
              exact .bare _ _ _ hsp.2.1
          · rw [if_neg c2] at h
            cases ha : attrL (c :: r) with
            | none => rw [ha] at h; cases h
            | some q =>
              obtain ⟨p, y⟩ := q
              rw [ha] at h
              dsimp only at h
              have hal := attrL_len ha
              have hdl := dropWhile_len blk l
              rw [hd] at hdl
              by_cases c3 : l.length = (c :: r).length ∨ hasL acc p.name = true
              · rw [if_pos c3] at h; cases h
              · rw [if_neg c3] at h
                rw [not_or] at c3
                refine .attr _ _ _ _ p _ _ _ hsp.2.1 ?_ ha (Bool.eq_false_iff.2 c3.2) ((ih _ _ _ _ _ (by omega)).1 h)
                intro hg
                apply c3.1
                have := congrArg List.length hsp.1
                rw [hg] at this
                exact this
    · intro h
      unfold tagF
      cases h with
      | shut _ g _ hg =>
        rw [(tw_app hg (fun c r e => by obtain ⟨rfl, _⟩ := List.cons.inj e; decide)).2]
        rfl
      | bare _ g _ hg =>
        rw [(tw_app hg (fun c r e => by obtain ⟨rfl, _⟩ := List.cons.inj e; decide)).2]
        rfl
      | attr _ g l' y p _ _ _ hg hn ha hh ht =>
        cases hl' : l' with
        | nil => rw [hl'] at ha; cases ha
        | cons c r =>
          rw [hl'] at ha hl
          have hw := attrL_head ha
          obtain ⟨w1, _, w3, w4, _⟩ := wch_far hw
          rw [(tw_app hg (fun d s e => by obtain ⟨rfl, _⟩ := List.cons.inj e; exact w1)).2]
          dsimp only
          have hal := attrL_len ha
          rw [if_neg w3, if_neg (fun h => w4 h.1), ha]
          dsimp only
          rw [if_neg (by
            rw [not_or]
            refine ⟨fun e => hn ?_, by rw [hh]; simp⟩
            rw [List.length_append] at e
            exact List.eq_nil_of_length_eq_zero (by omega))]
          rw [List.length_append] at hl
          exact (ih _ _ _ _ _ (by omega)).2 ht
theorem TagI.app {acc : List Pr} {l : List UInt8} {b : Bool} {at1 : List Pr} {x : List UInt8} (h : TagI acc l b at1 x) (z : List UInt8) : TagI acc (l ++ z) b at1 (x ++ z) := by
  induction h with
  | shut acc g x hg => rw [List.append_assoc]; exact .shut _ _ _ hg
  | bare acc g x hg => rw [List.append_assoc]; exact .bare _ _ _ hg
  | attr acc g l y p b at1 x hg hn ha hh _ ih => rw [List.append_assoc]; exact .attr _ _ _ _ p _ _ _ hg hn (attrL_app ha z) hh ih
theorem TagI.len {acc : List Pr} {l : List UInt8} {b : Bool} {at1 : List Pr} {x : List UInt8} (h : TagI acc l b at1 x) : x.length < l.length := by
  induction h with
  | shut acc g x hg => simp; omega
  | bare acc g x hg => simp; omega
  | attr acc g l y p b at1 x hg hn ha hh _ ih =>
    have := attrL_len ha
    rw [List.length_append]
    omega
theorem TagI.first {acc : List Pr} {l : List UInt8} {b : Bool} {at1 : List Pr} {x : List UInt8} (h : TagI acc l b at1 x) : ∀ c r, l = c :: r → wch c = false := by
  intro c r e
  cases h with
  | shut _ g _ hg =>
    cases g with
    | nil => obtain ⟨rfl, _⟩ := List.cons.inj e; decide
    | cons d g => obtain ⟨rfl, _⟩ := List.cons.inj e; exact (blk_far (hg d (by simp))).1
  | bare _ g _ hg =>
    cases g with
    | nil => obtain ⟨rfl, _⟩ := List.cons.inj e; decide
    | cons d g => obtain ⟨rfl, _⟩ := List.cons.inj e; exact (blk_far (hg d (by simp))).1
  | attr _ g l' y p _ _ _ hg hn _ _ _ =>
    cases g with
    | nil => exact absurd rfl hn
    | cons d g => obtain ⟨rfl, _⟩ := List.cons.inj e; exact (blk_far (hg d (by simp))).1
/-- A tag, put together of its parts. -/
theorem shutL_iff (l r : List UInt8) (t : Tk) : shutL l = some (t, r) ↔ ∃ g, l = t.name ++ (g ++ 62 :: r) ∧ fullL t.name = true ∧ (∀ c ∈ g, blk c = true) ∧ t = ⟨2, t.name, [], []⟩ := by
  constructor
  · intro h
    unfold shutL at h
    by_cases hw : wordL l = []
    · rw [if_pos hw] at h; cases h
    · rw [if_neg hw] at h
      obtain ⟨h1, h2, h3⟩ := wordL_ne hw
      have hd : l.drop (wordL l).length = l.dropWhile wch := by
        conv => lhs; arg 2; rw [h2]
        rw [List.drop_left]
      rw [hd] at h
      obtain ⟨e1, e2, e3⟩ := tw_split blk (l.dropWhile wch)
      cases hr : (l.dropWhile wch).dropWhile blk with
      | nil => rw [hr] at h; cases h
      | cons c s =>
        rw [hr] at h
        dsimp only at h
        by_cases hc : c = 62
        · rw [if_pos hc] at h
          obtain ⟨rfl, rfl⟩ := (Prod.mk.injEq _ _ _ _).mp (Option.some.inj h)
          refine ⟨_, ?_, h1, e2, rfl⟩
          show l = wordL l ++ _
          rw [← hc, ← hr, ← e1]
          exact h2
        · rw [if_neg hc] at h; cases h
  · rintro ⟨g, rfl, hf, hg, ht⟩
    have hb : ∀ c s, g ++ 62 :: r = c :: s → wch c = false := by
      intro c s e
      cases g with
      | nil => obtain ⟨rfl, _⟩ := List.cons.inj e; decide
      | cons d g => obtain ⟨rfl, _⟩ := List.cons.inj e; exact (blk_far (hg d (by simp))).1
    unfold shutL
    rw [wordL_app hf hb, if_neg (fullL_ne hf), List.drop_left, (tw_app hg (fun c s e => by obtain ⟨rfl, _⟩ := List.cons.inj e; decide)).2]
    dsimp only
    rw [if_pos rfl, ← ht]
theorem fullL_head {l : List UInt8} (h : fullL l = true) (z : List UInt8) : (l ++ z).head? ≠ some 47 := by
  cases l with
  | nil => cases h
  | cons c r =>
    intro e
    obtain rfl : c = 47 := by simpa using e
    have := fullL_all h 47 (by simp)
    exact absurd this (by decide)
theorem tagL_iff (l r : List UInt8) (t : Tk) : tagL l = some (t, r) ↔ (∃ g, l = 47 :: (t.name ++ (g ++ 62 :: r)) ∧ fullL t.name = true ∧ (∀ c ∈ g, blk c = true) ∧ t = ⟨2, t.name, [], []⟩) ∨
    (∃ b y, l = t.name ++ y ∧ fullL t.name = true ∧ TagI [] y b t.attrs r ∧ t = ⟨if b then 3 else 1, t.name, t.attrs, []⟩) := by
  constructor
  · intro h
    unfold tagL at h
    by_cases h0 : l.head? = some 47
    · rw [if_pos h0] at h
      left
      cases l with
      | nil => cases h0
      | cons c s =>
        obtain rfl : c = 47 := by simpa using h0
        obtain ⟨g, e, h1, h2, h3⟩ := (shutL_iff _ _ _).1 h
        exact ⟨g, by rw [← e]; rfl, h1, h2, h3⟩
    · rw [if_neg h0] at h
      right
      by_cases hw : wordL l = []
      · rw [if_pos hw] at h; cases h
      · rw [if_neg hw] at h
        obtain ⟨h1, h2, h3⟩ := wordL_ne hw
        have hd : l.drop (wordL l).length = l.dropWhile wch := by
          conv => lhs; arg 2; rw [h2]
          rw [List.drop_left]
        rw [hd] at h
        cases ht : tagF (l.length + 1) [] (l.dropWhile wch) with
        | none => rw [ht] at h; cases h
        | some q =>
          obtain ⟨b, at1, x⟩ := q
          rw [ht] at h
          obtain ⟨rfl, rfl⟩ := (Prod.mk.injEq _ _ _ _).mp (Option.some.inj h)
          exact ⟨b, _, h2, h1, (tagF_iff _ _ _ _ _ _ (by have := dropWhile_len wch l; omega)).1 ht, rfl⟩
  · rintro (⟨g, rfl, h1, h2, h3⟩ | ⟨b, y, rfl, h1, h2, h3⟩)
    · unfold tagL
      rw [if_pos (show (47 :: (t.name ++ (g ++ 62 :: r))).head? = some 47 from rfl)]
      exact (shutL_iff _ _ _).2 ⟨g, rfl, h1, h2, h3⟩
    · unfold tagL
      rw [if_neg (fullL_head h1 _), wordL_app h1 h2.first, if_neg (fullL_ne h1), List.drop_left, (tagF_iff _ _ _ _ _ _ (by rw [List.length_append]; omega)).2 h2]
      show some ((⟨if b then 3 else 1, t.name, t.attrs, []⟩ : Tk), r) = _
      rw [← h3]
theorem tagL_app {l r : List UInt8} {t : Tk} (h : tagL l = some (t, r)) (b : List UInt8) : tagL (l ++ b) = some (t, r ++ b) := by
  rcases (tagL_iff _ _ _).1 h with ⟨g, rfl, h1, h2, h3⟩ | ⟨q, y, e, h1, h2, h3⟩
  · exact (tagL_iff _ _ _).2 (.inl ⟨g, by simp, h1, h2, h3⟩)
  · exact (tagL_iff _ _ _).2 (.inr ⟨q, y ++ b, by rw [e]; simp, h1, h2.app b, h3⟩)
theorem tagL_len {l r : List UInt8} {t : Tk} (h : tagL l = some (t, r)) : r.length < l.length := by
  rcases (tagL_iff _ _ _).1 h with ⟨g, rfl, h1, h2, h3⟩ | ⟨q, y, e, h1, h2, h3⟩
  · simp; omega
  · have := h2.len
    rw [e, List.length_append]
    omega
theorem oneL_len {l r : List UInt8} {t : Tk} (h : oneL l = some (t, r)) : r.length < l.length := by
  cases l with
  | nil => cases h
  | cons c s =>
    unfold oneL at h
    dsimp only at h
    by_cases hc : c = 60
    · rw [if_pos hc] at h
      have := tagL_len h
      simp
      omega
    · rw [if_neg hc] at h
      have ht : txt c = true := by simpa [txt] using hc
      cases hr : rd ((c :: s).takeWhile txt) with
      | none => rw [hr] at h; cases h
      | some x =>
        rw [hr] at h
        obtain ⟨_, rfl⟩ := (Prod.mk.injEq _ _ _ _).mp (Option.some.inj h)
        simp only [List.dropWhile_cons, ht, if_true]
        have := dropWhile_len txt s
        simp
        omega
end Lx
end Go.Proofs.Ytichboamakgabaa
