/-
  Texts of one seat, put together: LexM, LexN, LexO, LexP, LexC, MemV.
-/
import Derived.Test.YtlhjcdkkmloamaaGreatDoorSp00
import Derived.Laws.Rows
import Derived.Laws.Tables
set_option linter.unusedSimpArgs false
namespace Go.Proofs.YtlhjcdkkmloamaaGreatDoor
namespace Lx
open Tx Nmb Es
set_option linter.unusedVariables false
structure Pr where
  name : List UInt8
  value : List UInt8
structure Tk where
  kind : Nat
  name : List UInt8
  attrs : List Pr
  text : List UInt8
def ltr (c : UInt8) : Bool := (decide (97 ≤ c.toNat) && decide (c.toNat ≤ 122)) || (decide (65 ≤ c.toNat) && decide (c.toNat ≤ 90)) || c == 95
def nch (c : UInt8) : Bool := ltr c || (decide (48 ≤ c.toNat) && decide (c.toNat ≤ 57)) || c == 46 || c == 45
def wch (c : UInt8) : Bool := nch c || c == 58
def blk (c : UInt8) : Bool := c == 32 || c == 9 || c == 10 || c == 13
def nameL : List UInt8 → Bool
  | [] => false
  | c :: r => ltr c && r.all nch
def cutC : List UInt8 → Option (List UInt8 × List UInt8)
  | [] => none
  | c :: r => if c = 58 then some ([], r) else (cutC r).map fun p => (c :: p.1, p.2)
def fullL (l : List UInt8) : Bool := match cutC l with | some (a, b) => nameL b && nameL a | none => nameL l
theorem cutC_some : ∀ {l a b : List UInt8}, cutC l = some (a, b) → l = a ++ 58 :: b ∧ (58 : UInt8) ∉ a := by
  intro l
  induction l with
  | nil => intro a b h; cases h
  | cons c r ih =>
    intro a b h
    unfold cutC at h
    by_cases hc : c = 58
    · rw [if_pos hc] at h
      obtain ⟨rfl, rfl⟩ := (Prod.mk.injEq _ _ _ _).mp (Option.some.inj h)
      exact ⟨by rw [hc]; rfl, by simp⟩
    · rw [if_neg hc] at h
      cases hr : cutC r with
      | none => rw [hr] at h; cases h
      | some p =>
        rw [hr] at h
        obtain ⟨rfl, rfl⟩ := (Prod.mk.injEq _ _ _ _).mp (Option.some.inj h)
        obtain ⟨h1, h2⟩ := ih (a := p.1) (b := p.2) hr
        exact ⟨by rw [h1]; rfl, by rw [List.mem_cons, not_or]; exact ⟨Ne.symm hc, h2⟩⟩
theorem nch_of_ltr {c : UInt8} (h : ltr c = true) : nch c = true := by unfold nch; rw [h]; rfl
theorem nameL_all {l : List UInt8} (h : nameL l = true) : ∀ c ∈ l, nch c = true := by
  cases l with
  | nil => cases h
  | cons c r =>
    unfold nameL at h
    rw [Bool.and_eq_true] at h
    intro x hx
    rcases List.mem_cons.1 hx with rfl | hx
    · exact nch_of_ltr h.1
    · exact List.all_eq_true.1 h.2 x hx
theorem fullL_all {l : List UInt8} (h : fullL l = true) : ∀ c ∈ l, wch c = true := by
  unfold fullL at h
  cases hc : cutC l with
  | none =>
    rw [hc] at h
    intro x hx
    unfold wch
    rw [nameL_all h x hx]
    rfl
  | some p =>
    obtain ⟨a, b⟩ := p
    rw [hc] at h
    simp only [Bool.and_eq_true] at h
    obtain ⟨rfl, _⟩ := cutC_some hc
    intro x hx
    unfold wch
    rcases List.mem_append.1 hx with hx | hx
    · rw [nameL_all h.2 x hx]; rfl
    · rcases List.mem_cons.1 hx with rfl | hx
      · decide
      · rw [nameL_all h.1 x hx]; rfl
theorem fullL_ne {l : List UInt8} (h : fullL l = true) : l ≠ [] := by rintro rfl; cases h
theorem wch_far {c : UInt8} (h : wch c = true) : blk c = false ∧ c ≠ 61 ∧ c ≠ 62 ∧ c ≠ 47 ∧ c ≠ 60 ∧ c ≠ 34 ∧ c ≠ 39 ∧ c.toNat < 128 ∧ 45 ≤ c.toNat := by
  revert h
  exact u8_every (fun c => wch c = true → blk c = false ∧ c ≠ 61 ∧ c ≠ 62 ∧ c ≠ 47 ∧ c ≠ 60 ∧ c ≠ 34 ∧ c ≠ 39 ∧ c.toNat < 128 ∧ 45 ≤ c.toNat) (by decide +kernel) c
theorem blk_far {c : UInt8} (h : blk c = true) : wch c = false ∧ c ≠ 61 ∧ c ≠ 62 ∧ c ≠ 47 ∧ c ≠ 60 ∧ c ≠ 34 ∧ c ≠ 39 ∧ c.toNat < 128 := by
  revert h
  exact u8_every (fun c => blk c = true → wch c = false ∧ c ≠ 61 ∧ c ≠ 62 ∧ c ≠ 47 ∧ c ≠ 60 ∧ c ≠ 34 ∧ c ≠ 39 ∧ c.toNat < 128) (by decide +kernel) c
theorem tw_app {p : UInt8 → Bool} {a b : List UInt8} (ha : ∀ c ∈ a, p c = true) (hb : ∀ c r, b = c :: r → p c = false) : (a ++ b).takeWhile p = a ∧ (a ++ b).dropWhile p = b := by
  induction a with
  | nil =>
    cases b with
    | nil => exact ⟨rfl, rfl⟩
    | cons c r =>
      have := hb c r rfl
      simp [this]
  | cons c a ih =>
    have hc := ha c (by simp)
    obtain ⟨h1, h2⟩ := ih (fun x hx => ha x (by simp [hx]))
    simp only [List.cons_append, List.takeWhile_cons, List.dropWhile_cons, hc, if_true, h1, h2]
    refine ⟨?_, ?_⟩ <;> first | rfl | trivial
theorem tw_split (p : UInt8 → Bool) (l : List UInt8) : l = l.takeWhile p ++ l.dropWhile p ∧ (∀ c ∈ l.takeWhile p, p c = true) ∧ ∀ c r, l.dropWhile p = c :: r → p c = false := by
  induction l with
  | nil => exact ⟨rfl, by simp, fun c r h => by cases h⟩
  | cons c l ih =>
    by_cases hc : p c = true
    · simp only [List.takeWhile_cons, List.dropWhile_cons, hc, if_true]
      refine ⟨by rw [List.cons_append, ← ih.1], fun x hx => ?_, ih.2.2⟩
      rcases List.mem_cons.1 hx with rfl | hx
      · exact hc
      · exact ih.2.1 x hx
    · simp only [List.takeWhile_cons, List.dropWhile_cons, hc]
      refine ⟨rfl, by simp, fun x r h => ?_⟩
      obtain ⟨rfl, _⟩ := List.cons.inj h
      exact Bool.eq_false_iff.2 hc
def wordL (l : List UInt8) : List UInt8 := if fullL (l.takeWhile wch) then l.takeWhile wch else []
theorem wordL_app {a b : List UInt8} (ha : fullL a = true) (hb : ∀ c r, b = c :: r → wch c = false) : wordL (a ++ b) = a := by
  unfold wordL
  rw [(tw_app (fullL_all ha) hb).1, if_pos ha]
theorem wordL_ne {l : List UInt8} (h : wordL l ≠ []) : fullL (wordL l) = true ∧ l = wordL l ++ l.dropWhile wch ∧ (∀ c r, l.dropWhile wch = c :: r → wch c = false) := by
  unfold wordL at h ⊢
  by_cases hf : fullL (l.takeWhile wch) = true
  · rw [if_pos hf] at h ⊢
    obtain ⟨h1, _, h3⟩ := tw_split wch l
    exact ⟨hf, h1, h3⟩
  · rw [if_neg hf] at h
    exact absurd rfl h
def toldL (l : List UInt8) : Option (List UInt8) := rd (l.map fun c => if blk c then 32 else c)
def cutQ (q : UInt8) : List UInt8 → Option (List UInt8 × List UInt8)
  | [] => none
  | c :: r => if c = q then some ([], r) else (cutQ q r).map fun p => (c :: p.1, p.2)
theorem cutQ_some {q : UInt8} : ∀ {l a b : List UInt8}, cutQ q l = some (a, b) → l = a ++ q :: b ∧ q ∉ a := by
  intro l
  induction l with
  | nil => intro a b h; cases h
  | cons c r ih =>
    intro a b h
    unfold cutQ at h
    by_cases hc : c = q
    · rw [if_pos hc] at h
      obtain ⟨rfl, rfl⟩ := (Prod.mk.injEq _ _ _ _).mp (Option.some.inj h)
      exact ⟨by rw [hc]; rfl, by simp⟩
    · rw [if_neg hc] at h
      cases hr : cutQ q r with
      | none => rw [hr] at h; cases h
      | some p =>
        rw [hr] at h
        obtain ⟨rfl, rfl⟩ := (Prod.mk.injEq _ _ _ _).mp (Option.some.inj h)
        obtain ⟨h1, h2⟩ := ih (a := p.1) (b := p.2) hr
        exact ⟨by rw [h1]; rfl, by rw [List.mem_cons, not_or]; exact ⟨Ne.symm hc, h2⟩⟩
theorem cutQ_of {q : UInt8} : ∀ {a : List UInt8} (b : List UInt8), q ∉ a → cutQ q (a ++ q :: b) = some (a, b) := by
  intro a
  induction a with
  | nil => intro b _; show (if q = q then _ else _) = _; rw [if_pos rfl]
  | cons c a ih =>
    intro b h
    rw [List.mem_cons, not_or] at h
    show (if c = q then _ else _) = _
    rw [if_neg (Ne.symm h.1)]
    show Option.map _ (cutQ q (a ++ q :: b)) = _
    rw [ih b h.2]
    rfl
theorem cutQ_none {q : UInt8} : ∀ {l : List UInt8}, q ∉ l → cutQ q l = none := by
  intro l
  induction l with
  | nil => intro _; rfl
  | cons c l ih =>
    intro h
    rw [List.mem_cons, not_or] at h
    show (if c = q then _ else _) = _
    rw [if_neg (Ne.symm h.1), ih h.2]
    rfl
def valL (l : List UInt8) : Option (List UInt8 × List UInt8) := match l with
  | [] => none
  | q :: r => if q = 34 ∨ q = 39 then match cutQ q r with | none => none | some (raw, y) => (toldL raw).map fun v => (v, y) else none
def attrL (l : List UInt8) : Option (Pr × List UInt8) :=
  if wordL l = [] then none else
  match (l.drop (wordL l).length).dropWhile blk with
  | [] => none
  | c :: r => if c = 61 then (valL (r.dropWhile blk)).map fun p => (⟨wordL l, p.1⟩, p.2) else none
theorem valL_iff (l v r : List UInt8) : valL l = some (v, r) ↔ ∃ q raw, l = q :: (raw ++ q :: r) ∧ (q = 34 ∨ q = 39) ∧ q ∉ raw ∧ toldL raw = some v := by
  constructor
  · intro h
    unfold valL at h
    cases l with
    | nil => cases h
    | cons q s =>
      dsimp only at h
      by_cases hq : q = 34 ∨ q = 39
      · rw [if_pos hq] at h
        cases hc : cutQ q s with
        | none => rw [hc] at h; cases h
        | some p =>
          obtain ⟨raw, y⟩ := p
          rw [hc] at h
          dsimp only at h
          obtain ⟨e1, e2⟩ := cutQ_some hc
          cases ht : toldL raw with
          | none => rw [ht] at h; cases h
          | some v' =>
            rw [ht] at h
            obtain ⟨rfl, rfl⟩ := (Prod.mk.injEq _ _ _ _).mp (Option.some.inj h)
            exact ⟨q, raw, by rw [e1], hq, e2, ht⟩
      · rw [if_neg hq] at h
        cases h
  · rintro ⟨q, raw, rfl, hq, hn, ht⟩
    unfold valL
    dsimp only
    rw [if_pos hq, cutQ_of _ hn]
    dsimp only
    rw [ht]
    rfl
theorem attrL_iff (l r : List UInt8) (p : Pr) : attrL l = some (p, r) ↔ ∃ g1 g2 x, l = p.name ++ (g1 ++ 61 :: (g2 ++ x)) ∧ fullL p.name = true ∧ (∀ c ∈ g1, blk c = true) ∧ (∀ c ∈ g2, blk c = true) ∧ valL x = some (p.value, r) := by
  constructor
  · intro h
    unfold attrL at h
    by_cases hw : wordL l = []
    · rw [if_pos hw] at h; cases h
    · rw [if_neg hw] at h
      obtain ⟨h1, h2, h3⟩ := wordL_ne hw
      have hd : l.drop (wordL l).length = l.dropWhile wch := by
        conv => lhs; arg 2; rw [h2]
        rw [List.drop_left]
      rw [hd] at h
      obtain ⟨e1, e2, e3⟩ := tw_split blk (l.dropWhile wch)
      cases hr : (l.dropWhile wch).dropWhile blk with
      | nil => rw [hr] at h; cases h
      | cons c s =>
        rw [hr] at h
        dsimp only at h
        by_cases hc : c = 61
        · rw [if_pos hc] at h
          obtain ⟨f1, f2, f3⟩ := tw_split blk s
          cases hv : valL (s.dropWhile blk) with
          | none => rw [hv] at h; cases h
          | some y =>
            rw [hv] at h
            obtain ⟨rfl, rfl⟩ := (Prod.mk.injEq _ _ _ _).mp (Option.some.inj h)
            refine ⟨_, _, _, ?_, h1, e2, f2, hv⟩
            show l = wordL l ++ _
            rw [← f1, ← hc, ← hr, ← e1]
            exact h2
        · rw [if_neg hc] at h; cases h
  · rintro ⟨g1, g2, x, rfl, hf, h1, h2, hv⟩
    have hb : ∀ c r, g1 ++ 61 :: (g2 ++ x) = c :: r → wch c = false := by
      intro c r e
      cases g1 with
      | nil => obtain ⟨rfl, _⟩ := List.cons.inj e; decide
      | cons d g => obtain ⟨rfl, _⟩ := List.cons.inj e; exact (blk_far (h1 d (by simp))).1
    have hw := wordL_app hf hb
    unfold attrL
    rw [hw, if_neg (fullL_ne hf), List.drop_left, (tw_app h1 (fun c r e => by obtain ⟨rfl, _⟩ := List.cons.inj e; decide)).2]
    dsimp only
    rw [if_pos rfl]
    have hx : ∀ c r, x = c :: r → blk c = false := by
      rintro c r' rfl
      obtain ⟨q, raw, e, hq, _⟩ := (valL_iff _ _ _).1 hv
      obtain ⟨rfl, _⟩ := List.cons.inj e
      rcases hq with rfl | rfl <;> decide
    rw [(tw_app h2 hx).2, hv]
    rfl
theorem attrL_len {l r : List UInt8} {p : Pr} (h : attrL l = some (p, r)) : r.length + p.name.length + 3 ≤ l.length := by
  obtain ⟨g1, g2, x, rfl, h1, h2, h3, h4⟩ := (attrL_iff _ _ _).1 h
  obtain ⟨q, raw, rfl, h5, h6, h7⟩ := (valL_iff _ _ _).1 h4
  simp only [List.length_append, List.length_cons]
  omega
def hasL (l : List Pr) (name : List UInt8) : Bool := l.any fun p => decide (p.name = name)
def tagF : Nat → List Pr → List UInt8 → Option (Bool × List Pr × List UInt8)
  | 0, _, _ => none
  | f + 1, acc, l => match l.dropWhile blk with
    | [] => none
    | c :: x => if c = 62 then some (false, acc, x) else if c = 47 ∧ x.head? = some 62 then some (true, acc, x.tail) else
      match attrL (c :: x) with
      | none => none
      | some (p, y) => if l.length = (c :: x).length ∨ hasL acc p.name = true then none else tagF f (acc ++ [p]) y
def shutL (l : List UInt8) : Option (Tk × List UInt8) :=
  if wordL l = [] then none else
  match (l.drop (wordL l).length).dropWhile blk with
  | [] => none
  | c :: r => if c = 62 then some (⟨2, wordL l, [], []⟩, r) else none
def tagL (l : List UInt8) : Option (Tk × List UInt8) :=
  if l.head? = some 47 then shutL l.tail else
  if wordL l = [] then none else
  (tagF (l.length + 1) [] (l.drop (wordL l).length)).map fun p => (⟨if p.1 then 3 else 1, wordL l, p.2.1, []⟩, p.2.2)
def txt (c : UInt8) : Bool := c != 60
def oneL (l : List UInt8) : Option (Tk × List UInt8) := match l with
  | [] => none
  | c :: r => if c = 60 then tagL r else (rd (l.takeWhile txt)).map fun x => (⟨4, [], [], x⟩, l.dropWhile txt)
theorem dropWhile_len (p : UInt8 → Bool) (l : List UInt8) : (l.dropWhile p).length ≤ l.length := by
  have := congrArg List.length (tw_split p l).1
  rw [List.length_append] at this
  omega
inductive TagI : List Pr → List UInt8 → Bool → List Pr → List UInt8 → Prop
  | shut (acc : List Pr) (g x : List UInt8) : (∀ c ∈ g, blk c = true) → TagI acc (g ++ 62 :: x) false acc x
  | bare (acc : List Pr) (g x : List UInt8) : (∀ c ∈ g, blk c = true) → TagI acc (g ++ 47 :: 62 :: x) true acc x
  | attr (acc : List Pr) (g l y : List UInt8) (p : Pr) (b : Bool) (at1 : List Pr) (x : List UInt8) : (∀ c ∈ g, blk c = true) → g ≠ [] → attrL l = some (p, y) → hasL acc p.name = false → TagI (acc ++ [p]) y b at1 x → TagI acc (g ++ l) b at1 x
theorem attrL_head {c : UInt8} {x : List UInt8} {q : Pr × List UInt8} (h : attrL (c :: x) = some q) : wch c = true := by
  obtain ⟨p, y⟩ := q
  obtain ⟨g1, g2, z, e, hf, _⟩ := (attrL_iff _ _ _).1 h
  have hn := fullL_ne hf
  cases hp : p.name with
  | nil => exact absurd hp hn
  | cons d r =>
    rw [hp] at e
    obtain ⟨rfl, _⟩ := List.cons.inj e
    exact fullL_all hf c (by rw [hp]; simp)
theorem tagF_iff : ∀ (f : Nat) (acc : List Pr) (l : List UInt8) (b : Bool) (at1 : List Pr) (x : List UInt8), l.length < f → (tagF f acc l = some (b, at1, x) ↔ TagI acc l b at1 x) := by
  intro f
  induction f with
  | zero => intro acc l b at1 x h; omega
  | succ f ih =>
    intro acc l b at1 x hl
    have hsp := tw_split blk l
    constructor
    · intro h
      unfold tagF at h
      cases hd : l.dropWhile blk with
      | nil => rw [hd] at h; cases h
      | cons c r =>
        rw [hd] at h hsp
        dsimp only at h
        rw [hsp.1]
        by_cases c1 : c = 62
        · rw [if_pos c1] at h
          obtain ⟨rfl, rfl, rfl⟩ : false = b ∧ acc = at1 ∧ r = x := by simpa using h
          rw [c1]
          exact .shut _ _ _ hsp.2.1
        · rw [if_neg c1] at h
          by_cases c2 : c = 47 ∧ r.head? = some 62
          · rw [if_pos c2] at h
            obtain ⟨rfl, rfl, rfl⟩ : true = b ∧ acc = at1 ∧ r.tail = x := by simpa using h
            rw [c2.1]
            cases r with
            | nil => exact absurd c2.2 (by simp)
            | cons d r =>
              obtain rfl : d = 62 := by simpa using c2.2
              exact .bare _ _ _ hsp.2.1
          · rw [if_neg c2] at h
            cases ha : attrL (c :: r) with
            | none => rw [ha] at h; cases h
            | some q =>
              obtain ⟨p, y⟩ := q
              rw [ha] at h
              dsimp only at h
              have hal := attrL_len ha
              have hdl := dropWhile_len blk l
              rw [hd] at hdl
              by_cases c3 : l.length = (c :: r).length ∨ hasL acc p.name = true
              · rw [if_pos c3] at h; cases h
              · rw [if_neg c3] at h
                rw [not_or] at c3
                refine .attr _ _ _ _ p _ _ _ hsp.2.1 ?_ ha (Bool.eq_false_iff.2 c3.2) ((ih _ _ _ _ _ (by omega)).1 h)
                intro hg
                apply c3.1
                have := congrArg List.length hsp.1
                rw [hg] at this
                exact this
    · intro h
      unfold tagF
      cases h with
      | shut _ g _ hg =>
        rw [(tw_app hg (fun c r e => by obtain ⟨rfl, _⟩ := List.cons.inj e; decide)).2]
        rfl
      | bare _ g _ hg =>
        rw [(tw_app hg (fun c r e => by obtain ⟨rfl, _⟩ := List.cons.inj e; decide)).2]
        rfl
      | attr _ g l' y p _ _ _ hg hn ha hh ht =>
        cases hl' : l' with
        | nil => rw [hl'] at ha; cases ha
        | cons c r =>
          rw [hl'] at ha hl
          have hw := attrL_head ha
          obtain ⟨w1, _, w3, w4, _⟩ := wch_far hw
          rw [(tw_app hg (fun d s e => by obtain ⟨rfl, _⟩ := List.cons.inj e; exact w1)).2]
          dsimp only
          have hal := attrL_len ha
          rw [if_neg w3, if_neg (fun h => w4 h.1), ha]
          dsimp only
          rw [if_neg (by
            rw [not_or]
            refine ⟨fun e => hn ?_, by rw [hh]; simp⟩
            rw [List.length_append] at e
            exact List.eq_nil_of_length_eq_zero (by omega))]
          rw [List.length_append] at hl
          exact (ih _ _ _ _ _ (by omega)).2 ht
theorem TagI.len {acc : List Pr} {l : List UInt8} {b : Bool} {at1 : List Pr} {x : List UInt8} (h : TagI acc l b at1 x) : x.length < l.length := by
  induction h with
  | shut acc g x hg => simp; omega
  | bare acc g x hg => simp; omega
  | attr acc g l y p b at1 x hg hn ha hh _ ih =>
    have := attrL_len ha
    rw [List.length_append]
    omega
theorem TagI.first {acc : List Pr} {l : List UInt8} {b : Bool} {at1 : List Pr} {x : List UInt8} (h : TagI acc l b at1 x) : ∀ c r, l = c :: r → wch c = false := by
  intro c r e
  cases h with
  | shut _ g _ hg =>
    cases g with
    | nil => obtain ⟨rfl, _⟩ := List.cons.inj e; decide
    | cons d g => obtain ⟨rfl, _⟩ := List.cons.inj e; exact (blk_far (hg d (by simp))).1
  | bare _ g _ hg =>
    cases g with
    | nil => obtain ⟨rfl, _⟩ := List.cons.inj e; decide
    | cons d g => obtain ⟨rfl, _⟩ := List.cons.inj e; exact (blk_far (hg d (by simp))).1
  | attr _ g l' y p _ _ _ hg hn _ _ _ =>
    cases g with
    | nil => exact absurd rfl hn
    | cons d g => obtain ⟨rfl, _⟩ := List.cons.inj e; exact (blk_far (hg d (by simp))).1
theorem shutL_iff (l r : List UInt8) (t : Tk) : shutL l = some (t, r) ↔ ∃ g, l = t.name ++ (g ++ 62 :: r) ∧ fullL t.name = true ∧ (∀ c ∈ g, blk c = true) ∧ t = ⟨2, t.name, [], []⟩ := by
  constructor
  · intro h
    unfold shutL at h
    by_cases hw : wordL l = []
    · rw [if_pos hw] at h; cases h
    · rw [if_neg hw] at h
      obtain ⟨h1, h2, h3⟩ := wordL_ne hw
      have hd : l.drop (wordL l).length = l.dropWhile wch := by
        conv => lhs; arg 2; rw [h2]
        rw [List.drop_left]
      rw [hd] at h
      obtain ⟨e1, e2, e3⟩ := tw_split blk (l.dropWhile wch)
      cases hr : (l.dropWhile wch).dropWhile blk with
      | nil => rw [hr] at h; cases h
      | cons c s =>
        rw [hr] at h
        dsimp only at h
        by_cases hc : c = 62
        · rw [if_pos hc] at h
          obtain ⟨rfl, rfl⟩ := (Prod.mk.injEq _ _ _ _).mp (Option.some.inj h)
          refine ⟨_, ?_, h1, e2, rfl⟩
          show l = wordL l ++ _
          rw [← hc, ← hr, ← e1]
          exact h2
        · rw [if_neg hc] at h; cases h
  · rintro ⟨g, rfl, hf, hg, ht⟩
    have hb : ∀ c s, g ++ 62 :: r = c :: s → wch c = false := by
      intro c s e
      cases g with
      | nil => obtain ⟨rfl, _⟩ := List.cons.inj e; decide
      | cons d g => obtain ⟨rfl, _⟩ := List.cons.inj e; exact (blk_far (hg d (by simp))).1
    unfold shutL
    rw [wordL_app hf hb, if_neg (fullL_ne hf), List.drop_left, (tw_app hg (fun c s e => by obtain ⟨rfl, _⟩ := List.cons.inj e; decide)).2]
    dsimp only
    rw [if_pos rfl, ← ht]
theorem fullL_head {l : List UInt8} (h : fullL l = true) (z : List UInt8) : (l ++ z).head? ≠ some 47 := by
  cases l with
  | nil => cases h
  | cons c r =>
    intro e
    obtain rfl : c = 47 := by simpa using e
    have := fullL_all h 47 (by simp)
    exact absurd this (by decide)
theorem tagL_iff (l r : List UInt8) (t : Tk) : tagL l = some (t, r) ↔ (∃ g, l = 47 :: (t.name ++ (g ++ 62 :: r)) ∧ fullL t.name = true ∧ (∀ c ∈ g, blk c = true) ∧ t = ⟨2, t.name, [], []⟩) ∨
    (∃ b y, l = t.name ++ y ∧ fullL t.name = true ∧ TagI [] y b t.attrs r ∧ t = ⟨if b then 3 else 1, t.name, t.attrs, []⟩) := by
  constructor
  · intro h
    unfold tagL at h
    by_cases h0 : l.head? = some 47
    · rw [if_pos h0] at h
      left
      cases l with
      | nil => cases h0
      | cons c s =>
        obtain rfl : c = 47 := by simpa using h0
        obtain ⟨g, e, h1, h2, h3⟩ := (shutL_iff _ _ _).1 h
        exact ⟨g, by rw [← e]; rfl, h1, h2, h3⟩
    · rw [if_neg h0] at h
      right
      by_cases hw : wordL l = []
      · rw [if_pos hw] at h; cases h
      · rw [if_neg hw] at h
        obtain ⟨h1, h2, h3⟩ := wordL_ne hw
        have hd : l.drop (wordL l).length = l.dropWhile wch := by
          conv => lhs; arg 2; rw [h2]
          rw [List.drop_left]
        rw [hd] at h
        cases ht : tagF (l.length + 1) [] (l.dropWhile wch) with
        | none => rw [ht] at h; cases h
        | some q =>
          obtain ⟨b, at1, x⟩ := q
          rw [ht] at h
          obtain ⟨rfl, rfl⟩ := (Prod.mk.injEq _ _ _ _).mp (Option.some.inj h)
          exact ⟨b, _, h2, h1, (tagF_iff _ _ _ _ _ _ (by have := dropWhile_len wch l; omega)).1 ht, rfl⟩
  · rintro (⟨g, rfl, h1, h2, h3⟩ | ⟨b, y, rfl, h1, h2, h3⟩)
    · unfold tagL
      rw [if_pos (show (47 :: (t.name ++ (g ++ 62 :: r))).head? = some 47 from rfl)]
      exact (shutL_iff _ _ _).2 ⟨g, rfl, h1, h2, h3⟩
    · unfold tagL
      rw [if_neg (fullL_head h1 _), wordL_app h1 h2.first, if_neg (fullL_ne h1), List.drop_left, (tagF_iff _ _ _ _ _ _ (by rw [List.length_append]; omega)).2 h2]
      show some ((⟨if b then 3 else 1, t.name, t.attrs, []⟩ : Tk), r) = _
      rw [← h3]
theorem tagL_len {l r : List UInt8} {t : Tk} (h : tagL l = some (t, r)) : r.length < l.length := by
  rcases (tagL_iff _ _ _).1 h with ⟨g, rfl, h1, h2, h3⟩ | ⟨q, y, e, h1, h2, h3⟩
  · simp; omega
  · have := h2.len
    rw [e, List.length_append]
    omega
theorem oneL_len {l r : List UInt8} {t : Tk} (h : oneL l = some (t, r)) : r.length < l.length := by
  cases l with
  | nil => cases h
  | cons c s =>
    unfold oneL at h
    dsimp only at h
    by_cases hc : c = 60
    · rw [if_pos hc] at h
      have := tagL_len h
      simp
      omega
    · rw [if_neg hc] at h
      have ht : txt c = true := by simpa [txt] using hc
      cases hr : rd ((c :: s).takeWhile txt) with
      | none => rw [hr] at h; cases h
      | some x =>
        rw [hr] at h
        obtain ⟨_, rfl⟩ := (Prod.mk.injEq _ _ _ _).mp (Option.some.inj h)
        simp only [List.dropWhile_cons, ht, if_true]
        have := dropWhile_len txt s
        simp
        omega
def isP (l : List UInt8) : Bool := (pts l).isSome
theorem isP_encs {ns : List Nat} (h : mays ns) : isP (encs ns) = true := by unfold isP; rw [pts_encs h]; rfl
theorem isP_of {l : List UInt8} (h : isP l = true) : ∃ ns, l = encs ns ∧ mays ns := by
  obtain ⟨ns, hns⟩ := Option.isSome_iff_exists.1 h
  exact ⟨ns, (pts_iff l ns).1 hns⟩
theorem isP_app {a b : List UInt8} (ha : isP a = true) (hb : isP b = true) : isP (a ++ b) = true := pts_app ha hb
theorem enc_near {n : Nat} (h : n < 128) : enc n = [bt n] := by unfold enc; rw [if_pos h]
theorem isP_cut : ∀ (ns : List Nat) (a b : List UInt8) (c : UInt8), mays ns → c.toNat < 128 → encs ns = a ++ c :: b → isP a = true ∧ isP b = true ∧ may (c.toNat : Int) = true := by
  intro ns
  induction ns with
  | nil =>
    intro a b c _ _ e
    cases a <;> cases e
  | cons n ns ih =>
    intro a b c hm hc e
    rw [mays_cons] at hm
    rw [encs_cons] at e
    have hs := nat_sv hm.1
    obtain ⟨h1, h2⟩ := enc_length n
    by_cases hl : (enc n).length ≤ a.length
    · have ea : a = enc n ++ a.drop (enc n).length := by
        have := congrArg (List.take (enc n).length) e
        rw [List.take_left, List.take_append_of_le_length hl] at this
        conv => lhs; rw [← List.take_append_drop (enc n).length a]
        rw [← this]
      have e2 : encs ns = a.drop (enc n).length ++ c :: b := by
        rw [ea, List.append_assoc] at e
        exact List.append_cancel_left e
      obtain ⟨i1, i2, i3⟩ := ih _ _ _ hm.2 hc e2
      refine ⟨?_, i2, i3⟩
      rw [ea]
      refine isP_app ?_ i1
      have := isP_encs (ns := [n]) (mays_cons.2 ⟨hm.1, mays_nil⟩)
      rwa [encs_cons, encs_nil, List.append_nil] at this
    · have e2 : (enc n).drop a.length ++ encs ns = c :: b := by
        have := congrArg (List.drop a.length) e
        rwa [List.drop_left, List.drop_append_of_le_length (by omega)] at this
      by_cases h0 : a.length = 0
      · obtain rfl := List.eq_nil_of_length_eq_zero h0
        rw [List.length_nil, List.drop_zero] at e2
        by_cases hn : n < 128
        · rw [enc_near hn] at e2
          obtain ⟨rfl, rfl⟩ := List.cons.inj e2
          rw [bt_nat n (by omega)]
          exact ⟨rfl, isP_encs hm.2, hm.1⟩
        · exfalso
          cases he : enc n with
          | nil => rw [he] at h1; simp at h1
          | cons d r =>
            rw [he] at e2
            obtain ⟨rfl, _⟩ := List.cons.inj e2
            have := enc_far n (by omega) hs d (by rw [he]; simp)
            omega
      · exfalso
        obtain ⟨d, r, e3, hd⟩ := enc_cont n hs a.length (by omega) (by omega)
        rw [e3] at e2
        obtain ⟨rfl, _⟩ := List.cons.inj e2
        unfold cont at hd
        have := of_decide_eq_true hd
        omega
theorem isP_split {a b : List UInt8} {c : UInt8} (h : isP (a ++ c :: b) = true) (hc : c.toNat < 128) : isP a = true ∧ isP b = true ∧ may (c.toNat : Int) = true := by
  obtain ⟨ns, e, hm⟩ := isP_of h
  exact isP_cut ns a b c hm hc e.symm
theorem isP_one {c : UInt8} (h : c.toNat < 128) (hm : may (c.toNat : Int) = true) : isP [c] = true := by
  have := isP_encs (ns := [c.toNat]) (mays_cons.2 ⟨hm, mays_nil⟩)
  rwa [encs_cons, encs_nil, List.append_nil, enc_near h, bt_of c _ rfl] at this
theorem isP_map (f : UInt8 → UInt8) (hf : ∀ c, 128 ≤ c.toNat → f c = c) (hf2 : ∀ c, c.toNat < 128 → may (c.toNat : Int) = true → (f c).toNat < 128 ∧ may ((f c).toNat : Int) = true) {l : List UInt8} (h : isP l = true) : isP (l.map f) = true := by
  obtain ⟨ns, rfl, hm⟩ := isP_of h
  clear h
  induction ns with
  | nil => rfl
  | cons n ns ih =>
    rw [mays_cons] at hm
    rw [encs_cons, List.map_append]
    refine isP_app ?_ (ih hm.2)
    by_cases hn : n < 128
    · rw [enc_near hn]
      have hb : (bt n).toNat = n := bt_nat n (by omega)
      obtain ⟨q1, q2⟩ := hf2 (bt n) (by omega) (by rw [hb]; exact hm.1)
      exact isP_one q1 q2
    · have he : (enc n).map f = enc n := by
        have := enc_far n (by omega) (nat_sv hm.1)
        rw [List.map_congr_left (g := id) (fun x hx => hf x (this x hx)), List.map_id]
      rw [he]
      have := isP_encs (ns := [n]) (mays_cons.2 ⟨hm.1, mays_nil⟩)
      rwa [encs_cons, encs_nil, List.append_nil] at this
theorem isP_enc {n : Nat} (h : may (n : Int) = true) : isP (enc n) = true := by
  have := isP_encs (ns := [n]) (mays_cons.2 ⟨h, mays_nil⟩)
  rwa [encs_cons, encs_nil, List.append_nil] at this
theorem meantL_text {x y : List UInt8} (h : meantL x = some y) : isP y = true ∧ y.length ≤ x.length + 2 ∧ y ≠ [] := by
  unfold meantL at h
  by_cases h1 : x = [97, 109, 112]
  · rw [if_pos h1] at h; cases h; exact ⟨by decide +kernel, by simp, by simp⟩
  rw [if_neg h1] at h
  by_cases h2 : x = [108, 116]
  · rw [if_pos h2] at h; cases h; exact ⟨by decide +kernel, by simp, by simp⟩
  rw [if_neg h2] at h
  by_cases h3 : x = [103, 116]
  · rw [if_pos h3] at h; cases h; exact ⟨by decide +kernel, by simp, by simp⟩
  rw [if_neg h3] at h
  by_cases h4 : x = [113, 117, 111, 116]
  · rw [if_pos h4] at h; cases h; exact ⟨by decide +kernel, by simp, by simp⟩
  rw [if_neg h4] at h
  by_cases h5 : x = [97, 112, 111, 115]
  · rw [if_pos h5] at h; cases h; exact ⟨by decide +kernel, by simp, by simp⟩
  rw [if_neg h5] at h
  split at h
  · rename_i r
    cases hn : numL r with
    | none => rw [hn] at h; cases h
    | some n =>
      rw [hn] at h
      obtain rfl := Option.some.inj h
      have hm : may (n : Int) = true := by
        unfold numL at hn
        exact (Option.filter_eq_some_iff.1 hn).2
      have hr : 1 ≤ r.length := by
        cases r with
        | nil => unfold numL at hn; cases hn
        | cons c r => simp
      have := enc_length n
      refine ⟨isP_enc hm, by rw [List.length_cons]; omega, fun e => ?_⟩
      rw [e] at this
      simp at this
  · cases h
theorem rd_text : ∀ (k : Nat) (l z : List UInt8), l.length ≤ k → isP l = true → rd l = some z → isP z = true := by
  intro k
  induction k with
  | zero =>
    intro l z hl hp h
    obtain rfl := List.eq_nil_of_length_eq_zero (Nat.le_zero.1 hl)
    cases h
    rfl
  | succ k ih =>
    intro l z hl hp h
    obtain ⟨ns, rfl, hm⟩ := isP_of hp
    cases ns with
    | nil => cases h; rfl
    | cons n ns =>
      rw [mays_cons] at hm
      rw [encs_cons] at h hl
      have hel := enc_length n
      rw [List.length_append] at hl
      by_cases hn : n < 128
      · have hb : (bt n).toNat = n := bt_nat n (by omega)
        rw [enc_near hn] at h hl
        rw [List.singleton_append] at h
        by_cases h60 : bt n = 60
        · rw [h60, rd_bad] at h; cases h
        · by_cases h38 : bt n = 38
          · rw [h38, rd_amp] at h
            cases hs : semi (encs ns) with
            | none => rw [hs] at h; cases h
            | some q =>
              obtain ⟨x, t⟩ := q
              rw [hs] at h
              dsimp only at h
              cases hx : meantL x with
              | none => rw [hx] at h; cases h
              | some y =>
                rw [hx] at h
                dsimp only at h
                cases ht : rd t with
                | none => rw [ht] at h; cases h
                | some z' =>
                  rw [ht] at h
                  obtain rfl := Option.some.inj h
                  obtain ⟨e, _⟩ := semi_some _ _ _ hs
                  obtain ⟨_, q2, _⟩ := isP_cut ns x t 59 hm.2 (by decide) e
                  have he := congrArg List.length e
                  rw [List.length_append, List.length_cons] at he
                  exact isP_app (meantL_text hx).1 (ih t z' (by simp at hl; omega) q2 ht)
          · rw [rd_byte _ _ h60 h38] at h
            cases ht : rd (encs ns) with
            | none => rw [ht] at h; cases h
            | some z' =>
              rw [ht] at h
              obtain rfl := Option.some.inj h
              have := isP_app (isP_one (c := bt n) (by omega) (by rw [hb]; exact hm.1)) (ih _ z' (by simp at hl; omega) (isP_encs hm.2) ht)
              exact this
      · have hf := enc_far n (by omega) (nat_sv hm.1)
        have hr : ∀ (e : List UInt8), (∀ x ∈ e, 128 ≤ x.toNat) → ∀ r, rd (e ++ r) = (rd r).map (e ++ ·) := by
          intro e
          induction e with
          | nil => intro _ r; simp
          | cons c e ihe =>
            intro he r
            have hc := he c (by simp)
            rw [List.cons_append, rd_byte c _ (by rintro rfl; exact absurd hc (by decide)) (by rintro rfl; exact absurd hc (by decide)), ihe (fun x hx => he x (by simp [hx])) r]
            cases rd r <;> rfl
        rw [hr _ hf] at h
        cases ht : rd (encs ns) with
        | none => rw [ht] at h; cases h
        | some z' =>
          rw [ht] at h
          obtain rfl := Option.some.inj h
          exact isP_app (isP_enc hm.1) (ih _ z' (by omega) (isP_encs hm.2) ht)
theorem rd_len : ∀ (k : Nat) (l z : List UInt8), l.length ≤ k → rd l = some z → z.length ≤ l.length ∧ (l ≠ [] → z ≠ []) := by
  intro k
  induction k with
  | zero =>
    intro l z hl h
    obtain rfl := List.eq_nil_of_length_eq_zero (Nat.le_zero.1 hl)
    cases h
    exact ⟨Nat.le_refl _, fun h => absurd rfl h⟩
  | succ k ih =>
    intro l z hl h
    cases l with
    | nil => cases h; exact ⟨Nat.le_refl _, fun h => absurd rfl h⟩
    | cons c r =>
      rw [List.length_cons] at hl
      by_cases h60 : c = 60
      · rw [h60, rd_bad] at h; cases h
      · by_cases h38 : c = 38
        · rw [h38, rd_amp] at h
          cases hs : semi r with
          | none => rw [hs] at h; cases h
          | some q =>
            obtain ⟨x, t⟩ := q
            rw [hs] at h
            dsimp only at h
            cases hx : meantL x with
            | none => rw [hx] at h; cases h
            | some y =>
              rw [hx] at h
              dsimp only at h
              cases ht : rd t with
              | none => rw [ht] at h; cases h
              | some z' =>
                rw [ht] at h
                obtain rfl := Option.some.inj h
                obtain ⟨e, _⟩ := semi_some _ _ _ hs
                obtain ⟨_, m2, m3⟩ := meantL_text hx
                have he := congrArg List.length e
                rw [List.length_append, List.length_cons] at he
                have := (ih t z' (by omega) ht).1
                refine ⟨by rw [List.length_append, List.length_cons]; omega, fun _ e => m3 (List.append_eq_nil_iff.1 e).1⟩
        · rw [rd_byte _ _ h60 h38] at h
          cases ht : rd r with
          | none => rw [ht] at h; cases h
          | some z' =>
            rw [ht] at h
            obtain rfl := Option.some.inj h
            have := (ih r z' (by omega) ht).1
            exact ⟨by rw [List.length_cons, List.length_cons]; omega, fun _ e => by cases e⟩
theorem toldL_text {l v : List UInt8} (hp : isP l = true) (h : toldL l = some v) : isP v = true ∧ v.length ≤ l.length := by
  have hm : isP (l.map fun c => if blk c then 32 else c) = true := by
    refine isP_map _ (fun c hc => ?_) (fun c hc hc2 => ?_) hp
    · rw [if_neg]
      intro hb
      have := (blk_far hb).2.2.2.2.2.2.2
      omega
    · by_cases hb : blk c = true
      · rw [if_pos hb]; exact ⟨by decide, by decide⟩
      · rw [if_neg hb]; exact ⟨hc, hc2⟩
  have h2 := (rd_len _ _ _ (Nat.le_refl _) h).1
  rw [List.length_map] at h2
  exact ⟨rd_text _ _ _ (Nat.le_refl _) hm h, h2⟩
def okT (l : List UInt8) : Bool := decide (l.length ≤ 16384) && isP l
def attrsF : List Pr → List Pr → Bool
  | _, [] => true
  | acc, p :: r => fullL p.name && !hasL acc p.name && okT p.value && attrsF (acc ++ [p]) r
def attrsOk (l : List Pr) : Bool := attrsF [] l && decide (l.length ≤ 16)
def mayT (t : Tk) : Bool :=
  if t.kind = 1 ∨ t.kind = 3 then fullL t.name && attrsOk t.attrs && t.text.isEmpty
  else if t.kind = 2 then fullL t.name && t.attrs.isEmpty && t.text.isEmpty
  else if t.kind = 4 then t.name.isEmpty && t.attrs.isEmpty && !t.text.isEmpty && okT t.text else false
def writeA (p : Pr) : List UInt8 := 32 :: (p.name ++ 61 :: 34 :: (escL true p.value ++ [34]))
def writeT (t : Tk) : List UInt8 :=
  if t.kind = 4 then escL false t.text else if t.kind = 2 then 60 :: 47 :: (t.name ++ [62])
  else 60 :: (t.name ++ (t.attrs.flatMap writeA ++ (if t.kind = 3 then [47, 62] else [62])))
def apart : List Tk → Bool
  | [] => true
  | [_] => true
  | a :: b :: r => !(decide (a.kind = 4) && decide (b.kind = 4)) && apart (b :: r)
theorem mayT_cases {t : Tk} (h : mayT t = true) : (∃ b : Bool, t.kind = (if b then 3 else 1) ∧ fullL t.name = true ∧ attrsOk t.attrs = true ∧ t.text = []) ∨ (t.kind = 2 ∧ fullL t.name = true ∧ t.attrs = [] ∧ t.text = []) ∨ (t.kind = 4 ∧ t.name = [] ∧ t.attrs = [] ∧ t.text ≠ [] ∧ okT t.text = true) := by
  unfold mayT at h
  by_cases h1 : t.kind = 1 ∨ t.kind = 3
  · rw [if_pos h1] at h
    simp only [Bool.and_eq_true, List.isEmpty_iff] at h
    rcases h1 with h1 | h1
    · exact .inl ⟨false, h1, h.1.1, h.1.2, h.2⟩
    · exact .inl ⟨true, h1, h.1.1, h.1.2, h.2⟩
  · rw [if_neg h1] at h
    by_cases h2 : t.kind = 2
    · rw [if_pos h2] at h
      simp only [Bool.and_eq_true, List.isEmpty_iff] at h
      exact .inr (.inl ⟨h2, h.1.1, h.1.2, h.2⟩)
    · rw [if_neg h2] at h
      by_cases h4 : t.kind = 4
      · rw [if_pos h4] at h
        simp only [Bool.and_eq_true, List.isEmpty_iff, Bool.not_eq_true', List.isEmpty_eq_false_iff] at h
        exact .inr (.inr ⟨h4, h.1.1.1, h.1.1.2, h.1.2, h.2⟩)
      · rw [if_neg h4] at h; cases h
theorem oneL_tag (l r : List UInt8) (t : Tk) : oneL (60 :: l) = some (t, r) ↔ tagL l = some (t, r) := by
  unfold oneL
  dsimp only
  rw [if_pos rfl]
theorem txt_iff (c : UInt8) : txt c = true ↔ c ≠ 60 := by unfold txt; simp
theorem oneL_kind {l r : List UInt8} {t : Tk} (h : oneL l = some (t, r)) : (t.kind ≠ 4 ∧ ∃ s, l = 60 :: s ∧ tagL s = some (t, r)) ∨
    (t.kind = 4 ∧ l.head? ≠ some 60 ∧ ∃ a x, l = a ++ r ∧ a ≠ [] ∧ (∀ c ∈ a, c ≠ 60) ∧ rd a = some x ∧ t = ⟨4, [], [], x⟩ ∧ ∀ c s, r = c :: s → c = 60) := by
  cases l with
  | nil => cases h
  | cons c s =>
    by_cases hc : c = 60
    · subst hc
      have ht := (oneL_tag _ _ _).1 h
      left
      refine ⟨?_, s, rfl, ht⟩
      rcases (tagL_iff _ _ _).1 ht with ⟨g, _, _, _, e⟩ | ⟨b, y, _, _, _, e⟩
      · rw [e]; simp
      · rw [e]; cases b <;> simp
    · right
      unfold oneL at h
      dsimp only at h
      rw [if_neg hc] at h
      cases hr : rd ((c :: s).takeWhile txt) with
      | none => rw [hr] at h; cases h
      | some x =>
        rw [hr] at h
        obtain ⟨rfl, rfl⟩ := (Prod.mk.injEq _ _ _ _).mp (Option.some.inj h)
        obtain ⟨e1, e2, e3⟩ := tw_split txt (c :: s)
        refine ⟨rfl, by simpa using hc, _, x, e1, ?_, fun d hd => (txt_iff d).1 (e2 d hd), hr, rfl, fun d q e => ?_⟩
        · have : txt c = true := (txt_iff c).2 hc
          rw [List.takeWhile_cons, this]
          simp
        · have := e3 d q e
          unfold txt at this
          simpa using this
inductive LexI : List Tk → List UInt8 → Prop
  | nil : LexI [] []
  | cons (t : Tk) (ts : List Tk) (l r : List UInt8) : oneL l = some (t, r) → LexI ts r → LexI (t :: ts) l
theorem LexI.same {a b : List Tk} {l : List UInt8} (h : LexI a l) (k : LexI b l) : a = b := by
  induction h generalizing b with
  | nil =>
    cases k with
    | nil => rfl
    | cons t ts l r h1 h2 => cases h1
  | cons t ts l r h1 h2 ih =>
    cases k with
    | nil => cases h1
    | cons t' ts' _ r' k1 k2 =>
      rw [h1] at k1
      obtain ⟨rfl, rfl⟩ := (Prod.mk.injEq _ _ _ _).mp (Option.some.inj k1)
      rw [ih k2]
theorem LexI.len {a : List Tk} {l : List UInt8} (h : LexI a l) : a.length ≤ l.length := by
  induction h with
  | nil => exact Nat.le_refl _
  | cons t ts l r h1 h2 ih => have := oneL_len h1; rw [List.length_cons]; omega
theorem LexI.first {t : Tk} {a : List Tk} {l : List UInt8} (h : LexI (t :: a) l) (ht : t.kind ≠ 4) : ∀ c s, l = c :: s → c = 60 := by
  intro c s e
  cases h with
  | cons _ _ _ r h1 h2 =>
    rcases oneL_kind h1 with ⟨_, q, e2, _⟩ | ⟨h3, _⟩
    · rw [e2] at e
      exact (List.cons.inj e).1.symm
    · exact absurd h3 ht
theorem isP_behind {g l : List UInt8} (h : isP (g ++ l) = true) (hg : ∀ c ∈ g, c.toNat < 128) : isP l = true := by
  induction g with
  | nil => exact h
  | cons c g ih => exact ih (isP_split (a := []) (b := g ++ l) (c := c) h (hg c (by simp))).2.1 (fun x hx => hg x (by simp [hx]))
theorem blk_low {c : UInt8} (h : blk c = true) : c.toNat < 128 := (blk_far h).2.2.2.2.2.2.2
theorem wch_low {c : UInt8} (h : wch c = true) : c.toNat < 128 := (wch_far h).2.2.2.2.2.2.2.1
theorem q_low {q : UInt8} (h : q = 34 ∨ q = 39) : q.toNat < 128 := by rcases h with rfl | rfl <;> decide
theorem attrL_text {l r : List UInt8} {p : Pr} (h : attrL l = some (p, r)) (hp : isP l = true) (hl : l.length ≤ 16384) : fullL p.name = true ∧ okT p.value = true ∧ isP r = true ∧ (writeA p).length + 6 * r.length ≤ 6 * l.length + 5 := by
  obtain ⟨g1, g2, x, rfl, h1, h2, h3, h4⟩ := (attrL_iff _ _ _).1 h
  obtain ⟨q, raw, rfl, h5, h6, h7⟩ := (valL_iff _ _ _).1 h4
  have k1 := isP_behind hp (fun c hc => wch_low (fullL_all h1 c hc))
  have k2 := isP_behind k1 (fun c hc => blk_low (h2 c hc))
  have k3 := (isP_split (a := []) (c := 61) k2 (by decide)).2.1
  have k4 := isP_behind k3 (fun c hc => blk_low (h3 c hc))
  have k5 := (isP_split (a := []) (c := q) k4 (q_low h5)).2.1
  obtain ⟨k6, k7, _⟩ := isP_split k5 (q_low h5)
  obtain ⟨k8, k9⟩ := toldL_text k6 h7
  have hel := (escL_len true p.value).2
  simp only [List.length_append, List.length_cons] at hl
  refine ⟨h1, by unfold okT; rw [k8, Bool.and_true, decide_eq_true_eq]; omega, k7, ?_⟩
  unfold writeA
  simp only [List.length_append, List.length_cons, List.length_nil]
  omega
theorem TagI.text {acc : List Pr} {l : List UInt8} {b : Bool} {at1 : List Pr} {x : List UInt8} (h : TagI acc l b at1 x) (hp : isP l = true) (hl : l.length ≤ 16384) : ∃ more, at1 = acc ++ more ∧ attrsF acc more = true ∧ isP x = true ∧ (more.flatMap writeA).length + (if b then 2 else 1) + 6 * x.length ≤ 6 * l.length := by
  induction h with
  | shut acc g x hg =>
    have := isP_behind hp (fun c hc => blk_low (hg c hc))
    exact ⟨[], by simp, rfl, (isP_split (a := []) (c := 62) this (by decide)).2.1, by simp; omega⟩
  | bare acc g x hg =>
    have := isP_behind hp (fun c hc => blk_low (hg c hc))
    have := (isP_split (a := []) (c := 47) this (by decide)).2.1
    exact ⟨[], by simp, rfl, (isP_split (a := []) (c := 62) this (by decide)).2.1, by simp; omega⟩
  | attr acc g l y p b at1 x hg hn ha hh _ ih =>
    have k1 := isP_behind hp (fun c hc => blk_low (hg c hc))
    rw [List.length_append] at hl
    obtain ⟨k2, k3, k4, k5⟩ := attrL_text ha k1 (by omega)
    have hy := attrL_len ha
    obtain ⟨more, e1, e2, e3, e4⟩ := ih k4 (by omega)
    refine ⟨p :: more, by rw [e1]; simp, ?_, e3, ?_⟩
    · unfold attrsF
      rw [k2, hh, k3, e2]
      rfl
    · rw [List.flatMap_cons, List.length_append, List.length_append]
      have : 1 ≤ g.length := List.length_pos_iff.2 hn
      omega
def mayL (t : Tk) : Prop := t.attrs.length ≤ 16 → mayT t = true
theorem mayL_tag {b : Bool} {name : List UInt8} {at1 : List Pr} (h1 : fullL name = true) (h2 : attrsF [] at1 = true) : mayL ⟨if b then 3 else 1, name, at1, []⟩ := by
  intro hl
  unfold mayT
  dsimp only at hl ⊢
  rw [if_pos (by cases b <;> simp)]
  unfold attrsOk
  rw [h1, h2]
  simp [hl]
theorem oneL_text1 {l r : List UInt8} {t : Tk} (h : oneL l = some (t, r)) (hp : isP l = true) (hl : l.length ≤ 16384) : mayL t ∧ isP r = true ∧ (writeT t).length + 6 * r.length ≤ 6 * l.length := by
  rcases oneL_kind h with ⟨h1, s, rfl, ht⟩ | ⟨h1, h2, a, x, rfl, h3, h4, h5, rfl, h6⟩
  · have k0 := (isP_split (a := []) (c := 60) hp (by decide)).2.1
    rw [List.length_cons] at hl
    rcases (tagL_iff _ _ _).1 ht with ⟨g, rfl, k1, k2, k3⟩ | ⟨b, y, rfl, k1, k2, k3⟩
    · have q1 := (isP_split (a := []) (c := 47) k0 (by decide)).2.1
      have q2 := isP_behind q1 (fun c hc => wch_low (fullL_all k1 c hc))
      have q3 := isP_behind q2 (fun c hc => blk_low (k2 c hc))
      have q4 := (isP_split (a := []) (c := 62) q3 (by decide)).2.1
      refine ⟨fun _ => ?_, q4, ?_⟩
      · rw [k3]
        unfold mayT
        simp [k1]
      · rw [k3]
        unfold writeT
        simp only [List.length_append, List.length_cons]
        rw [if_neg (by decide), if_pos trivial]
        simp only [List.length_append, List.length_cons, List.length_nil]
        omega
    · have q2 := isP_behind k0 (fun c hc => wch_low (fullL_all k1 c hc))
      rw [List.length_append] at hl
      obtain ⟨more, e1, e2, e3, e4⟩ := k2.text q2 (by omega)
      rw [List.nil_append] at e1
      rw [k3]
      refine ⟨mayL_tag k1 (by rw [e1]; exact e2), e3, ?_⟩
      unfold writeT
      rw [e1]
      dsimp only
      rw [if_neg (by cases b <;> simp), if_neg (by cases b <;> simp)]
      simp only [List.length_append, List.length_cons]
      cases b
      · rw [if_neg (by simp)]
        simp only [List.length_cons, List.length_nil, Bool.false_eq_true, if_false] at e4 ⊢
        omega
      · rw [if_pos (by simp)]
        simp only [List.length_cons, List.length_nil, if_true] at e4 ⊢
        omega
  · have ha : isP a = true ∧ isP r = true := by
      cases r with
      | nil => rw [List.append_nil] at hp; exact ⟨hp, rfl⟩
      | cons c s =>
        obtain rfl := h6 c s rfl
        obtain ⟨q1, q2, q3⟩ := isP_split hp (by decide)
        exact ⟨q1, isP_app (a := [60]) (by decide +kernel) q2⟩
    have hx := rd_text _ _ _ (Nat.le_refl _) ha.1 h5
    obtain ⟨hx2, hx3⟩ := rd_len _ _ _ (Nat.le_refl _) h5
    rw [List.length_append] at hl
    have hel := (escL_len false x).2
    refine ⟨fun _ => ?_, ha.2, ?_⟩
    · unfold mayT
      have : x ≠ [] := hx3 h3
      have h16 : x.length ≤ 16384 := by omega
      simp [okT, hx, this, h16]
    · unfold writeT
      rw [if_pos rfl, List.length_append]
      dsimp only
      omega
theorem LexI.text {a : List Tk} {l : List UInt8} (h : LexI a l) (hp : isP l = true) (hl : l.length ≤ 16384) : (∀ t ∈ a, mayL t) ∧ apart a = true ∧ (a.flatMap writeT).length ≤ 6 * l.length := by
  induction h with
  | nil => exact ⟨fun t h => (by cases h), rfl, Nat.le_refl _⟩
  | cons t ts l r h1 h2 ih =>
    obtain ⟨k1, k2, k3⟩ := oneL_text1 h1 hp hl
    have := oneL_len h1
    obtain ⟨i1, i2, i3⟩ := ih k2 (by omega)
    refine ⟨fun x hx => ?_, ?_, ?_⟩
    · rcases List.mem_cons.1 hx with rfl | hx
      · exact k1
      · exact i1 x hx
    · cases ts with
      | nil => rfl
      | cons u ts =>
        unfold apart
        rw [i2, Bool.and_true]
        rcases oneL_kind h1 with ⟨q1, _⟩ | ⟨q1, _, a, x, _, _, _, _, _, q6⟩
        · simp [q1]
        · cases h2 with
          | cons _ _ _ r2 h3 h4 =>
            rcases oneL_kind h3 with ⟨p1, _⟩ | ⟨_, p2, b, x2, rfl, p3, p4, _⟩
            · simp [p1]
            · exfalso
              cases b with
              | nil => exact p3 rfl
              | cons c s => exact p4 c (by simp) (q6 c (s ++ r2) rfl)
    · rw [List.flatMap_cons, List.length_append]
      omega
def lexE : Nat → Nat → List UInt8 → Except (Int × Nat) (List Tk)
  | _, _, [] => .ok []
  | 0, _, _ :: _ => .ok []
  | f + 1, n, c :: l => match oneL (c :: l) with
    | none => .error (if n = 512 then 4 else 80, l.length + 1)
    | some (t, r) => if n = 512 ∨ 16 < t.attrs.length then .error (4, l.length + 1) else (lexE f (n + 1) r).map (t :: ·)
theorem lexE_ok : ∀ (f n : Nat) (l : List UInt8) (ts : List Tk), l.length ≤ f → n ≤ 512 → (lexE f n l = .ok ts ↔ LexI ts l ∧ n + ts.length ≤ 512 ∧ ∀ t ∈ ts, t.attrs.length ≤ 16) := by
  intro f
  induction f with
  | zero =>
    intro n l ts hl hn
    obtain rfl := List.eq_nil_of_length_eq_zero (Nat.le_zero.1 hl)
    constructor
    · intro h
      obtain rfl : [] = ts := Except.ok.inj h
      exact ⟨.nil, hn, fun t h => by cases h⟩
    · rintro ⟨h, _⟩
      cases h with
      | nil => rfl
      | cons t ts l r h1 h2 => cases h1
  | succ f ih =>
    intro n l ts hl hn
    cases l with
    | nil =>
      constructor
      · intro h
        obtain rfl : [] = ts := Except.ok.inj h
        exact ⟨.nil, hn, fun t h => by cases h⟩
      · rintro ⟨h, _⟩
        cases h with
        | nil => rfl
        | cons t ts l r h1 h2 => cases h1
    | cons c l =>
      show (match oneL (c :: l) with | none => _ | some (t, r) => _) = _ ↔ _
      cases ho : oneL (c :: l) with
      | none =>
        constructor
        · intro h; cases h
        · rintro ⟨h, _⟩
          cases h with
          | cons t ts _ r h1 h2 => rw [ho] at h1; cases h1
      | some q =>
        obtain ⟨t, r⟩ := q
        have hrl := oneL_len ho
        dsimp only
        by_cases hc : n = 512 ∨ 16 < t.attrs.length
        · rw [if_pos hc]
          constructor
          · intro h; cases h
          · rintro ⟨h, h2, h3⟩
            cases h with
            | cons t' ts _ r' h1 h4 =>
              rw [ho] at h1
              obtain ⟨rfl, rfl⟩ := (Prod.mk.injEq _ _ _ _).mp (Option.some.inj h1)
              rw [List.length_cons] at h2
              have := h3 t (by simp)
              omega
        · rw [if_neg hc]
          have hn2 : n + 1 ≤ 512 := by omega
          rw [List.length_cons] at hl hrl
          constructor
          · intro h
            cases he : lexE f (n + 1) r with
            | error e => rw [he] at h; cases h
            | ok ts' =>
              rw [he] at h
              obtain rfl : t :: ts' = ts := Except.ok.inj h
              obtain ⟨k1, k2, k3⟩ := (ih (n + 1) r ts' (by omega) hn2).1 he
              refine ⟨.cons t ts' _ r ho k1, by rw [List.length_cons]; omega, fun x hx => ?_⟩
              rcases List.mem_cons.1 hx with rfl | hx
              · omega
              · exact k3 x hx
          · rintro ⟨h, h2, h3⟩
            cases h with
            | cons t' ts _ r' h1 h4 =>
              rw [ho] at h1
              obtain ⟨rfl, rfl⟩ := (Prod.mk.injEq _ _ _ _).mp (Option.some.inj h1)
              rw [List.length_cons] at h2
              rw [(ih (n + 1) r ts (by omega) hn2).2 ⟨h4, by omega, fun x hx => h3 x (by simp [hx])⟩]
              rfl
theorem lexE_err : ∀ (f n : Nat) (l : List UInt8) (e : Int) (k : Nat), l.length ≤ f → n ≤ 512 → lexE f n l = .error (e, k) → (e = 4 ∨ e = 80) ∧ 0 < k ∧ k ≤ l.length := by
  intro f
  induction f with
  | zero =>
    intro n l e k hl hn h
    obtain rfl := List.eq_nil_of_length_eq_zero (Nat.le_zero.1 hl)
    cases h
  | succ f ih =>
    intro n l e k hl hn h
    cases l with
    | nil => cases h
    | cons c l =>
      have h' : (match oneL (c :: l) with
        | none => Except.error (if n = 512 then (4 : Int) else 80, l.length + 1)
        | some (t, r) => if n = 512 ∨ 16 < t.attrs.length then .error (4, l.length + 1) else (lexE f (n + 1) r).map (t :: ·)) = Except.error (e, k) := h
      cases ho : oneL (c :: l) with
      | none =>
        rw [ho] at h'
        dsimp only at h'
        obtain ⟨rfl, rfl⟩ := (Prod.mk.injEq _ _ _ _).mp (Except.error.inj h')
        refine ⟨?_, by omega, by rw [List.length_cons]; omega⟩
        split
        · exact .inl rfl
        · exact .inr rfl
      | some q =>
        obtain ⟨t, r⟩ := q
        rw [ho] at h'
        dsimp only at h'
        have hrl := oneL_len ho
        rw [List.length_cons] at hl hrl
        by_cases hc : n = 512 ∨ 16 < t.attrs.length
        · rw [if_pos hc] at h'
          obtain ⟨rfl, rfl⟩ := (Prod.mk.injEq _ _ _ _).mp (Except.error.inj h')
          exact ⟨.inl rfl, by omega, by rw [List.length_cons]; omega⟩
        · rw [if_neg hc] at h'
          cases he : lexE f (n + 1) r with
          | error p =>
            obtain ⟨e', k'⟩ := p
            rw [he] at h'
            obtain ⟨rfl, rfl⟩ := (Prod.mk.injEq _ _ _ _).mp (Except.error.inj h')
            obtain ⟨q1, q2, q3⟩ := ih (n + 1) r e' k' (by omega) (by omega) he
            exact ⟨q1, q2, by rw [List.length_cons]; omega⟩
          | ok ts => rw [he] at h'; cases h'
def lexR (l : List UInt8) : List Tk × Int × Int :=
  if 16384 < l.length then ([], 0, 4) else if isP l then (match lexE l.length 0 l with | .ok ts => (ts, 0, 0) | .error (e, k) => ([], (l.length : Int) - k, e)) else ([], 0, 50)
theorem lexR_ok {l : List UInt8} {ts : List Tk} {n : Int} (h : lexR l = (ts, n, 0)) : n = 0 ∧ LexI ts l ∧ isP l = true ∧ l.length ≤ 16384 ∧ ts.length ≤ 512 ∧ ∀ t ∈ ts, t.attrs.length ≤ 16 := by
  unfold lexR at h
  by_cases h1 : 16384 < l.length
  · rw [if_pos h1] at h; cases h
  · rw [if_neg h1] at h
    by_cases h2 : isP l = true
    · rw [if_pos h2] at h
      cases he : lexE l.length 0 l with
      | ok a =>
        rw [he] at h
        obtain ⟨rfl, rfl⟩ : a = ts ∧ 0 = n := by simpa using h
        obtain ⟨k1, k2, k3⟩ := (lexE_ok _ _ _ _ (Nat.le_refl _) (by omega)).1 he
        exact ⟨rfl, k1, h2, by omega, by omega, k3⟩
      | error p =>
        obtain ⟨e, k⟩ := p
        rw [he] at h
        obtain ⟨q, _⟩ := lexE_err _ _ _ _ _ (Nat.le_refl _) (by omega) he
        have : e = 0 := by simp at h; exact h.2.2
        omega
    · rw [if_neg h2] at h; cases h
theorem mayT_attrs {t : Tk} (h : mayT t = true) : t.attrs.length ≤ 16 := by
  rcases mayT_cases h with ⟨b, _, _, h3, _⟩ | ⟨_, _, h3, _⟩ | ⟨_, _, h3, _⟩
  · unfold attrsOk at h3
    rw [Bool.and_eq_true, decide_eq_true_eq] at h3
    exact h3.2
  · rw [h3]; simp
  · rw [h3]; simp
end Lx
end Go.Proofs.YtlhjcdkkmloamaaGreatDoor
namespace Go.Proofs.YtlhjcdkkmloamaaGreatDoor
open Go.RowKit
namespace Hx
open Lx
set_option linter.unusedVariables false
def PrC : Cod Pr where
  k := 2
  R _ _ cs p := ∃ s t : ByteArray, cs = [.string s, .string t] ∧ s.data.toList = p.name ∧ t.data.toList = p.value
  len := by rintro _ _ _ _ ⟨s, t, rfl, _⟩; rfl
  keep := fun h _ _ => h
def TkC : Cod Tk where
  k := 4
  R w B cs t := ∃ (s : ByteArray) (A : Option Addr) (c : Nat) (u : ByteArray), cs = [.int .u8 (t.kind : Int), .string s, .slice A t.attrs.length c, .string u] ∧ t.kind < 256 ∧ s.data.toList = t.name ∧ u.data.toList = t.text ∧ t.attrs.length ≤ c ∧ c ≤ maxLen ∧ (A = none → c = 0) ∧ RdC PrC w B A t.attrs
  len := by rintro _ _ _ _ ⟨s, A, c, u, rfl, _⟩; rfl
  keep := fun ⟨s, A, c, u, h1, h2, h3, h4, h5, h6, h7, h8⟩ hB hk => ⟨s, A, c, u, h1, h2, h3, h4, h5, h6, h7, h8.keep hB hk⟩
section
variable {H : Type} {enc : TypeId × Value → H}
end
end Hx
end Go.Proofs.YtlhjcdkkmloamaaGreatDoor
namespace Go.Proofs.YtlhjcdkkmloamaaGreatDoor
open Go.RowKit
namespace Hx
set_option linter.unusedVariables false
theorem kept_heap {a b : World} {k : Nat} {o : Obj} (h : a.heap[k]? = some o) (hb : Below a.heap.size a b) : b.heap[k]? = some o := (hb.block k (Array.getElem?_eq_some_iff.1 h).1).trans h
theorem lt_heap {a : World} {k : Nat} {o : Obj} (h : a.heap[k]? = some o) : k < a.heap.size := (Array.getElem?_eq_some_iff.1 h).1
theorem below_setRowV {B g : Nat} {w0 w : World} (hb : Below B w0 w) (hBg : B ≤ g) (cs : Array Value) : Below B w0 (w.setRow g cs) :=
  hb.trans ⟨rfl, rfl, rfl, by simp [World.setRow], fun k hk => setRow_other w g k cs (by omega)⟩
theorem below_drewN {B : Nat} {a w : World} (h : Below B a w) (n : Nat) : Below B a (w.drewN n) := ⟨h.os, h.tape, h.output, h.size, h.block⟩
end Hx
end Go.Proofs.YtlhjcdkkmloamaaGreatDoor
