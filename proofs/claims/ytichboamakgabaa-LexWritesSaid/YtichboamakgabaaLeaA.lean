/-
  Plain mathematics for package lex as it landed: names that come twice, asked at the end; a tag read without asking; what is cut at a sign.
-/
import Derived.Test.YtichboamakgabaaLexP
namespace Go.Proofs.Ytichboamakgabaa
namespace Lx
open Tx Nmb Es
set_option linter.unusedVariables false
/-- Are the names new, behind others? -/
def fresh : List Pr → List Pr → Bool
  | _, [] => true
  | acc, p :: r => !hasL acc p.name && fresh (acc ++ [p]) r
theorem fresh_snoc : ∀ (l acc : List Pr) (p : Pr), fresh acc (l ++ [p]) = (fresh acc l && !hasL (acc ++ l) p.name) := by
  intro l
  induction l with
  | nil => intro acc p; simp [fresh]
  | cons q l ih =>
    intro acc p
    rw [List.cons_append]
    show (!hasL acc q.name && fresh (acc ++ [q]) (l ++ [p])) = ((!hasL acc q.name && fresh (acc ++ [q]) l) && _)
    rw [ih, List.append_assoc, List.singleton_append, Bool.and_assoc]
/-- How many different names there are. -/
def dis : List Pr → List Pr → Nat
  | _, [] => 0
  | acc, p :: r => (if hasL acc p.name then 0 else 1) + dis (acc ++ [p]) r
theorem dis_snoc : ∀ (l acc : List Pr) (p : Pr), dis acc (l ++ [p]) = dis acc l + (if hasL (acc ++ l) p.name then 0 else 1) := by
  intro l
  induction l with
  | nil => intro acc p; simp [dis]
  | cons q l ih =>
    intro acc p
    rw [List.cons_append]
    show (if hasL acc q.name then 0 else 1) + dis (acc ++ [q]) (l ++ [p]) = ((if hasL acc q.name then 0 else 1) + dis (acc ++ [q]) l) + _
    rw [ih, List.append_assoc, List.singleton_append, Nat.add_assoc]
theorem dis_le : ∀ (l acc : List Pr), dis acc l ≤ l.length ∧ (dis acc l = l.length ↔ fresh acc l = true) := by
  intro l
  induction l with
  | nil => intro acc; simp [dis, fresh]
  | cons q l ih =>
    intro acc
    obtain ⟨h1, h2⟩ := ih (acc ++ [q])
    unfold dis fresh
    rw [List.length_cons]
    cases hh : hasL acc q.name
    · simp
      refine ⟨by omega, ?_⟩
      rw [← h2]
      omega
    · simp
      omega
theorem attrsF_fresh : ∀ (l acc : List Pr), attrsF acc l = (fresh acc l && l.all fun p => fullL p.name && okT p.value) := by
  intro l
  induction l with
  | nil => intro acc; rfl
  | cons p l ih =>
    intro acc
    unfold attrsF fresh
    rw [ih, List.all_cons]
    cases fullL p.name <;> cases hasL acc p.name <;> cases okT p.value <;> simp
/-- The tag whose name stands ahead of a text, names that come twice let through. -/
def tagN : Nat → List UInt8 → Option (Bool × List Pr × List UInt8)
  | 0, _ => none
  | f + 1, l => match l.dropWhile blk with
    | [] => none
    | c :: x => if c = 62 then some (false, [], x) else if c = 47 ∧ x.head? = some 62 then some (true, [], x.tail) else
      match attrL (c :: x) with
      | none => none
      | some (p, y) => if l.length = (c :: x).length then none else (tagN f y).map fun q => (q.1, p :: q.2.1, q.2.2)
theorem tagN_same : ∀ (f g : Nat) (l : List UInt8), l.length < f → l.length < g → tagN f l = tagN g l := by
  intro f
  induction f with
  | zero => intro g l h; omega
  | succ f ih =>
    intro g l h1 h2
    cases g with
    | zero => omega
    | succ g =>
      unfold tagN
      have hd := dropWhile_len blk l
      cases hb : l.dropWhile blk with
      | nil => rfl
      | cons c x =>
        dsimp only
        split
        · rfl
        split
        · rfl
        cases ha : attrL (c :: x) with
        | none => rfl
        | some q =>
          obtain ⟨p, y⟩ := q
          have hl := attrL_len ha
          rw [hb] at hd
          dsimp only
          split
          · rfl
          rw [ih g y (by omega) (by omega)]
/-- .. and then asked. -/
theorem tagF_N : ∀ (f : Nat) (acc : List Pr) (l : List UInt8), tagF f acc l = match tagN f l with
    | none => none
    | some (b, m, x) => if fresh acc m = true then some (b, acc ++ m, x) else none := by
  intro f
  induction f with
  | zero => intro acc l; rfl
  | succ f ih =>
    intro acc l
    unfold tagF tagN
    cases hb : l.dropWhile blk with
    | nil => rfl
    | cons c x =>
      dsimp only
      by_cases h1 : c = 62
      · rw [if_pos h1, if_pos h1]
        simp [fresh]
      rw [if_neg h1, if_neg h1]
      by_cases h2 : c = 47 ∧ x.head? = some 62
      · rw [if_pos h2, if_pos h2]
        simp [fresh]
      rw [if_neg h2, if_neg h2]
      cases ha : attrL (c :: x) with
      | none => rfl
      | some q =>
        obtain ⟨p, y⟩ := q
        dsimp only
        by_cases h3 : l.length = (c :: x).length
        · rw [if_pos (.inl h3), if_pos h3]
        · rw [if_neg h3]
          by_cases h4 : hasL acc p.name = true
          · rw [if_pos (.inr h4)]
            cases tagN f y with
            | none => rfl
            | some r =>
              obtain ⟨b, m, z⟩ := r
              simp [fresh, h4]
          · rw [if_neg (by rintro (h | h); exact h3 h; exact h4 h), ih]
            cases tagN f y with
            | none => rfl
            | some r =>
              obtain ⟨b, m, z⟩ := r
              simp [fresh, h4]
def tagH (l : List UInt8) : Option (Bool × List Pr × List UInt8) := tagN (l.length + 1) l
theorem tagH_nil {l : List UInt8} (h : l.dropWhile blk = []) : tagH l = none := by unfold tagH tagN; rw [h]
theorem tagH_shut {l x : List UInt8} (h : l.dropWhile blk = 62 :: x) : tagH l = some (false, [], x) := by unfold tagH tagN; rw [h]; simp
theorem tagH_bare {l x : List UInt8} (h : l.dropWhile blk = 47 :: 62 :: x) : tagH l = some (true, [], x) := by unfold tagH tagN; rw [h]; simp
/-- No end of a tag stands here. -/
def noEnd9 (l : List UInt8) : Prop := l.head? ≠ some 62 ∧ l.take 2 ≠ [47, 62]
theorem noEnd9_cons {c : UInt8} {x : List UInt8} (h : noEnd9 (c :: x)) : c ≠ 62 ∧ ¬ (c = 47 ∧ x.head? = some 62) := by
  obtain ⟨h1, h2⟩ := h
  refine ⟨fun e => h1 (by rw [e]; rfl), ?_⟩
  rintro ⟨rfl, h4⟩
  cases x with
  | nil => cases h4
  | cons d x => injection h4 with h4; exact h2 (by rw [h4]; rfl)
theorem tagH_none {l : List UInt8} (h : noEnd9 (l.dropWhile blk)) (h2 : (l.dropWhile blk).length = l.length ∨ attrL (l.dropWhile blk) = none) : tagH l = none := by
  unfold tagH tagN
  cases hb : l.dropWhile blk with
  | nil => rfl
  | cons c x =>
    rw [hb] at h h2
    obtain ⟨h3, h4⟩ := noEnd9_cons h
    dsimp only
    rw [if_neg h3, if_neg h4]
    rcases h2 with h2 | h2
    · cases attrL (c :: x) with
      | none => rfl
      | some q => dsimp only; rw [if_pos h2.symm]
    · rw [h2]
theorem tagH_next {l y : List UInt8} {p : Pr} (h : noEnd9 (l.dropWhile blk)) (h2 : (l.dropWhile blk).length ≠ l.length) (ha : attrL (l.dropWhile blk) = some (p, y)) : tagH l = (tagH y).map fun q => (q.1, p :: q.2.1, q.2.2) := by
  have hd := dropWhile_len blk l
  have hl := attrL_len ha
  unfold tagH
  conv => lhs; unfold tagN
  cases hb : l.dropWhile blk with
  | nil => rw [hb] at ha; cases ha
  | cons c x =>
    rw [hb] at h h2 ha hd hl
    obtain ⟨h3, h4⟩ := noEnd9_cons h
    dsimp only
    rw [if_neg h3, if_neg h4, ha]
    dsimp only
    rw [if_neg (fun e => h2 e.symm), tagN_same l.length (y.length + 1) y (by omega) (by omega)]
/-- The tag behind < and a name. -/
theorem tagL_H {l : List UInt8} (h47 : l.head? ≠ some 47) (hw : wordL l ≠ []) : tagL l = match tagH (l.drop (wordL l).length) with
    | none => none
    | some (b, m, x) => if fresh [] m = true then some (⟨if b then 3 else 1, wordL l, m, []⟩, x) else none := by
  unfold tagL tagH
  rw [if_neg h47, if_neg hw, tagF_N, tagN_same (l.length + 1) ((l.drop (wordL l).length).length + 1) _ (by rw [List.length_drop]; omega) (by omega)]
  cases tagN ((l.drop (wordL l).length).length + 1) (l.drop (wordL l).length) with
  | none => rfl
  | some r =>
    obtain ⟨b, m, x⟩ := r
    dsimp only
    by_cases hf : fresh [] m = true
    · rw [if_pos hf, if_pos hf]
      simp
    · rw [if_neg hf, if_neg hf]
      rfl
theorem tagL_no {l : List UInt8} (h47 : l.head? ≠ some 47) (hw : wordL l = []) : tagL l = none := by unfold tagL; rw [if_neg h47, if_pos hw]
theorem tagL_47 {l : List UInt8} : tagL (47 :: l) = shutL l := by unfold tagL; simp
theorem tw_len (p : UInt8 → Bool) (l : List UInt8) : l.drop (l.takeWhile p).length = l.dropWhile p ∧ l.take (l.takeWhile p).length = l.takeWhile p := by
  induction l with
  | nil => simp
  | cons c l ih =>
    by_cases h : p c = true
    · rw [List.takeWhile_cons_of_pos h, List.dropWhile_cons_of_pos h, List.length_cons, List.drop_succ_cons, List.take_succ_cons, ih.1, ih.2]
      exact ⟨rfl, rfl⟩
    · rw [List.takeWhile_cons_of_neg h, List.dropWhile_cons_of_neg h]
      exact ⟨rfl, rfl⟩
/-- Full names: what stands there, if it is one. -/
theorem wordL_of (l : List UInt8) : (fullL (l.takeWhile wch) = true → wordL l = l.takeWhile wch ∧ wordL l ≠ [] ∧ l.drop (wordL l).length = l.dropWhile wch) ∧ (fullL (l.takeWhile wch) = false → wordL l = []) := by
  refine ⟨fun h => ?_, fun h => ?_⟩
  · have e : wordL l = l.takeWhile wch := by unfold wordL; rw [if_pos h]
    refine ⟨e, by rw [e]; exact fullL_ne h, ?_⟩
    rw [e]
    exact (tw_len wch l).1
  · unfold wordL
    rw [if_neg (by rw [h]; decide)]
/-- What is not a sign. -/
def ne (q c : UInt8) : Bool := c != q
theorem ne_iff (q c : UInt8) : ne q c = true ↔ c ≠ q := by unfold ne; simp
theorem cutQ_ne (q : UInt8) (l : List UInt8) : cutQ q l = match l.dropWhile (ne q) with | [] => none | _ :: y => some (l.takeWhile (ne q), y) := by
  obtain ⟨h1, h2, h3⟩ := tw_split (ne q) l
  cases hd : l.dropWhile (ne q) with
  | nil =>
    rw [hd, List.append_nil] at h1
    dsimp only
    refine cutQ_none fun hm => ?_
    rw [h1] at hm
    exact (ne_iff q q).1 (h2 q hm) rfl
  | cons c y =>
    have hc := h3 c y hd
    have : c = q := by unfold ne at hc; simpa using hc
    subst this
    rw [hd] at h1
    dsimp only
    conv => lhs; rw [h1]
    refine cutQ_of y fun hm => (ne_iff c c).1 (h2 c hm) rfl
theorem txt_ne : txt = ne 60 := rfl
end Lx
end Go.Proofs.Ytichboamakgabaa
