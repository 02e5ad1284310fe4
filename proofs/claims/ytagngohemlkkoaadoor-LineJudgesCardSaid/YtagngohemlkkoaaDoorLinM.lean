/-
  Plain mathematics of first lines: cuts at one byte, digits, a line's text and what a text tells.
-/
import Derived.Test.YtagngohemlkkoaaDoorAscM
import Derived.Test.YtagngohemlkkoaaDoorNumM
namespace Go.Proofs.YtagngohemlkkoaaDoor
namespace Ln
open As Nmb
set_option linter.unusedVariables false
/-- The first cut at a byte. -/
def cutAt (c : UInt8) : List UInt8 → Option (List UInt8 × List UInt8)
  | [] => none
  | x :: r => if x = c then some ([], r) else (cutAt c r).map fun p => (x :: p.1, p.2)
theorem cutAt_app (c : UInt8) : ∀ (a b : List UInt8), c ∉ a → cutAt c (a ++ c :: b) = some (a, b)
  | [], b, _ => by simp [cutAt]
  | x :: a, b, h => by
    have hx : x ≠ c := fun e => h (by rw [e]; simp)
    rw [List.cons_append, cutAt, if_neg hx, cutAt_app c a b (fun hc => h (List.mem_cons_of_mem _ hc))]
    rfl
theorem cutAt_some {c : UInt8} : ∀ {l a b : List UInt8}, cutAt c l = some (a, b) → l = a ++ c :: b ∧ c ∉ a
  | [], a, b, h => by cases h
  | x :: r, a, b, h => by
    rw [cutAt] at h
    by_cases hx : x = c
    · rw [if_pos hx] at h
      cases h
      exact ⟨by rw [hx]; rfl, by simp⟩
    · rw [if_neg hx] at h
      cases hr : cutAt c r with
      | none => rw [hr] at h; cases h
      | some p =>
        rw [hr] at h
        cases h
        obtain ⟨h1, h2⟩ := cutAt_some (a := p.1) (b := p.2) hr
        refine ⟨by rw [List.cons_append, ← h1], ?_⟩
        rw [List.mem_cons, not_or]
        exact ⟨fun e => hx e.symm, h2⟩
theorem cutAt_none {c : UInt8} : ∀ {l : List UInt8}, cutAt c l = none → c ∉ l
  | [], _ => by simp
  | x :: r, h => by
    rw [cutAt] at h
    by_cases hx : x = c
    · rw [if_pos hx] at h; cases h
    · rw [if_neg hx] at h
      cases hr : cutAt c r with
      | none =>
        rw [List.mem_cons, not_or]
        exact ⟨fun e => hx e.symm, cutAt_none hr⟩
      | some p => rw [hr] at h; cases h
/-- A byte of a target. -/
def tgb (c : UInt8) : Bool := decide (33 ≤ c.toNat) && decide (c.toNat ≤ 126)
def isTgt (l : List UInt8) : Bool := l.all tgb && !l.isEmpty
theorem tgb_no : tgb 32 = false := by decide
theorem tok_sp {x : List UInt8} (h : isTok x = true) : (32 : UInt8) ∉ x := fun hc => absurd ((tok_all h).1 _ hc) (by decide)
theorem tgt_all {x : List UInt8} (h : isTgt x = true) : (∀ c ∈ x, tgb c = true) ∧ x ≠ [] := by
  unfold isTgt at h
  rw [Bool.and_eq_true, List.all_eq_true] at h
  exact ⟨h.1, by cases x <;> simp_all⟩
theorem tgt_sp {x : List UInt8} (h : isTgt x = true) : (32 : UInt8) ∉ x := fun hc => absurd ((tgt_all h).1 _ hc) (by decide)
/-- A line. -/
structure Li where
  meth : List UInt8
  targ : List UInt8
  great : Int
  small : Int
def zLi : Li := ⟨[], [], 0, 0⟩
def inP (n : Int) : Bool := decide (0 ≤ n) && decide (n ≤ 9)
theorem inP_iff {n : Int} : inP n = true ↔ 0 ≤ n ∧ n ≤ 9 := by simp [inP]
def mayL (l : Li) : Bool := isTok l.meth && isTgt l.targ && inP l.great && inP l.small
theorem mayL_iff {l : Li} : mayL l = true ↔ isTok l.meth = true ∧ isTgt l.targ = true ∧ inP l.great = true ∧ inP l.small = true := by
  simp [mayL, and_assoc]
def http : List UInt8 := [72, 84, 84, 80, 47]
def verT (g s : Int) : List UInt8 := http ++ (dg g.toNat ++ 46 :: dg s.toNat)
def textL (l : Li) : List UInt8 := l.meth ++ 32 :: (l.targ ++ 32 :: verT l.great l.small)
/-- A digit's number. -/
def digL : List UInt8 → Option Nat
  | [b] => if isDg b then some (b.toNat - 48) else none
  | _ => none
theorem digL_iff {l : List UInt8} {n : Nat} : digL l = some n ↔ n ≤ 9 ∧ l = dg n := by
  constructor
  · intro h
    match l, h with
    | [b], h =>
      rw [digL] at h
      by_cases hb : isDg b = true
      · rw [if_pos hb] at h
        cases h
        have h2 := dgt_of hb
        simp [isDg] at hb
        exact ⟨by omega, by rw [dg_small (by omega), h2]⟩
      · rw [if_neg hb] at h; cases h
  · rintro ⟨hn, rfl⟩
    rw [dg_small (by omega), digL, if_pos (isDg_dgt (by omega)), dgt_nat (by omega)]
    congr 1
    omega
theorem dg_point (n : Nat) : (46 : UInt8) ∉ dg n := dg_not n 46 (by decide)
/-- What stands behind a line's target. -/
def numsL (l : List UInt8) : Option (Nat × Nat) :=
  match cutAt 46 l with
  | none => none
  | some (a, b) => match digL a with
    | none => none
    | some g => match digL b with
      | none => none
      | some s => some (g, s)
def verL (l : List UInt8) : Option (Nat × Nat) := if l.take 5 = http then numsL (l.drop 5) else none
theorem numsL_iff {l : List UInt8} {g s : Nat} : numsL l = some (g, s) ↔ g ≤ 9 ∧ s ≤ 9 ∧ l = dg g ++ 46 :: dg s := by
  unfold numsL
  constructor
  · intro h
    cases hc : cutAt 46 l with
    | none => rw [hc] at h; cases h
    | some p =>
      obtain ⟨a, b⟩ := p
      rw [hc] at h
      dsimp only at h
      cases ha : digL a with
      | none => rw [ha] at h; cases h
      | some g' =>
        rw [ha] at h
        dsimp only at h
        cases hb : digL b with
        | none => rw [hb] at h; cases h
        | some s' =>
          rw [hb] at h
          cases h
          obtain ⟨g1, rfl⟩ := digL_iff.1 ha
          obtain ⟨s1, rfl⟩ := digL_iff.1 hb
          exact ⟨g1, s1, (cutAt_some hc).1⟩
  · rintro ⟨hg, hs, rfl⟩
    rw [cutAt_app 46 _ _ (dg_point g)]
    dsimp only
    rw [digL_iff.2 ⟨hg, rfl⟩]
    dsimp only
    rw [digL_iff.2 ⟨hs, rfl⟩]
theorem verL_iff {l : List UInt8} {g s : Nat} : verL l = some (g, s) ↔ g ≤ 9 ∧ s ≤ 9 ∧ l = verT g s := by
  unfold verL verT
  constructor
  · intro h
    by_cases hp : l.take 5 = http
    · rw [if_pos hp] at h
      obtain ⟨h1, h2, h3⟩ := numsL_iff.1 h
      refine ⟨h1, h2, ?_⟩
      rw [Int.toNat_natCast, Int.toNat_natCast, ← h3, ← hp, List.take_append_drop]
    · rw [if_neg hp] at h; cases h
  · rintro ⟨hg, hs, rfl⟩
    rw [Int.toNat_natCast, Int.toNat_natCast]
    rw [if_pos (by rfl)]
    exact numsL_iff.2 ⟨hg, hs, rfl⟩
/-- What stands behind a line's method. -/
def behindL (l : List UInt8) : Option (List UInt8 × Nat × Nat) :=
  match cutAt 32 l with
  | none => none
  | some (t, v) => if isTgt t then match verL v with
    | none => none
    | some (g, s) => some (t, g, s)
    else none
theorem behindL_iff {l t : List UInt8} {g s : Nat} : behindL l = some (t, g, s) ↔ isTgt t = true ∧ g ≤ 9 ∧ s ≤ 9 ∧ l = t ++ 32 :: verT g s := by
  unfold behindL
  constructor
  · intro h
    cases hc : cutAt 32 l with
    | none => rw [hc] at h; cases h
    | some p =>
      obtain ⟨t', v⟩ := p
      rw [hc] at h
      dsimp only at h
      by_cases ht : isTgt t' = true
      · rw [if_pos ht] at h
        cases hv : verL v with
        | none => rw [hv] at h; cases h
        | some q =>
          obtain ⟨g', s'⟩ := q
          rw [hv] at h
          cases h
          obtain ⟨h1, h2, h3⟩ := verL_iff.1 hv
          exact ⟨ht, h1, h2, by rw [← h3]; exact (cutAt_some hc).1⟩
      · rw [if_neg ht] at h; cases h
  · rintro ⟨ht, hg, hs, rfl⟩
    rw [cutAt_app 32 _ _ (tgt_sp ht)]
    dsimp only
    rw [if_pos ht, verL_iff.2 ⟨hg, hs, rfl⟩]
/-- The line that a text tells. -/
def parseL (l : List UInt8) : Option Li :=
  match cutAt 32 l with
  | none => none
  | some (m, r) => if isTok m then match behindL r with
    | none => none
    | some (t, g, s) => some ⟨m, t, g, s⟩
    else none
theorem parseL_iff {l : List UInt8} {x : Li} : parseL l = some x ↔ mayL x = true ∧ textL x = l := by
  unfold parseL
  constructor
  · intro h
    cases hc : cutAt 32 l with
    | none => rw [hc] at h; cases h
    | some p =>
      obtain ⟨m, r⟩ := p
      rw [hc] at h
      dsimp only at h
      by_cases ht : isTok m = true
      · rw [if_pos ht] at h
        cases hv : behindL r with
        | none => rw [hv] at h; cases h
        | some q =>
          obtain ⟨t, g, s⟩ := q
          rw [hv] at h
          cases h
          obtain ⟨h1, h2, h3, h4⟩ := behindL_iff.1 hv
          refine ⟨mayL_iff.2 ⟨ht, h1, inP_iff.2 (by dsimp only; omega), inP_iff.2 (by dsimp only; omega)⟩, ?_⟩
          unfold textL
          dsimp only
          rw [← h4]
          exact ((cutAt_some hc).1).symm
      · rw [if_neg ht] at h; cases h
  · rintro ⟨hm, rfl⟩
    obtain ⟨h1, h2, h3, h4⟩ := mayL_iff.1 hm
    obtain ⟨m, t, g, s⟩ := x
    dsimp only at h1 h2 h3 h4
    rw [inP_iff] at h3 h4
    obtain ⟨g, rfl⟩ := Int.eq_ofNat_of_zero_le h3.1
    obtain ⟨s, rfl⟩ := Int.eq_ofNat_of_zero_le h4.1
    unfold textL
    dsimp only
    rw [cutAt_app 32 _ _ (tok_sp h1)]
    dsimp only
    rw [if_pos h1, behindL_iff.2 ⟨h2, by omega, by omega, rfl⟩]
theorem parse_text {x : Li} (h : mayL x = true) : parseL (textL x) = some x := parseL_iff.2 ⟨h, rfl⟩
theorem text_inj {x y : Li} (hx : mayL x = true) (hy : mayL y = true) (h : textL x = textL y) : x = y := by
  have h1 := parse_text hx
  rw [h, parse_text hy] at h1
  exact (Option.some.inj h1).symm
/-- A text's parts between blanks. -/
def cutG (cur : List UInt8) : List UInt8 → List (List UInt8)
  | [] => [cur]
  | c :: r => if c.toNat = 32 then cur :: cutG [] r else cutG (cur ++ [c]) r
def cutB (l : List UInt8) : List (List UInt8) := cutG [] l
theorem cutG_app (a b : List UInt8) (ha : (32 : UInt8) ∉ a) : ∀ cur, cutG cur (a ++ 32 :: b) = (cur ++ a) :: cutG [] b := by
  induction a with
  | nil => intro cur; simp [cutG]
  | cons c a ih =>
    intro cur
    have hc : ¬ c.toNat = 32 := fun e => ha (by rw [show c = 32 from UInt8.toNat_inj.1 e]; simp)
    rw [List.cons_append, cutG, if_neg hc, ih (fun h => ha (List.mem_cons_of_mem _ h))]
    simp
theorem cutG_one (a : List UInt8) (ha : (32 : UInt8) ∉ a) : ∀ cur, cutG cur a = [cur ++ a] := by
  induction a with
  | nil => intro cur; simp [cutG]
  | cons c a ih =>
    intro cur
    have hc : ¬ c.toNat = 32 := fun e => ha (by rw [show c = 32 from UInt8.toNat_inj.1 e]; simp)
    rw [cutG, if_neg hc, ih (fun h => ha (List.mem_cons_of_mem _ h))]
    simp
theorem dg_sp (n : Nat) : (32 : UInt8) ∉ dg n := dg_not n 32 (by decide)
theorem verT_sp (g s : Int) : (32 : UInt8) ∉ verT g s := by
  unfold verT http
  simp [dg_sp]
theorem verT_of {g s : Int} (hg : inP g = true) (hs : inP s = true) : verT g s = [72, 84, 84, 80, 47, dgt g.toNat, 46, dgt s.toNat] := by
  rw [inP_iff] at hg hs
  unfold verT http
  rw [dg_small (by omega), dg_small (by omega)]
  rfl
theorem cutB_text {x : Li} (h : mayL x = true) : cutB (textL x) = [x.meth, x.targ, verT x.great x.small] := by
  obtain ⟨h1, h2, h3, h4⟩ := mayL_iff.1 h
  unfold cutB textL
  rw [cutG_app _ _ (tok_sp h1), cutG_app _ _ (tgt_sp h2), cutG_one _ (verT_sp _ _)]
  simp
/-- The document's way to read a line: from its parts. -/
def fromB (s : List UInt8) (m t v : List UInt8) : Option Li :=
  if v.length = 8 then
    (if mayL ⟨m, t, ((v.getD 5 0).toNat : Int) - 48, ((v.getD 7 0).toNat : Int) - 48⟩ = true ∧ textL ⟨m, t, ((v.getD 5 0).toNat : Int) - 48, ((v.getD 7 0).toNat : Int) - 48⟩ = s then some ⟨m, t, ((v.getD 5 0).toNat : Int) - 48, ((v.getD 7 0).toNat : Int) - 48⟩ else none)
  else none
def rparseL (s : List UInt8) : Option Li :=
  match cutB s with
  | [m, t, v] => fromB s m t v
  | _ => none
theorem rparse_eq (s : List UInt8) : rparseL s = parseL s := by
  cases hp : parseL s with
  | none =>
    unfold rparseL
    split
    · unfold fromB
      split
      · split
        · rename_i h
          rw [parseL_iff.2 ⟨h.1, h.2⟩] at hp
          cases hp
        · rfl
      · rfl
    · rfl
  | some x =>
    obtain ⟨h1, rfl⟩ := parseL_iff.1 hp
    obtain ⟨_, _, h3, h4⟩ := mayL_iff.1 h1
    have h3' := inP_iff.1 h3
    have h4' := inP_iff.1 h4
    have e5 : (((verT x.great x.small).getD 5 0).toNat : Int) - 48 = x.great := by
      rw [verT_of h3 h4]
      show ((dgt x.great.toNat).toNat : Int) - 48 = _
      rw [dgt_nat (by omega)]; omega
    have e7 : (((verT x.great x.small).getD 7 0).toNat : Int) - 48 = x.small := by
      rw [verT_of h3 h4]
      show ((dgt x.small.toNat).toNat : Int) - 48 = _
      rw [dgt_nat (by omega)]; omega
    unfold rparseL
    rw [cutB_text h1]
    dsimp only
    unfold fromB
    rw [e5, e7, if_pos (by rw [verT_of h3 h4]; rfl), if_pos ⟨h1, rfl⟩]
theorem text_len {x : Li} (h : mayL x = true) : (textL x).length = x.meth.length + x.targ.length + 10 := by
  obtain ⟨_, _, h3, h4⟩ := mayL_iff.1 h
  unfold textL
  rw [verT_of h3 h4]
  simp
  omega
theorem parse_len {s : List UInt8} {x : Li} (h : parseL s = some x) : x.meth.length + x.targ.length + 10 = s.length := by
  obtain ⟨h1, rfl⟩ := parseL_iff.1 h
  exact (text_len h1).symm
/-- How a line that may be is judged. -/
def one1 : List UInt8 := [47, 104, 116, 116, 112, 45, 98, 105, 110, 100]
def post : List UInt8 := [80, 79, 83, 84]
def judgedL (l : Li) : Int := if l.great ≠ 1 ∨ l.small ≠ 1 then 505 else if l.targ ≠ one1 then 404 else if l.meth ≠ post then 405 else 200
def nameL (n : Int) : List UInt8 :=
  if n = 200 then [79, 75] else if n = 400 then [66, 97, 100, 32, 82, 101, 113, 117, 101, 115, 116] else if n = 403 then [70, 111, 114, 98, 105, 100, 100, 101, 110]
  else if n = 404 then [78, 111, 116, 32, 70, 111, 117, 110, 100] else if n = 405 then [77, 101, 116, 104, 111, 100, 32, 78, 111, 116, 32, 65, 108, 108, 111, 119, 101, 100]
  else if n = 413 then [67, 111, 110, 116, 101, 110, 116, 32, 84, 111, 111, 32, 76, 97, 114, 103, 101]
  else if n = 505 then [72, 84, 84, 80, 32, 86, 101, 114, 115, 105, 111, 110, 32, 78, 111, 116, 32, 83, 117, 112, 112, 111, 114, 116, 101, 100] else []
theorem judged_code (l : Li) : judgedL l = 200 ∨ judgedL l = 404 ∨ judgedL l = 405 ∨ judgedL l = 505 := by
  unfold judgedL
  split
  · simp
  · split
    · simp
    · split <;> simp
end Ln
end Go.Proofs.YtagngohemlkkoaaDoor
