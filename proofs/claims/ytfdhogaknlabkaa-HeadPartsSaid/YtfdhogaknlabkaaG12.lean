/-
  Texts of one seat, put together: LexZ, HedM, HedA, LeaA.
-/
import Derived.Test.YtfdhogaknlabkaaG11
import Derived.Test.YtfdhogaknlabkaaG00
import Derived.Test.YtfdhogaknlabkaaG05
import Derived.Lib.IndexMore
import Derived.Test.YtfdhogaknlabkaaG02
import Derived.Test.YtfdhogaknlabkaaG09
import Derived.Test.YtfdhogaknlabkaaG06
set_option linter.unusedSimpArgs false
set_option linter.unusedVariables false
namespace Go.Proofs.Ytfdhogaknlabkaa
open Go.RowKit
namespace Hx
open Lx Tx Nmb Es
set_option linter.unusedVariables false
deriving instance DecidableEq for Pr
deriving instance DecidableEq for Tk
theorem take_step {α : Type} {l m : List α} {k : Nat} (h1 : k < l.length) (h2 : k < m.length) (h : l.take k = m.take k) (he : l[k]'h1 = m[k]'h2) : l.take (k + 1) = m.take (k + 1) := by
  rw [List.take_succ_eq_append_getElem h1, List.take_succ_eq_append_getElem h2, h, he]
theorem pr_eq {a b : Pr} (h1 : a.name = b.name) (h2 : a.value = b.value) : a = b := by
  cases a; cases b
  dsimp only at h1 h2
  rw [h1, h2]
theorem ne_at {α : Type} {l m : List α} {k : Nat} (h1 : k < l.length) (h2 : k < m.length) (he : l[k]'h1 ≠ m[k]'h2) : l ≠ m := by
  rintro rfl
  exact he rfl
set_option maxHeartbeats 4000000 in
set_option maxRecDepth 100000 in
theorem rpairs9 (A A2 : Option Addr) (n cp n2 cp2 : Nat) (l l2 : List Pr) (w : World) (hr : RdC PrC w w.heap.size A l) (hn : l.length = n) (hr2 : RdC PrC w w.heap.size A2 l2) (hn2 : l2.length = n2) (hm : n ≤ 1000000) (hm2 : n2 ≤ 1000000) (q : Bool) (h : decide (l = l2) = q) :
    Calls Try.prog 19 #[.slice A n cp, .slice A2 n2 cp2] w fun e w' => e = .returned (.bool q) ∧ Below w.heap.size w w' := by
  have HR := Lib.hid hr
  have HN := Lib.hid hn
  have HR2 := Lib.hid hr2
  have HN2 := Lib.hid hn2
  have HM := Lib.hid hm
  have HH := Lib.hid h
  clear hr hn hr2 hn2 h
  by_cases hne : n = n2
  · subst hne
    have f0 : ((n : Int) != (n : Int)) = false := by simp
    go_enter Try.func19, Try.ntmps19
    go_wp2_with fail
    go_loopw [5] (fun i wr => ∃ k : Nat, k ≤ n ∧ i = .int .i64 k ∧ l.take k = l2.take k ∧ Below w.heap.size w wr) (fun i _ => n - (intOf i).toNat)
    case atStart => exact ⟨0, Nat.zero_le _, rfl, rfl, Below.refl _ _⟩
    case round =>
      obtain ⟨k, hk, rfl, hno, hbw⟩ := hrel
      have hm := HM.out
      have HBW := Lib.hid hbw
      by_cases hlt : k < n
      · have hk1 : k < l.length := by rw [HN.out]; exact hlt
        have hk2 : k < l2.length := by rw [HN2.out]; exact hlt
        obtain ⟨b0, off, rfl, hbB, hc⟩ := (HR.out.on hbw) (by omega)
        obtain ⟨cs, ⟨x, y, rfl, hx, hy⟩, hcell⟩ := hc k hk1
        obtain ⟨b1, of1, rfl, hbB1, hc1⟩ := (HR2.out.on hbw) (by omega)
        obtain ⟨cs1, ⟨x1, y1, rfl, hx1, hy1⟩, hcell1⟩ := hc1 k hk2
        have c0 : wr.cell? ⟨b0, off + k * 2, none⟩ = some (.string x) := hcell 0 (by simp)
        have c1 : wr.cell? ⟨b0, off + k * 2 + 1, none⟩ = some (.string y) := hcell 1 (by simp)
        have c2 : wr.cell? ⟨b1, of1 + k * 2, none⟩ = some (.string x1) := hcell1 0 (by simp)
        have c3 : wr.cell? ⟨b1, of1 + k * 2 + 1, none⟩ = some (.string y1) := hcell1 1 (by simp)
        clear hbw hc hc1 hcell hcell1
        have bk : (0 : Int) ≤ (k : Int) ∧ (k : Int) < (n : Int) := by omega
        by_cases hxy : x = x1 ∧ y = y1
        · obtain ⟨rfl, rfl⟩ := hxy
          go_wp2_with fail
          go_quiet (fail)
          go_wp2_with fail
          have HT : Hid (l.take (k + 1) = l2.take (k + 1)) := Lib.hid (take_step hk1 hk2 hno (pr_eq (hx.symm.trans hx1) (hy.symm.trans hy1)))
          clear hx hx1 hy hy1 hno
          go_roundw
          case rel => exact ⟨k + 1, by omega, by go_num, HT.out, below_drewN HBW.out _⟩
          case measure => simp [intOf]; omega
        · have hq : (x.toList == x1.toList && y.toList == y1.toList) = false := by
            rw [seq_l, seq_l]
            simp only [Bool.and_eq_false_iff, decide_eq_false_iff_not]
            by_cases h5 : x = x1
            · exact .inr fun e => hxy ⟨h5, ba_x e⟩
            · exact .inl fun e => h5 (ba_x e)
          obtain rfl : false = q := by
            rw [← HH.out, eq_comm, decide_eq_false_iff_not]
            refine ne_at hk1 hk2 fun e => hxy ⟨ba_x ?_, ba_x ?_⟩
            · rw [hx, hx1, e]
            · rw [hy, hy1, e]
          clear hx hx1 hy hy1 hno hxy
          rcases Bool.and_eq_false_iff.1 hq with q1 | q1
          · have q2 : ¬ x.toList = x1.toList := by simpa using q1
            go_wp2_with fail
            clear hq
            go_quiet (fail)
            go_wp2_with fail
            go_ret
            exact ⟨rfl, below_drewN HBW.out _⟩
          · have q2 : ¬ y.toList = y1.toList := by simpa using q1
            go_wp2_with fail
            clear hq
            go_quiet (fail)
            go_wp2_with fail
            go_ret
            exact ⟨rfl, below_drewN HBW.out _⟩
      · obtain rfl : k = n := by omega
        obtain rfl : true = q := by
          rw [← HH.out, eq_comm, decide_eq_true_eq]
          rwa [List.take_of_length_le (by rw [HN.out]; exact Nat.le_refl _), List.take_of_length_le (by rw [HN2.out]; exact Nat.le_refl _)] at hno
        clear hno
        go_wp2_with fail
        go_ret
        exact ⟨rfl, HBW.out⟩
  · have d0 : ((n : Int) != (n2 : Int)) = true := by simp; omega
    have d1 : (n != n2) = true := by simpa using hne
    have d2 : (n == n2) = false := by simpa using hne
    obtain rfl : false = q := by
      rw [← HH.out, eq_comm, decide_eq_false_iff_not]
      rintro rfl
      exact hne (HN.out.symm.trans HN2.out)
    clear hne
    go_enter Try.func19, Try.ntmps19
    go_wp2_with fail
    go_ret
    exact ⟨rfl, Below.refl _ _⟩
end Hx
end Go.Proofs.Ytfdhogaknlabkaa
namespace Go.Proofs.Ytfdhogaknlabkaa
namespace Hd
open Go
open Lx (Pr cutC cutC_some)
open As (isTok plain lows trim tokb plb blk parts listE)
set_option linter.unusedVariables false
/-- What stands ahead of the first end of a line, and behind it. -/
def lineL : List UInt8 → Option (List UInt8 × List UInt8)
  | [] => none
  | c :: r => if c = 13 ∧ r.head? = some 10 then some ([], r.tail) else (lineL r).map fun p => (c :: p.1, p.2)
theorem lineL_some : ∀ {l a b : List UInt8}, lineL l = some (a, b) → l = a ++ 13 :: 10 :: b := by
  intro l
  induction l with
  | nil => intro a b h; cases h
  | cons c r ih =>
    intro a b h
    rw [lineL] at h
    split at h
    · rename_i hc
      injection h with h
      injection h with h1 h2
      subst h1 h2
      obtain ⟨rfl, h3⟩ := hc
      cases r with
      | nil => cases h3
      | cons d r => injection h3 with h3; subst h3; rfl
    · cases hr : lineL r with
      | none => rw [hr] at h; cases h
      | some p =>
        obtain ⟨x, y⟩ := p
        rw [hr] at h
        injection h with h
        injection h with h1 h2
        subst h1 h2
        rw [ih hr]
        rfl
theorem lineL_len {l a b : List UInt8} (h : lineL l = some (a, b)) : a.length + b.length + 2 = l.length := by
  rw [lineL_some h]
  simp
  omega
theorem lineL_app : ∀ {l a b : List UInt8} (x : List UInt8), lineL l = some (a, b) → lineL (l ++ x) = some (a, b ++ x) := by
  intro l
  induction l with
  | nil => intro a b x h; cases h
  | cons c r ih =>
    intro a b x h
    rw [lineL] at h
    rw [List.cons_append, lineL]
    split at h
    · rename_i hc
      injection h with h
      injection h with h1 h2
      subst h1 h2
      obtain ⟨rfl, h3⟩ := hc
      cases r with
      | nil => cases h3
      | cons d r => injection h3 with h3; subst h3; rfl
    · rename_i hc
      cases hr : lineL r with
      | none => rw [hr] at h; cases h
      | some p =>
        obtain ⟨p1, p2⟩ := p
        rw [hr] at h
        injection h with h
        injection h with h1 h2
        subst h1 h2
        have hq : ¬ (c = 13 ∧ (r ++ x).head? = some 10) := by
          rintro ⟨e1, e2⟩
          apply hc
          refine ⟨e1, ?_⟩
          cases r with
          | nil => cases hr
          | cons d r => exact e2
        rw [if_neg hq, ih x hr]
        rfl
theorem lineL_of : ∀ (a b : List UInt8), (13 : UInt8) ∉ a → lineL (a ++ 13 :: 10 :: b) = some (a, b) := by
  intro a
  induction a with
  | nil => intro b _; rfl
  | cons c a ih =>
    intro b h
    rw [List.mem_cons, not_or] at h
    rw [List.cons_append, lineL, if_neg (fun e => h.1 e.1.symm), ih b h.2]
    rfl
theorem pre_two (c : UInt8) (r : List UInt8) : ([13, 10] : List UInt8).isPrefixOf (c :: r) = decide (c = 13 ∧ r.head? = some 10) := by
  cases r with
  | nil => simp [List.isPrefixOf]
  | cons d r =>
    simp only [List.isPrefixOf, List.head?_cons, Option.some.injEq, Bool.and_true]
    by_cases h1 : c = 13
    · subst h1
      by_cases h2 : d = 10
      · subst h2; rfl
      · simp [h2, Ne.symm h2]
    · simp [h1, Ne.symm h1]
theorem index_line : ∀ (l : List UInt8), match lineL l with
    | none => Lib.index l [13, 10] = -1
    | some p => Lib.index l [13, 10] = (p.1.length : Int) := by
  intro l
  induction l with
  | nil => rfl
  | cons c r ih =>
    rw [lineL]
    unfold Lib.index
    rw [pre_two]
    by_cases hc : c = 13 ∧ r.head? = some 10
    · rw [if_pos hc, decide_eq_true hc]
      rfl
    · rw [if_neg hc, decide_eq_false hc]
      cases hr : lineL r with
      | none =>
        rw [hr] at ih
        dsimp only [Option.map] at ih ⊢
        rw [ih]
        rfl
      | some p =>
        rw [hr] at ih
        dsimp only [Option.map] at ih ⊢
        rw [ih]
        have : ((p.1.length : Int) == -1) = false := by rw [beq_eq_false_iff_ne]; omega
        rw [this, List.length_cons]
        simp
theorem cut_some {l a b : List UInt8} (h : lineL l = some (a, b)) : Lib.cut l [13, 10] = (a, b, true) := by
  have hi := index_line l
  rw [h] at hi
  dsimp only at hi
  unfold Lib.cut
  rw [hi, if_pos (by omega)]
  have e := lineL_some h
  have e1 : l.take a.length = a := by rw [e]; simp
  have e2 : l.drop (a.length + 2) = b := by rw [e]; simp [List.drop_append]
  simp [e1, e2]
theorem cut_none {l : List UInt8} (h : lineL l = none) : Lib.cut l [13, 10] = (l, [], false) := by
  have hi := index_line l
  rw [h] at hi
  dsimp only at hi
  unfold Lib.cut
  rw [hi, if_neg (by omega)]
/-- The field of a line. -/
def fieldL (l : List UInt8) : Option Pr := match cutC l with
  | none => none
  | some p => if isTok p.1 = true ∧ plain p.2 = true then some ⟨lows p.1, trim p.2⟩ else none
/-- The fields of lines. -/
def allF : Nat → List UInt8 → Option (List Pr)
  | 0, _ => none
  | f + 1, l => if l = [] then some [] else match lineL l with
    | none => none
    | some p => match fieldL p.1 with
      | none => none
      | some x => (allF f p.2).map (x :: ·)
def allL (l : List UInt8) : Option (List Pr) := allF (l.length + 1) l
theorem allF_same : ∀ (f g : Nat) (l : List UInt8), l.length < f → l.length < g → allF f l = allF g l := by
  intro f
  induction f with
  | zero => intro g l h; omega
  | succ f ih =>
    intro g l h1 h2
    cases g with
    | zero => omega
    | succ g =>
      rw [allF, allF]
      split
      · rfl
      · cases hl : lineL l with
        | none => rfl
        | some p =>
          have := lineL_len (a := p.1) (b := p.2) hl
          dsimp only
          cases fieldL p.1 with
          | none => rfl
          | some x => dsimp only; rw [ih g p.2 (by omega) (by omega)]
theorem allL_nil : allL [] = some [] := rfl
theorem allL_none {l : List UInt8} (h0 : l ≠ []) (h : lineL l = none) : allL l = none := by
  unfold allL allF
  rw [if_neg h0, h]
theorem allL_some {l a b : List UInt8} (h : lineL l = some (a, b)) : allL l = match fieldL a with | none => none | some x => (allL b).map (x :: ·) := by
  have hl := lineL_len h
  have h0 : l ≠ [] := by rintro rfl; cases h
  conv => lhs; unfold allL allF
  rw [if_neg h0, h]
  dsimp only
  cases fieldL a with
  | none => rfl
  | some x =>
    dsimp only
    rw [show allF l.length b = allL b from allF_same _ _ _ (by omega) (Nat.lt_succ_self _)]
theorem allL_bad {l a b : List UInt8} (h : lineL l = some (a, b)) (hf : fieldL a = none) : allL l = none := by rw [allL_some h, hf]
theorem allL_step {l a b : List UInt8} {x : Pr} (h : lineL l = some (a, b)) (hf : fieldL a = some x) : allL l = (allL b).map (x :: ·) := by rw [allL_some h, hf]
def parseH (l : List UInt8) : List Pr × Int := if 16384 < l.length then ([], 4) else match allL l with
  | none => ([], 140)
  | some ps => if 32 < ps.length then ([], 4) else (ps, 0)
def mayP (p : Pr) : Bool := isTok p.name && decide (lows p.name = p.name) && plain p.value && decide (trim p.value = p.value)
def lineP (p : Pr) : List UInt8 := p.name ++ 58 :: 32 :: (p.value ++ [13, 10])
def linesP (ps : List Pr) : List UInt8 := ps.flatMap lineP
def writeH (ps : List Pr) : List UInt8 × Int := if ps.all mayP = true then (if 32 < ps.length then ([], 4) else (linesP ps, 0)) else ([], 8)
def findH (ps : List Pr) (nm : List UInt8) : List (List UInt8) := (ps.filter fun p => decide (lows p.name = lows nm)).map (·.value)
def oneOf : List (List UInt8) → List UInt8 × Bool × Int
  | [] => ([], false, 0)
  | [v] => (v, true, 0)
  | _ => ([], false, 140)
def oneH (ps : List Pr) (nm : List UInt8) : List UInt8 × Bool × Int := oneOf (findH ps nm)
def nCoding : List UInt8 := [116, 114, 97, 110, 115, 102, 101, 114, 45, 101, 110, 99, 111, 100, 105, 110, 103]
def nLength : List UInt8 := [99, 111, 110, 116, 101, 110, 116, 45, 108, 101, 110, 103, 116, 104]
def nConn : List UInt8 := [99, 111, 110, 110, 101, 99, 116, 105, 111, 110]
def nHost : List UInt8 := [104, 111, 115, 116]
def nChunked : List UInt8 := [99, 104, 117, 110, 107, 101, 100]
def nClose : List UInt8 := [99, 108, 111, 115, 101]
/-- Is a coding's value chunked alone? -/
def isChunked (v : List UInt8) : Bool := decide (listE v = 0) && decide (parts v = [nChunked])
def frameH (ps : List Pr) : Nat × Int × Int :=
  if (oneH ps nCoding).2.2 ≠ 0 ∨ (oneH ps nLength).2.2 ≠ 0 ∨ ((oneH ps nCoding).2.1 = true ∧ (oneH ps nLength).2.1 = true) then (0, 0, 140)
  else if (oneH ps nCoding).2.1 = true then (if isChunked (oneH ps nCoding).1 = true then (2, 0, 0) else (0, 0, 140))
  else if (oneH ps nLength).2.1 = true then (match Nmb.readN (oneH ps nLength).1 with | none => (0, 0, 140) | some n => (1, n, 0))
  else (0, 0, 0)
def goesOn (v : List UInt8) : Bool := !(parts v).contains nClose
def keepH (ps : List Pr) : Bool × Int := if (findH ps nConn).all (fun v => decide (listE v = 0)) = true then ((findH ps nConn).all goesOn, 0) else (false, 140)
def hostL (v : List UInt8) : Option (List UInt8) := match cutC v with
  | none => if isTok v = true then some (lows v) else none
  | some p => if (Nmb.readN p.2).isSome = true ∧ isTok p.1 = true then some (lows p.1) else none
def hostH (ps : List Pr) : List UInt8 × Int := if (oneH ps nHost).2.1 = true then (match hostL (oneH ps nHost).1 with | none => ([], 140) | some h => (h, 0)) else ([], 140)
/-! what hangs together -/
theorem tok_58 {a : List UInt8} (h : isTok a = true) : (58 : UInt8) ∉ a := by
  intro hm
  have := (As.tok_all h).1 58 hm
  revert this
  decide
theorem tok_13 {a : List UInt8} (h : isTok a = true) : (13 : UInt8) ∉ a := by
  intro hm
  have := (As.tok_all h).1 13 hm
  revert this
  decide
theorem plain_13 {a : List UInt8} (h : plain a = true) : (13 : UInt8) ∉ a := by
  intro hm
  have := List.all_eq_true.1 h 13 hm
  revert this
  decide
theorem cutC_of : ∀ {a : List UInt8} (b : List UInt8), (58 : UInt8) ∉ a → cutC (a ++ 58 :: b) = some (a, b) := by
  intro a
  induction a with
  | nil => intro b _; rfl
  | cons c a ih =>
    intro b h
    rw [List.mem_cons, not_or] at h
    show (if c = 58 then _ else _ : Option _) = _
    rw [if_neg (Ne.symm h.1)]
    show Option.map _ (cutC (a ++ 58 :: b)) = _
    rw [ih b h.2]
    rfl
theorem mayP_iff (p : Pr) : mayP p = true ↔ isTok p.name = true ∧ lows p.name = p.name ∧ plain p.value = true ∧ trim p.value = p.value := by
  unfold mayP
  rw [Bool.and_eq_true, Bool.and_eq_true, Bool.and_eq_true, decide_eq_true_eq, decide_eq_true_eq]
  exact ⟨fun ⟨⟨⟨h1, h2⟩, h3⟩, h4⟩ => ⟨h1, h2, h3, h4⟩, fun ⟨h1, h2, h3, h4⟩ => ⟨⟨⟨h1, h2⟩, h3⟩, h4⟩⟩
theorem fieldL_line {p : Pr} (h : mayP p = true) : fieldL (p.name ++ 58 :: 32 :: p.value) = some p := by
  obtain ⟨h1, h2, h3, h4⟩ := (mayP_iff p).1 h
  unfold fieldL
  rw [cutC_of _ (tok_58 h1)]
  have h5 : plain (32 :: p.value) = true := by
    unfold plain at h3 ⊢
    rw [List.all_cons, h3]
    rfl
  dsimp only
  rw [if_pos ⟨h1, h5⟩]
  have h6 : trim (32 :: p.value) = trim p.value := by
    unfold trim
    rw [show As.trimL (32 :: p.value) = As.trimL p.value from As.trimL_pre [32] p.value (by decide)]
  rw [h2, h6, h4]
theorem allL_lines : ∀ (ps : List Pr), ps.all mayP = true → allL (linesP ps) = some ps := by
  intro ps
  induction ps with
  | nil => intro _; rfl
  | cons p ps ih =>
    intro h
    rw [List.all_cons, Bool.and_eq_true] at h
    obtain ⟨h1, h2, h3, h4⟩ := (mayP_iff p).1 h.1
    have e : linesP (p :: ps) = (p.name ++ 58 :: 32 :: p.value) ++ 13 :: 10 :: linesP ps := by
      unfold linesP lineP
      rw [List.flatMap_cons]
      simp
    have hn : (13 : UInt8) ∉ p.name ++ 58 :: 32 :: p.value := by
      simp only [List.mem_append, List.mem_cons, not_or]
      exact ⟨tok_13 h1, by decide, by decide, plain_13 h3⟩
    rw [e, allL_step (lineL_of _ _ hn) (fieldL_line h.1), ih h.2]
    rfl
theorem parse_write {ps : List Pr} (h : ps.all mayP = true) (hn : ps.length ≤ 32) (hl : (linesP ps).length ≤ 16384) : parseH (linesP ps) = (ps, 0) := by
  unfold parseH
  rw [if_neg (by omega), allL_lines ps h]
  dsimp only
  rw [if_neg (by omega)]
theorem fieldL_may {l : List UInt8} {p : Pr} (h : fieldL l = some p) : mayP p = true ∧ (lineP p).length ≤ l.length + 3 := by
  unfold fieldL at h
  cases hc : cutC l with
  | none => rw [hc] at h; cases h
  | some q =>
    obtain ⟨a, b⟩ := q
    rw [hc] at h
    dsimp only at h
    split at h
    · rename_i hq
      injection h with h
      subst h
      refine ⟨(mayP_iff _).2 ⟨by rw [show isTok (lows a) = isTok a from As.tok_lows a]; exact hq.1, As.lows_lows a, by rw [show plain (trim b) = plain b from As.plain_trim b]; exact hq.2, As.trim_trim b⟩, ?_⟩
      have e := (cutC_some hc).1
      have h1 := As.trim_len b
      have h2 := As.lows_length a
      unfold lineP
      rw [e]
      simp only [List.length_append, List.length_cons, List.length_nil]
      omega
    · cases h
theorem allF_may : ∀ (f : Nat) (l : List UInt8) (ps : List Pr), allF f l = some ps → ps.all mayP = true ∧ (linesP ps).length ≤ l.length + ps.length := by
  intro f
  induction f with
  | zero => intro l ps h; cases h
  | succ f ih =>
    intro l ps h
    rw [allF] at h
    split at h
    · injection h with h; subst h; exact ⟨rfl, by simp [linesP]⟩
    · cases hl : lineL l with
      | none => rw [hl] at h; cases h
      | some p =>
        obtain ⟨a, b⟩ := p
        rw [hl] at h
        dsimp only at h
        cases hf : fieldL a with
        | none => rw [hf] at h; cases h
        | some x =>
          rw [hf] at h
          dsimp only at h
          cases hr : allF f b with
          | none => rw [hr] at h; cases h
          | some qs =>
            rw [hr] at h
            injection h with h
            subst h
            obtain ⟨k1, k2⟩ := ih b qs hr
            obtain ⟨m1, m2⟩ := fieldL_may hf
            have hlen := lineL_len hl
            refine ⟨by rw [List.all_cons, m1, k1]; rfl, ?_⟩
            unfold linesP at k2 ⊢
            rw [List.flatMap_cons, List.length_append, List.length_cons]
            omega
theorem parse_ok {l : List UInt8} {ps : List Pr} (h : parseH l = (ps, 0)) : ps.all mayP = true ∧ ps.length ≤ 32 ∧ (linesP ps).length ≤ l.length + ps.length ∧ allL l = some ps := by
  unfold parseH at h
  split at h
  · injection h with _ h; cases h
  · cases ha : allL l with
    | none => rw [ha] at h; injection h with _ h; cases h
    | some qs =>
      rw [ha] at h
      dsimp only at h
      split at h
      · injection h with _ h; cases h
      · injection h with h _
        subst h
        obtain ⟨h1, h2⟩ := allF_may _ _ _ ha
        exact ⟨h1, by omega, h2, rfl⟩
theorem parse_lits (l : List UInt8) : (parseH l).2 = 0 ∨ ((parseH l).2 = 4 ∧ (parseH l).1 = []) ∨ ((parseH l).2 = 140 ∧ (parseH l).1 = []) := by
  unfold parseH
  split
  · exact .inr (.inl ⟨rfl, rfl⟩)
  · cases allL l with
    | none => exact .inr (.inr ⟨rfl, rfl⟩)
    | some ps =>
      dsimp only
      split
      · exact .inr (.inl ⟨rfl, rfl⟩)
      · exact .inl rfl
/-- What is read, written again, is read as the same. -/
theorem parse_again {l : List UInt8} {ps : List Pr} (h : parseH l = (ps, 0)) (hl : l.length ≤ 16000) : writeH ps = (linesP ps, 0) ∧ parseH (linesP ps) = (ps, 0) := by
  obtain ⟨h1, h2, h3, _⟩ := parse_ok h
  refine ⟨?_, parse_write h1 h2 (by omega)⟩
  unfold writeH
  rw [if_pos h1, if_neg (by omega)]
/-- Lines of two blocks. -/
theorem allF_app : ∀ (f : Nat) (a b : List UInt8) (x y : List Pr), allF f a = some x → allL b = some y → allL (a ++ b) = some (x ++ y) := by
  intro f
  induction f with
  | zero => intro a b x y h; cases h
  | succ f ih =>
    intro a b x y h hb
    rw [allF] at h
    split at h
    · rename_i ha
      injection h with h
      subst h ha
      simpa using hb
    · cases hl : lineL a with
      | none => rw [hl] at h; cases h
      | some p =>
        obtain ⟨c, d⟩ := p
        rw [hl] at h
        dsimp only at h
        cases hf : fieldL c with
        | none => rw [hf] at h; cases h
        | some q =>
          rw [hf] at h
          dsimp only at h
          cases hr : allF f d with
          | none => rw [hr] at h; cases h
          | some qs =>
            rw [hr] at h
            injection h with h
            subst h
            rw [allL_step (lineL_app b hl) hf, ih d b qs y hr hb]
            rfl
theorem parse_app {a b : List UInt8} {x y : List Pr} (ha : parseH a = (x, 0)) (hb : parseH b = (y, 0)) (hl : a.length + b.length ≤ 16384) : parseH (a ++ b) = if 32 < (x ++ y).length then ([], 4) else (x ++ y, 0) := by
  have h1 := (parse_ok ha).2.2.2
  have h2 := (parse_ok hb).2.2.2
  unfold parseH
  rw [if_neg (by rw [List.length_append]; omega), allF_app _ _ _ _ _ h1 h2]
end Hd
end Go.Proofs.Ytfdhogaknlabkaa
namespace Go.Proofs.Ytfdhogaknlabkaa
open Go.RowKit
namespace Hx
open Lx Hd
set_option linter.unusedVariables false
theorem lineL_no {l : List UInt8} {k : Nat} (h : k < l.length) (hn : ¬ (l[k]'h = 13 ∧ l[k + 1]? = some 10)) : lineL (l.drop k) = (lineL (l.drop (k + 1))).map fun p => (l[k]'h :: p.1, p.2) := by
  rw [List.drop_eq_getElem_cons h, lineL, if_neg (by rw [List.head?_drop]; exact hn)]
theorem lineL_yes {l : List UInt8} {k : Nat} (h : k < l.length) (h1 : l[k]'h = 13) (h2 : l[k + 1]? = some 10) : lineL (l.drop k) = some ([], l.drop (k + 2)) := by
  rw [List.drop_eq_getElem_cons h, lineL, if_pos (by rw [List.head?_drop]; exact ⟨h1, h2⟩), List.tail_drop]
theorem lineL_short {l : List UInt8} (h : l.length ≤ 1) : lineL l = none := by
  match l, h with
  | [], _ => rfl
  | [c], _ =>
    rw [lineL, if_neg (by simp)]
    rfl
/-- Nothing ends ahead of a place. -/
def upTo (l : List UInt8) (k : Nat) : Prop := lineL l = (lineL (l.drop k)).map fun p => (l.take k ++ p.1, p.2)
theorem upTo_0 (l : List UInt8) : upTo l 0 := by
  unfold upTo
  rw [List.drop_zero, List.take_zero]
  cases lineL l <;> rfl
theorem upTo_next {l : List UInt8} {k : Nat} (h : k < l.length) (hu : upTo l k) (hn : ¬ (l[k]'h = 13 ∧ l[k + 1]? = some 10)) : upTo l (k + 1) := by
  unfold upTo at hu ⊢
  rw [hu, lineL_no h hn, List.take_succ_eq_append_getElem h, Option.map_map]
  congr 1
  funext p
  show (_, _) = (_, _)
  rw [List.append_assoc]
  rfl
theorem upTo_hit {l : List UInt8} {k : Nat} (h : k < l.length) (hu : upTo l k) (h1 : l[k]'h = 13) (h2 : l[k + 1]? = some 10) : lineL l = some (l.take k, l.drop (k + 2)) := by
  unfold upTo at hu
  rw [hu, lineL_yes h h1 h2]
  simp
theorem upTo_end {l : List UInt8} {k : Nat} (hu : upTo l k) (h : l.length ≤ k + 1) : lineL l = none := by
  unfold upTo at hu
  rw [hu, lineL_short (by rw [List.length_drop]; omega)]
  rfl
/-- What Line answers. -/
def LineTo (s : ByteArray) (w : World) (e : Ending) (w' : World) : Prop := Below w.heap.size w w' ∧
  ((∃ x y : ByteArray, lineL s.data.toList = some (x.data.toList, y.data.toList) ∧ e = .returned (.tuple #[.string x, .string y, .bool true])) ∨ (lineL s.data.toList = none ∧ e = .returned (.tuple #[.string ⟨#[]⟩, .string ⟨#[]⟩, .bool false])))
set_option maxHeartbeats 8000000 in
set_option maxRecDepth 100000 in
theorem rline14 (s : ByteArray) (w : World) (hm : s.size ≤ 1000000) : Calls Try.prog 64 #[.string s] w (LineTo s w) := by
  have HM := Lib.hid hm
  clear hm
  go_enter Try.func64, Try.ntmps64
  go_wp2_with fail
  go_loopw [5] (fun i wr => ∃ k : Nat, k ≤ s.size ∧ i = .int .i64 k ∧ upTo s.data.toList k ∧ w = wr) (fun i _ => s.size - (intOf i).toNat)
  case atStart => exact ⟨0, Nat.zero_le _, rfl, upTo_0 _, by first | rfl | trivial⟩
  case round =>
    obtain ⟨k, hk, rfl, hn, rfl⟩ := hrel
    have hs := HM.out
    have HNO := Lib.hid hn
    clear hn
    by_cases hlt : k + 1 < s.size
    · have hlt0 : k < s.size := by omega
      obtain ⟨c, hc⟩ : ∃ c, s[k]'hlt0 = c := ⟨_, rfl⟩
      have hca : ∀ h, s[k]'h = c := fun _ => hc
      obtain ⟨d, hd⟩ : ∃ d, s[k + 1]'hlt = d := ⟨_, rfl⟩
      have hda : ∀ h, s[k + 1]'h = d := fun _ => hd
      have hkl : k < s.data.toList.length := by rw [ba_l]; exact hlt0
      have HCK : Hid (s.data.toList[k]'hkl = c) := Lib.hid ((at_l s k hlt0).trans hc)
      have HDK : Hid (s.data.toList[k + 1]? = some d) := Lib.hid (by rw [List.getElem?_eq_getElem (by rw [ba_l]; exact hlt)]; exact congrArg some ((at_l s (k + 1) hlt).trans hd))
      have bk : (0 : Int) ≤ (k : Int) ∧ (k : Int) < (s.size : Int) := by omega
      have bk1 : (0 : Int) ≤ (k : Int) + 1 ∧ (k : Int) + 1 < (s.size : Int) := by omega
      have dk1 : decide ((k : Int) + 1 < (s.size : Int)) = true := decide_eq_true (by omega)
      have hcl := c.toNat_lt
      have hdl := d.toNat_lt
      clear hc hd
      by_cases h13 : c.toNat = 13
      · have f13 : ((c.toNat : Int) == 13) = true := by simp; omega
        by_cases h10 : d.toNat = 10
        · have f10 : ((d.toNat : Int) == 10) = true := by simp; omega
          have e10 : d = 10 := UInt8.toNat_inj.1 h10
          have b2 : (0 : Int) ≤ (k : Int) + 2 ∧ (k : Int) + 2 ≤ (s.size : Int) := by omega
          have b3 : (k : Int) ≤ (s.size : Int) := by omega
          obtain ⟨x, hx⟩ : ∃ x, s.extract 0 k = x := ⟨_, rfl⟩
          obtain ⟨y, hy⟩ : ∃ y, s.extract (k + 2) s.size = y := ⟨_, rfl⟩
          have HC : Hid (lineL s.data.toList = some (x.data.toList, y.data.toList)) := Lib.hid (by
            rw [upTo_hit hkl HNO.out (HCK.out.trans (UInt8.toNat_inj.1 h13)) (by rw [HDK.out, e10]), ← hx, ← hy, extract_l s 0 k (by omega), extract_l s (k + 2) s.size (Nat.le_refl _), List.drop_zero, Nat.sub_zero, List.take_of_length_le (l := s.data.toList.drop (k + 2)) (by rw [List.length_drop, ba_l]; omega)])
          clear h13 h10 e10
          go_wp2_with fail
          go_region
          go_wp2_with fail
          go_ret3
          exact ⟨(show Below w.heap.size w w.drew from ⟨rfl, rfl, rfl, Nat.le_refl _, fun _ _ => rfl⟩), .inl ⟨x, y, HC.out, by rw [← hy]; rfl⟩⟩
        · have f10 : ((d.toNat : Int) == 10) = false := by simp; omega
          have HV : Hid (upTo s.data.toList (k + 1)) := Lib.hid (upTo_next hkl HNO.out (fun e => h10 (by have := e.2; rw [HDK.out] at this; injection this with this; rw [this]; rfl)))
          clear h13 h10
          go_wp2_with fail
          go_roundw
          case rel => exact ⟨k + 1, by omega, by go_num, HV.out, by first | rfl | trivial⟩
          case measure => simp [intOf]; omega
      · have f13 : ((c.toNat : Int) == 13) = false := by simp; omega
        have HV : Hid (upTo s.data.toList (k + 1)) := Lib.hid (upTo_next hkl HNO.out (fun e => h13 (by have := e.1; rw [HCK.out] at this; rw [this]; rfl)))
        clear h13
        go_wp2_with fail
        go_roundw
        case rel => exact ⟨k + 1, by omega, by go_num, HV.out, by first | rfl | trivial⟩
        case measure => simp [intOf]; omega
    · have dk1 : decide ((k : Int) + 1 < (s.size : Int)) = false := decide_eq_false (by omega)
      have bk1 : (k : Int) + 1 ≤ 9223372036854775807 := by omega
      have HC : Hid (lineL s.data.toList = none) := Lib.hid (upTo_end HNO.out (by rw [ba_l]; omega))
      go_wp2_with fail
      go_ret3
      exact ⟨Below.refl _ _, .inr ⟨HC.out, rfl⟩⟩
/-- What field answers. -/
def FieldTo (s : ByteArray) (w : World) (e : Ending) (w' : World) : Prop := Below w.heap.size w w' ∧
  ((fieldL s.data.toList = none ∧ e = .returned (.tuple #[.agg #[.string ⟨#[]⟩, .string ⟨#[]⟩], .bool false])) ∨ (∃ x y : ByteArray, fieldL s.data.toList = some ⟨x.data.toList, y.data.toList⟩ ∧ e = .returned (.tuple #[.agg #[.string x, .string y], .bool true])))
theorem cut_szs {s x y : ByteArray} (h : cutC s.data.toList = some (x.data.toList, y.data.toList)) : x.size + y.size + 1 = s.size := by
  have := ex_size h
  rw [ba_l] at this
  exact this
theorem drewn14 {w w' : World} (h : ∃ n, w' = w.drewN n) : Below w.heap.size w w' := by
  obtain ⟨n, rfl⟩ := h
  exact below_drewN (Below.refl _ _) n
theorem rparts_noneB (s : ByteArray) (w : World) (hm : s.size ≤ 1000000) (h : cutC s.data.toList = none) : Calls Try.prog 48 #[.string s] w fun e w' => e = .returned (.tuple #[.string ⟨#[]⟩, .string s, .bool false]) ∧ Below w.heap.size w w' :=
  (rparts_none s w hm h).mono fun e w' ⟨h1, h2⟩ => ⟨h1, drewn14 h2⟩
theorem rparts_someB (s x y : ByteArray) (w : World) (hm : s.size ≤ 1000000) (h : cutC s.data.toList = some (x.data.toList, y.data.toList)) : Calls Try.prog 48 #[.string s] w fun e w' => e = .returned (.tuple #[.string x, .string y, .bool true]) ∧ Below w.heap.size w w' :=
  (rparts_some s x y w hm h).mono fun e w' ⟨h1, h2⟩ => ⟨h1, drewn14 h2⟩
set_option maxHeartbeats 8000000 in
set_option maxRecDepth 100000 in
theorem rfield14_0 (s : ByteArray) (w : World) (hm : s.size ≤ 1000000) (h : cutC s.data.toList = none) : Calls Try.prog 65 #[.string s] w (FieldTo s w) := by
  have HN : Hid (fieldL s.data.toList = none) := Lib.hid (by unfold fieldL; rw [h])
  have HC : Hid (∀ W, Calls Try.prog 48 #[.string s] W fun e w' => e = .returned (.tuple #[.string ⟨#[]⟩, .string s, .bool false]) ∧ Below W.heap.size W w') := Lib.hid fun W => rparts_noneB s W hm h
  clear hm h
  go_enter Try.func65, Try.ntmps65
  go_wp2_with (first
    | (go_at_call 48; (with_reducible refine (HC.out _).mono ?_); rintro e w1 ⟨rfl, hb1⟩; have HG1 := Lib.hid (kept_heap (heap_alloc_new w (.cells zPr 25)) hb1); have HB1 := Lib.hid (stp (stpA (Below.refl w.heap.size w) (.cells zPr 25)) hb1); clear hb1)
    | (refine wpList_store_row rfl _ _ _ rfl w.heap.size #[.string ⟨#[]⟩, .string ⟨#[]⟩] rfl rfl 25 zPr HG1.out sizePr rfl (onePr _ _) ?_)
    | fail)
  exact bodyPost_ret (v := .tuple #[.agg #[.string ⟨#[]⟩, .string ⟨#[]⟩], .bool false]) (rcell2 (p := 2) (q := 3) rfl _ _ _ _ #[.string ⟨#[]⟩, .string ⟨#[]⟩] _ _ rfl (setRow_heap _ _ _ #[.string ⟨#[]⟩, .string ⟨#[]⟩] _ _ HG1.out) Try.underlying25 rfl sizePr) rfl ⟨below_setRowV HB1.out (Nat.le_refl _) _, .inl ⟨HN.out, rfl⟩⟩
set_option maxHeartbeats 8000000 in
set_option maxRecDepth 100000 in
theorem rfield14_1 (s x y : ByteArray) (w : World) (hm : s.size ≤ 1000000) (h : cutC s.data.toList = some (x.data.toList, y.data.toList)) (h1 : As.isTok x.data.toList = false) : Calls Try.prog 65 #[.string s] w (FieldTo s w) := by
  have HN : Hid (fieldL s.data.toList = none) := Lib.hid (by unfold fieldL; rw [h]; dsimp only; rw [if_neg (by rw [h1]; simp)])
  have hsz := cut_szs h
  have HC : Hid (∀ W, Calls Try.prog 48 #[.string s] W fun e w' => e = .returned (.tuple #[.string x, .string y, .bool true]) ∧ Below W.heap.size W w') := Lib.hid fun W => rparts_someB s x y W hm h
  have HX : Hid (x.size ≤ 1000000) := Lib.hid (by omega)
  have HY : Hid (y.size ≤ 1000000) := Lib.hid (by omega)
  have H1 := Lib.hid h1
  clear hm h h1 hsz
  go_enter Try.func65, Try.ntmps65
  go_wp2_with (first
    | (go_at_call 48; (with_reducible refine (HC.out _).mono ?_); rintro e w1 ⟨rfl, hb1⟩; have HG1 := Lib.hid (kept_heap (heap_alloc_new w (.cells zPr 25)) hb1); have HB1 := Lib.hid (stp (stpA (Below.refl w.heap.size w) (.cells zPr 25)) hb1); clear hb1)
    | (go_at_call 49; (with_reducible refine (rtoken7 x false w1 HX.out H1.out).mono ?_); rintro e w2 ⟨rfl, hb2⟩; have HG2 := Lib.hid (kept_heap HG1.out hb2); have HB2 := Lib.hid (stp HB1.out hb2); clear hb2)
    | (refine wpList_store_row rfl _ _ _ rfl w.heap.size #[.string ⟨#[]⟩, .string ⟨#[]⟩] rfl rfl 25 zPr HG2.out sizePr rfl (onePr _ _) ?_)
    | fail)
  exact bodyPost_ret (v := .tuple #[.agg #[.string ⟨#[]⟩, .string ⟨#[]⟩], .bool false]) (rcell2 (p := 2) (q := 3) rfl _ _ _ _ #[.string ⟨#[]⟩, .string ⟨#[]⟩] _ _ rfl (setRow_heap _ _ _ #[.string ⟨#[]⟩, .string ⟨#[]⟩] _ _ HG2.out) Try.underlying25 rfl sizePr) rfl ⟨below_setRowV HB2.out (Nat.le_refl _) _, .inl ⟨HN.out, rfl⟩⟩
set_option maxHeartbeats 8000000 in
set_option maxRecDepth 100000 in
theorem rfield14_2 (s x y : ByteArray) (w : World) (hm : s.size ≤ 1000000) (h : cutC s.data.toList = some (x.data.toList, y.data.toList)) (h1 : As.isTok x.data.toList = true) (h2 : As.plain y.data.toList = false) : Calls Try.prog 65 #[.string s] w (FieldTo s w) := by
  have HN : Hid (fieldL s.data.toList = none) := Lib.hid (by unfold fieldL; rw [h]; dsimp only; rw [if_neg (by rw [h2]; simp)])
  have hsz := cut_szs h
  have HC : Hid (∀ W, Calls Try.prog 48 #[.string s] W fun e w' => e = .returned (.tuple #[.string x, .string y, .bool true]) ∧ Below W.heap.size W w') := Lib.hid fun W => rparts_someB s x y W hm h
  have HX : Hid (x.size ≤ 1000000) := Lib.hid (by omega)
  have HY : Hid (y.size ≤ 1000000) := Lib.hid (by omega)
  have H1 := Lib.hid h1
  have H2 := Lib.hid h2
  clear hm h h1 h2 hsz
  go_enter Try.func65, Try.ntmps65
  go_wp2_with (first
    | (go_at_call 48; (with_reducible refine (HC.out _).mono ?_); rintro e w1 ⟨rfl, hb1⟩; have HG1 := Lib.hid (kept_heap (heap_alloc_new w (.cells zPr 25)) hb1); have HB1 := Lib.hid (stp (stpA (Below.refl w.heap.size w) (.cells zPr 25)) hb1); clear hb1)
    | (go_at_call 49; (with_reducible refine (rtoken7 x true w1 HX.out H1.out).mono ?_); rintro e w2 ⟨rfl, hb2⟩; have HG2 := Lib.hid (kept_heap HG1.out hb2); have HB2 := Lib.hid (stp HB1.out hb2); clear hb2)
    | (go_at_call 68; (with_reducible refine (rplain7 y false w2 HY.out H2.out).mono ?_); rintro e w3 ⟨rfl, hb3⟩; have HG3 := Lib.hid (kept_heap HG2.out hb3); have HB3 := Lib.hid (stp HB2.out hb3); clear hb3)
    | (refine wpList_store_row rfl _ _ _ rfl w.heap.size #[.string ⟨#[]⟩, .string ⟨#[]⟩] rfl rfl 25 zPr HG3.out sizePr rfl (onePr _ _) ?_)
    | fail)
  exact bodyPost_ret (v := .tuple #[.agg #[.string ⟨#[]⟩, .string ⟨#[]⟩], .bool false]) (rcell2 (p := 2) (q := 3) rfl _ _ _ _ #[.string ⟨#[]⟩, .string ⟨#[]⟩] _ _ rfl (setRow_heap _ _ _ #[.string ⟨#[]⟩, .string ⟨#[]⟩] _ _ HG3.out) Try.underlying25 rfl sizePr) rfl ⟨below_setRowV HB3.out (Nat.le_refl _) _, .inl ⟨HN.out, rfl⟩⟩
set_option maxHeartbeats 8000000 in
set_option maxRecDepth 100000 in
theorem rfield14_3 (s x y : ByteArray) (w : World) (hm : s.size ≤ 1000000) (h : cutC s.data.toList = some (x.data.toList, y.data.toList)) (h1 : As.isTok x.data.toList = true) (h2 : As.plain y.data.toList = true) : Calls Try.prog 65 #[.string s] w (FieldTo s w) := by
  obtain ⟨u, hu⟩ : ∃ u, lowS x = u := ⟨_, rfl⟩
  obtain ⟨v, hv⟩ : ∃ v, trimS y = v := ⟨_, rfl⟩
  have HN : Hid (fieldL s.data.toList = some ⟨u.data.toList, v.data.toList⟩) := Lib.hid (by unfold fieldL; rw [h]; dsimp only; rw [if_pos ⟨h1, h2⟩, ← hu, ← hv]; rfl)
  have hsz := cut_szs h
  have HC : Hid (∀ W, Calls Try.prog 48 #[.string s] W fun e w' => e = .returned (.tuple #[.string x, .string y, .bool true]) ∧ Below W.heap.size W w') := Lib.hid fun W => rparts_someB s x y W hm h
  have HX : Hid (x.size ≤ 1000000) := Lib.hid (by omega)
  have HY : Hid (y.size ≤ 1000000) := Lib.hid (by omega)
  have H1 := Lib.hid h1
  have H2 := Lib.hid h2
  have HU := Lib.hid hu
  have HV := Lib.hid hv
  clear hm h h1 h2 hsz hu hv
  go_enter Try.func65, Try.ntmps65
  go_wp2_with (first
    | (go_at_call 48; (with_reducible refine (HC.out _).mono ?_); rintro e w1 ⟨rfl, hb1⟩; have HG1 := Lib.hid (kept_heap (heap_alloc_new w (.cells zPr 25)) hb1); have HB1 := Lib.hid (stp (stpA (Below.refl w.heap.size w) (.cells zPr 25)) hb1); clear hb1)
    | (go_at_call 49; (with_reducible refine (rtoken7 x true w1 HX.out H1.out).mono ?_); rintro e w2 ⟨rfl, hb2⟩; have HG2 := Lib.hid (kept_heap HG1.out hb2); have HB2 := Lib.hid (stp HB1.out hb2); clear hb2)
    | (go_at_call 68; (with_reducible refine (rplain7 y true w2 HY.out H2.out).mono ?_); rintro e w3 ⟨rfl, hb3⟩; have HG3 := Lib.hid (kept_heap HG2.out hb3); have HB3 := Lib.hid (stp HB2.out hb3); clear hb3)
    | (go_at_call 50; (with_reducible refine (rlower7 x u w3 HX.out HU.out).mono ?_); rintro e w4 ⟨rfl, hb4⟩; have HG4 := Lib.hid (kept_heap HG3.out hb4); have HB4 := Lib.hid (stp HB3.out hb4); clear hb4)
    | (go_at_call 69; (with_reducible refine (rtrim7 y v w4 HY.out HV.out).mono ?_); rintro e w5 ⟨rfl, hb5⟩; have HG5 := Lib.hid (kept_heap HG4.out hb5); have HB5 := Lib.hid (stp HB4.out hb5); clear hb5)
    | (refine wpList_store_row rfl _ _ _ rfl w.heap.size #[.string u, .string v] rfl rfl 25 zPr HG5.out sizePr rfl (onePr _ _) ?_)
    | fail)
  exact bodyPost_ret (v := .tuple #[.agg #[.string u, .string v], .bool true]) (rcell2 (p := 2) (q := 3) rfl _ _ _ _ #[.string u, .string v] _ _ rfl (setRow_heap _ _ _ #[.string u, .string v] _ _ HG5.out) Try.underlying25 rfl sizePr) rfl ⟨below_setRowV HB5.out (Nat.le_refl _) _, .inr ⟨u, v, HN.out, rfl⟩⟩
theorem rfield14 (s : ByteArray) (w : World) (hm : s.size ≤ 1000000) : Calls Try.prog 65 #[.string s] w (FieldTo s w) := by
  cases hc : cutC s.data.toList with
  | none => exact rfield14_0 s w hm hc
  | some p =>
    obtain ⟨a, b⟩ := p
    have hc' : cutC s.data.toList = some ((⟨a.toArray⟩ : ByteArray).data.toList, (⟨b.toArray⟩ : ByteArray).data.toList) := by rw [hc]
    cases h1 : As.isTok (⟨a.toArray⟩ : ByteArray).data.toList with
    | false => exact rfield14_1 s _ _ w hm hc' h1
    | true =>
      cases h2 : As.plain (⟨b.toArray⟩ : ByteArray).data.toList with
      | false => exact rfield14_2 s _ _ w hm hc' h1 h2
      | true => exact rfield14_3 s _ _ w hm hc' h1 h2
end Hx
end Go.Proofs.Ytfdhogaknlabkaa
namespace Go.Proofs.Ytfdhogaknlabkaa
namespace Lx
open Tx Nmb Es
set_option linter.unusedVariables false
/-- Are the names new, behind others? -/
def fresh : List Pr → List Pr → Bool
  | _, [] => true
  | acc, p :: r => !hasL acc p.name && fresh (acc ++ [p]) r
theorem fresh_snoc : ∀ (l acc : List Pr) (p : Pr), fresh acc (l ++ [p]) = (fresh acc l && !hasL (acc ++ l) p.name) := by
  intro l
  induction l with
  | nil => intro acc p; simp [fresh]
  | cons q l ih =>
    intro acc p
    rw [List.cons_append]
    show (!hasL acc q.name && fresh (acc ++ [q]) (l ++ [p])) = ((!hasL acc q.name && fresh (acc ++ [q]) l) && _)
    rw [ih, List.append_assoc, List.singleton_append, Bool.and_assoc]
/-- How many different names there are. -/
def dis : List Pr → List Pr → Nat
  | _, [] => 0
  | acc, p :: r => (if hasL acc p.name then 0 else 1) + dis (acc ++ [p]) r
theorem dis_snoc : ∀ (l acc : List Pr) (p : Pr), dis acc (l ++ [p]) = dis acc l + (if hasL (acc ++ l) p.name then 0 else 1) := by
  intro l
  induction l with
  | nil => intro acc p; simp [dis]
  | cons q l ih =>
    intro acc p
    rw [List.cons_append]
    show (if hasL acc q.name then 0 else 1) + dis (acc ++ [q]) (l ++ [p]) = ((if hasL acc q.name then 0 else 1) + dis (acc ++ [q]) l) + _
    rw [ih, List.append_assoc, List.singleton_append, Nat.add_assoc]
theorem dis_le : ∀ (l acc : List Pr), dis acc l ≤ l.length ∧ (dis acc l = l.length ↔ fresh acc l = true) := by
  intro l
  induction l with
  | nil => intro acc; simp [dis, fresh]
  | cons q l ih =>
    intro acc
    obtain ⟨h1, h2⟩ := ih (acc ++ [q])
    unfold dis fresh
    rw [List.length_cons]
    cases hh : hasL acc q.name
    · simp
      refine ⟨by omega, ?_⟩
      rw [← h2]
      omega
    · simp
      omega
theorem attrsF_fresh : ∀ (l acc : List Pr), attrsF acc l = (fresh acc l && l.all fun p => fullL p.name && okT p.value) := by
  intro l
  induction l with
  | nil => intro acc; rfl
  | cons p l ih =>
    intro acc
    unfold attrsF fresh
    rw [ih, List.all_cons]
    cases fullL p.name <;> cases hasL acc p.name <;> cases okT p.value <;> simp
/-- The tag whose name stands ahead of a text, names that come twice let through. -/
def tagN : Nat → List UInt8 → Option (Bool × List Pr × List UInt8)
  | 0, _ => none
  | f + 1, l => match l.dropWhile blk with
    | [] => none
    | c :: x => if c = 62 then some (false, [], x) else if c = 47 ∧ x.head? = some 62 then some (true, [], x.tail) else
      match attrL (c :: x) with
      | none => none
      | some (p, y) => if l.length = (c :: x).length then none else (tagN f y).map fun q => (q.1, p :: q.2.1, q.2.2)
theorem tagN_same : ∀ (f g : Nat) (l : List UInt8), l.length < f → l.length < g → tagN f l = tagN g l := by
  intro f
  induction f with
  | zero => intro g l h; omega
  | succ f ih =>
    intro g l h1 h2
    cases g with
    | zero => omega
    | succ g =>
      unfold tagN
      have hd := dropWhile_len blk l
      cases hb : l.dropWhile blk with
      | nil => rfl
      | cons c x =>
        dsimp only
        split
        · rfl
        split
        · rfl
        cases ha : attrL (c :: x) with
        | none => rfl
        | some q =>
          obtain ⟨p, y⟩ := q
          have hl := attrL_len ha
          rw [hb] at hd
          dsimp only
          split
          · rfl
          rw [ih g y (by omega) (by omega)]
/-- .. and then asked. -/
theorem tagF_N : ∀ (f : Nat) (acc : List Pr) (l : List UInt8), tagF f acc l = match tagN f l with
    | none => none
    | some (b, m, x) => if fresh acc m = true then some (b, acc ++ m, x) else none := by
  intro f
  induction f with
  | zero => intro acc l; rfl
  | succ f ih =>
    intro acc l
    unfold tagF tagN
    cases hb : l.dropWhile blk with
    | nil => rfl
    | cons c x =>
      dsimp only
      by_cases h1 : c = 62
      · rw [if_pos h1, if_pos h1]
        simp [fresh]
      rw [if_neg h1, if_neg h1]
      by_cases h2 : c = 47 ∧ x.head? = some 62
      · rw [if_pos h2, if_pos h2]
        simp [fresh]
      rw [if_neg h2, if_neg h2]
      cases ha : attrL (c :: x) with
      | none => rfl
      | some q =>
        obtain ⟨p, y⟩ := q
        dsimp only
        by_cases h3 : l.length = (c :: x).length
        · rw [if_pos (.inl h3), if_pos h3]
        · rw [if_neg h3]
          by_cases h4 : hasL acc p.name = true
          · rw [if_pos (.inr h4)]
            cases tagN f y with
            | none => rfl
            | some r =>
              obtain ⟨b, m, z⟩ := r
              simp [fresh, h4]
          · rw [if_neg (by rintro (h | h); exact h3 h; exact h4 h), ih]
            cases tagN f y with
            | none => rfl
            | some r =>
              obtain ⟨b, m, z⟩ := r
              simp [fresh, h4]
def tagH (l : List UInt8) : Option (Bool × List Pr × List UInt8) := tagN (l.length + 1) l
theorem tagH_nil {l : List UInt8} (h : l.dropWhile blk = []) : tagH l = none := by unfold tagH tagN; rw [h]
theorem tagH_shut {l x : List UInt8} (h : l.dropWhile blk = 62 :: x) : tagH l = some (false, [], x) := by unfold tagH tagN; rw [h]; simp
theorem tagH_bare {l x : List UInt8} (h : l.dropWhile blk = 47 :: 62 :: x) : tagH l = some (true, [], x) := by unfold tagH tagN; rw [h]; simp
/-- No end of a tag stands here. -/
def noEnd9 (l : List UInt8) : Prop := l.head? ≠ some 62 ∧ l.take 2 ≠ [47, 62]
theorem noEnd9_cons {c : UInt8} {x : List UInt8} (h : noEnd9 (c :: x)) : c ≠ 62 ∧ ¬ (c = 47 ∧ x.head? = some 62) := by
  obtain ⟨h1, h2⟩ := h
  refine ⟨fun e => h1 (by rw [e]; rfl), ?_⟩
  rintro ⟨rfl, h4⟩
  cases x with
  | nil => cases h4
  | cons d x => injection h4 with h4; exact h2 (by rw [h4]; rfl)
theorem tagH_none {l : List UInt8} (h : noEnd9 (l.dropWhile blk)) (h2 : (l.dropWhile blk).length = l.length ∨ attrL (l.dropWhile blk) = none) : tagH l = none := by
  unfold tagH tagN
  cases hb : l.dropWhile blk with
  | nil => rfl
  | cons c x =>
    rw [hb] at h h2
    obtain ⟨h3, h4⟩ := noEnd9_cons h
    dsimp only
    rw [if_neg h3, if_neg h4]
    rcases h2 with h2 | h2
    · cases attrL (c :: x) with
      | none => rfl
      | some q => dsimp only; rw [if_pos h2.symm]
    · rw [h2]
theorem tagH_next {l y : List UInt8} {p : Pr} (h : noEnd9 (l.dropWhile blk)) (h2 : (l.dropWhile blk).length ≠ l.length) (ha : attrL (l.dropWhile blk) = some (p, y)) : tagH l = (tagH y).map fun q => (q.1, p :: q.2.1, q.2.2) := by
  have hd := dropWhile_len blk l
  have hl := attrL_len ha
  unfold tagH
  conv => lhs; unfold tagN
  cases hb : l.dropWhile blk with
  | nil => rw [hb] at ha; cases ha
  | cons c x =>
    rw [hb] at h h2 ha hd hl
    obtain ⟨h3, h4⟩ := noEnd9_cons h
    dsimp only
    rw [if_neg h3, if_neg h4, ha]
    dsimp only
    rw [if_neg (fun e => h2 e.symm), tagN_same l.length (y.length + 1) y (by omega) (by omega)]
/-- The tag behind < and a name. -/
theorem tagL_H {l : List UInt8} (h47 : l.head? ≠ some 47) (hw : wordL l ≠ []) : tagL l = match tagH (l.drop (wordL l).length) with
    | none => none
    | some (b, m, x) => if fresh [] m = true then some (⟨if b then 3 else 1, wordL l, m, []⟩, x) else none := by
  unfold tagL tagH
  rw [if_neg h47, if_neg hw, tagF_N, tagN_same (l.length + 1) ((l.drop (wordL l).length).length + 1) _ (by rw [List.length_drop]; omega) (by omega)]
  cases tagN ((l.drop (wordL l).length).length + 1) (l.drop (wordL l).length) with
  | none => rfl
  | some r =>
    obtain ⟨b, m, x⟩ := r
    dsimp only
    by_cases hf : fresh [] m = true
    · rw [if_pos hf, if_pos hf]
      simp
    · rw [if_neg hf, if_neg hf]
      rfl
theorem tagL_no {l : List UInt8} (h47 : l.head? ≠ some 47) (hw : wordL l = []) : tagL l = none := by unfold tagL; rw [if_neg h47, if_pos hw]
theorem tagL_47 {l : List UInt8} : tagL (47 :: l) = shutL l := by unfold tagL; simp
theorem tw_len (p : UInt8 → Bool) (l : List UInt8) : l.drop (l.takeWhile p).length = l.dropWhile p ∧ l.take (l.takeWhile p).length = l.takeWhile p := by
  induction l with
  | nil => simp
  | cons c l ih =>
    by_cases h : p c = true
    · rw [List.takeWhile_cons_of_pos h, List.dropWhile_cons_of_pos h, List.length_cons, List.drop_succ_cons, List.take_succ_cons, ih.1, ih.2]
      exact ⟨rfl, rfl⟩
    · rw [List.takeWhile_cons_of_neg h, List.dropWhile_cons_of_neg h]
      exact ⟨rfl, rfl⟩
/-- Full names: what stands there, if it is one. -/
theorem wordL_of (l : List UInt8) : (fullL (l.takeWhile wch) = true → wordL l = l.takeWhile wch ∧ wordL l ≠ [] ∧ l.drop (wordL l).length = l.dropWhile wch) ∧ (fullL (l.takeWhile wch) = false → wordL l = []) := by
  refine ⟨fun h => ?_, fun h => ?_⟩
  · have e : wordL l = l.takeWhile wch := by unfold wordL; rw [if_pos h]
    refine ⟨e, by rw [e]; exact fullL_ne h, ?_⟩
    rw [e]
    exact (tw_len wch l).1
  · unfold wordL
    rw [if_neg (by rw [h]; decide)]
/-- What is not a sign. -/
def ne (q c : UInt8) : Bool := c != q
theorem ne_iff (q c : UInt8) : ne q c = true ↔ c ≠ q := by unfold ne; simp
theorem cutQ_ne (q : UInt8) (l : List UInt8) : cutQ q l = match l.dropWhile (ne q) with | [] => none | _ :: y => some (l.takeWhile (ne q), y) := by
  obtain ⟨h1, h2, h3⟩ := tw_split (ne q) l
  cases hd : l.dropWhile (ne q) with
  | nil =>
    rw [hd, List.append_nil] at h1
    dsimp only
    refine cutQ_none fun hm => ?_
    rw [h1] at hm
    exact (ne_iff q q).1 (h2 q hm) rfl
  | cons c y =>
    have hc := h3 c y hd
    have : c = q := by unfold ne at hc; simpa using hc
    subst this
    rw [hd] at h1
    dsimp only
    conv => lhs; rw [h1]
    refine cutQ_of y fun hm => (ne_iff c c).1 (h2 c hm) rfl
theorem txt_ne : txt = ne 60 := rfl
end Lx
end Go.Proofs.Ytfdhogaknlabkaa
