/-
  Texts of one seat, put together: NumM, EscM, LexM, LexN.
-/
import Derived.Test.YteobcohjikjalaaGreatDoorSp00
set_option linter.unusedSimpArgs false
namespace Go.Proofs.YteobcohjikjalaaGreatDoor
namespace Nmb
set_option linter.unusedVariables false
def dgt (n : Nat) : UInt8 := UInt8.ofNat (48 + n)
theorem dgt_nat {n : Nat} (h : n < 10) : (dgt n).toNat = 48 + n := by unfold dgt; rw [UInt8.toNat_ofNat']; omega
def dg (n : Nat) : List UInt8 := if h : n < 10 then [dgt n] else dg (n / 10) ++ [dgt (n % 10)]
termination_by n
decreasing_by omega
theorem dg_small {n : Nat} (h : n < 10) : dg n = [dgt n] := by rw [dg, dif_pos h]
theorem dg_more {n : Nat} (h : 10 ≤ n) : dg n = dg (n / 10) ++ [dgt (n % 10)] := by rw [dg, dif_neg (by omega)]
def isDg (b : UInt8) : Bool := decide (48 ≤ b.toNat) && decide (b.toNat ≤ 57)
def val (l : List UInt8) : Nat := l.foldl (fun n b => 10 * n + (b.toNat - 48)) 0
def okN (l : List UInt8) : Bool := !l.isEmpty && l.all isDg && (l.length == 1 || l.head? != some 48)
theorem dg_short (k n : Nat) (h : n < 10 ^ (k + 1)) : (dg n).length ≤ k + 1 := by
  induction k generalizing n with
  | zero => rw [dg_small (by simpa using h)]; simp
  | succ k ih =>
    by_cases h9 : n < 10
    · rw [dg_small h9]; simp
    · rw [dg_more (by omega), List.length_append]
      have := ih (n / 10) (by rw [Nat.pow_succ] at h; omega)
      simp
      omega
def most : Nat := 9007199254740991
def readN (l : List UInt8) : Option Nat := if okN l && decide (val l ≤ most) then some (val l) else none
end Nmb
end Go.Proofs.YteobcohjikjalaaGreatDoor
set_option linter.unusedSimpArgs false
namespace Go.Proofs.YteobcohjikjalaaGreatDoor
namespace Es
open Go Tx Nmb
theorem u8_every (p : UInt8 → Prop) [DecidablePred p] (h : ∀ n : Fin 256, p (UInt8.ofNat n.val)) (c : UInt8) : p c := by
  have := h ⟨c.toNat, c.toNat_lt⟩
  simpa using this
def escb (q : Bool) (c : UInt8) : List UInt8 :=
  if c = 38 then [38, 97, 109, 112, 59] else if c = 60 then [38, 108, 116, 59] else if c = 62 then [38, 103, 116, 59] else if c = 13 then [38, 35, 49, 51, 59]
  else if q = true ∧ c = 34 then [38, 113, 117, 111, 116, 59] else if q = true ∧ c = 9 then [38, 35, 57, 59] else if q = true ∧ c = 10 then [38, 35, 49, 48, 59] else [c]
def escL (q : Bool) (l : List UInt8) : List UInt8 := l.flatMap (escb q)
theorem escL_cons (q : Bool) (c : UInt8) (l : List UInt8) : escL q (c :: l) = escb q c ++ escL q l := by simp [escL]
def hxv (c : UInt8) : Option Nat := if 48 ≤ c.toNat ∧ c.toNat ≤ 57 then some (c.toNat - 48) else if 97 ≤ c.toNat ∧ c.toNat ≤ 102 then some (c.toNat - 87) else if 65 ≤ c.toNat ∧ c.toNat ≤ 70 then some (c.toNat - 55) else none
def hexF (l : List UInt8) : Option Nat := l.foldl (fun a c => a.bind fun n => (hxv c).map fun d => 16 * n + d) (some 0)
def hexV (l : List UInt8) : Option Nat := if l = [] ∨ 6 < l.length ∨ l.head? = some 48 then none else hexF l
def numL (l : List UInt8) : Option Nat := ((match l with | 120 :: r => hexV r | _ => readN l)).filter fun n => may n
def meantL (l : List UInt8) : Option (List UInt8) :=
  if l = [97, 109, 112] then some [38] else if l = [108, 116] then some [60] else if l = [103, 116] then some [62] else if l = [113, 117, 111, 116] then some [34] else if l = [97, 112, 111, 115] then some [39]
  else match l with | 35 :: r => (numL r).map enc | _ => none
def semi : List UInt8 → Option (List UInt8 × List UInt8)
  | [] => none
  | c :: r => if c = 59 then some ([], r) else (semi r).map fun p => (c :: p.1, p.2)
theorem semi_some : ∀ (l x r : List UInt8), semi l = some (x, r) → l = x ++ 59 :: r ∧ (59 : UInt8) ∉ x
  | [], x, r, h => by cases h
  | c :: l, x, r, h => by
    rw [semi] at h
    split at h
    · rename_i hc
      cases h
      exact ⟨by rw [hc]; rfl, by simp⟩
    · rename_i hc
      rw [Option.map_eq_some_iff] at h
      obtain ⟨⟨y, t⟩, h1, h2⟩ := h
      cases h2
      obtain ⟨e, hn⟩ := semi_some l y _ h1
      refine ⟨by rw [e]; rfl, ?_⟩
      intro hm
      rcases List.mem_cons.1 hm with h | h
      · exact hc h.symm
      · exact hn h
def rdF : Nat → List UInt8 → Option (List UInt8)
  | _, [] => some []
  | 0, _ :: _ => none
  | f + 1, c :: r => if c = 60 then none else if c = 38 then (match semi r with
      | none => none
      | some (x, t) => match meantL x with
        | none => none
        | some y => (rdF f t).map (y ++ ·)) else (rdF f r).map (c :: ·)
def rd (l : List UInt8) : Option (List UInt8) := rdF l.length l
theorem rdF_same : ∀ (f g : Nat) (l : List UInt8), l.length ≤ f → l.length ≤ g → rdF f l = rdF g l
  | f, g, [], _, _ => by cases f <;> cases g <;> rfl
  | 0, g, c :: r, h, _ => by simp at h
  | f + 1, 0, c :: r, _, h => by simp at h
  | f + 1, g + 1, c :: r, h1, h2 => by
    simp only [List.length_cons] at h1 h2
    rw [rdF, rdF]
    by_cases h60 : c = 60
    · rw [if_pos h60, if_pos h60]
    · rw [if_neg h60, if_neg h60]
      by_cases h38 : c = 38
      · rw [if_pos h38, if_pos h38]
        cases hs : semi r with
        | none => rfl
        | some p =>
          obtain ⟨x, t⟩ := p
          have hl := congrArg List.length (semi_some r x t hs).1
          simp only [List.length_append, List.length_cons] at hl
          simp only
          rw [rdF_same f g t (by omega) (by omega)]
      · rw [if_neg h38, if_neg h38, rdF_same f g r (by omega) (by omega)]
theorem rd_bad (r : List UInt8) : rd (60 :: r) = none := by unfold rd; rw [List.length_cons, rdF, if_pos rfl]
theorem rd_byte (c : UInt8) (r : List UInt8) (h1 : c ≠ 60) (h2 : c ≠ 38) : rd (c :: r) = (rd r).map (c :: ·) := by
  unfold rd
  rw [List.length_cons, rdF, if_neg h1, if_neg h2]
theorem rd_amp (r : List UInt8) : rd (38 :: r) = match semi r with
    | none => none
    | some (x, t) => match meantL x with
      | none => none
      | some y => (rd t).map (y ++ ·) := by
  unfold rd
  rw [List.length_cons, rdF, if_neg (by decide), if_pos rfl]
  cases hs : semi r with
  | none => rfl
  | some p =>
    obtain ⟨x, t⟩ := p
    have hl := congrArg List.length (semi_some r x t hs).1
    simp only [List.length_append, List.length_cons] at hl
    simp only
    rw [rdF_same r.length t.length t (by omega) (Nat.le_refl _)]
theorem escb_len (q : Bool) (c : UInt8) : 1 ≤ (escb q c).length ∧ (escb q c).length ≤ 6 := by
  cases q
  · exact u8_every (fun c => 1 ≤ (escb false c).length ∧ (escb false c).length ≤ 6) (by decide +kernel) c
  · exact u8_every (fun c => 1 ≤ (escb true c).length ∧ (escb true c).length ≤ 6) (by decide +kernel) c
theorem escL_len (q : Bool) (l : List UInt8) : l.length ≤ (escL q l).length ∧ (escL q l).length ≤ 6 * l.length := by
  induction l with
  | nil => simp [escL]
  | cons c l ih =>
    have := escb_len q c
    rw [escL_cons, List.length_append, List.length_cons]
    omega
theorem enc_far (n : Nat) (h : 128 ≤ n) (hs : sv n = true) : ∀ x ∈ enc n, 128 ≤ x.toNat := by
  have hb := sv_le hs
  unfold enc
  rw [if_neg (by omega)]
  intro x hx
  split at hx
  · simp only [List.mem_cons, List.not_mem_nil, or_false] at hx
    rcases hx with rfl | rfl <;> rw [bt_nat _ (by omega)] <;> omega
  · split at hx
    · simp only [List.mem_cons, List.not_mem_nil, or_false] at hx
      rcases hx with rfl | rfl | rfl <;> rw [bt_nat _ (by omega)] <;> omega
    · simp only [List.mem_cons, List.not_mem_nil, or_false] at hx
      rcases hx with rfl | rfl | rfl | rfl <;> rw [bt_nat _ (by omega)] <;> omega
theorem pts_app {a b : List UInt8} (ha : (pts a).isSome = true) (hb : (pts b).isSome = true) : (pts (a ++ b)).isSome = true := by
  obtain ⟨na, h1⟩ := Option.isSome_iff_exists.1 ha
  obtain ⟨nb, h2⟩ := Option.isSome_iff_exists.1 hb
  obtain ⟨e1, m1⟩ := (pts_iff a na).1 h1
  obtain ⟨e2, m2⟩ := (pts_iff b nb).1 h2
  rw [e1, e2, ← encs_append, pts_encs (mays_append.2 ⟨m1, m2⟩)]
  rfl
end Es
end Go.Proofs.YteobcohjikjalaaGreatDoor
set_option linter.unusedSimpArgs false
namespace Go.Proofs.YteobcohjikjalaaGreatDoor
namespace Lx
open Tx Nmb Es
set_option linter.unusedVariables false
structure Pr where
  name : List UInt8
  value : List UInt8
structure Tk where
  kind : Nat
  name : List UInt8
  attrs : List Pr
  text : List UInt8
def ltr (c : UInt8) : Bool := (decide (97 ≤ c.toNat) && decide (c.toNat ≤ 122)) || (decide (65 ≤ c.toNat) && decide (c.toNat ≤ 90)) || c == 95
def nch (c : UInt8) : Bool := ltr c || (decide (48 ≤ c.toNat) && decide (c.toNat ≤ 57)) || c == 46 || c == 45
def wch (c : UInt8) : Bool := nch c || c == 58
def blk (c : UInt8) : Bool := c == 32 || c == 9 || c == 10 || c == 13
def nameL : List UInt8 → Bool
  | [] => false
  | c :: r => ltr c && r.all nch
def cutC : List UInt8 → Option (List UInt8 × List UInt8)
  | [] => none
  | c :: r => if c = 58 then some ([], r) else (cutC r).map fun p => (c :: p.1, p.2)
def fullL (l : List UInt8) : Bool := match cutC l with | some (a, b) => nameL b && nameL a | none => nameL l
theorem cutC_some : ∀ {l a b : List UInt8}, cutC l = some (a, b) → l = a ++ 58 :: b ∧ (58 : UInt8) ∉ a := by
  intro l
  induction l with
  | nil => intro a b h; cases h
  | cons c r ih =>
    intro a b h
    unfold cutC at h
    by_cases hc : c = 58
    · rw [if_pos hc] at h
      obtain ⟨rfl, rfl⟩ := (Prod.mk.injEq _ _ _ _).mp (Option.some.inj h)
      exact ⟨by rw [hc]; rfl, by simp⟩
    · rw [if_neg hc] at h
      cases hr : cutC r with
      | none => rw [hr] at h; cases h
      | some p =>
        rw [hr] at h
        obtain ⟨rfl, rfl⟩ := (Prod.mk.injEq _ _ _ _).mp (Option.some.inj h)
        obtain ⟨h1, h2⟩ := ih (a := p.1) (b := p.2) hr
        exact ⟨by rw [h1]; rfl, by rw [List.mem_cons, not_or]; exact ⟨Ne.symm hc, h2⟩⟩
theorem nch_of_ltr {c : UInt8} (h : ltr c = true) : nch c = true := by unfold nch; rw [h]; rfl
theorem nameL_all {l : List UInt8} (h : nameL l = true) : ∀ c ∈ l, nch c = true := by
  cases l with
  | nil => cases h
  | cons c r =>
    unfold nameL at h
    rw [Bool.and_eq_true] at h
    intro x hx
    rcases List.mem_cons.1 hx with rfl | hx
    · exact nch_of_ltr h.1
    · exact List.all_eq_true.1 h.2 x hx
theorem fullL_all {l : List UInt8} (h : fullL l = true) : ∀ c ∈ l, wch c = true := by
  unfold fullL at h
  cases hc : cutC l with
  | none =>
    rw [hc] at h
    intro x hx
    unfold wch
    rw [nameL_all h x hx]
    rfl
  | some p =>
    obtain ⟨a, b⟩ := p
    rw [hc] at h
    simp only [Bool.and_eq_true] at h
    obtain ⟨rfl, _⟩ := cutC_some hc
    intro x hx
    unfold wch
    rcases List.mem_append.1 hx with hx | hx
    · rw [nameL_all h.2 x hx]; rfl
    · rcases List.mem_cons.1 hx with rfl | hx
      · decide
      · rw [nameL_all h.1 x hx]; rfl
theorem fullL_ne {l : List UInt8} (h : fullL l = true) : l ≠ [] := by rintro rfl; cases h
theorem wch_far {c : UInt8} (h : wch c = true) : blk c = false ∧ c ≠ 61 ∧ c ≠ 62 ∧ c ≠ 47 ∧ c ≠ 60 ∧ c ≠ 34 ∧ c ≠ 39 ∧ c.toNat < 128 ∧ 45 ≤ c.toNat := by
  revert h
  exact u8_every (fun c => wch c = true → blk c = false ∧ c ≠ 61 ∧ c ≠ 62 ∧ c ≠ 47 ∧ c ≠ 60 ∧ c ≠ 34 ∧ c ≠ 39 ∧ c.toNat < 128 ∧ 45 ≤ c.toNat) (by decide +kernel) c
theorem blk_far {c : UInt8} (h : blk c = true) : wch c = false ∧ c ≠ 61 ∧ c ≠ 62 ∧ c ≠ 47 ∧ c ≠ 60 ∧ c ≠ 34 ∧ c ≠ 39 ∧ c.toNat < 128 := by
  revert h
  exact u8_every (fun c => blk c = true → wch c = false ∧ c ≠ 61 ∧ c ≠ 62 ∧ c ≠ 47 ∧ c ≠ 60 ∧ c ≠ 34 ∧ c ≠ 39 ∧ c.toNat < 128) (by decide +kernel) c
theorem tw_app {p : UInt8 → Bool} {a b : List UInt8} (ha : ∀ c ∈ a, p c = true) (hb : ∀ c r, b = c :: r → p c = false) : (a ++ b).takeWhile p = a ∧ (a ++ b).dropWhile p = b := by
  induction a with
  | nil =>
    cases b with
    | nil => exact ⟨rfl, rfl⟩
    | cons c r =>
      have := hb c r rfl
      simp [this]
  | cons c a ih =>
    have hc := ha c (by simp)
    obtain ⟨h1, h2⟩ := ih (fun x hx => ha x (by simp [hx]))
    simp only [List.cons_append, List.takeWhile_cons, List.dropWhile_cons, hc, if_true, h1, h2]
    refine ⟨?_, ?_⟩ <;> first | rfl | trivial
theorem tw_split (p : UInt8 → Bool) (l : List UInt8) : l = l.takeWhile p ++ l.dropWhile p ∧ (∀ c ∈ l.takeWhile p, p c = true) ∧ ∀ c r, l.dropWhile p = c :: r → p c = false := by
  induction l with
  | nil => exact ⟨rfl, by simp, fun c r h => by cases h⟩
  | cons c l ih =>
    by_cases hc : p c = true
    · simp only [List.takeWhile_cons, List.dropWhile_cons, hc, if_true]
      refine ⟨by rw [List.cons_append, ← ih.1], fun x hx => ?_, ih.2.2⟩
      rcases List.mem_cons.1 hx with rfl | hx
      · exact hc
      · exact ih.2.1 x hx
    · simp only [List.takeWhile_cons, List.dropWhile_cons, hc]
      refine ⟨rfl, by simp, fun x r h => ?_⟩
      obtain ⟨rfl, _⟩ := List.cons.inj h
      exact Bool.eq_false_iff.2 hc
def wordL (l : List UInt8) : List UInt8 := if fullL (l.takeWhile wch) then l.takeWhile wch else []
theorem wordL_app {a b : List UInt8} (ha : fullL a = true) (hb : ∀ c r, b = c :: r → wch c = false) : wordL (a ++ b) = a := by
  unfold wordL
  rw [(tw_app (fullL_all ha) hb).1, if_pos ha]
theorem wordL_ne {l : List UInt8} (h : wordL l ≠ []) : fullL (wordL l) = true ∧ l = wordL l ++ l.dropWhile wch ∧ (∀ c r, l.dropWhile wch = c :: r → wch c = false) := by
  unfold wordL at h ⊢
  by_cases hf : fullL (l.takeWhile wch) = true
  · rw [if_pos hf] at h ⊢
    obtain ⟨h1, _, h3⟩ := tw_split wch l
    exact ⟨hf, h1, h3⟩
  · rw [if_neg hf] at h
    exact absurd rfl h
def toldL (l : List UInt8) : Option (List UInt8) := rd (l.map fun c => if blk c then 32 else c)
def cutQ (q : UInt8) : List UInt8 → Option (List UInt8 × List UInt8)
  | [] => none
  | c :: r => if c = q then some ([], r) else (cutQ q r).map fun p => (c :: p.1, p.2)
theorem cutQ_some {q : UInt8} : ∀ {l a b : List UInt8}, cutQ q l = some (a, b) → l = a ++ q :: b ∧ q ∉ a := by
  intro l
  induction l with
  | nil => intro a b h; cases h
  | cons c r ih =>
    intro a b h
    unfold cutQ at h
    by_cases hc : c = q
    · rw [if_pos hc] at h
      obtain ⟨rfl, rfl⟩ := (Prod.mk.injEq _ _ _ _).mp (Option.some.inj h)
      exact ⟨by rw [hc]; rfl, by simp⟩
    · rw [if_neg hc] at h
      cases hr : cutQ q r with
      | none => rw [hr] at h; cases h
      | some p =>
        rw [hr] at h
        obtain ⟨rfl, rfl⟩ := (Prod.mk.injEq _ _ _ _).mp (Option.some.inj h)
        obtain ⟨h1, h2⟩ := ih (a := p.1) (b := p.2) hr
        exact ⟨by rw [h1]; rfl, by rw [List.mem_cons, not_or]; exact ⟨Ne.symm hc, h2⟩⟩
theorem cutQ_of {q : UInt8} : ∀ {a : List UInt8} (b : List UInt8), q ∉ a → cutQ q (a ++ q :: b) = some (a, b) := by
  intro a
  induction a with
  | nil => intro b _; show (if q = q then _ else _) = _; rw [if_pos rfl]
  | cons c a ih =>
    intro b h
    rw [List.mem_cons, not_or] at h
    show (if c = q then _ else _) = _
    rw [if_neg (Ne.symm h.1)]
    show Option.map _ (cutQ q (a ++ q :: b)) = _
    rw [ih b h.2]
    rfl
def valL (l : List UInt8) : Option (List UInt8 × List UInt8) := match l with
  | [] => none
  | q :: r => if q = 34 ∨ q = 39 then match cutQ q r with | none => none | some (raw, y) => (toldL raw).map fun v => (v, y) else none
def attrL (l : List UInt8) : Option (Pr × List UInt8) :=
  if wordL l = [] then none else
  match (l.drop (wordL l).length).dropWhile blk with
  | [] => none
  | c :: r => if c = 61 then (valL (r.dropWhile blk)).map fun p => (⟨wordL l, p.1⟩, p.2) else none
theorem valL_iff (l v r : List UInt8) : valL l = some (v, r) ↔ ∃ q raw, l = q :: (raw ++ q :: r) ∧ (q = 34 ∨ q = 39) ∧ q ∉ raw ∧ toldL raw = some v := by
  constructor
  · intro h
    unfold valL at h
    cases l with
    | nil => cases h
    | cons q s =>
      dsimp only at h
      by_cases hq : q = 34 ∨ q = 39
      · rw [if_pos hq] at h
        cases hc : cutQ q s with
        | none => rw [hc] at h; cases h
        | some p =>
          obtain ⟨raw, y⟩ := p
          rw [hc] at h
          dsimp only at h
          obtain ⟨e1, e2⟩ := cutQ_some hc
          cases ht : toldL raw with
          | none => rw [ht] at h; cases h
          | some v' =>
            rw [ht] at h
            obtain ⟨rfl, rfl⟩ := (Prod.mk.injEq _ _ _ _).mp (Option.some.inj h)
            exact ⟨q, raw, by rw [e1], hq, e2, ht⟩
      · rw [if_neg hq] at h
        cases h
  · rintro ⟨q, raw, rfl, hq, hn, ht⟩
    unfold valL
    dsimp only
    rw [if_pos hq, cutQ_of _ hn]
    dsimp only
    rw [ht]
    rfl
theorem attrL_iff (l r : List UInt8) (p : Pr) : attrL l = some (p, r) ↔ ∃ g1 g2 x, l = p.name ++ (g1 ++ 61 :: (g2 ++ x)) ∧ fullL p.name = true ∧ (∀ c ∈ g1, blk c = true) ∧ (∀ c ∈ g2, blk c = true) ∧ valL x = some (p.value, r) := by
  constructor
  · intro h
    unfold attrL at h
    by_cases hw : wordL l = []
    · rw [if_pos hw] at h; cases h
    · rw [if_neg hw] at h
      obtain ⟨h1, h2, h3⟩ := wordL_ne hw
      have hd : l.drop (wordL l).length = l.dropWhile wch := by
        conv => lhs; arg 2; rw [h2]
        rw [List.drop_left]
      rw [hd] at h
      obtain ⟨e1, e2, e3⟩ := tw_split blk (l.dropWhile wch)
      cases hr : (l.dropWhile wch).dropWhile blk with
      | nil => rw [hr] at h; cases h
      | cons c s =>
        rw [hr] at h
        dsimp only at h
        by_cases hc : c = 61
        · rw [if_pos hc] at h
          obtain ⟨f1, f2, f3⟩ := tw_split blk s
          cases hv : valL (s.dropWhile blk) with
          | none => rw [hv] at h; cases h
          | some y =>
            rw [hv] at h
            obtain ⟨rfl, rfl⟩ := (Prod.mk.injEq _ _ _ _).mp (Option.some.inj h)
            refine ⟨_, _, _, ?_, h1, e2, f2, hv⟩
            show l = wordL l ++ _
            rw [← f1, ← hc, ← hr, ← e1]
            exact h2
        · rw [if_neg hc] at h; cases h
  · rintro ⟨g1, g2, x, rfl, hf, h1, h2, hv⟩
    have hb : ∀ c r, g1 ++ 61 :: (g2 ++ x) = c :: r → wch c = false := by
      intro c r e
      cases g1 with
      | nil => obtain ⟨rfl, _⟩ := List.cons.inj e; decide
      | cons d g => obtain ⟨rfl, _⟩ := List.cons.inj e; exact (blk_far (h1 d (by simp))).1
    have hw := wordL_app hf hb
    unfold attrL
    rw [hw, if_neg (fullL_ne hf), List.drop_left, (tw_app h1 (fun c r e => by obtain ⟨rfl, _⟩ := List.cons.inj e; decide)).2]
    dsimp only
    rw [if_pos rfl]
    have hx : ∀ c r, x = c :: r → blk c = false := by
      rintro c r' rfl
      obtain ⟨q, raw, e, hq, _⟩ := (valL_iff _ _ _).1 hv
      obtain ⟨rfl, _⟩ := List.cons.inj e
      rcases hq with rfl | rfl <;> decide
    rw [(tw_app h2 hx).2, hv]
    rfl
theorem attrL_len {l r : List UInt8} {p : Pr} (h : attrL l = some (p, r)) : r.length + p.name.length + 3 ≤ l.length := by
  obtain ⟨g1, g2, x, rfl, h1, h2, h3, h4⟩ := (attrL_iff _ _ _).1 h
  obtain ⟨q, raw, rfl, h5, h6, h7⟩ := (valL_iff _ _ _).1 h4
  simp only [List.length_append, List.length_cons]
  omega
def hasL (l : List Pr) (name : List UInt8) : Bool := l.any fun p => decide (p.name = name)
def tagF : Nat → List Pr → List UInt8 → Option (Bool × List Pr × List UInt8)
  | 0, _, _ => none
  | f + 1, acc, l => match l.dropWhile blk with
    | [] => none
    | c :: x => if c = 62 then some (false, acc, x) else if c = 47 ∧ x.head? = some 62 then some (true, acc, x.tail) else
      match attrL (c :: x) with
      | none => none
      | some (p, y) => if l.length = (c :: x).length ∨ hasL acc p.name = true then none else tagF f (acc ++ [p]) y
def shutL (l : List UInt8) : Option (Tk × List UInt8) :=
  if wordL l = [] then none else
  match (l.drop (wordL l).length).dropWhile blk with
  | [] => none
  | c :: r => if c = 62 then some (⟨2, wordL l, [], []⟩, r) else none
def tagL (l : List UInt8) : Option (Tk × List UInt8) :=
  if l.head? = some 47 then shutL l.tail else
  if wordL l = [] then none else
  (tagF (l.length + 1) [] (l.drop (wordL l).length)).map fun p => (⟨if p.1 then 3 else 1, wordL l, p.2.1, []⟩, p.2.2)
def txt (c : UInt8) : Bool := c != 60
def oneL (l : List UInt8) : Option (Tk × List UInt8) := match l with
  | [] => none
  | c :: r => if c = 60 then tagL r else (rd (l.takeWhile txt)).map fun x => (⟨4, [], [], x⟩, l.dropWhile txt)
theorem dropWhile_len (p : UInt8 → Bool) (l : List UInt8) : (l.dropWhile p).length ≤ l.length := by
  have := congrArg List.length (tw_split p l).1
  rw [List.length_append] at this
  omega
inductive TagI : List Pr → List UInt8 → Bool → List Pr → List UInt8 → Prop
  | shut (acc : List Pr) (g x : List UInt8) : (∀ c ∈ g, blk c = true) → TagI acc (g ++ 62 :: x) false acc x
  | bare (acc : List Pr) (g x : List UInt8) : (∀ c ∈ g, blk c = true) → TagI acc (g ++ 47 :: 62 :: x) true acc x
  | attr (acc : List Pr) (g l y : List UInt8) (p : Pr) (b : Bool) (at1 : List Pr) (x : List UInt8) : (∀ c ∈ g, blk c = true) → g ≠ [] → attrL l = some (p, y) → hasL acc p.name = false → TagI (acc ++ [p]) y b at1 x → TagI acc (g ++ l) b at1 x
theorem attrL_head {c : UInt8} {x : List UInt8} {q : Pr × List UInt8} (h : attrL (c :: x) = some q) : wch c = true := by
  obtain ⟨p, y⟩ := q
  obtain ⟨g1, g2, z, e, hf, _⟩ := (attrL_iff _ _ _).1 h
  have hn := fullL_ne hf
  cases hp : p.name with
  | nil => exact absurd hp hn
  | cons d r =>
    rw [hp] at e
    obtain ⟨rfl, _⟩ := List.cons.inj e
    exact fullL_all hf c (by rw [hp]; simp)
theorem tagF_iff : ∀ (f : Nat) (acc : List Pr) (l : List UInt8) (b : Bool) (at1 : List Pr) (x : List UInt8), l.length < f → (tagF f acc l = some (b, at1, x) ↔ TagI acc l b at1 x) := by
  intro f
  induction f with
  | zero => intro acc l b at1 x h; omega
  | succ f ih =>
    intro acc l b at1 x hl
    have hsp := tw_split blk l
    constructor
    · intro h
      unfold tagF at h
      cases hd : l.dropWhile blk with
      | nil => rw [hd] at h; cases h
      | cons c r =>
        rw [hd] at h hsp
        dsimp only at h
        rw [hsp.1]
        by_cases c1 : c = 62
        · rw [if_pos c1] at h
          obtain ⟨rfl, rfl, rfl⟩ : false = b ∧ acc = at1 ∧ r = x := by simpa using h
          rw [c1]
          exact .shut _ _ _ hsp.2.1
        · rw [if_neg c1] at h
          by_cases c2 : c = 47 ∧ r.head? = some 62
          · rw [if_pos c2] at h
            obtain ⟨rfl, rfl, rfl⟩ : true = b ∧ acc = at1 ∧ r.tail = x := by simpa using h
            rw [c2.1]
            cases r with
            | nil => exact absurd c2.2 (by simp)
            | cons d r =>
              obtain rfl : d = 62 := by simpa using c2.2
              exact .bare _ _ _ hsp.2.1
          · rw [if_neg c2] at h
            cases ha : attrL (c :: r) with
            | none => rw [ha] at h; cases h
            | some q =>
              obtain ⟨p, y⟩ := q
              rw [ha] at h
              dsimp only at h
              have hal := attrL_len ha
              have hdl := dropWhile_len blk l
              rw [hd] at hdl
              by_cases c3 : l.length = (c :: r).length ∨ hasL acc p.name = true
              · rw [if_pos c3] at h; cases h
              · rw [if_neg c3] at h
                rw [not_or] at c3
                refine .attr _ _ _ _ p _ _ _ hsp.2.1 ?_ ha (Bool.eq_false_iff.2 c3.2) ((ih _ _ _ _ _ (by omega)).1 h)
                intro hg
                apply c3.1
                have := congrArg List.length hsp.1
                rw [hg] at this
                exact this
    · intro h
      unfold tagF
      cases h with
      | shut _ g _ hg =>
        rw [(tw_app hg (fun c r e => by obtain ⟨rfl, _⟩ := List.cons.inj e; decide)).2]
        rfl
      | bare _ g _ hg =>
        rw [(tw_app hg (fun c r e => by obtain ⟨rfl, _⟩ := List.cons.inj e; decide)).2]
        rfl
      | attr _ g l' y p _ _ _ hg hn ha hh ht =>
        cases hl' : l' with
        | nil => rw [hl'] at ha; cases ha
        | cons c r =>
          rw [hl'] at ha hl
          have hw := attrL_head ha
          obtain ⟨w1, _, w3, w4, _⟩ := wch_far hw
          rw [(tw_app hg (fun d s e => by obtain ⟨rfl, _⟩ := List.cons.inj e; exact w1)).2]
          dsimp only
          have hal := attrL_len ha
          rw [if_neg w3, if_neg (fun h => w4 h.1), ha]
          dsimp only
          rw [if_neg (by
            rw [not_or]
            refine ⟨fun e => hn ?_, by rw [hh]; simp⟩
            rw [List.length_append] at e
            exact List.eq_nil_of_length_eq_zero (by omega))]
          rw [List.length_append] at hl
          exact (ih _ _ _ _ _ (by omega)).2 ht
theorem TagI.len {acc : List Pr} {l : List UInt8} {b : Bool} {at1 : List Pr} {x : List UInt8} (h : TagI acc l b at1 x) : x.length < l.length := by
  induction h with
  | shut acc g x hg => simp; omega
  | bare acc g x hg => simp; omega
  | attr acc g l y p b at1 x hg hn ha hh _ ih =>
    have := attrL_len ha
    rw [List.length_append]
    omega
theorem TagI.first {acc : List Pr} {l : List UInt8} {b : Bool} {at1 : List Pr} {x : List UInt8} (h : TagI acc l b at1 x) : ∀ c r, l = c :: r → wch c = false := by
  intro c r e
  cases h with
  | shut _ g _ hg =>
    cases g with
    | nil => obtain ⟨rfl, _⟩ := List.cons.inj e; decide
    | cons d g => obtain ⟨rfl, _⟩ := List.cons.inj e; exact (blk_far (hg d (by simp))).1
  | bare _ g _ hg =>
    cases g with
    | nil => obtain ⟨rfl, _⟩ := List.cons.inj e; decide
    | cons d g => obtain ⟨rfl, _⟩ := List.cons.inj e; exact (blk_far (hg d (by simp))).1
  | attr _ g l' y p _ _ _ hg hn _ _ _ =>
    cases g with
    | nil => exact absurd rfl hn
    | cons d g => obtain ⟨rfl, _⟩ := List.cons.inj e; exact (blk_far (hg d (by simp))).1
theorem shutL_iff (l r : List UInt8) (t : Tk) : shutL l = some (t, r) ↔ ∃ g, l = t.name ++ (g ++ 62 :: r) ∧ fullL t.name = true ∧ (∀ c ∈ g, blk c = true) ∧ t = ⟨2, t.name, [], []⟩ := by
  constructor
  · intro h
    unfold shutL at h
    by_cases hw : wordL l = []
    · rw [if_pos hw] at h; cases h
    · rw [if_neg hw] at h
      obtain ⟨h1, h2, h3⟩ := wordL_ne hw
      have hd : l.drop (wordL l).length = l.dropWhile wch := by
        conv => lhs; arg 2; rw [h2]
        rw [List.drop_left]
      rw [hd] at h
      obtain ⟨e1, e2, e3⟩ := tw_split blk (l.dropWhile wch)
      cases hr : (l.dropWhile wch).dropWhile blk with
      | nil => rw [hr] at h; cases h
      | cons c s =>
        rw [hr] at h
        dsimp only at h
        by_cases hc : c = 62
        · rw [if_pos hc] at h
          obtain ⟨rfl, rfl⟩ := (Prod.mk.injEq _ _ _ _).mp (Option.some.inj h)
          refine ⟨_, ?_, h1, e2, rfl⟩
          show l = wordL l ++ _
          rw [← hc, ← hr, ← e1]
          exact h2
        · rw [if_neg hc] at h; cases h
  · rintro ⟨g, rfl, hf, hg, ht⟩
    have hb : ∀ c s, g ++ 62 :: r = c :: s → wch c = false := by
      intro c s e
      cases g with
      | nil => obtain ⟨rfl, _⟩ := List.cons.inj e; decide
      | cons d g => obtain ⟨rfl, _⟩ := List.cons.inj e; exact (blk_far (hg d (by simp))).1
    unfold shutL
    rw [wordL_app hf hb, if_neg (fullL_ne hf), List.drop_left, (tw_app hg (fun c s e => by obtain ⟨rfl, _⟩ := List.cons.inj e; decide)).2]
    dsimp only
    rw [if_pos rfl, ← ht]
theorem fullL_head {l : List UInt8} (h : fullL l = true) (z : List UInt8) : (l ++ z).head? ≠ some 47 := by
  cases l with
  | nil => cases h
  | cons c r =>
    intro e
    obtain rfl : c = 47 := by simpa using e
    have := fullL_all h 47 (by simp)
    exact absurd this (by decide)
theorem tagL_iff (l r : List UInt8) (t : Tk) : tagL l = some (t, r) ↔ (∃ g, l = 47 :: (t.name ++ (g ++ 62 :: r)) ∧ fullL t.name = true ∧ (∀ c ∈ g, blk c = true) ∧ t = ⟨2, t.name, [], []⟩) ∨
    (∃ b y, l = t.name ++ y ∧ fullL t.name = true ∧ TagI [] y b t.attrs r ∧ t = ⟨if b then 3 else 1, t.name, t.attrs, []⟩) := by
  constructor
  · intro h
    unfold tagL at h
    by_cases h0 : l.head? = some 47
    · rw [if_pos h0] at h
      left
      cases l with
      | nil => cases h0
      | cons c s =>
        obtain rfl : c = 47 := by simpa using h0
        obtain ⟨g, e, h1, h2, h3⟩ := (shutL_iff _ _ _).1 h
        exact ⟨g, by rw [← e]; rfl, h1, h2, h3⟩
    · rw [if_neg h0] at h
      right
      by_cases hw : wordL l = []
      · rw [if_pos hw] at h; cases h
      · rw [if_neg hw] at h
        obtain ⟨h1, h2, h3⟩ := wordL_ne hw
        have hd : l.drop (wordL l).length = l.dropWhile wch := by
          conv => lhs; arg 2; rw [h2]
          rw [List.drop_left]
        rw [hd] at h
        cases ht : tagF (l.length + 1) [] (l.dropWhile wch) with
        | none => rw [ht] at h; cases h
        | some q =>
          obtain ⟨b, at1, x⟩ := q
          rw [ht] at h
          obtain ⟨rfl, rfl⟩ := (Prod.mk.injEq _ _ _ _).mp (Option.some.inj h)
          exact ⟨b, _, h2, h1, (tagF_iff _ _ _ _ _ _ (by have := dropWhile_len wch l; omega)).1 ht, rfl⟩
  · rintro (⟨g, rfl, h1, h2, h3⟩ | ⟨b, y, rfl, h1, h2, h3⟩)
    · unfold tagL
      rw [if_pos (show (47 :: (t.name ++ (g ++ 62 :: r))).head? = some 47 from rfl)]
      exact (shutL_iff _ _ _).2 ⟨g, rfl, h1, h2, h3⟩
    · unfold tagL
      rw [if_neg (fullL_head h1 _), wordL_app h1 h2.first, if_neg (fullL_ne h1), List.drop_left, (tagF_iff _ _ _ _ _ _ (by rw [List.length_append]; omega)).2 h2]
      show some ((⟨if b then 3 else 1, t.name, t.attrs, []⟩ : Tk), r) = _
      rw [← h3]
theorem tagL_len {l r : List UInt8} {t : Tk} (h : tagL l = some (t, r)) : r.length < l.length := by
  rcases (tagL_iff _ _ _).1 h with ⟨g, rfl, h1, h2, h3⟩ | ⟨q, y, e, h1, h2, h3⟩
  · simp; omega
  · have := h2.len
    rw [e, List.length_append]
    omega
theorem oneL_len {l r : List UInt8} {t : Tk} (h : oneL l = some (t, r)) : r.length < l.length := by
  cases l with
  | nil => cases h
  | cons c s =>
    unfold oneL at h
    dsimp only at h
    by_cases hc : c = 60
    · rw [if_pos hc] at h
      have := tagL_len h
      simp
      omega
    · rw [if_neg hc] at h
      have ht : txt c = true := by simpa [txt] using hc
      cases hr : rd ((c :: s).takeWhile txt) with
      | none => rw [hr] at h; cases h
      | some x =>
        rw [hr] at h
        obtain ⟨_, rfl⟩ := (Prod.mk.injEq _ _ _ _).mp (Option.some.inj h)
        simp only [List.dropWhile_cons, ht, if_true]
        have := dropWhile_len txt s
        simp
        omega
def isP (l : List UInt8) : Bool := (pts l).isSome
theorem isP_encs {ns : List Nat} (h : mays ns) : isP (encs ns) = true := by unfold isP; rw [pts_encs h]; rfl
theorem isP_of {l : List UInt8} (h : isP l = true) : ∃ ns, l = encs ns ∧ mays ns := by
  obtain ⟨ns, hns⟩ := Option.isSome_iff_exists.1 h
  exact ⟨ns, (pts_iff l ns).1 hns⟩
theorem isP_app {a b : List UInt8} (ha : isP a = true) (hb : isP b = true) : isP (a ++ b) = true := pts_app ha hb
theorem enc_near {n : Nat} (h : n < 128) : enc n = [bt n] := by unfold enc; rw [if_pos h]
theorem isP_cut : ∀ (ns : List Nat) (a b : List UInt8) (c : UInt8), mays ns → c.toNat < 128 → encs ns = a ++ c :: b → isP a = true ∧ isP b = true ∧ may (c.toNat : Int) = true := by
  intro ns
  induction ns with
  | nil =>
    intro a b c _ _ e
    cases a <;> cases e
  | cons n ns ih =>
    intro a b c hm hc e
    rw [mays_cons] at hm
    rw [encs_cons] at e
    have hs := nat_sv hm.1
    obtain ⟨h1, h2⟩ := enc_length n
    by_cases hl : (enc n).length ≤ a.length
    · have ea : a = enc n ++ a.drop (enc n).length := by
        have := congrArg (List.take (enc n).length) e
        rw [List.take_left, List.take_append_of_le_length hl] at this
        conv => lhs; rw [← List.take_append_drop (enc n).length a]
        rw [← this]
      have e2 : encs ns = a.drop (enc n).length ++ c :: b := by
        rw [ea, List.append_assoc] at e
        exact List.append_cancel_left e
      obtain ⟨i1, i2, i3⟩ := ih _ _ _ hm.2 hc e2
      refine ⟨?_, i2, i3⟩
      rw [ea]
      refine isP_app ?_ i1
      have := isP_encs (ns := [n]) (mays_cons.2 ⟨hm.1, mays_nil⟩)
      rwa [encs_cons, encs_nil, List.append_nil] at this
    · have e2 : (enc n).drop a.length ++ encs ns = c :: b := by
        have := congrArg (List.drop a.length) e
        rwa [List.drop_left, List.drop_append_of_le_length (by omega)] at this
      by_cases h0 : a.length = 0
      · obtain rfl := List.eq_nil_of_length_eq_zero h0
        rw [List.length_nil, List.drop_zero] at e2
        by_cases hn : n < 128
        · rw [enc_near hn] at e2
          obtain ⟨rfl, rfl⟩ := List.cons.inj e2
          rw [bt_nat n (by omega)]
          exact ⟨rfl, isP_encs hm.2, hm.1⟩
        · exfalso
          cases he : enc n with
          | nil => rw [he] at h1; simp at h1
          | cons d r =>
            rw [he] at e2
            obtain ⟨rfl, _⟩ := List.cons.inj e2
            have := enc_far n (by omega) hs d (by rw [he]; simp)
            omega
      · exfalso
        obtain ⟨d, r, e3, hd⟩ := enc_cont n hs a.length (by omega) (by omega)
        rw [e3] at e2
        obtain ⟨rfl, _⟩ := List.cons.inj e2
        unfold cont at hd
        have := of_decide_eq_true hd
        omega
theorem isP_split {a b : List UInt8} {c : UInt8} (h : isP (a ++ c :: b) = true) (hc : c.toNat < 128) : isP a = true ∧ isP b = true ∧ may (c.toNat : Int) = true := by
  obtain ⟨ns, e, hm⟩ := isP_of h
  exact isP_cut ns a b c hm hc e.symm
theorem isP_one {c : UInt8} (h : c.toNat < 128) (hm : may (c.toNat : Int) = true) : isP [c] = true := by
  have := isP_encs (ns := [c.toNat]) (mays_cons.2 ⟨hm, mays_nil⟩)
  rwa [encs_cons, encs_nil, List.append_nil, enc_near h, bt_of c _ rfl] at this
theorem isP_map (f : UInt8 → UInt8) (hf : ∀ c, 128 ≤ c.toNat → f c = c) (hf2 : ∀ c, c.toNat < 128 → may (c.toNat : Int) = true → (f c).toNat < 128 ∧ may ((f c).toNat : Int) = true) {l : List UInt8} (h : isP l = true) : isP (l.map f) = true := by
  obtain ⟨ns, rfl, hm⟩ := isP_of h
  clear h
  induction ns with
  | nil => rfl
  | cons n ns ih =>
    rw [mays_cons] at hm
    rw [encs_cons, List.map_append]
    refine isP_app ?_ (ih hm.2)
    by_cases hn : n < 128
    · rw [enc_near hn]
      have hb : (bt n).toNat = n := bt_nat n (by omega)
      obtain ⟨q1, q2⟩ := hf2 (bt n) (by omega) (by rw [hb]; exact hm.1)
      exact isP_one q1 q2
    · have he : (enc n).map f = enc n := by
        have := enc_far n (by omega) (nat_sv hm.1)
        rw [List.map_congr_left (g := id) (fun x hx => hf x (this x hx)), List.map_id]
      rw [he]
      have := isP_encs (ns := [n]) (mays_cons.2 ⟨hm.1, mays_nil⟩)
      rwa [encs_cons, encs_nil, List.append_nil] at this
theorem isP_enc {n : Nat} (h : may (n : Int) = true) : isP (enc n) = true := by
  have := isP_encs (ns := [n]) (mays_cons.2 ⟨h, mays_nil⟩)
  rwa [encs_cons, encs_nil, List.append_nil] at this
theorem meantL_text {x y : List UInt8} (h : meantL x = some y) : isP y = true ∧ y.length ≤ x.length + 2 ∧ y ≠ [] := by
  unfold meantL at h
  by_cases h1 : x = [97, 109, 112]
  · rw [if_pos h1] at h; cases h; exact ⟨by decide +kernel, by simp, by simp⟩
  rw [if_neg h1] at h
  by_cases h2 : x = [108, 116]
  · rw [if_pos h2] at h; cases h; exact ⟨by decide +kernel, by simp, by simp⟩
  rw [if_neg h2] at h
  by_cases h3 : x = [103, 116]
  · rw [if_pos h3] at h; cases h; exact ⟨by decide +kernel, by simp, by simp⟩
  rw [if_neg h3] at h
  by_cases h4 : x = [113, 117, 111, 116]
  · rw [if_pos h4] at h; cases h; exact ⟨by decide +kernel, by simp, by simp⟩
  rw [if_neg h4] at h
  by_cases h5 : x = [97, 112, 111, 115]
  · rw [if_pos h5] at h; cases h; exact ⟨by decide +kernel, by simp, by simp⟩
  rw [if_neg h5] at h
  split at h
  · rename_i r
    cases hn : numL r with
    | none => rw [hn] at h; cases h
    | some n =>
      rw [hn] at h
      obtain rfl := Option.some.inj h
      have hm : may (n : Int) = true := by
        unfold numL at hn
        exact (Option.filter_eq_some_iff.1 hn).2
      have hr : 1 ≤ r.length := by
        cases r with
        | nil => unfold numL at hn; cases hn
        | cons c r => simp
      have := enc_length n
      refine ⟨isP_enc hm, by rw [List.length_cons]; omega, fun e => ?_⟩
      rw [e] at this
      simp at this
  · cases h
theorem rd_text : ∀ (k : Nat) (l z : List UInt8), l.length ≤ k → isP l = true → rd l = some z → isP z = true := by
  intro k
  induction k with
  | zero =>
    intro l z hl hp h
    obtain rfl := List.eq_nil_of_length_eq_zero (Nat.le_zero.1 hl)
    cases h
    rfl
  | succ k ih =>
    intro l z hl hp h
    obtain ⟨ns, rfl, hm⟩ := isP_of hp
    cases ns with
    | nil => cases h; rfl
    | cons n ns =>
      rw [mays_cons] at hm
      rw [encs_cons] at h hl
      have hel := enc_length n
      rw [List.length_append] at hl
      by_cases hn : n < 128
      · have hb : (bt n).toNat = n := bt_nat n (by omega)
        rw [enc_near hn] at h hl
        rw [List.singleton_append] at h
        by_cases h60 : bt n = 60
        · rw [h60, rd_bad] at h; cases h
        · by_cases h38 : bt n = 38
          · rw [h38, rd_amp] at h
            cases hs : semi (encs ns) with
            | none => rw [hs] at h; cases h
            | some q =>
              obtain ⟨x, t⟩ := q
              rw [hs] at h
              dsimp only at h
              cases hx : meantL x with
              | none => rw [hx] at h; cases h
              | some y =>
                rw [hx] at h
                dsimp only at h
                cases ht : rd t with
                | none => rw [ht] at h; cases h
                | some z' =>
                  rw [ht] at h
                  obtain rfl := Option.some.inj h
                  obtain ⟨e, _⟩ := semi_some _ _ _ hs
                  obtain ⟨_, q2, _⟩ := isP_cut ns x t 59 hm.2 (by decide) e
                  have he := congrArg List.length e
                  rw [List.length_append, List.length_cons] at he
                  exact isP_app (meantL_text hx).1 (ih t z' (by simp at hl; omega) q2 ht)
          · rw [rd_byte _ _ h60 h38] at h
            cases ht : rd (encs ns) with
            | none => rw [ht] at h; cases h
            | some z' =>
              rw [ht] at h
              obtain rfl := Option.some.inj h
              have := isP_app (isP_one (c := bt n) (by omega) (by rw [hb]; exact hm.1)) (ih _ z' (by simp at hl; omega) (isP_encs hm.2) ht)
              exact this
      · have hf := enc_far n (by omega) (nat_sv hm.1)
        have hr : ∀ (e : List UInt8), (∀ x ∈ e, 128 ≤ x.toNat) → ∀ r, rd (e ++ r) = (rd r).map (e ++ ·) := by
          intro e
          induction e with
          | nil => intro _ r; simp
          | cons c e ihe =>
            intro he r
            have hc := he c (by simp)
            rw [List.cons_append, rd_byte c _ (by rintro rfl; exact absurd hc (by decide)) (by rintro rfl; exact absurd hc (by decide)), ihe (fun x hx => he x (by simp [hx])) r]
            cases rd r <;> rfl
        rw [hr _ hf] at h
        cases ht : rd (encs ns) with
        | none => rw [ht] at h; cases h
        | some z' =>
          rw [ht] at h
          obtain rfl := Option.some.inj h
          exact isP_app (isP_enc hm.1) (ih _ z' (by omega) (isP_encs hm.2) ht)
theorem rd_len : ∀ (k : Nat) (l z : List UInt8), l.length ≤ k → rd l = some z → z.length ≤ l.length ∧ (l ≠ [] → z ≠ []) := by
  intro k
  induction k with
  | zero =>
    intro l z hl h
    obtain rfl := List.eq_nil_of_length_eq_zero (Nat.le_zero.1 hl)
    cases h
    exact ⟨Nat.le_refl _, fun h => absurd rfl h⟩
  | succ k ih =>
    intro l z hl h
    cases l with
    | nil => cases h; exact ⟨Nat.le_refl _, fun h => absurd rfl h⟩
    | cons c r =>
      rw [List.length_cons] at hl
      by_cases h60 : c = 60
      · rw [h60, rd_bad] at h; cases h
      · by_cases h38 : c = 38
        · rw [h38, rd_amp] at h
          cases hs : semi r with
          | none => rw [hs] at h; cases h
          | some q =>
            obtain ⟨x, t⟩ := q
            rw [hs] at h
            dsimp only at h
            cases hx : meantL x with
            | none => rw [hx] at h; cases h
            | some y =>
              rw [hx] at h
              dsimp only at h
              cases ht : rd t with
              | none => rw [ht] at h; cases h
              | some z' =>
                rw [ht] at h
                obtain rfl := Option.some.inj h
                obtain ⟨e, _⟩ := semi_some _ _ _ hs
                obtain ⟨_, m2, m3⟩ := meantL_text hx
                have he := congrArg List.length e
                rw [List.length_append, List.length_cons] at he
                have := (ih t z' (by omega) ht).1
                refine ⟨by rw [List.length_append, List.length_cons]; omega, fun _ e => m3 (List.append_eq_nil_iff.1 e).1⟩
        · rw [rd_byte _ _ h60 h38] at h
          cases ht : rd r with
          | none => rw [ht] at h; cases h
          | some z' =>
            rw [ht] at h
            obtain rfl := Option.some.inj h
            have := (ih r z' (by omega) ht).1
            exact ⟨by rw [List.length_cons, List.length_cons]; omega, fun _ e => by cases e⟩
theorem toldL_text {l v : List UInt8} (hp : isP l = true) (h : toldL l = some v) : isP v = true ∧ v.length ≤ l.length := by
  have hm : isP (l.map fun c => if blk c then 32 else c) = true := by
    refine isP_map _ (fun c hc => ?_) (fun c hc hc2 => ?_) hp
    · rw [if_neg]
      intro hb
      have := (blk_far hb).2.2.2.2.2.2.2
      omega
    · by_cases hb : blk c = true
      · rw [if_pos hb]; exact ⟨by decide, by decide⟩
      · rw [if_neg hb]; exact ⟨hc, hc2⟩
  have h2 := (rd_len _ _ _ (Nat.le_refl _) h).1
  rw [List.length_map] at h2
  exact ⟨rd_text _ _ _ (Nat.le_refl _) hm h, h2⟩
end Lx
end Go.Proofs.YteobcohjikjalaaGreatDoor
