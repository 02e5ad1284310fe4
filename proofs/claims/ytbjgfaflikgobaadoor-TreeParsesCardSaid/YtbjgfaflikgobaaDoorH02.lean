/-
  Texts of one seat, put together: TreM, TreP, TreQ, MemD, LexR, LexS.
-/
import Derived.Test.YtbjgfaflikgobaaDoorH01
import Derived.Lib.Strings
import Derived.Deep.LoopGhost
namespace Go.Proofs.YtbjgfaflikgobaaDoor
namespace Tr
open Lx Tx Nmb Es
set_option linter.unusedVariables false
/-- An attribute; a node. -/
structure At where
  space : List UInt8
  name : List UInt8
  value : List UInt8
deriving instance DecidableEq for At
structure Nd where
  kind : Nat
  space : List UInt8
  name : List UInt8
  attrs : List At
  text : List UInt8
  many : Int
deriving instance DecidableEq for Nd
/-- May attributes, may a node be? -/
def atOk (a : At) : Bool := fullL a.name && okT a.value && okT a.space
def key (a : At) : List UInt8 × List UInt8 := (a.space, a.name)
def atsOk (l : List At) : Bool := l.all atOk && decide ((l.map key).Nodup) && decide (l.length ≤ 16)
def ndOk (n : Nd) : Bool :=
  if n.kind = 1 then fullL n.name && n.text.isEmpty && okT n.space && atsOk n.attrs
  else if n.kind = 2 then n.name.isEmpty && n.space.isEmpty && n.attrs.isEmpty && decide (n.many = 0) && !n.text.isEmpty && okT n.text
  else false
/-- So many nodes with all that is within them, what stands behind, and whether the last one was a text. -/
def kidsD (g : List Nd → Option (List Nd)) : Nat → Bool → List Nd → Option (Bool × List Nd)
  | 0, b, l => some (b, l)
  | _ + 1, _, [] => none
  | k + 1, b, n :: l => if b = true ∧ n.kind = 2 then none else match g (n :: l) with
    | none => none
    | some r => kidsD g k (decide (n.kind = 2)) r
/-- What stands behind a node and all within it, elements being no more than so deep. -/
def restD : Nat → List Nd → Option (List Nd)
  | _, [] => none
  | 0, n :: l => if ndOk n = true ∧ n.kind = 2 then some l else none
  | d + 1, n :: l => if ndOk n = true ∧ 0 ≤ n.many then (kidsD (restD d) n.many.toNat false l).map (·.2) else none
/-- May a tree be? -/
def mayV (v : List Nd) : Bool := decide (v.length ≤ 512) && (v.head?.map fun n => decide (n.kind = 1)) == some true && decide (restD 12 v = some [])
theorem mayV_iff {v : List Nd} : mayV v = true ↔ v.length ≤ 512 ∧ (∃ n l, v = n :: l ∧ n.kind = 1) ∧ restD 12 v = some [] := by
  unfold mayV
  rw [Bool.and_eq_true, Bool.and_eq_true, decide_eq_true_eq, decide_eq_true_eq, beq_iff_eq, and_assoc]
  cases v with
  | nil => simp
  | cons n l => simp
/-- What a reader of nodes keeps to: it takes some, and looks at no more. -/
def Loc (g : List Nd → Option (List Nd)) : Prop := ∀ l r, g l = some r → ∃ p, p ≠ [] ∧ l = p ++ r ∧ ∀ x, g (p ++ x) = some x
theorem kidsD_loc {g : List Nd → Option (List Nd)} (hg : Loc g) : ∀ (k : Nat) (b : Bool) (l : List Nd) (b' : Bool) (r : List Nd), kidsD g k b l = some (b', r) → ∃ p, l = p ++ r ∧ k ≤ p.length ∧ ∀ x, kidsD g k b (p ++ x) = some (b', x) := by
  intro k
  induction k with
  | zero =>
    intro b l b' r h
    rw [kidsD] at h
    obtain ⟨rfl, rfl⟩ := (Prod.mk.injEq _ _ _ _).mp (Option.some.inj h)
    exact ⟨[], rfl, Nat.le_refl _, fun x => by rw [List.nil_append, kidsD]⟩
  | succ k ih =>
    intro b l b' r h
    cases l with
    | nil => rw [kidsD] at h; cases h
    | cons n l =>
      rw [kidsD] at h
      by_cases hb : b = true ∧ n.kind = 2
      · rw [if_pos hb] at h; cases h
      · rw [if_neg hb] at h
        cases hn : g (n :: l) with
        | none => rw [hn] at h; cases h
        | some y =>
          rw [hn] at h
          obtain ⟨q, hq, e1, h1⟩ := hg _ _ hn
          obtain ⟨p, e2, h2, h3⟩ := ih _ _ _ _ h
          cases q with
          | nil => exact absurd rfl hq
          | cons n' q =>
            injection e1 with e1 e3
            subst e1 e3
            refine ⟨n :: q ++ p, by rw [e2]; simp, by simp; omega, fun x => ?_⟩
            have := h1 (p ++ x)
            rw [List.append_assoc, List.cons_append, kidsD, if_neg hb, ← List.cons_append, this]
            exact h3 x
theorem restD_loc : ∀ d, Loc (restD d) := by
  intro d
  induction d with
  | zero =>
    intro l r h
    cases l with
    | nil => rw [restD] at h; cases h
    | cons n l =>
      rw [restD] at h
      by_cases hn : ndOk n = true ∧ n.kind = 2
      · rw [if_pos hn] at h
        injection h with h
        subst h
        exact ⟨[n], by simp, rfl, fun x => by rw [List.singleton_append, restD, if_pos hn]⟩
      · rw [if_neg hn] at h; cases h
  | succ d ih =>
    intro l r h
    cases l with
    | nil => rw [restD] at h; cases h
    | cons n l =>
      rw [restD] at h
      by_cases hn : ndOk n = true ∧ 0 ≤ n.many
      · rw [if_pos hn] at h
        cases hk : kidsD (restD d) n.many.toNat false l with
        | none => rw [hk] at h; cases h
        | some y =>
          rw [hk] at h
          obtain ⟨b', y⟩ := y
          have h : y = r := Option.some.inj h
          subst h
          obtain ⟨p, e, _, h3⟩ := kidsD_loc ih _ _ _ _ _ hk
          exact ⟨n :: p, by simp, by rw [e]; rfl, fun x => by rw [List.cons_append, restD, if_pos hn, h3]; rfl⟩
      · rw [if_neg hn] at h; cases h
theorem ndOk_two {n : Nd} (h : ndOk n = true) (hk : n.kind = 2) : n.many = 0 ∧ n.name = [] ∧ n.space = [] ∧ n.attrs = [] ∧ n.text ≠ [] ∧ okT n.text = true := by
  unfold ndOk at h
  rw [if_neg (by omega), if_pos hk] at h
  simp only [Bool.and_eq_true, decide_eq_true_eq, List.isEmpty_iff, Bool.not_eq_true', List.isEmpty_eq_false_iff] at h
  obtain ⟨⟨⟨⟨⟨h1, h2⟩, h3⟩, h4⟩, h5⟩, h6⟩ := h
  exact ⟨h4, h1, h2, h3, h5, h6⟩
theorem restD_text {d : Nat} {n : Nd} {l : List Nd} (h : ndOk n = true) (hk : n.kind = 2) : restD d (n :: l) = some l := by
  cases d with
  | zero => rw [restD, if_pos ⟨h, hk⟩]
  | succ d =>
    have h0 := (ndOk_two h hk).1
    rw [restD, if_pos ⟨h, by omega⟩, h0]
    rfl
/-- A node that is read. -/
theorem restD_ok {d : Nat} {n : Nd} {l r : List Nd} (h : restD d (n :: l) = some r) : ndOk n = true ∧ 0 ≤ n.many ∧ ∃ b, kidsD (restD (d - 1)) n.many.toNat false l = some (b, r) := by
  cases d with
  | zero =>
    rw [restD] at h
    by_cases hn : ndOk n = true ∧ n.kind = 2
    · rw [if_pos hn] at h
      injection h with h
      have h0 := (ndOk_two hn.1 hn.2).1
      exact ⟨hn.1, by omega, false, by rw [h0, ← h]; rfl⟩
    · rw [if_neg hn] at h; cases h
  | succ d =>
    rw [restD] at h
    by_cases hn : ndOk n = true ∧ 0 ≤ n.many
    · rw [if_pos hn] at h
      cases hk : kidsD (restD d) n.many.toNat false l with
      | none => rw [hk] at h; cases h
      | some y =>
        rw [hk] at h
        obtain ⟨b, y⟩ := y
        have h : y = r := Option.some.inj h
        subst h
        exact ⟨hn.1, hn.2, b, by rw [Nat.add_sub_cancel, hk]⟩
    · rw [if_neg hn] at h; cases h
/-- The places right within a node. -/
def places (g : List Nd → Option (List Nd)) : Nat → Nat → List Nd → List Nat
  | 0, _, _ => []
  | k + 1, p, l => p :: match g l with
    | none => []
    | some r => places g k (p + (l.length - r.length)) r
def under (v : List Nd) (i : Nat) : List Nat := match v[i]? with
  | none => []
  | some n => places (restD 12) n.many.toNat (i + 1) (v.drop (i + 1))
/-- What Kids, Sub, Words say no to. -/
def askedR (v : List Nd) (i : Int) : Int := if mayV v then (if i < 0 ∨ (v.length : Int) ≤ i then 2 else 0) else 8
/-- The tree at a place. -/
def partV (v : List Nd) (i : Nat) : List Nd := match restD 12 (v.drop i) with
  | none => []
  | some r => (v.drop i).take ((v.drop i).length - r.length)
/-- The place behind a node of a tree that may be. -/
def behindV (v : List Nd) (i : Nat) : Nat := match restD 12 (v.drop i) with
  | none => 0
  | some r => v.length - r.length
end Tr
end Go.Proofs.YtbjgfaflikgobaaDoor
namespace Go.Proofs.YtbjgfaflikgobaaDoor
namespace Tr
open Lx Tx Nmb Es
set_option linter.unusedVariables false
def pairsN (l : List At) : List Pr := l.map fun a => ⟨a.name, a.value⟩
def givenN (l : List Pr) : List At := l.map fun p => ⟨[], p.name, p.value⟩
/-- The tokens of so many nodes; of a node. -/
def toldK (g : List Nd → List Tk × List Nd) : Nat → List Nd → List Tk × List Nd
  | 0, l => ([], l)
  | k + 1, l => ((g l).1 ++ (toldK g k (g l).2).1, (toldK g k (g l).2).2)
def toldD : Nat → List Nd → List Tk × List Nd
  | _, [] => ([], [])
  | 0, n :: l => ([⟨4, [], [], n.text⟩], l)
  | d + 1, n :: l => if n.kind = 2 then ([⟨4, [], [], n.text⟩], l) else if n.many = 0 then ([⟨3, n.name, pairsN n.attrs, []⟩], l)
    else (⟨1, n.name, pairsN n.attrs, []⟩ :: ((toldK (toldD d) n.many.toNat l).1 ++ [⟨2, n.name, [], []⟩]), (toldK (toldD d) n.many.toNat l).2)
theorem toldK_rest {g : List Nd → Option (List Nd)} {t : List Nd → List Tk × List Nd} (ht : ∀ l r, g l = some r → (t l).2 = r) : ∀ (k : Nat) (b : Bool) (l : List Nd) (b' : Bool) (r : List Nd), kidsD g k b l = some (b', r) → (toldK t k l).2 = r := by
  intro k
  induction k with
  | zero =>
    intro b l b' r h
    rw [kidsD] at h
    obtain ⟨rfl, rfl⟩ := (Prod.mk.injEq _ _ _ _).mp (Option.some.inj h)
    rfl
  | succ k ih =>
    intro b l b' r h
    cases l with
    | nil => rw [kidsD] at h; cases h
    | cons n l =>
      rw [kidsD] at h
      by_cases hb : b = true ∧ n.kind = 2
      · rw [if_pos hb] at h; cases h
      · rw [if_neg hb] at h
        cases hn : g (n :: l) with
        | none => rw [hn] at h; cases h
        | some y =>
          rw [hn] at h
          rw [toldK, ht _ _ hn]
          exact ih _ _ _ _ h
theorem toldD_rest : ∀ (d : Nat) (l r : List Nd), restD d l = some r → (toldD d l).2 = r := by
  intro d
  induction d with
  | zero =>
    intro l r h
    cases l with
    | nil => rw [restD] at h; cases h
    | cons n l =>
      rw [restD] at h
      by_cases hn : ndOk n = true ∧ n.kind = 2
      · rw [if_pos hn] at h
        injection h with h
      · rw [if_neg hn] at h; cases h
  | succ d ih =>
    intro l r h
    cases l with
    | nil => rw [restD] at h; cases h
    | cons n l =>
      obtain ⟨h1, h2, b, h3⟩ := restD_ok h
      rw [Nat.add_sub_cancel] at h3
      rw [toldD]
      by_cases hk : n.kind = 2
      · rw [if_pos hk]
        rw [(ndOk_two h1 hk).1, show (0 : Int).toNat = 0 from rfl, kidsD] at h3
        exact (congrArg Prod.snd (Option.some.inj h3))
      · rw [if_neg hk]
        by_cases hm : n.many = 0
        · rw [if_pos hm]
          rw [hm, show (0 : Int).toNat = 0 from rfl, kidsD] at h3
          exact (congrArg Prod.snd (Option.some.inj h3))
        · rw [if_neg hm]
          exact toldK_rest ih _ _ _ _ _ h3
/-- How many tokens nodes have. -/
def cnt (v : List Nd) : Nat := v.length + v.countP fun n => decide (0 < n.many)
theorem cnt_app (a b : List Nd) : cnt (a ++ b) = cnt a + cnt b := by unfold cnt; rw [List.length_append, List.countP_append]; omega
theorem toldK_cnt {d : Nat} (ht : ∀ l r, restD d l = some r → (toldD d l).1.length + cnt r = cnt l) : ∀ (k : Nat) (b : Bool) (l : List Nd) (b' : Bool) (r : List Nd), kidsD (restD d) k b l = some (b', r) → (toldK (toldD d) k l).1.length + cnt r = cnt l := by
  intro k
  induction k with
  | zero =>
    intro b l b' r h
    rw [kidsD] at h
    obtain ⟨rfl, rfl⟩ := (Prod.mk.injEq _ _ _ _).mp (Option.some.inj h)
    simp [toldK]
  | succ k ih =>
    intro b l b' r h
    cases l with
    | nil => rw [kidsD] at h; cases h
    | cons n l =>
      rw [kidsD] at h
      by_cases hb : b = true ∧ n.kind = 2
      · rw [if_pos hb] at h; cases h
      · rw [if_neg hb] at h
        cases hn : restD d (n :: l) with
        | none => rw [hn] at h; cases h
        | some y =>
          rw [hn] at h
          have h1 := ht _ _ hn
          have h2 := ih _ _ _ _ h
          rw [toldK, toldD_rest _ _ _ hn, List.length_append]
          omega
theorem toldD_cnt : ∀ (d : Nat) (l r : List Nd), restD d l = some r → (toldD d l).1.length + cnt r = cnt l := by
  intro d
  induction d with
  | zero =>
    intro l r h
    cases l with
    | nil => rw [restD] at h; cases h
    | cons n l =>
      rw [restD] at h
      by_cases hn : ndOk n = true ∧ n.kind = 2
      · rw [if_pos hn] at h
        injection h with h
        subst h
        have := (ndOk_two hn.1 hn.2).1
        rw [toldD]
        unfold cnt
        rw [List.countP_cons, if_neg (by simp; omega)]
        simp
        omega
      · rw [if_neg hn] at h; cases h
  | succ d ih =>
    intro l r h
    cases l with
    | nil => rw [restD] at h; cases h
    | cons n l =>
      obtain ⟨h1, h2, b, h3⟩ := restD_ok h
      rw [Nat.add_sub_cancel] at h3
      rw [toldD]
      have hc : cnt (n :: l) = 1 + (if 0 < n.many then 1 else 0) + cnt l := by
        unfold cnt
        rw [List.countP_cons]
        simp
        split <;> omega
      by_cases hk : n.kind = 2
      · have h0 := (ndOk_two h1 hk).1
        rw [if_pos hk]
        rw [h0, show (0 : Int).toNat = 0 from rfl, kidsD] at h3
        obtain ⟨_, rfl⟩ := (Prod.mk.injEq _ _ _ _).mp (Option.some.inj h3)
        rw [hc, if_neg (by omega)]
        simp
      · rw [if_neg hk]
        by_cases hm : n.many = 0
        · rw [if_pos hm]
          rw [hm, show (0 : Int).toNat = 0 from rfl, kidsD] at h3
          obtain ⟨_, rfl⟩ := (Prod.mk.injEq _ _ _ _).mp (Option.some.inj h3)
          rw [hc, if_neg (by omega)]
          simp
        · rw [if_neg hm]
          have := toldK_cnt ih _ _ _ _ _ h3
          rw [hc, if_pos (by omega)]
          simp
          omega
/-- Has a tree no Space? -/
def rawN (n : Nd) : Bool := n.space.isEmpty && n.attrs.all fun a => a.space.isEmpty
def rawV (v : List Nd) : Bool := v.all rawN
/-- What Tokens answers. -/
def tokensR (v : List Nd) : List Tk × Int := if mayV v = true ∧ rawV v = true then (if 512 < (toldD 12 v).1.length then ([], 4) else ((toldD 12 v).1, 0)) else ([], 8)
/-- A tree under way: its nodes, the places of the open elements. -/
structure PS where
  V : List Nd
  O : List Nat
def bumpN (n : Nd) : Nd := { n with many := n.many + 1 }
def bump (O : List Nat) (V : List Nd) : List Nd := match O.getLast? with
  | none => V
  | some i => V.modify i bumpN
def nodeT (t : Tk) : Nd := if t.kind = 4 then ⟨2, [], [], [], t.text, 0⟩ else ⟨1, [], t.name, givenN t.attrs, [], 0⟩
def stepP (s : PS) (b : Bool) (t : Tk) : Except Int PS :=
  if t.kind = 4 then (if b = true then .error 80 else if s.O = [] then (if t.text.all blk = true then .ok s else .error 80) else .ok ⟨bump s.O s.V ++ [nodeT t], s.O⟩)
  else if t.kind = 2 then match s.O.getLast? with
    | none => .error 80
    | some i => if (s.V[i]?.map (·.name)) = some t.name then .ok ⟨s.V, s.O.dropLast⟩ else .error 80
  else if s.O = [] ∧ s.V ≠ [] then .error 80 else if s.O.length = 12 then .error 100
  else .ok ⟨bump s.O s.V ++ [nodeT t], if t.kind = 3 then s.O else s.O ++ [s.V.length]⟩
def runP : PS → Bool → List Tk → Except Int PS
  | s, _, [] => .ok s
  | s, b, t :: r => match stepP s b t with
    | .error e => .error e
    | .ok s' => runP s' (decide (t.kind = 4)) r
def endP (x : Except Int PS) : List Nd × Int := match x with
  | .error e => ([], e)
  | .ok s => if s.V = [] ∨ s.O ≠ [] then ([], 80) else (s.V, 0)
def parseR (l : List Tk) : List Nd × Int :=
  if 512 < l.length then ([], 4) else if l.all mayT = true then endP (runP ⟨[], []⟩ false l) else ([], 8)
theorem bump_snoc (O : List Nat) (i : Nat) (V : List Nd) : bump (O ++ [i]) V = V.modify i bumpN := by unfold bump; rw [List.getLast?_concat]
theorem modify_mid (A : List Nd) (n : Nd) (B : List Nd) : (A ++ n :: B).modify A.length bumpN = A ++ bumpN n :: B := by
  induction A with
  | nil => rfl
  | cons a A ih => rw [List.cons_append, List.length_cons, List.modify_succ_cons, ih]; rfl
/-- A node's tokens make that node. -/
def Runs (d : Nat) : Prop := ∀ (l r p : List Nd) (V : List Nd) (O : List Nat) (b : Bool) (n : Nd) (l' : List Nd) (T : List Tk), restD d l = some r → l = p ++ r → rawV p = true → l = n :: l' → O.length = 12 - d → d ≤ 12 → (O ≠ [] ∨ (V = [] ∧ n.kind = 1)) → ¬ (b = true ∧ n.kind = 2) →
    runP ⟨V, O⟩ b ((toldD d l).1 ++ T) = runP ⟨bump O V ++ p, O⟩ (decide (n.kind = 2)) T
end Tr
end Go.Proofs.YtbjgfaflikgobaaDoor
namespace Go.Proofs.YtbjgfaflikgobaaDoor
namespace Tr
open Lx Tx Nmb Es
set_option linter.unusedVariables false
theorem attrsF_iff : ∀ (l acc : List Pr), attrsF acc l = true ↔ ((l.map (·.name)).Nodup ∧ (∀ p ∈ l, fullL p.name = true ∧ okT p.value = true ∧ hasL acc p.name = false)) := by
  intro l
  induction l with
  | nil => intro acc; simp [attrsF]
  | cons p r ih =>
    intro acc
    rw [attrsF]
    simp only [Bool.and_eq_true, Bool.not_eq_true', ih, List.map_cons, List.nodup_cons, List.mem_cons, forall_eq_or_imp]
    have hh : ∀ x : Pr, hasL (acc ++ [p]) x.name = false ↔ hasL acc x.name = false ∧ p.name ≠ x.name := by
      intro x
      unfold hasL
      rw [List.any_append, Bool.or_eq_false_iff]
      simp
    constructor
    · rintro ⟨⟨⟨h1, h2⟩, h3⟩, h4, h5⟩
      refine ⟨⟨fun hm => ?_, h4⟩, ⟨h1, h3, h2⟩, fun x hx => ?_⟩
      · obtain ⟨x, hx, e⟩ := List.mem_map.1 hm
        exact ((hh x).1 (h5 x hx).2.2).2 e.symm
      · obtain ⟨k1, k2, k3⟩ := h5 x hx
        exact ⟨k1, k2, ((hh x).1 k3).1⟩
    · rintro ⟨⟨h1, h2⟩, ⟨h3, h4, h5⟩, h6⟩
      refine ⟨⟨⟨h3, h5⟩, h4⟩, h2, fun x hx => ?_⟩
      obtain ⟨k1, k2, k3⟩ := h6 x hx
      exact ⟨k1, k2, (hh x).2 ⟨k3, fun e => h1 (List.mem_map.2 ⟨x, hx, e.symm⟩)⟩⟩
theorem atsOk_given {l : List Pr} (h : attrsOk l = true) : atsOk (givenN l) = true := by
  unfold attrsOk at h
  rw [Bool.and_eq_true, decide_eq_true_eq, attrsF_iff] at h
  obtain ⟨⟨h1, h2⟩, h3⟩ := h
  unfold atsOk
  simp only [Bool.and_eq_true, decide_eq_true_eq]
  refine ⟨⟨List.all_eq_true.2 fun a ha => ?_, ?_⟩, by unfold givenN; rwa [List.length_map]⟩
  · obtain ⟨p, hp, rfl⟩ := List.mem_map.1 ha
    obtain ⟨k1, k2, _⟩ := h2 p hp
    unfold atOk
    rw [show fullL p.name = true from k1, show okT p.value = true from k2]
    rfl
  · have : (givenN l).map key = (l.map (·.name)).map fun x => (([] : List UInt8), x) := by
      unfold givenN
      rw [List.map_map, List.map_map]
      rfl
    rw [this]
    exact List.Pairwise.map _ (fun a b hab e => hab ((Prod.mk.injEq _ _ _ _).mp e).2) h1
theorem nodeT_ok {t : Tk} (h : mayT t = true) (h2 : t.kind ≠ 2) : ndOk (nodeT t) = true ∧ rawN (nodeT t) = true ∧ (nodeT t).many = 0 ∧ (nodeT t).kind = (if t.kind = 4 then 2 else 1) := by
  rcases mayT_cases h with ⟨b, hk, k1, k3, k4⟩ | ⟨hk, _⟩ | ⟨hk, k1, k2, k3, k4⟩
  · have hk4 : t.kind ≠ 4 := by rw [hk]; cases b <;> decide
    have e : nodeT t = ⟨1, [], t.name, givenN t.attrs, [], 0⟩ := by unfold nodeT; rw [if_neg hk4]
    refine ⟨?_, ?_, by rw [e], by rw [e, if_neg hk4]⟩
    · rw [e]
      unfold ndOk
      rw [if_pos rfl]
      simp only [k1, atsOk_given k3]
      rfl
    · rw [e]
      unfold rawN givenN
      simp
  · exact absurd hk h2
  · have e : nodeT t = ⟨2, [], [], [], t.text, 0⟩ := by unfold nodeT; rw [if_pos hk]
    refine ⟨?_, by rw [e]; rfl, by rw [e], by rw [e, if_pos hk]⟩
    rw [e]
    unfold ndOk
    rw [if_neg (show ¬ (2 : Nat) = 1 by decide), if_pos rfl]
    simp [k3, k4]
theorem kidsD_snoc {g : List Nd → Option (List Nd)} : ∀ (k : Nat) (b b1 : Bool) (l : List Nd) (n : Nd) (m r : List Nd), kidsD g k b l = some (b1, n :: m) → ¬ (b1 = true ∧ n.kind = 2) → g (n :: m) = some r → kidsD g (k + 1) b l = some (decide (n.kind = 2), r) := by
  intro k
  induction k with
  | zero =>
    intro b b1 l n m r h hb hg
    rw [kidsD] at h
    obtain ⟨rfl, rfl⟩ := (Prod.mk.injEq _ _ _ _).mp (Option.some.inj h)
    rw [kidsD, if_neg hb, hg]
    rfl
  | succ k ih =>
    intro b b1 l n m r h hb hg
    cases l with
    | nil => rw [kidsD] at h; cases h
    | cons x l =>
      rw [kidsD] at h
      by_cases hx : b = true ∧ x.kind = 2
      · rw [if_pos hx] at h; cases h
      · rw [if_neg hx] at h
        cases hn : g (x :: l) with
        | none => rw [hn] at h; cases h
        | some y =>
          rw [hn] at h
          rw [kidsD, if_neg hx, hn]
          exact ih _ _ _ _ _ _ h hb hg
theorem kidsD_more {d k : Nat} {b b1 : Bool} {l : List Nd} {n : Nd} {m : List Nd} (h : kidsD (restD d) k b l = some (b1, [])) (hb : ¬ (b1 = true ∧ n.kind = 2)) (hg : restD d (n :: m) = some []) : kidsD (restD d) (k + 1) b (l ++ n :: m) = some (decide (n.kind = 2), []) := by
  obtain ⟨p, e, _, h3⟩ := kidsD_loc (restD_loc d) _ _ _ _ _ h
  rw [List.append_nil] at e
  subst e
  exact kidsD_snoc k b b1 _ n m [] (h3 _) hb hg
/-- An open element, and what lies within it so far. -/
structure Fr where
  n : Nd
  ks : List Nd
def flatF : List Fr → List Nd
  | [] => []
  | f :: fs => f.n :: (f.ks ++ flatF fs)
def posF : Nat → List Fr → List Nat
  | _, [] => []
  | p, f :: fs => p :: posF (p + 1 + f.ks.length) fs
theorem flatF_snoc (gs : List Fr) (f : Fr) : flatF (gs ++ [f]) = flatF gs ++ f.n :: f.ks := by
  induction gs with
  | nil => simp [flatF]
  | cons g gs ih => simp [flatF, ih]
theorem posF_snoc : ∀ (gs : List Fr) (f : Fr) (p : Nat), posF p (gs ++ [f]) = posF p gs ++ [p + (flatF gs).length] := by
  intro gs
  induction gs with
  | nil => intro f p; simp [posF, flatF]
  | cons g gs ih =>
    intro f p
    rw [List.cons_append, posF, posF, ih, List.cons_append, flatF, List.length_cons, List.length_append]
    rw [show p + 1 + g.ks.length + (flatF gs).length = p + (g.ks.length + (flatF gs).length + 1) by omega]
/-- So many nodes may be within it. -/
def frOk (d : Nat) (f : Fr) (m : Nat) (b : Bool) : Prop := ndOk f.n = true ∧ f.n.kind = 1 ∧ rawN f.n = true ∧ rawV f.ks = true ∧ 1 ≤ d ∧ kidsD (restD (d - 1)) m false f.ks = some (b, [])
def okG : Nat → List Fr → Prop
  | _, [] => True
  | d, f :: gs => (1 ≤ f.n.many ∧ ∃ b, frOk d f (f.n.many.toNat - 1) b) ∧ okG (d - 1) gs
theorem okG_snoc : ∀ (gs : List Fr) (f : Fr) (d : Nat), okG d (gs ++ [f]) ↔ okG d gs ∧ (1 ≤ f.n.many ∧ ∃ b, frOk (d - gs.length) f (f.n.many.toNat - 1) b) := by
  intro gs
  induction gs with
  | nil => intro f d; simp [okG]
  | cons g gs ih =>
    intro f d
    rw [List.cons_append, okG, okG, ih, List.length_cons, show d - 1 - gs.length = d - (gs.length + 1) by omega, and_assoc, and_assoc, and_assoc]
def cntF (fs : List Fr) : Nat := (fs.map fun f => 1 + cnt f.ks).sum
/-- Where a run over tokens stands. -/
def InvP (s : PS) (b : Bool) (i : Nat) : Prop :=
  (∃ gs f b1, s.V = flatF gs ++ f.n :: f.ks ∧ s.O = posF 0 gs ++ [(flatF gs).length] ∧ okG 12 gs ∧ 0 ≤ f.n.many ∧ frOk (12 - gs.length) f f.n.many.toNat b1 ∧ (b1 = true → b = true) ∧ cntF gs + 1 + cnt f.ks ≤ i) ∨
  (s.O = [] ∧ (s.V = [] ∨ ((∃ n l, s.V = n :: l ∧ n.kind = 1) ∧ restD 12 s.V = some [] ∧ rawV s.V = true ∧ cnt s.V ≤ i)))
theorem bump_at (A : List Nd) (n : Nd) (B : List Nd) (O : List Nat) : bump (O ++ [A.length]) (A ++ n :: B) = A ++ bumpN n :: B := by rw [bump_snoc, modify_mid]
theorem cnt_one {n : Nd} (h : n.many = 0) : cnt [n] = 1 := by
  unfold cnt
  rw [List.countP_cons, if_neg (by simp; omega)]
  simp
theorem frOk_more {d : Nat} {f : Fr} {b1 : Bool} {m : Nd} {ks : List Nd} (h0 : 0 ≤ f.n.many) (h : frOk d f f.n.many.toNat b1) (hb : ¬ (b1 = true ∧ m.kind = 2)) (hm : restD (d - 1) (m :: ks) = some []) (hr : rawV (m :: ks) = true) :
    frOk d ⟨bumpN f.n, f.ks ++ m :: ks⟩ (bumpN f.n).many.toNat (decide (m.kind = 2)) := by
  obtain ⟨k1, k2, k3, k4, k5, k6⟩ := h
  refine ⟨?_, k2, k3, ?_, k5, ?_⟩
  · unfold ndOk at k1 ⊢
    rw [if_pos k2] at k1
    rw [if_pos (show (bumpN f.n).kind = 1 from k2)]
    exact k1
  · show rawV (f.ks ++ m :: ks) = true
    unfold rawV at k4 hr ⊢
    rw [List.all_append, Bool.and_eq_true]
    exact ⟨k4, hr⟩
  · have e : (bumpN f.n).many.toNat = f.n.many.toNat + 1 := by show (f.n.many + 1).toNat = _; omega
    rw [e]
    exact kidsD_more k6 hb hm
theorem InvP.step {s s' : PS} {b : Bool} {t : Tk} {i : Nat} (h : InvP s b i) (ht : mayT t = true) (hs : stepP s b t = .ok s') : InvP s' (decide (t.kind = 4)) (i + 1) := by
  unfold stepP at hs
  by_cases h4 : t.kind = 4
  · rw [if_pos h4] at hs
    by_cases hb : b = true
    · rw [if_pos hb] at hs; cases hs
    · rw [if_neg hb] at hs
      by_cases hO : s.O = []
      · rw [if_pos hO] at hs
        by_cases hw : t.text.all blk = true
        · rw [if_pos hw] at hs
          injection hs with hs
          subst hs
          rcases h with ⟨gs, f, _, _, e, _⟩ | ⟨e, h⟩
          · rw [hO] at e; simp at e
          · refine .inr ⟨e, ?_⟩
            rcases h with h | ⟨h1, h2, h3, h4⟩
            · exact .inl h
            · exact .inr ⟨h1, h2, h3, by omega⟩
        · rw [if_neg hw] at hs; cases hs
      · rw [if_neg hO] at hs
        injection hs with hs
        subst hs
        obtain ⟨n1, n2, n3, n4⟩ := nodeT_ok ht (by omega)
        rw [if_pos h4] at n4
        rcases h with ⟨gs, f, b1, eV, eO, hG, h0, hF, hb1, hc⟩ | ⟨e, _⟩
        · refine .inl ⟨gs, ⟨bumpN f.n, f.ks ++ [nodeT t]⟩, _, ?_, eO, hG, ?_, frOk_more h0 hF (fun hh => hb (hb1 hh.1)) (restD_text n1 n4) ?_, fun _ => by rw [h4]; rfl, ?_⟩
          · show bump s.O s.V ++ [nodeT t] = _
            rw [eO, eV, bump_at, List.append_assoc]
            rfl
          · show 0 ≤ f.n.many + 1
            omega
          · unfold rawV
            simp [n2]
          · show cntF gs + 1 + cnt (f.ks ++ [nodeT t]) ≤ i + 1
            rw [cnt_app, cnt_one n3]
            omega
        · exact absurd e hO
  · rw [if_neg h4] at hs
    rw [decide_eq_false h4]
    by_cases h2 : t.kind = 2
    · rw [if_pos h2] at hs
      rcases h with ⟨gs, f, b1, eV, eO, hG, h0, hF, hb1, hc⟩ | ⟨e, _⟩
      · rw [eO, List.getLast?_concat] at hs
        dsimp only at hs
        by_cases hn : (s.V[(flatF gs).length]?.map (·.name)) = some t.name
        · rw [if_pos hn, List.dropLast_concat] at hs
          injection hs with hs
          subst hs
          obtain ⟨k1, k2, k3, k4, k5, k6⟩ := hF
          have hrest : restD (12 - gs.length) (f.n :: f.ks) = some [] := by
            obtain ⟨d, hd⟩ : ∃ d, 12 - gs.length = d + 1 := ⟨12 - gs.length - 1, by omega⟩
            rw [hd, Nat.add_sub_cancel] at k6
            rw [hd, restD, if_pos ⟨k1, h0⟩, k6]
            rfl
          have hraw : rawV (f.n :: f.ks) = true := by
            unfold rawV at k4 ⊢
            rw [List.all_cons, k3, k4]
            rfl
          have hcn : cnt (f.n :: f.ks) ≤ cnt f.ks + 2 := by
            rw [show f.n :: f.ks = [f.n] ++ f.ks from rfl, cnt_app]
            have : cnt [f.n] ≤ 2 := by
              unfold cnt
              have := List.countP_le_length (p := fun n : Nd => decide (0 < n.many)) (l := [f.n])
              simp at this ⊢
              omega
            omega
          rcases List.eq_nil_or_concat gs with rfl | ⟨gs', g, egs⟩
          · refine .inr ⟨rfl, .inr ⟨⟨f.n, f.ks, eV, k2⟩, ?_, ?_, ?_⟩⟩
            · show restD 12 s.V = some []
              rw [eV]
              exact hrest
            · show rawV s.V = true
              rw [eV]
              exact hraw
            · show cnt s.V ≤ i + 1
              rw [eV]
              show cnt (f.n :: f.ks) ≤ i + 1
              simp [cntF] at hc
              omega
          · rw [List.concat_eq_append] at egs
            subst egs
            obtain ⟨g1, g2, b2, g3⟩ := (okG_snoc gs' g 12).1 hG
            rw [List.length_append, List.length_singleton] at hrest
            obtain ⟨q1, q2, q3, q4, q5, q6⟩ := g3
            refine .inl ⟨gs', ⟨g.n, g.ks ++ f.n :: f.ks⟩, false, ?_, ?_, g1, by show 0 ≤ g.n.many; omega, ⟨q1, q2, q3, ?_, q5, ?_⟩, (fun hh => by cases hh), ?_⟩
            · show s.V = _
              rw [eV, flatF_snoc]
              simp
            · show posF 0 (gs' ++ [g]) = _
              rw [posF_snoc, Nat.zero_add]
            · show rawV (g.ks ++ f.n :: f.ks) = true
              unfold rawV at q4 hraw ⊢
              rw [List.all_append, q4, hraw]
              rfl
            · have := kidsD_more (n := f.n) (m := f.ks) q6 (fun hh => by omega) (by rw [show 12 - gs'.length - 1 = 12 - (gs'.length + 1) by omega]; exact hrest)
              rw [show g.n.many.toNat - 1 + 1 = g.n.many.toNat by omega, k2] at this
              exact this
            · show cntF gs' + 1 + cnt (g.ks ++ f.n :: f.ks) ≤ i + 1
              rw [cnt_app]
              unfold cntF at hc ⊢
              rw [List.map_append, List.sum_append] at hc
              simp at hc
              omega
        · rw [if_neg hn] at hs; cases hs
      · rw [e] at hs
        cases hs
    · rw [if_neg h2] at hs
      obtain ⟨n1, n2, n3, n4⟩ := nodeT_ok ht h2
      rw [if_neg h4] at n4
      by_cases hO : s.O = [] ∧ s.V ≠ []
      · rw [if_pos hO] at hs; cases hs
      · rw [if_neg hO] at hs
        by_cases h12 : s.O.length = 12
        · rw [if_pos h12] at hs; cases hs
        · rw [if_neg h12] at hs
          injection hs with hs
          subst hs
          have hrawt : rawV [nodeT t] = true := by unfold rawV; simp [n2]
          have hone : ∀ d, 1 ≤ d → restD d [nodeT t] = some [] := by
            intro d hd
            obtain ⟨d, rfl⟩ : ∃ e, d = e + 1 := ⟨d - 1, by omega⟩
            rw [restD, if_pos ⟨n1, by omega⟩, n3]
            rfl
          rcases h with ⟨gs, f, b1, eV, eO, hG, h0, hF, hb1, hc⟩ | ⟨e, h⟩
          · have hlen : (posF 0 gs).length = gs.length := by
              have : ∀ (gs : List Fr) (p : Nat), (posF p gs).length = gs.length := by
                intro gs
                induction gs with
                | nil => intro p; rfl
                | cons g gs ih => intro p; simp [posF, ih]
              exact this gs 0
            rw [eO, List.length_append, List.length_singleton, hlen] at h12
            have hd := hF.2.2.2.2.1
            have eb : bump s.O s.V = flatF gs ++ bumpN f.n :: f.ks := by rw [eO, eV, bump_at]
            by_cases h3 : t.kind = 3
            · rw [if_pos h3, eb]
              refine .inl ⟨gs, ⟨bumpN f.n, f.ks ++ [nodeT t]⟩, _, ?_, eO, hG, ?_, frOk_more h0 hF (fun hh => by omega) (hone _ (by omega)) hrawt, fun hh => ?_, ?_⟩
              · simp
              · show 0 ≤ f.n.many + 1
                omega
              · rw [n4] at hh
                cases hh
              · show cntF gs + 1 + cnt (f.ks ++ [nodeT t]) ≤ i + 1
                rw [cnt_app, cnt_one n3]
                omega
            · rw [if_neg h3, eb]
              refine .inl ⟨gs ++ [⟨bumpN f.n, f.ks⟩], ⟨nodeT t, []⟩, false, ?_, ?_, (okG_snoc _ _ _).2 ⟨hG, ?_, b1, ?_⟩, ?_, ⟨n1, n4, n2, rfl, ?_, ?_⟩, (fun hh => by cases hh), ?_⟩
              · rw [flatF_snoc]
              · show s.O ++ [s.V.length] = _
                rw [posF_snoc, flatF_snoc, eO, eV, Nat.zero_add]
                simp
              · show 1 ≤ f.n.many + 1
                omega
              · obtain ⟨k1, k2, k3, k4, k5, k6⟩ := hF
                refine ⟨?_, k2, k3, k4, k5, ?_⟩
                · unfold ndOk at k1 ⊢
                  rw [if_pos k2] at k1
                  rw [if_pos (show (bumpN f.n).kind = 1 from k2)]
                  exact k1
                · show kidsD (restD (12 - gs.length - 1)) ((f.n.many + 1).toNat - 1) false f.ks = some (b1, [])
                  rw [show (f.n.many + 1).toNat - 1 = f.n.many.toNat by omega]
                  exact k6
              · show 0 ≤ (nodeT t).many
                omega
              · rw [List.length_append, List.length_singleton]
                omega
              · show kidsD _ (nodeT t).many.toNat false [] = _
                rw [n3]
                rfl
              · unfold cntF at hc ⊢
                rw [List.map_append, List.sum_append]
                simp [cnt] at hc ⊢
                omega
          · have hV : s.V = [] := by
              by_cases hv : s.V = []
              · exact hv
              · exact absurd ⟨e, hv⟩ hO
            rw [e, hV]
            by_cases h3 : t.kind = 3
            · rw [if_pos h3]
              exact .inr ⟨rfl, .inr ⟨⟨nodeT t, [], rfl, n4⟩, hone 12 (by decide), hrawt, by show cnt [nodeT t] ≤ i + 1; rw [cnt_one n3]; omega⟩⟩
            · rw [if_neg h3]
              refine .inl ⟨[], ⟨nodeT t, []⟩, false, rfl, rfl, trivial, by show 0 ≤ (nodeT t).many; omega, ⟨n1, n4, n2, rfl, by decide, ?_⟩, (fun hh => by cases hh), by simp [cntF, cnt]⟩
              show kidsD _ (nodeT t).many.toNat false [] = _
              rw [n3]
              rfl
theorem InvP.run : ∀ (l : List Tk) (s s' : PS) (b : Bool) (i : Nat), InvP s b i → (∀ t ∈ l, mayT t = true) → runP s b l = .ok s' → ∃ b', InvP s' b' (i + l.length) := by
  intro l
  induction l with
  | nil =>
    intro s s' b i h _ hr
    rw [runP] at hr
    injection hr with hr
    subst hr
    exact ⟨b, h⟩
  | cons t l ih =>
    intro s s' b i h ht hr
    rw [runP] at hr
    cases hst : stepP s b t with
    | error e => rw [hst] at hr; cases hr
    | ok s1 =>
      rw [hst] at hr
      obtain ⟨b', h'⟩ := ih s1 s' _ (i + 1) (h.step (ht t (by simp)) hst) (fun x hx => ht x (by simp [hx])) hr
      exact ⟨b', by rw [List.length_cons, show i + (l.length + 1) = i + 1 + l.length by omega]; exact h'⟩
theorem endP_ok {x : Except Int PS} {v : List Nd} (h : endP x = (v, 0)) (hx : ∀ e, x = .error e → e ≠ 0) : ∃ s, x = .ok s ∧ s.V = v ∧ s.V ≠ [] ∧ s.O = [] := by
  cases x with
  | error e =>
    have h : (([] : List Nd), e) = (v, 0) := h
    exact absurd ((Prod.mk.injEq _ _ _ _).mp h).2 (hx e rfl)
  | ok s =>
    have h : (if s.V = [] ∨ s.O ≠ [] then (([] : List Nd), (80 : Int)) else (s.V, 0)) = (v, 0) := h
    by_cases hc : s.V = [] ∨ s.O ≠ []
    · rw [if_pos hc] at h
      cases h
    · rw [if_neg hc] at h
      rw [not_or, Decidable.not_not] at hc
      exact ⟨s, rfl, ((Prod.mk.injEq _ _ _ _).mp h).1, hc.1, hc.2⟩
theorem stepP_err {s : PS} {b : Bool} {t : Tk} {e : Int} (h : stepP s b t = .error e) : e = 80 ∨ e = 100 := by
  unfold stepP at h
  repeat' split at h
  all_goals first
    | (cases h; done)
    | (injection h with h; subst h; simp)
theorem runP_err : ∀ (l : List Tk) (s : PS) (b : Bool) (e : Int), runP s b l = .error e → e = 80 ∨ e = 100 := by
  intro l
  induction l with
  | nil => intro s b e h; rw [runP] at h; cases h
  | cons t l ih =>
    intro s b e h
    rw [runP] at h
    cases hs : stepP s b t with
    | error e' =>
      rw [hs] at h
      injection h with h
      subst h
      exact stepP_err hs
    | ok s' =>
      rw [hs] at h
      exact ih _ _ _ h
/-- What is parsed may be, and has no more tokens. -/
theorem parse_may {l : List Tk} {v : List Nd} (h : parseR l = (v, 0)) : mayV v = true ∧ rawV v = true ∧ l.length ≤ 512 ∧ l.all mayT = true ∧ (toldD 12 v).1.length ≤ 512 ∧ v.length ≤ l.length := by
  unfold parseR at h
  by_cases h1 : 512 < l.length
  · rw [if_pos h1] at h; cases h
  · rw [if_neg h1] at h
    by_cases h2 : l.all mayT = true
    · rw [if_pos h2] at h
      obtain ⟨s, hs, rfl, hV, hO⟩ := endP_ok h (fun e he => by rcases runP_err _ _ _ _ he with rfl | rfl <;> decide)
      obtain ⟨b', hI⟩ := InvP.run l _ _ false 0 (.inr ⟨rfl, .inl rfl⟩) (fun t ht => List.all_eq_true.1 h2 t ht) hs
      rcases hI with ⟨gs, f, _, _, e, _⟩ | ⟨_, e | ⟨k1, k2, k3, k4⟩⟩
      · rw [hO] at e; simp at e
      · exact absurd e hV
      · have hc := toldD_cnt 12 s.V [] k2
        have h0 : cnt ([] : List Nd) = 0 := rfl
        have hl : s.V.length ≤ cnt s.V := by unfold cnt; omega
        exact ⟨mayV_iff.2 ⟨by omega, k1, k2⟩, k3, by omega, h2, by omega, by omega⟩
    · rw [if_neg h2] at h; cases h
/-- What is not parsed: no node. -/
theorem parse_bad {l : List Tk} {v : List Nd} {e : Int} (h : parseR l = (v, e)) (he : e ≠ 0) : v = [] ∧ (e = 4 ∨ e = 8 ∨ e = 80 ∨ e = 100) := by
  unfold parseR at h
  by_cases h1 : 512 < l.length
  · rw [if_pos h1] at h
    obtain ⟨rfl, rfl⟩ := (Prod.mk.injEq _ _ _ _).mp h
    simp
  · rw [if_neg h1] at h
    by_cases h2 : l.all mayT = true
    · rw [if_pos h2] at h
      cases hr : runP ⟨[], []⟩ false l with
      | error e' =>
        rw [hr] at h
        have h : (([] : List Nd), e') = (v, e) := h
        obtain ⟨rfl, rfl⟩ := (Prod.mk.injEq _ _ _ _).mp h
        rcases runP_err _ _ _ _ hr with rfl | rfl <;> simp
      | ok s =>
        rw [hr] at h
        have h : (if s.V = [] ∨ s.O ≠ [] then (([] : List Nd), (80 : Int)) else (s.V, 0)) = (v, e) := h
        by_cases hc : s.V = [] ∨ s.O ≠ []
        · rw [if_pos hc] at h
          obtain ⟨rfl, rfl⟩ := (Prod.mk.injEq _ _ _ _).mp h
          simp
        · rw [if_neg hc] at h
          exact absurd ((Prod.mk.injEq _ _ _ _).mp h).2.symm he
    · rw [if_neg h2] at h
      obtain ⟨rfl, rfl⟩ := (Prod.mk.injEq _ _ _ _).mp h
      simp
end Tr
end Go.Proofs.YtbjgfaflikgobaaDoor
namespace Go.Proofs.YtbjgfaflikgobaaDoor
open Go.RowKit
namespace Hx
open Lx Tr
set_option linter.unusedVariables false
/-- How a run of k cells reads as something, all that it leads to lying in blocks of a kind. -/
structure CodS (α : Type) where
  k : Nat
  R : World → (Nat → Prop) → List Value → α → Prop
  len : ∀ {w : World} {S : Nat → Prop} {cs : List Value} {x : α}, R w S cs x → cs.length = k
  one : ∀ {w : World} {S : Nat → Prop} {cs : List Value} {x : α}, R w S cs x → ∀ v ∈ cs, v.oneCell' = true
  keep : ∀ {w w' : World} {S S' : Nat → Prop} {cs : List Value} {x : α}, R w S cs x → (∀ b, S b → S' b) → (∀ b o, S b → w'.cell? ⟨b, o, none⟩ = w.cell? ⟨b, o, none⟩) → R w' S' cs x
/-- The slice at address A reads as the list l, all in blocks of a kind. -/
def RdS {α : Type} (C : CodS α) (w : World) (S : Nat → Prop) (A : Option Addr) (l : List α) : Prop :=
  0 < l.length → ∃ b off, A = some ⟨b, off, none⟩ ∧ S b ∧ ∀ j (h : j < l.length), ∃ cs, C.R w S cs (l[j]'h) ∧ ∀ i (hi : i < cs.length), w.cell? ⟨b, off + j * C.k + i, none⟩ = some (cs[i]'hi)
/-- .. somewhere. -/
def RdB {α : Type} (C : CodS α) (w : World) (A : Option Addr) (l : List α) : Prop := RdS C w (fun b => b < w.heap.size) A l
section
variable {α : Type} {C : CodS α}
theorem RdS.keep {w w' : World} {S S' : Nat → Prop} {A : Option Addr} {l : List α} (h : RdS C w S A l) (hS : ∀ b, S b → S' b) (hk : ∀ b o, S b → w'.cell? ⟨b, o, none⟩ = w.cell? ⟨b, o, none⟩) : RdS C w' S' A l := by
  intro hp
  obtain ⟨b, off, e, hb, hc⟩ := h hp
  refine ⟨b, off, e, hS b hb, fun j hj => ?_⟩
  obtain ⟨cs, h1, h2⟩ := hc j hj
  exact ⟨cs, C.keep h1 hS hk, fun i hi => (hk _ _ hb).trans (h2 i hi)⟩
theorem RdS.mono {w : World} {S S' : Nat → Prop} {A : Option Addr} {l : List α} (h : RdS C w S A l) (hS : ∀ b, S b → S' b) : RdS C w S' A l := h.keep hS fun _ _ _ => rfl
theorem RdS.nil (w : World) (S : Nat → Prop) (A : Option Addr) : RdS C w S A [] := fun h => absurd h (by simp)
theorem RdB.nil (w : World) (A : Option Addr) : RdB C w A [] := RdS.nil _ _ _
theorem RdB.on {w w' : World} {A : Option Addr} {l : List α} (h : RdB C w A l) (hb : Below w.heap.size w w') : RdB C w' A l :=
  RdS.keep h (fun b hlt => Nat.lt_of_lt_of_le hlt hb.size) fun b o hlt => hb.cell (p := ⟨b, o, none⟩) hlt
theorem RdS.at {w : World} {S : Nat → Prop} {A : Option Addr} {l : List α} {k : Nat} (h : RdS C w S A l) (hk : k < l.length) :
    ∃ b off cs, A = some ⟨b, off, none⟩ ∧ S b ∧ C.R w S cs (l[k]'hk) ∧ ∀ i (hi : i < cs.length), w.cell? ⟨b, off + k * C.k + i, none⟩ = some (cs[i]'hi) := by
  obtain ⟨b, off, e, hb, hc⟩ := h (by omega)
  obtain ⟨cs, h1, h2⟩ := hc k hk
  exact ⟨b, off, cs, e, hb, h1, h2⟩
theorem RdS.drop {w : World} {S : Nat → Prop} {b off : Nat} {l : List α} (h : RdS C w S (some ⟨b, off, none⟩) l) (i : Nat) : RdS C w S (some ⟨b, off + i * C.k, none⟩) (l.drop i) := by
  intro hp
  rw [List.length_drop] at hp
  obtain ⟨b', off', e, hb, hc⟩ := h (by omega)
  injection e with e
  injection e with e1 e2 _
  subst e1 e2
  refine ⟨b, off + i * C.k, rfl, hb, fun j hj => ?_⟩
  rw [List.length_drop] at hj
  obtain ⟨cs, h1, h2⟩ := hc (i + j) (by omega)
  refine ⟨cs, by rw [List.getElem_drop]; exact h1, fun m hm => ?_⟩
  have := h2 m hm
  rwa [show off + i * C.k + j * C.k + m = off + (i + j) * C.k + m by rw [Nat.add_mul]; omega]
theorem RdS.take {w : World} {S : Nat → Prop} {A : Option Addr} {l : List α} (h : RdS C w S A l) (k : Nat) : RdS C w S A (l.take k) := by
  intro hp
  have hl := List.length_take (i := k) (l := l)
  obtain ⟨b, off, e, hb, hc⟩ := h (by omega)
  refine ⟨b, off, e, hb, fun j hj => ?_⟩
  obtain ⟨cs, h1, h2⟩ := hc j (by omega)
  exact ⟨cs, by rw [List.getElem_take]; exact h1, h2⟩
end
/-- As a reading of what came in. -/
def CodS.old {α : Type} (C : CodS α) : Cod α where
  k := C.k
  R w B cs x := C.R w (fun b => b < B) cs x
  len := fun h => C.len h
  keep := fun h hB hk => C.keep h (fun b hb => Nat.lt_of_lt_of_le hb hB) fun b o hb => hk b o hb
/-- Attributes, nodes. -/
def AtS : CodS At where
  k := 3
  R _ _ cs a := ∃ x y z : ByteArray, cs = [.string x, .string y, .string z] ∧ x.data.toList = a.space ∧ y.data.toList = a.name ∧ z.data.toList = a.value
  len := by rintro _ _ _ _ ⟨x, y, z, rfl, _⟩; rfl
  one := by
    rintro _ _ _ _ ⟨x, y, z, rfl, _⟩ v hv
    simp at hv
    rcases hv with rfl | rfl | rfl <;> rfl
  keep := fun h _ _ => h
/-- A node's cells, as a list; as a value. -/
def ndCells (n : Nd) (x y z : ByteArray) (A : Option Addr) (c : Nat) : List Value := [.int .u8 (n.kind : Int), .string x, .string y, .slice A n.attrs.length c, .string z, .int .i64 n.many]
def NdV (n : Nd) (x y z : ByteArray) (A : Option Addr) (c : Nat) : Value := .agg #[.int .u8 (n.kind : Int), .string x, .string y, .slice A n.attrs.length c, .string z, .int .i64 n.many]
/-- What a node's cells are to be. -/
structure NdIn (n : Nd) (x y z : ByteArray) (A : Option Addr) (c : Nat) (w : World) (S : Nat → Prop) : Prop where
  space : x.data.toList = n.space
  name : y.data.toList = n.name
  text : z.data.toList = n.text
  attrs : RdS AtS w S A n.attrs
  le : n.attrs.length ≤ c
  cm : c ≤ maxLen
  nil : A = none → c = 0
  kd : n.kind < 256
  lo : -9223372036854775808 ≤ n.many
  hi : n.many ≤ 9223372036854775807
theorem NdIn.keep {n : Nd} {x y z : ByteArray} {A : Option Addr} {c : Nat} {w w' : World} {S S' : Nat → Prop} (h : NdIn n x y z A c w S) (hS : ∀ b, S b → S' b) (hk : ∀ b o, S b → w'.cell? ⟨b, o, none⟩ = w.cell? ⟨b, o, none⟩) : NdIn n x y z A c w' S' :=
  ⟨h.space, h.name, h.text, h.attrs.keep hS hk, h.le, h.cm, h.nil, h.kd, h.lo, h.hi⟩
def NdS : CodS Nd where
  k := 6
  R w S cs n := ∃ (x y z : ByteArray) (A : Option Addr) (c : Nat), cs = ndCells n x y z A c ∧ NdIn n x y z A c w S
  len := by rintro _ _ _ _ ⟨x, y, z, A, c, rfl, _⟩; rfl
  one := by
    rintro _ _ _ _ ⟨x, y, z, A, c, rfl, _⟩ v hv
    simp [ndCells] at hv
    rcases hv with rfl | rfl | rfl | rfl | rfl | rfl <;> rfl
  keep := fun ⟨x, y, z, A, c, h1, h2⟩ hS hk => ⟨x, y, z, A, c, h1, h2.keep hS hk⟩
/-- .. in this world. -/
def NdAt (n : Nd) (x y z : ByteArray) (A : Option Addr) (c : Nat) (w : World) : Prop := NdIn n x y z A c w (fun b => b < w.heap.size)
theorem NdAt.on {n : Nd} {x y z : ByteArray} {A : Option Addr} {c : Nat} {w w' : World} (h : NdAt n x y z A c w) (hb : Below w.heap.size w w') : NdAt n x y z A c w' :=
  NdIn.keep h (fun b hlt => Nat.lt_of_lt_of_le hlt hb.size) fun b o hlt => hb.cell (p := ⟨b, o, none⟩) hlt
theorem NdAt.rd {n : Nd} {x y z : ByteArray} {A : Option Addr} {c : Nat} {w : World} (h : NdAt n x y z A c w) : RdB AtS w A n.attrs := h.attrs
/-- Texts of nodes are no greater than calls go through. -/
structure SmallN (n : Nd) : Prop where
  space : n.space.length ≤ 1000000
  name : n.name.length ≤ 1000000
  text : n.text.length ≤ 1000000
  attrs : n.attrs.length ≤ 1000000
  each : ∀ a ∈ n.attrs, a.space.length ≤ 1000000 ∧ a.name.length ≤ 1000000 ∧ a.value.length ≤ 1000000
/-- A node among some. -/
theorem nd_at {w : World} {S : Nat → Prop} {A : Option Addr} {l : List Nd} {k : Nat} (hr : RdS NdS w S A l) (hk : k < l.length) :
    ∃ (b off : Nat) (x y z : ByteArray) (A1 : Option Addr) (c1 : Nat), A = some ⟨b, off, none⟩ ∧ S b ∧ NdIn (l[k]'hk) x y z A1 c1 w S ∧
      w.cell? ⟨b, off + k * 6, none⟩ = some (.int .u8 ((l[k]'hk).kind : Int)) ∧ w.cell? ⟨b, off + k * 6 + 1, none⟩ = some (.string x) ∧ w.cell? ⟨b, off + k * 6 + 2, none⟩ = some (.string y) ∧
      w.cell? ⟨b, off + k * 6 + 3, none⟩ = some (.slice A1 (l[k]'hk).attrs.length c1) ∧ w.cell? ⟨b, off + k * 6 + 4, none⟩ = some (.string z) ∧ w.cell? ⟨b, off + k * 6 + 5, none⟩ = some (.int .i64 (l[k]'hk).many) := by
  obtain ⟨b, off, cs, e, hb, ⟨x, y, z, A1, c1, rfl, hin⟩, hc⟩ := hr.at hk
  exact ⟨b, off, x, y, z, A1, c1, e, hb, hin, hc 0 (by simp [ndCells]), hc 1 (by simp [ndCells]), hc 2 (by simp [ndCells]), hc 3 (by simp [ndCells]), hc 4 (by simp [ndCells]), hc 5 (by simp [ndCells])⟩
theorem at_at {w : World} {S : Nat → Prop} {A : Option Addr} {l : List At} {k : Nat} (hr : RdS AtS w S A l) (hk : k < l.length) :
    ∃ (b off : Nat) (x y z : ByteArray), A = some ⟨b, off, none⟩ ∧ S b ∧ x.data.toList = (l[k]'hk).space ∧ y.data.toList = (l[k]'hk).name ∧ z.data.toList = (l[k]'hk).value ∧
      w.cell? ⟨b, off + k * 3, none⟩ = some (.string x) ∧ w.cell? ⟨b, off + k * 3 + 1, none⟩ = some (.string y) ∧ w.cell? ⟨b, off + k * 3 + 2, none⟩ = some (.string z) := by
  obtain ⟨b, off, cs, e, hb, ⟨x, y, z, rfl, h1, h2, h3⟩, hc⟩ := hr.at hk
  exact ⟨b, off, x, y, z, e, hb, h1, h2, h3, hc 0 (by simp), hc 1 (by simp), hc 2 (by simp)⟩
section
variable {H : Type} {enc : TypeId × Value → H}
end
end Hx
end Go.Proofs.YtbjgfaflikgobaaDoor
namespace Go.Proofs.YtbjgfaflikgobaaDoor
open Go.RowKit
namespace Hx
open Lx
set_option linter.unusedVariables false
theorem ba_l (s : ByteArray) : s.data.toList.length = s.size := by cases s; simp [ByteArray.size]
theorem at_l (s : ByteArray) (k : Nat) (h : k < s.size) : s.data.toList[k]'(by rw [ba_l]; exact h) = s[k]'h := by cases s; rfl
theorem ba_x {s t : ByteArray} (h : s.data.toList = t.data.toList) : s = t := by
  cases s; cases t
  simpa using h
theorem empty_l (s : ByteArray) : s.toList.isEmpty = decide (s.size = 0) := by
  rw [ByteArray.toList_eq, Bool.eq_iff_iff, List.isEmpty_iff, decide_eq_true_eq, ← ba_l]
  constructor
  · intro e; rw [e]; rfl
  · exact List.eq_nil_of_length_eq_zero
theorem extract_l (s : ByteArray) (a b : Nat) (h : b ≤ s.size) : (s.extract a b).data.toList = (s.data.toList.drop a).take (b - a) := Lib.extract_data s a b
set_option maxHeartbeats 1000000 in
set_option maxRecDepth 100000 in
theorem rletter9 (c : UInt8) (w : World) (b : Bool) (h : ltr c = b) :
    Calls Tryd.prog 48 #[.int .u8 c.toNat] w fun e w' => e = .returned (.bool b) ∧ w = w' := by
  have hlim := c.toNat_lt
  rcases (show (0 ≤ c.toNat ∧ c.toNat ≤ 64) ∨ (65 ≤ c.toNat ∧ c.toNat ≤ 90) ∨ (91 ≤ c.toNat ∧ c.toNat ≤ 94) ∨ (95 ≤ c.toNat ∧ c.toNat ≤ 95) ∨ (96 ≤ c.toNat ∧ c.toNat ≤ 96) ∨ (97 ≤ c.toNat ∧ c.toNat ≤ 122) ∨ (123 ≤ c.toNat ∧ c.toNat ≤ 255) by omega) with ⟨q1, q2⟩ | ⟨q1, q2⟩ | ⟨q1, q2⟩ | ⟨q1, q2⟩ | ⟨q1, q2⟩ | ⟨q1, q2⟩ | ⟨q1, q2⟩
  · obtain rfl : false = b := by
      rw [← h]
      unfold ltr
      have e95 : (c == 95) = false := by rw [Bool.eq_iff_iff]; simp [← UInt8.toNat_inj]; omega
      rw [e95]
      simp <;> omega
    clear h
    have fge97 : decide ((97 : Int) ≤ (c.toNat : Int)) = false := decide_eq_false (by omega)
    have fle122 : decide ((c.toNat : Int) ≤ 122) = true := decide_eq_true (by omega)
    have fge65 : decide ((65 : Int) ≤ (c.toNat : Int)) = false := decide_eq_false (by omega)
    have fle90 : decide ((c.toNat : Int) ≤ 90) = true := decide_eq_true (by omega)
    have feq95 : ((c.toNat : Int) == 95) = false := by simp; omega
    go_enter Tryd.func48, Tryd.ntmps48
    go_wp2_with fail
    go_ret
    exact ⟨rfl, rfl⟩
  · obtain rfl : true = b := by
      rw [← h]
      unfold ltr
      have e95 : (c == 95) = false := by rw [Bool.eq_iff_iff]; simp [← UInt8.toNat_inj]; omega
      rw [e95]
      simp <;> omega
    clear h
    have fge97 : decide ((97 : Int) ≤ (c.toNat : Int)) = false := decide_eq_false (by omega)
    have fle122 : decide ((c.toNat : Int) ≤ 122) = true := decide_eq_true (by omega)
    have fge65 : decide ((65 : Int) ≤ (c.toNat : Int)) = true := decide_eq_true (by omega)
    have fle90 : decide ((c.toNat : Int) ≤ 90) = true := decide_eq_true (by omega)
    have feq95 : ((c.toNat : Int) == 95) = false := by simp; omega
    go_enter Tryd.func48, Tryd.ntmps48
    go_wp2_with fail
    go_ret
    exact ⟨rfl, rfl⟩
  · obtain rfl : false = b := by
      rw [← h]
      unfold ltr
      have e95 : (c == 95) = false := by rw [Bool.eq_iff_iff]; simp [← UInt8.toNat_inj]; omega
      rw [e95]
      simp <;> omega
    clear h
    have fge97 : decide ((97 : Int) ≤ (c.toNat : Int)) = false := decide_eq_false (by omega)
    have fle122 : decide ((c.toNat : Int) ≤ 122) = true := decide_eq_true (by omega)
    have fge65 : decide ((65 : Int) ≤ (c.toNat : Int)) = true := decide_eq_true (by omega)
    have fle90 : decide ((c.toNat : Int) ≤ 90) = false := decide_eq_false (by omega)
    have feq95 : ((c.toNat : Int) == 95) = false := by simp; omega
    go_enter Tryd.func48, Tryd.ntmps48
    go_wp2_with fail
    go_ret
    exact ⟨rfl, rfl⟩
  · obtain rfl : true = b := by
      rw [← h]
      unfold ltr
      have e95 : (c == 95) = true := by rw [Bool.eq_iff_iff]; simp [← UInt8.toNat_inj]; omega
      rw [e95]
      simp <;> omega
    clear h
    have fge97 : decide ((97 : Int) ≤ (c.toNat : Int)) = false := decide_eq_false (by omega)
    have fle122 : decide ((c.toNat : Int) ≤ 122) = true := decide_eq_true (by omega)
    have fge65 : decide ((65 : Int) ≤ (c.toNat : Int)) = true := decide_eq_true (by omega)
    have fle90 : decide ((c.toNat : Int) ≤ 90) = false := decide_eq_false (by omega)
    have feq95 : ((c.toNat : Int) == 95) = true := by simp; omega
    go_enter Tryd.func48, Tryd.ntmps48
    go_wp2_with fail
    go_ret
    exact ⟨rfl, rfl⟩
  · obtain rfl : false = b := by
      rw [← h]
      unfold ltr
      have e95 : (c == 95) = false := by rw [Bool.eq_iff_iff]; simp [← UInt8.toNat_inj]; omega
      rw [e95]
      simp <;> omega
    clear h
    have fge97 : decide ((97 : Int) ≤ (c.toNat : Int)) = false := decide_eq_false (by omega)
    have fle122 : decide ((c.toNat : Int) ≤ 122) = true := decide_eq_true (by omega)
    have fge65 : decide ((65 : Int) ≤ (c.toNat : Int)) = true := decide_eq_true (by omega)
    have fle90 : decide ((c.toNat : Int) ≤ 90) = false := decide_eq_false (by omega)
    have feq95 : ((c.toNat : Int) == 95) = false := by simp; omega
    go_enter Tryd.func48, Tryd.ntmps48
    go_wp2_with fail
    go_ret
    exact ⟨rfl, rfl⟩
  · obtain rfl : true = b := by
      rw [← h]
      unfold ltr
      have e95 : (c == 95) = false := by rw [Bool.eq_iff_iff]; simp [← UInt8.toNat_inj]; omega
      rw [e95]
      simp <;> omega
    clear h
    have fge97 : decide ((97 : Int) ≤ (c.toNat : Int)) = true := decide_eq_true (by omega)
    have fle122 : decide ((c.toNat : Int) ≤ 122) = true := decide_eq_true (by omega)
    have fge65 : decide ((65 : Int) ≤ (c.toNat : Int)) = true := decide_eq_true (by omega)
    have fle90 : decide ((c.toNat : Int) ≤ 90) = false := decide_eq_false (by omega)
    have feq95 : ((c.toNat : Int) == 95) = false := by simp; omega
    go_enter Tryd.func48, Tryd.ntmps48
    go_wp2_with fail
    go_ret
    exact ⟨rfl, rfl⟩
  · obtain rfl : false = b := by
      rw [← h]
      unfold ltr
      have e95 : (c == 95) = false := by rw [Bool.eq_iff_iff]; simp [← UInt8.toNat_inj]; omega
      rw [e95]
      simp <;> omega
    clear h
    have fge97 : decide ((97 : Int) ≤ (c.toNat : Int)) = true := decide_eq_true (by omega)
    have fle122 : decide ((c.toNat : Int) ≤ 122) = false := decide_eq_false (by omega)
    have fge65 : decide ((65 : Int) ≤ (c.toNat : Int)) = true := decide_eq_true (by omega)
    have fle90 : decide ((c.toNat : Int) ≤ 90) = false := decide_eq_false (by omega)
    have feq95 : ((c.toNat : Int) == 95) = false := by simp; omega
    go_enter Tryd.func48, Tryd.ntmps48
    go_wp2_with fail
    go_ret
    exact ⟨rfl, rfl⟩
theorem ret_b9 {x y : Bool} (h : x = y) : Ending.returned (.bool x) = .returned (.bool y) := by rw [h]
/-- So far a name. -/
def nameP (l : List UInt8) : Prop := l = [] ∨ nameL l = true
theorem nameP_step {l : List UInt8} {c : UInt8} (h : nameP l) (h0 : l = [] → ltr c = true) (h1 : nch c = true) : nameP (l ++ [c]) := by
  right
  cases l with
  | nil => show (ltr c && [].all nch) = true; rw [h0 rfl]; rfl
  | cons d r =>
    rcases h with h | h
    · cases h
    · unfold nameL at h ⊢
      rw [Bool.and_eq_true] at h
      show (ltr d && (r ++ [c]).all nch) = true
      rw [h.1, List.all_append, h.2]
      simp [h1]
theorem nameL_no {l : List UInt8} {k : Nat} (h : k < l.length) (h1 : nch (l[k]'h) = false) : nameL l = false := by
  cases hq : nameL l with
  | false => rfl
  | true => have := nameL_all hq _ (List.getElem_mem h); rw [h1] at this; cases this
theorem nameL_no0 {l : List UInt8} (h : 0 < l.length) (h1 : ltr (l[0]'h) = false) : nameL l = false := by
  cases l with
  | nil => simp at h
  | cons c r =>
    have h1' : ltr c = false := h1
    show (ltr c && r.all nch) = false
    rw [h1']
    rfl
theorem nch_not {c : UInt8} (h : ltr c = false) : nch c = (decide (48 ≤ c.toNat) && decide (c.toNat ≤ 57) || c == 46 || c == 45) := by unfold nch; rw [h]; simp
set_option maxHeartbeats 4000000 in
set_option maxRecDepth 100000 in
theorem rname9 (s : ByteArray) (w : World) (hm : s.size ≤ 1000000) (b : Bool) (h : nameL s.data.toList = b) :
    Calls Tryd.prog 33 #[.string s] w fun e w' => e = .returned (.bool b) ∧ w = w' := by
  have hem := empty_l s
  have HH := Lib.hid h
  have HM := Lib.hid hm
  obtain ⟨ie, hie⟩ : ∃ ie, decide (s.size = 0) = ie := ⟨_, rfl⟩
  rw [hie] at hem
  have HIE := Lib.hid hie
  clear h hm hie
  go_enter Tryd.func33, Tryd.ntmps33
  go_wp2_with fail
  go_loopw [3] (fun i wr => ∃ k : Nat, k ≤ s.size ∧ i = .int .i64 k ∧ nameP (s.data.toList.take k) ∧ w = wr) (fun i _ => s.size - (intOf i).toNat)
  case atStart => exact ⟨0, Nat.zero_le _, rfl, .inl rfl, by first | rfl | trivial⟩
  case round =>
    obtain ⟨k, hk, rfl, hn, rfl⟩ := hrel
    have hs := HM.out
    by_cases hlt : k < s.size
    · obtain ⟨c, hc⟩ : ∃ c, s[k]'hlt = c := ⟨_, rfl⟩
      have hca : ∀ h, s[k]'h = c := fun _ => hc
      have hkl : k < s.data.toList.length := by rw [ba_l]; exact hlt
      have hck : s.data.toList[k]'hkl = c := (at_l s k hlt).trans hc
      have bk : (0 : Int) ≤ (k : Int) ∧ (k : Int) < (s.size : Int) := by omega
      have hstep := fun h0 h1 => nameP_step (c := c) hn h0 h1
      rw [← hck, ← List.take_succ_eq_append_getElem hkl, hck] at hstep
      have HST := Lib.hid hstep
      have HCK := Lib.hid hck
      clear hck hc hn hstep
      cases hl : ltr c
      · have HL := Lib.hid hl
        by_cases h0 : k = 0
        · subst h0
          obtain rfl : false = b := by
            have := nameL_no0 (l := s.data.toList) hkl (by rw [HCK.out]; exact HL.out)
            rw [← HH.out, this]
          clear hl hem
          go_wp2_with (first
            | (go_at_call 48; (with_reducible refine (rletter9 c _ false HL.out).mono ?_); rintro e w1 ⟨rfl, rfl⟩)
            | fail)
          go_ret
          exact ⟨rfl, rfl⟩
        · have hk0 : ((k : Int) == 0) = false := by simp; omega
          have HK0 : Hid (s.data.toList.take k ≠ []) := Lib.hid fun e => by
            have := congrArg List.length e
            rw [List.length_take, List.length_nil] at this
            omega
          clear hl h0
          have hlim := c.toNat_lt
          rcases (show (0 ≤ c.toNat ∧ c.toNat ≤ 44) ∨ (45 ≤ c.toNat ∧ c.toNat ≤ 45) ∨ (46 ≤ c.toNat ∧ c.toNat ≤ 46) ∨ (47 ≤ c.toNat ∧ c.toNat ≤ 47) ∨ (48 ≤ c.toNat ∧ c.toNat ≤ 57) ∨ (58 ≤ c.toNat ∧ c.toNat ≤ 255) by omega) with ⟨q1, q2⟩ | ⟨q1, q2⟩ | ⟨q1, q2⟩ | ⟨q1, q2⟩ | ⟨q1, q2⟩ | ⟨q1, q2⟩
          · have hv : nch c = false := by
              rw [nch_not HL.out]
              have e45 : (c == 45) = false := by rw [Bool.eq_iff_iff]; simp [← UInt8.toNat_inj]; omega
              have e46 : (c == 46) = false := by rw [Bool.eq_iff_iff]; simp [← UInt8.toNat_inj]; omega
              rw [e45, e46]
              simp
              omega
            have flt48 : decide ((c.toNat : Int) < 48) = true := decide_eq_true (by omega)
            have fgt57 : decide ((57 : Int) < (c.toNat : Int)) = false := decide_eq_false (by omega)
            have fne46 : ((c.toNat : Int) != 46) = true := by simp; omega
            have fne45 : ((c.toNat : Int) != 45) = true := by simp; omega
            obtain rfl : false = b := by
              have := nameL_no (l := s.data.toList) hkl (by rw [HCK.out]; exact hv)
              rw [← HH.out, this]
            clear hv hem
            go_wp2_with (first
              | (go_at_call 48; (with_reducible refine (rletter9 c _ false HL.out).mono ?_); rintro e w1 ⟨rfl, rfl⟩)
              | fail)
            go_ret
            exact ⟨rfl, rfl⟩
          · have hv : nch c = true := by
              rw [nch_not HL.out]
              have e45 : (c == 45) = true := by rw [Bool.eq_iff_iff]; simp [← UInt8.toNat_inj]; omega
              have e46 : (c == 46) = false := by rw [Bool.eq_iff_iff]; simp [← UInt8.toNat_inj]; omega
              rw [e45, e46]
              simp
            have flt48 : decide ((c.toNat : Int) < 48) = true := decide_eq_true (by omega)
            have fgt57 : decide ((57 : Int) < (c.toNat : Int)) = false := decide_eq_false (by omega)
            have fne46 : ((c.toNat : Int) != 46) = true := by simp; omega
            have fne45 : ((c.toNat : Int) != 45) = false := by simp; omega
            have HV := Lib.hid (HST.out (fun e => absurd e HK0.out) hv)
            clear hv
            go_wp2_with (first
              | (go_at_call 48; (with_reducible refine (rletter9 c _ false HL.out).mono ?_); rintro e w1 ⟨rfl, rfl⟩)
              | fail)
            go_roundw
            case rel => exact ⟨k + 1, hlt, by go_num, HV.out, by first | rfl | trivial⟩
            case measure => simp [intOf]; omega
          · have hv : nch c = true := by
              rw [nch_not HL.out]
              have e45 : (c == 45) = false := by rw [Bool.eq_iff_iff]; simp [← UInt8.toNat_inj]; omega
              have e46 : (c == 46) = true := by rw [Bool.eq_iff_iff]; simp [← UInt8.toNat_inj]; omega
              rw [e45, e46]
              simp
            have flt48 : decide ((c.toNat : Int) < 48) = true := decide_eq_true (by omega)
            have fgt57 : decide ((57 : Int) < (c.toNat : Int)) = false := decide_eq_false (by omega)
            have fne46 : ((c.toNat : Int) != 46) = false := by simp; omega
            have fne45 : ((c.toNat : Int) != 45) = true := by simp; omega
            have HV := Lib.hid (HST.out (fun e => absurd e HK0.out) hv)
            clear hv
            go_wp2_with (first
              | (go_at_call 48; (with_reducible refine (rletter9 c _ false HL.out).mono ?_); rintro e w1 ⟨rfl, rfl⟩)
              | fail)
            go_roundw
            case rel => exact ⟨k + 1, hlt, by go_num, HV.out, by first | rfl | trivial⟩
            case measure => simp [intOf]; omega
          · have hv : nch c = false := by
              rw [nch_not HL.out]
              have e45 : (c == 45) = false := by rw [Bool.eq_iff_iff]; simp [← UInt8.toNat_inj]; omega
              have e46 : (c == 46) = false := by rw [Bool.eq_iff_iff]; simp [← UInt8.toNat_inj]; omega
              rw [e45, e46]
              simp
              omega
            have flt48 : decide ((c.toNat : Int) < 48) = true := decide_eq_true (by omega)
            have fgt57 : decide ((57 : Int) < (c.toNat : Int)) = false := decide_eq_false (by omega)
            have fne46 : ((c.toNat : Int) != 46) = true := by simp; omega
            have fne45 : ((c.toNat : Int) != 45) = true := by simp; omega
            obtain rfl : false = b := by
              have := nameL_no (l := s.data.toList) hkl (by rw [HCK.out]; exact hv)
              rw [← HH.out, this]
            clear hv hem
            go_wp2_with (first
              | (go_at_call 48; (with_reducible refine (rletter9 c _ false HL.out).mono ?_); rintro e w1 ⟨rfl, rfl⟩)
              | fail)
            go_ret
            exact ⟨rfl, rfl⟩
          · have hv : nch c = true := by
              rw [nch_not HL.out]
              have e45 : (c == 45) = false := by rw [Bool.eq_iff_iff]; simp [← UInt8.toNat_inj]; omega
              have e46 : (c == 46) = false := by rw [Bool.eq_iff_iff]; simp [← UInt8.toNat_inj]; omega
              rw [e45, e46]
              simp
              omega
            have flt48 : decide ((c.toNat : Int) < 48) = false := decide_eq_false (by omega)
            have fgt57 : decide ((57 : Int) < (c.toNat : Int)) = false := decide_eq_false (by omega)
            have fne46 : ((c.toNat : Int) != 46) = true := by simp; omega
            have fne45 : ((c.toNat : Int) != 45) = true := by simp; omega
            have HV := Lib.hid (HST.out (fun e => absurd e HK0.out) hv)
            clear hv
            go_wp2_with (first
              | (go_at_call 48; (with_reducible refine (rletter9 c _ false HL.out).mono ?_); rintro e w1 ⟨rfl, rfl⟩)
              | fail)
            go_roundw
            case rel => exact ⟨k + 1, hlt, by go_num, HV.out, by first | rfl | trivial⟩
            case measure => simp [intOf]; omega
          · have hv : nch c = false := by
              rw [nch_not HL.out]
              have e45 : (c == 45) = false := by rw [Bool.eq_iff_iff]; simp [← UInt8.toNat_inj]; omega
              have e46 : (c == 46) = false := by rw [Bool.eq_iff_iff]; simp [← UInt8.toNat_inj]; omega
              rw [e45, e46]
              simp
              omega
            have flt48 : decide ((c.toNat : Int) < 48) = false := decide_eq_false (by omega)
            have fgt57 : decide ((57 : Int) < (c.toNat : Int)) = true := decide_eq_true (by omega)
            have fne46 : ((c.toNat : Int) != 46) = true := by simp; omega
            have fne45 : ((c.toNat : Int) != 45) = true := by simp; omega
            obtain rfl : false = b := by
              have := nameL_no (l := s.data.toList) hkl (by rw [HCK.out]; exact hv)
              rw [← HH.out, this]
            clear hv hem
            go_wp2_with (first
              | (go_at_call 48; (with_reducible refine (rletter9 c _ false HL.out).mono ?_); rintro e w1 ⟨rfl, rfl⟩)
              | fail)
            go_ret
            exact ⟨rfl, rfl⟩
      · have HL := Lib.hid hl
        have HV := Lib.hid (HST.out (fun _ => hl) (nch_of_ltr hl))
        clear hl
        go_wp2_with (first
          | (go_at_call 48; (with_reducible refine (rletter9 c _ true HL.out).mono ?_); rintro e w1 ⟨rfl, rfl⟩)
          | fail)
        go_roundw
        case rel => exact ⟨k + 1, hlt, by go_num, HV.out, by first | rfl | trivial⟩
        case measure => simp [intOf]; omega
    · obtain rfl : k = s.size := by omega
      have HX : Hid ((!ie) = b) := Lib.hid (by
        have hn' := hn
        rw [List.take_of_length_le (by rw [ba_l]; omega)] at hn'
        rw [← HIE.out, ← HH.out]
        rcases hn' with h | h
        · rw [h]
          have : s.size = 0 := by rw [← ba_l, h]; rfl
          simp [this, nameL]
        · rw [h]
          have : s.size ≠ 0 := by
            intro e
            rw [List.eq_nil_of_length_eq_zero ((ba_l s).trans e)] at h
            cases h
          simp [this])
      clear hn
      go_wp2_with fail
      go_ret
      exact ⟨ret_b9 HX.out, rfl⟩
end Hx
end Go.Proofs.YtbjgfaflikgobaaDoor
namespace Go.Proofs.YtbjgfaflikgobaaDoor
open Go.RowKit
namespace Hx
open Lx
set_option linter.unusedVariables false
theorem cutC_at {l : List UInt8} {k : Nat} (h : k < l.length) (h1 : (58 : UInt8) ∉ l.take k) (h2 : l[k]'h = 58) : cutC l = some (l.take k, l.drop (k + 1)) := by
  have e : l = l.take k ++ 58 :: l.drop (k + 1) := by rw [← h2, ← List.drop_eq_getElem_cons h, List.take_append_drop]
  have gen : ∀ (a b : List UInt8), (58 : UInt8) ∉ a → cutC (a ++ 58 :: b) = some (a, b) := by
    intro a
    induction a with
    | nil => intro b _; show (if (58 : UInt8) = 58 then _ else _) = _; rw [if_pos rfl]
    | cons c a ih =>
      intro b hn
      rw [List.mem_cons, not_or] at hn
      show (if c = 58 then _ else _) = _
      rw [if_neg (Ne.symm hn.1)]
      show Option.map _ (cutC (a ++ 58 :: b)) = _
      rw [ih b hn.2]
      rfl
  have := gen _ (l.drop (k + 1)) h1
  rwa [← e] at this
theorem cutC_no {l : List UInt8} (h : (58 : UInt8) ∉ l) : cutC l = none := by
  induction l with
  | nil => rfl
  | cons c l ih =>
    rw [List.mem_cons, not_or] at h
    show (if c = 58 then _ else _) = _
    rw [if_neg (Ne.symm h.1), ih h.2]
    rfl
/-- What Parts answers. -/
def PartsTo (s : ByteArray) (w : World) (e : Ending) (w' : World) : Prop := (∃ n, w' = w.drewN n) ∧
  ((∃ x y : ByteArray, cutC s.data.toList = some (x.data.toList, y.data.toList) ∧ e = .returned (.tuple #[.string x, .string y, .bool true])) ∨ (cutC s.data.toList = none ∧ e = .returned (.tuple #[.string ⟨#[]⟩, .string s, .bool false])))
set_option maxHeartbeats 2000000 in
set_option maxRecDepth 100000 in
theorem rparts9 (s : ByteArray) (w : World) (hm : s.size ≤ 1000000) : Calls Tryd.prog 32 #[.string s] w (PartsTo s w) := by
  have HM := Lib.hid hm
  clear hm
  go_enter Tryd.func32, Tryd.ntmps32
  go_wp2_with fail
  go_loopw [5] (fun i wr => ∃ k : Nat, k ≤ s.size ∧ i = .int .i64 k ∧ (58 : UInt8) ∉ s.data.toList.take k ∧ w = wr) (fun i _ => s.size - (intOf i).toNat)
  case atStart => exact ⟨0, Nat.zero_le _, rfl, by simp, by first | rfl | trivial⟩
  case round =>
    obtain ⟨k, hk, rfl, hn, rfl⟩ := hrel
    have hs := HM.out
    by_cases hlt : k < s.size
    · obtain ⟨c, hc⟩ : ∃ c, s[k]'hlt = c := ⟨_, rfl⟩
      have hca : ∀ h, s[k]'h = c := fun _ => hc
      have hkl : k < s.data.toList.length := by rw [ba_l]; exact hlt
      have hck : s.data.toList[k]'hkl = c := (at_l s k hlt).trans hc
      have bk : (0 : Int) ≤ (k : Int) ∧ (k : Int) < (s.size : Int) := by omega
      have hcl := c.toNat_lt
      by_cases h58 : c.toNat = 58
      · have e58 : c = 58 := UInt8.toNat_inj.1 h58
        have f58 : ((c.toNat : Int) == 58) = true := by simp; omega
        obtain ⟨x, hx⟩ : ∃ x, s.extract 0 k = x := ⟨_, rfl⟩
        obtain ⟨y, hy⟩ : ∃ y, s.extract (k + 1) s.size = y := ⟨_, rfl⟩
        have HC : Hid (cutC s.data.toList = some (x.data.toList, y.data.toList)) := Lib.hid (by
          rw [cutC_at hkl hn (hck.trans e58), ← hx, ← hy, extract_l s 0 k hk, extract_l s (k + 1) s.size (Nat.le_refl _), List.drop_zero, Nat.sub_zero, List.take_of_length_le (l := s.data.toList.drop (k + 1)) (by rw [List.length_drop, ba_l]; omega)])
        clear hck hc hn e58 h58
        go_wp2_with fail
        go_region
        go_wp2_with fail
        refine bodyPost_ret (v := .tuple #[.string x, .string y, .bool true]) ?_ rfl ⟨⟨1, rfl⟩, .inl ⟨x, y, HC.out, rfl⟩⟩
        simp [results, Tryd.results32, go_sem]
      · have f58 : ((c.toNat : Int) == 58) = false := by simp; omega
        have HV : Hid ((58 : UInt8) ∉ s.data.toList.take (k + 1)) := Lib.hid (by
          rw [List.take_succ_eq_append_getElem hkl, hck, List.mem_append, not_or]
          refine ⟨hn, ?_⟩
          rw [List.mem_singleton]
          rintro rfl
          exact h58 rfl)
        clear hck hc hn h58
        go_wp2_with fail
        go_roundw
        case rel => exact ⟨k + 1, hlt, by go_num, HV.out, by first | rfl | trivial⟩
        case measure => simp [intOf]; omega
    · obtain rfl : k = s.size := by omega
      have HC : Hid (cutC s.data.toList = none) := Lib.hid (by
        rw [List.take_of_length_le (by rw [ba_l]; omega)] at hn
        exact cutC_no hn)
      clear hn
      go_wp2_with fail
      refine bodyPost_ret (v := .tuple #[.string ⟨#[]⟩, .string s, .bool false]) ?_ rfl ⟨⟨0, rfl⟩, .inr ⟨HC.out, rfl⟩⟩
      simp [results, Tryd.results32, go_sem]
theorem ex_size {l : List UInt8} {x y : ByteArray} (h : cutC l = some (x.data.toList, y.data.toList)) : x.size + y.size + 1 = l.length := by
  have := congrArg List.length (cutC_some h).1
  rw [List.length_append, List.length_cons, ba_l, ba_l] at this
  omega
theorem rparts_some (s x y : ByteArray) (w : World) (hm : s.size ≤ 1000000) (h : cutC s.data.toList = some (x.data.toList, y.data.toList)) : Calls Tryd.prog 32 #[.string s] w fun e w' => e = .returned (.tuple #[.string x, .string y, .bool true]) ∧ ∃ n, w' = w.drewN n :=
  (rparts9 s w hm).mono fun e w' hp => by
    obtain ⟨hb, ⟨x', y', h1, h2⟩ | ⟨h1, _⟩⟩ := hp
    · rw [h] at h1
      obtain ⟨e1, e2⟩ := (Prod.mk.injEq _ _ _ _).mp (Option.some.inj h1)
      rw [ba_x e1, ba_x e2]
      exact ⟨h2, hb⟩
    · rw [h] at h1; cases h1
theorem rparts_none (s : ByteArray) (w : World) (hm : s.size ≤ 1000000) (h : cutC s.data.toList = none) : Calls Tryd.prog 32 #[.string s] w fun e w' => e = .returned (.tuple #[.string ⟨#[]⟩, .string s, .bool false]) ∧ ∃ n, w' = w.drewN n :=
  (rparts9 s w hm).mono fun e w' hp => by
    obtain ⟨hb, ⟨x', y', h1, h2⟩ | ⟨h1, h2⟩⟩ := hp
    · rw [h] at h1; cases h1
    · exact ⟨h2, hb⟩
set_option maxHeartbeats 2000000 in
set_option maxRecDepth 100000 in
theorem rfull9q (s : ByteArray) (w : World) (hm : s.size ≤ 1000000) (b : Bool) (h : fullL s.data.toList = b) :
    Calls Tryd.prog 20 #[.string s] w fun e w' => e = .returned (.bool b) ∧ ∃ n, w' = w.drewN n := by
  unfold fullL at h
  have HM := Lib.hid hm
  cases hc : cutC s.data.toList with
  | none =>
    rw [hc] at h
    have HC := Lib.hid hc
    have HH : Hid (nameL s.data.toList = b) := h
    clear hc h hm
    cases b <;> (
      go_enter Tryd.func20, Tryd.ntmps20
      go_wp2_with (first
        | (go_at_call 32; (with_reducible refine (rparts_none s w HM.out HC.out).mono ?_); rintro e w1 ⟨rfl, n1, rfl⟩)
        | (go_at_call 33; (with_reducible refine (rname9 s _ HM.out _ HH.out).mono ?_); rintro e w2 ⟨rfl, rfl⟩)
        | fail)
      go_ret
      exact ⟨rfl, n1, rfl⟩)
  | some p =>
    obtain ⟨a, c⟩ := p
    rw [hc] at h
    dsimp only at h
    obtain ⟨x, hx⟩ : ∃ x : ByteArray, x.data.toList = a := ⟨⟨a.toArray⟩, rfl⟩
    obtain ⟨y, hy⟩ : ∃ y : ByteArray, y.data.toList = c := ⟨⟨c.toArray⟩, rfl⟩
    subst hx hy
    have hsz := ex_size hc
    rw [ba_l] at hsz
    have HX : Hid (x.size ≤ 1000000) := Lib.hid (by omega)
    have HY : Hid (y.size ≤ 1000000) := Lib.hid (by omega)
    obtain ⟨b1, h1⟩ : ∃ b1, nameL y.data.toList = b1 := ⟨_, rfl⟩
    obtain ⟨b2, h2⟩ : ∃ b2, nameL x.data.toList = b2 := ⟨_, rfl⟩
    rw [h1, h2] at h
    have HC := Lib.hid hc
    have H1 := Lib.hid h1
    have H2 := Lib.hid h2
    clear hc h1 h2 hm hsz
    subst h
    cases b1
    · go_enter Tryd.func20, Tryd.ntmps20
      go_wp2_with (first
        | (go_at_call 32; (with_reducible refine (rparts_some s x y w HM.out HC.out).mono ?_); rintro e w1 ⟨rfl, n1, rfl⟩)
        | (go_at_call 33; (with_reducible refine (rname9 y _ HY.out _ H1.out).mono ?_); rintro e w2 ⟨rfl, rfl⟩)
        | fail)
      go_ret
      exact ⟨rfl, n1, rfl⟩
    · cases b2 <;> (
      go_enter Tryd.func20, Tryd.ntmps20
      go_wp2_with (first
        | (go_at_call 32; (with_reducible refine (rparts_some s x y w HM.out HC.out).mono ?_); rintro e w1 ⟨rfl, n1, rfl⟩)
        | (go_at_call 33; (with_reducible refine (rname9 y _ HY.out _ H1.out).mono ?_); rintro e w2 ⟨rfl, rfl⟩)
        | (go_at_call 33; (with_reducible refine (rname9 x _ HX.out _ H2.out).mono ?_); rintro e w3 ⟨rfl, rfl⟩)
        | fail)
      go_ret
      exact ⟨rfl, n1, rfl⟩)
theorem rfull9 (s : ByteArray) (w : World) (hm : s.size ≤ 1000000) (b : Bool) (h : fullL s.data.toList = b) :
    Calls Tryd.prog 20 #[.string s] w fun e w' => e = .returned (.bool b) ∧ Below w.heap.size w w' :=
  (rfull9q s w hm b h).mono fun e w' ⟨h1, n, h2⟩ => ⟨h1, by rw [h2]; exact ⟨rfl, rfl, rfl, Nat.le_refl _, fun _ _ => rfl⟩⟩
end Hx
end Go.Proofs.YtbjgfaflikgobaaDoor
