/-
  Texts of one seat, put together: LexO, LexP, LexC, MemV.
-/
import Derived.Test.YteobcohjikjalaaGreatDoorSp01
import Derived.Test.YteobcohjikjalaaGreatDoorSp00
import Derived.Laws.Rows
import Derived.Laws.Tables
set_option linter.unusedSimpArgs false
namespace Go.Proofs.YteobcohjikjalaaGreatDoor
namespace Lx
open Tx Nmb Es
set_option linter.unusedVariables false
def okT (l : List UInt8) : Bool := decide (l.length ≤ 16384) && isP l
def attrsF : List Pr → List Pr → Bool
  | _, [] => true
  | acc, p :: r => fullL p.name && !hasL acc p.name && okT p.value && attrsF (acc ++ [p]) r
def attrsOk (l : List Pr) : Bool := attrsF [] l && decide (l.length ≤ 16)
def mayT (t : Tk) : Bool :=
  if t.kind = 1 ∨ t.kind = 3 then fullL t.name && attrsOk t.attrs && t.text.isEmpty
  else if t.kind = 2 then fullL t.name && t.attrs.isEmpty && t.text.isEmpty
  else if t.kind = 4 then t.name.isEmpty && t.attrs.isEmpty && !t.text.isEmpty && okT t.text else false
def writeA (p : Pr) : List UInt8 := 32 :: (p.name ++ 61 :: 34 :: (escL true p.value ++ [34]))
def writeT (t : Tk) : List UInt8 :=
  if t.kind = 4 then escL false t.text else if t.kind = 2 then 60 :: 47 :: (t.name ++ [62])
  else 60 :: (t.name ++ (t.attrs.flatMap writeA ++ (if t.kind = 3 then [47, 62] else [62])))
def apart : List Tk → Bool
  | [] => true
  | [_] => true
  | a :: b :: r => !(decide (a.kind = 4) && decide (b.kind = 4)) && apart (b :: r)
theorem oneL_tag (l r : List UInt8) (t : Tk) : oneL (60 :: l) = some (t, r) ↔ tagL l = some (t, r) := by
  unfold oneL
  dsimp only
  rw [if_pos rfl]
theorem txt_iff (c : UInt8) : txt c = true ↔ c ≠ 60 := by unfold txt; simp
theorem oneL_kind {l r : List UInt8} {t : Tk} (h : oneL l = some (t, r)) : (t.kind ≠ 4 ∧ ∃ s, l = 60 :: s ∧ tagL s = some (t, r)) ∨
    (t.kind = 4 ∧ l.head? ≠ some 60 ∧ ∃ a x, l = a ++ r ∧ a ≠ [] ∧ (∀ c ∈ a, c ≠ 60) ∧ rd a = some x ∧ t = ⟨4, [], [], x⟩ ∧ ∀ c s, r = c :: s → c = 60) := by
  cases l with
  | nil => cases h
  | cons c s =>
    by_cases hc : c = 60
    · subst hc
      have ht := (oneL_tag _ _ _).1 h
      left
      refine ⟨?_, s, rfl, ht⟩
      rcases (tagL_iff _ _ _).1 ht with ⟨g, _, _, _, e⟩ | ⟨b, y, _, _, _, e⟩
      · rw [e]; simp
      · rw [e]; cases b <;> simp
    · right
      unfold oneL at h
      dsimp only at h
      rw [if_neg hc] at h
      cases hr : rd ((c :: s).takeWhile txt) with
      | none => rw [hr] at h; cases h
      | some x =>
        rw [hr] at h
        obtain ⟨rfl, rfl⟩ := (Prod.mk.injEq _ _ _ _).mp (Option.some.inj h)
        obtain ⟨e1, e2, e3⟩ := tw_split txt (c :: s)
        refine ⟨rfl, by simpa using hc, _, x, e1, ?_, fun d hd => (txt_iff d).1 (e2 d hd), hr, rfl, fun d q e => ?_⟩
        · have : txt c = true := (txt_iff c).2 hc
          rw [List.takeWhile_cons, this]
          simp
        · have := e3 d q e
          unfold txt at this
          simpa using this
inductive LexI : List Tk → List UInt8 → Prop
  | nil : LexI [] []
  | cons (t : Tk) (ts : List Tk) (l r : List UInt8) : oneL l = some (t, r) → LexI ts r → LexI (t :: ts) l
theorem LexI.len {a : List Tk} {l : List UInt8} (h : LexI a l) : a.length ≤ l.length := by
  induction h with
  | nil => exact Nat.le_refl _
  | cons t ts l r h1 h2 ih => have := oneL_len h1; rw [List.length_cons]; omega
theorem LexI.first {t : Tk} {a : List Tk} {l : List UInt8} (h : LexI (t :: a) l) (ht : t.kind ≠ 4) : ∀ c s, l = c :: s → c = 60 := by
  intro c s e
  cases h with
  | cons _ _ _ r h1 h2 =>
    rcases oneL_kind h1 with ⟨_, q, e2, _⟩ | ⟨h3, _⟩
    · rw [e2] at e
      exact (List.cons.inj e).1.symm
    · exact absurd h3 ht
theorem isP_behind {g l : List UInt8} (h : isP (g ++ l) = true) (hg : ∀ c ∈ g, c.toNat < 128) : isP l = true := by
  induction g with
  | nil => exact h
  | cons c g ih => exact ih (isP_split (a := []) (b := g ++ l) (c := c) h (hg c (by simp))).2.1 (fun x hx => hg x (by simp [hx]))
theorem blk_low {c : UInt8} (h : blk c = true) : c.toNat < 128 := (blk_far h).2.2.2.2.2.2.2
theorem wch_low {c : UInt8} (h : wch c = true) : c.toNat < 128 := (wch_far h).2.2.2.2.2.2.2.1
theorem q_low {q : UInt8} (h : q = 34 ∨ q = 39) : q.toNat < 128 := by rcases h with rfl | rfl <;> decide
theorem attrL_text {l r : List UInt8} {p : Pr} (h : attrL l = some (p, r)) (hp : isP l = true) (hl : l.length ≤ 16384) : fullL p.name = true ∧ okT p.value = true ∧ isP r = true ∧ (writeA p).length + 6 * r.length ≤ 6 * l.length + 5 := by
  obtain ⟨g1, g2, x, rfl, h1, h2, h3, h4⟩ := (attrL_iff _ _ _).1 h
  obtain ⟨q, raw, rfl, h5, h6, h7⟩ := (valL_iff _ _ _).1 h4
  have k1 := isP_behind hp (fun c hc => wch_low (fullL_all h1 c hc))
  have k2 := isP_behind k1 (fun c hc => blk_low (h2 c hc))
  have k3 := (isP_split (a := []) (c := 61) k2 (by decide)).2.1
  have k4 := isP_behind k3 (fun c hc => blk_low (h3 c hc))
  have k5 := (isP_split (a := []) (c := q) k4 (q_low h5)).2.1
  obtain ⟨k6, k7, _⟩ := isP_split k5 (q_low h5)
  obtain ⟨k8, k9⟩ := toldL_text k6 h7
  have hel := (escL_len true p.value).2
  simp only [List.length_append, List.length_cons] at hl
  refine ⟨h1, by unfold okT; rw [k8, Bool.and_true, decide_eq_true_eq]; omega, k7, ?_⟩
  unfold writeA
  simp only [List.length_append, List.length_cons, List.length_nil]
  omega
theorem TagI.text {acc : List Pr} {l : List UInt8} {b : Bool} {at1 : List Pr} {x : List UInt8} (h : TagI acc l b at1 x) (hp : isP l = true) (hl : l.length ≤ 16384) : ∃ more, at1 = acc ++ more ∧ attrsF acc more = true ∧ isP x = true ∧ (more.flatMap writeA).length + (if b then 2 else 1) + 6 * x.length ≤ 6 * l.length := by
  induction h with
  | shut acc g x hg =>
    have := isP_behind hp (fun c hc => blk_low (hg c hc))
    exact ⟨[], by simp, rfl, (isP_split (a := []) (c := 62) this (by decide)).2.1, by simp; omega⟩
  | bare acc g x hg =>
    have := isP_behind hp (fun c hc => blk_low (hg c hc))
    have := (isP_split (a := []) (c := 47) this (by decide)).2.1
    exact ⟨[], by simp, rfl, (isP_split (a := []) (c := 62) this (by decide)).2.1, by simp; omega⟩
  | attr acc g l y p b at1 x hg hn ha hh _ ih =>
    have k1 := isP_behind hp (fun c hc => blk_low (hg c hc))
    rw [List.length_append] at hl
    obtain ⟨k2, k3, k4, k5⟩ := attrL_text ha k1 (by omega)
    have hy := attrL_len ha
    obtain ⟨more, e1, e2, e3, e4⟩ := ih k4 (by omega)
    refine ⟨p :: more, by rw [e1]; simp, ?_, e3, ?_⟩
    · unfold attrsF
      rw [k2, hh, k3, e2]
      rfl
    · rw [List.flatMap_cons, List.length_append, List.length_append]
      have : 1 ≤ g.length := List.length_pos_iff.2 hn
      omega
def mayL (t : Tk) : Prop := t.attrs.length ≤ 16 → mayT t = true
theorem mayL_tag {b : Bool} {name : List UInt8} {at1 : List Pr} (h1 : fullL name = true) (h2 : attrsF [] at1 = true) : mayL ⟨if b then 3 else 1, name, at1, []⟩ := by
  intro hl
  unfold mayT
  dsimp only at hl ⊢
  rw [if_pos (by cases b <;> simp)]
  unfold attrsOk
  rw [h1, h2]
  simp [hl]
theorem oneL_text1 {l r : List UInt8} {t : Tk} (h : oneL l = some (t, r)) (hp : isP l = true) (hl : l.length ≤ 16384) : mayL t ∧ isP r = true ∧ (writeT t).length + 6 * r.length ≤ 6 * l.length := by
  rcases oneL_kind h with ⟨h1, s, rfl, ht⟩ | ⟨h1, h2, a, x, rfl, h3, h4, h5, rfl, h6⟩
  · have k0 := (isP_split (a := []) (c := 60) hp (by decide)).2.1
    rw [List.length_cons] at hl
    rcases (tagL_iff _ _ _).1 ht with ⟨g, rfl, k1, k2, k3⟩ | ⟨b, y, rfl, k1, k2, k3⟩
    · have q1 := (isP_split (a := []) (c := 47) k0 (by decide)).2.1
      have q2 := isP_behind q1 (fun c hc => wch_low (fullL_all k1 c hc))
      have q3 := isP_behind q2 (fun c hc => blk_low (k2 c hc))
      have q4 := (isP_split (a := []) (c := 62) q3 (by decide)).2.1
      refine ⟨fun _ => ?_, q4, ?_⟩
      · rw [k3]
        unfold mayT
        simp [k1]
      · rw [k3]
        unfold writeT
        simp only [List.length_append, List.length_cons]
        rw [if_neg (by decide), if_pos trivial]
        simp only [List.length_append, List.length_cons, List.length_nil]
        omega
    · have q2 := isP_behind k0 (fun c hc => wch_low (fullL_all k1 c hc))
      rw [List.length_append] at hl
      obtain ⟨more, e1, e2, e3, e4⟩ := k2.text q2 (by omega)
      rw [List.nil_append] at e1
      rw [k3]
      refine ⟨mayL_tag k1 (by rw [e1]; exact e2), e3, ?_⟩
      unfold writeT
      rw [e1]
      dsimp only
      rw [if_neg (by cases b <;> simp), if_neg (by cases b <;> simp)]
      simp only [List.length_append, List.length_cons]
      cases b
      · rw [if_neg (by simp)]
        simp only [List.length_cons, List.length_nil, Bool.false_eq_true, if_false] at e4 ⊢
        omega
      · rw [if_pos (by simp)]
        simp only [List.length_cons, List.length_nil, if_true] at e4 ⊢
        omega
  · have ha : isP a = true ∧ isP r = true := by
      cases r with
      | nil => rw [List.append_nil] at hp; exact ⟨hp, rfl⟩
      | cons c s =>
        obtain rfl := h6 c s rfl
        obtain ⟨q1, q2, q3⟩ := isP_split hp (by decide)
        exact ⟨q1, isP_app (a := [60]) (by decide +kernel) q2⟩
    have hx := rd_text _ _ _ (Nat.le_refl _) ha.1 h5
    obtain ⟨hx2, hx3⟩ := rd_len _ _ _ (Nat.le_refl _) h5
    rw [List.length_append] at hl
    have hel := (escL_len false x).2
    refine ⟨fun _ => ?_, ha.2, ?_⟩
    · unfold mayT
      have : x ≠ [] := hx3 h3
      have h16 : x.length ≤ 16384 := by omega
      simp [okT, hx, this, h16]
    · unfold writeT
      rw [if_pos rfl, List.length_append]
      dsimp only
      omega
theorem LexI.text {a : List Tk} {l : List UInt8} (h : LexI a l) (hp : isP l = true) (hl : l.length ≤ 16384) : (∀ t ∈ a, mayL t) ∧ apart a = true ∧ (a.flatMap writeT).length ≤ 6 * l.length := by
  induction h with
  | nil => exact ⟨fun t h => (by cases h), rfl, Nat.le_refl _⟩
  | cons t ts l r h1 h2 ih =>
    obtain ⟨k1, k2, k3⟩ := oneL_text1 h1 hp hl
    have := oneL_len h1
    obtain ⟨i1, i2, i3⟩ := ih k2 (by omega)
    refine ⟨fun x hx => ?_, ?_, ?_⟩
    · rcases List.mem_cons.1 hx with rfl | hx
      · exact k1
      · exact i1 x hx
    · cases ts with
      | nil => rfl
      | cons u ts =>
        unfold apart
        rw [i2, Bool.and_true]
        rcases oneL_kind h1 with ⟨q1, _⟩ | ⟨q1, _, a, x, _, _, _, _, _, q6⟩
        · simp [q1]
        · cases h2 with
          | cons _ _ _ r2 h3 h4 =>
            rcases oneL_kind h3 with ⟨p1, _⟩ | ⟨_, p2, b, x2, rfl, p3, p4, _⟩
            · simp [p1]
            · exfalso
              cases b with
              | nil => exact p3 rfl
              | cons c s => exact p4 c (by simp) (q6 c (s ++ r2) rfl)
    · rw [List.flatMap_cons, List.length_append]
      omega
end Lx
end Go.Proofs.YteobcohjikjalaaGreatDoor
set_option linter.unusedSimpArgs false
namespace Go.Proofs.YteobcohjikjalaaGreatDoor
open Go.RowKit
namespace Hx
open Lx
set_option linter.unusedVariables false
section
variable {H : Type} {enc : TypeId × Value → H}
end
end Hx
end Go.Proofs.YteobcohjikjalaaGreatDoor
set_option linter.unusedSimpArgs false
namespace Go.Proofs.YteobcohjikjalaaGreatDoor
open Go.RowKit
namespace Hx
set_option linter.unusedVariables false
theorem kept_heap {a b : World} {k : Nat} {o : Obj} (h : a.heap[k]? = some o) (hb : Below a.heap.size a b) : b.heap[k]? = some o := (hb.block k (Array.getElem?_eq_some_iff.1 h).1).trans h
theorem lt_heap {a : World} {k : Nat} {o : Obj} (h : a.heap[k]? = some o) : k < a.heap.size := (Array.getElem?_eq_some_iff.1 h).1
theorem below_setRowV {B g : Nat} {w0 w : World} (hb : Below B w0 w) (hBg : B ≤ g) (cs : Array Value) : Below B w0 (w.setRow g cs) :=
  hb.trans ⟨rfl, rfl, rfl, by simp [World.setRow], fun k hk => setRow_other w g k cs (by omega)⟩
theorem rcell2 {P : Program} {fn : Func} {p q : Tmp} {ty : TypeId} (h : fn.results = #[.cell p ty, .tmp q]) (tmps : Array Value) (w : World) (g : Nat) (t : TypeId) (cs : Array Value) (fr : Nat × Nat) (d : TypeDesc)
    (hp : tmps.getD p undef = .pointer (some ⟨g, 0, none⟩)) (hg : w.heap[g]? = some (.cells cs t fr))
    (hu : P.underlying ty = some d) (hd : (match d with | .struct _ | .array _ _ => true | _ => false) = true) (hi : (P.info? ty).map (·.size) = some cs.size) :
    (results fn tmps).run P w = .ok (.tuple #[.agg cs, tmps.getD q undef]) w := by
  have hp' : tmps[p]?.getD undef = .pointer (some ⟨g, 0, none⟩) := by simpa using hp
  simp [results, h, hp', asAddr, run_loadVar_row w g t ty cs fr d hg hu hd hi]
theorem below_drewN {B : Nat} {a w : World} (h : Below B a w) (n : Nat) : Below B a (w.drewN n) := ⟨h.os, h.tape, h.output, h.size, h.block⟩
theorem opnV (w : World) (A : Obj) : ∃ W, w.alloc A = W ∧ W.heap[w.heap.size]? = some A ∧ Below w.heap.size w W := ⟨_, rfl, heap_alloc_new w A, stpA (Below.refl _ _) _⟩
end Hx
end Go.Proofs.YteobcohjikjalaaGreatDoor
