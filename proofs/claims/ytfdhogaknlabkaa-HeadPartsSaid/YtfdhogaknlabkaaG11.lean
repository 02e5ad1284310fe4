/-
  Texts of one seat, put together: LexV, LexW, LexX, LexY.
-/
import Derived.Test.YtfdhogaknlabkaaG10
import Derived.Maps.AppendAt
set_option linter.unusedSimpArgs false
set_option linter.unusedVariables false
namespace Go.Proofs.Ytfdhogaknlabkaa
open Go.RowKit
namespace Hx
open Lx Tx Nmb Es
set_option linter.unusedVariables false
def zTk : Array Value := #[.int .u8 0, .string ⟨#[]⟩, .slice none 0 0, .string ⟨#[]⟩]
theorem oneTk (k : Int) (x : ByteArray) (v : Value) (y : ByteArray) (hv : v.oneCell' = true := by rfl) : (#[Value.int .u8 k, Value.string x, v, Value.string y] : Array Value).all (·.oneCell') = true := by simp [Value.oneCell'] at hv ⊢; exact hv
/-- Where a closing tag's sign > is looked for. -/
theorem shutL_none0 {l : List UInt8} (h : wordL l = []) : shutL l = none := by unfold shutL; rw [if_pos h]
theorem shutL_at {l : List UInt8} {a : Nat} (h : wordL (l.drop a) ≠ []) : shutL (l.drop a) = match l.drop (eqAt l a) with
    | [] => none
    | c :: r => if c = 62 then some (⟨2, wordL (l.drop a), [], []⟩, r) else none := by
  unfold shutL
  rw [if_neg h, List.drop_drop, dw_drop]
  rfl
theorem shutL_end {l : List UInt8} {a : Nat} (h : wordL (l.drop a) ≠ []) (h1 : l.length ≤ eqAt l a) : shutL (l.drop a) = none := by rw [shutL_at h, List.drop_of_length_le h1]
theorem shutL_other {l : List UInt8} {a : Nat} (h : wordL (l.drop a) ≠ []) (h1 : eqAt l a < l.length) (h2 : l[eqAt l a]'h1 ≠ 62) : shutL (l.drop a) = none := by
  rw [shutL_at h, List.drop_eq_getElem_cons h1]
  dsimp only
  rw [if_neg h2]
theorem shutL_yes {l : List UInt8} {a : Nat} (h : wordL (l.drop a) ≠ []) (h1 : eqAt l a < l.length) (h2 : l[eqAt l a]'h1 = 62) : shutL (l.drop a) = some (⟨2, wordL (l.drop a), [], []⟩, l.drop (eqAt l a + 1)) := by
  rw [shutL_at h, List.drop_eq_getElem_cons h1]
  dsimp only
  rw [if_pos h2]
/-- What shut answers. -/
def ShutTo (s : ByteArray) (a : Nat) (w : World) (e : Ending) (w' : World) : Prop := Below w.heap.size w w' ∧
  ((shutL (s.data.toList.drop (a + 2)) = none ∧ e = .returned (.tuple #[.agg #[.int .u8 0, .string ⟨#[]⟩, .slice none 0 0, .string ⟨#[]⟩], .int .i64 (-1)])) ∨
   (∃ (x : ByteArray) (n : Nat), shutL (s.data.toList.drop (a + 2)) = some (⟨2, x.data.toList, [], []⟩, s.data.toList.drop n) ∧ n ≤ s.size ∧ e = .returned (.tuple #[.agg #[.int .u8 2, .string x, .slice none 0 0, .string ⟨#[]⟩], .int .i64 n])))
end Hx
end Go.Proofs.Ytfdhogaknlabkaa
namespace Go.Proofs.Ytfdhogaknlabkaa
open Go.RowKit
namespace Hx
open Lx Tx Nmb Es
set_option linter.unusedVariables false
/-- What stands behind a tag's name, from here on. -/
def tagG (acc : List Pr) (l : List UInt8) : Option (Bool × List Pr × List UInt8) := tagF (l.length + 1) acc l
def tagAt (l : List UInt8) (p : Nat) : Nat := p + ((l.drop p).takeWhile blk).length
theorem tagG_at (l : List UInt8) (p : Nat) (acc : List Pr) : tagG acc (l.drop p) = match l.drop (tagAt l p) with
    | [] => none
    | c :: x => if c = 62 then some (false, acc, x) else if c = 47 ∧ x.head? = some 62 then some (true, acc, x.tail) else
      match attrL (c :: x) with
      | none => none
      | some (pr, y) => if p = tagAt l p ∨ hasL acc pr.name = true then none else tagG (acc ++ [pr]) y := by
  conv => lhs; unfold tagG tagF
  rw [dw_drop]
  show (match l.drop (tagAt l p) with | [] => _ | c :: x => _) = _
  cases hd : l.drop (tagAt l p) with
  | nil => rfl
  | cons c x =>
    dsimp only
    by_cases h1 : c = 62
    · rw [if_pos h1, if_pos h1]
    · rw [if_neg h1, if_neg h1]
      by_cases h2 : c = 47 ∧ x.head? = some 62
      · rw [if_pos h2, if_pos h2]
      · rw [if_neg h2, if_neg h2]
        cases ha : attrL (c :: x) with
        | none => rfl
        | some q =>
          obtain ⟨pr, y⟩ := q
          dsimp only
          have hy := attrL_len ha
          have hl := congrArg List.length hd
          rw [List.length_drop] at hl
          have hlen : ((l.drop p).length = (c :: x).length) ↔ p = tagAt l p := by
            rw [← hd, List.length_drop, List.length_drop]
            have : l.length ≠ 0 := by intro e; rw [e] at hl; simp at hl
            have h3 : tagAt l p < l.length := by rw [List.length_cons] at hl; omega
            have h4 : p ≤ tagAt l p := by unfold tagAt; omega
            omega
          have hq : tagF (l.drop p).length (acc ++ [pr]) y = tagF (y.length + 1) (acc ++ [pr]) y := by
            refine tagF_same _ _ _ _ ?_ (Nat.lt_succ_self _)
            rw [List.length_drop]
            have h4 : p ≤ tagAt l p := by unfold tagAt; omega
            rw [List.length_cons] at hl hy
            omega
          by_cases h3 : p = tagAt l p ∨ hasL acc pr.name = true
          · rw [if_pos h3, if_pos (h3.imp hlen.2 id)]
          · rw [if_neg h3, if_neg (fun h4 => h3 (h4.imp hlen.1 id))]
            exact hq
theorem tagG_shut {l : List UInt8} {p q : Nat} {acc : List Pr} (hq : tagAt l p = q) (h : q < l.length) (h1 : l[q]'h = 62) : tagG acc (l.drop p) = some (false, acc, l.drop (q + 1)) := by
  rw [tagG_at, hq, List.drop_eq_getElem_cons h]
  dsimp only
  rw [if_pos h1]
theorem tagG_bare {l : List UInt8} {p q : Nat} {acc : List Pr} (hq : tagAt l p = q) (h : q + 1 < l.length) (h1 : l[q]'(by omega) = 47) (h2 : l[q + 1]'h = 62) : tagG acc (l.drop p) = some (true, acc, l.drop (q + 2)) := by
  rw [tagG_at, hq, List.drop_eq_getElem_cons (show q < l.length by omega)]
  dsimp only
  rw [if_neg (by rw [h1]; decide), if_pos ⟨h1, by rw [List.drop_eq_getElem_cons h, h2]; rfl⟩, List.drop_eq_getElem_cons h]
  rfl
/-- Neither of the two ends stands here. -/
def noEnd (l : List UInt8) (q : Nat) : Prop := ∀ c x, l.drop q = c :: x → c ≠ 62 ∧ ¬ (c = 47 ∧ x.head? = some 62)
theorem noEnd_of {l : List UInt8} {q : Nat} (h1 : ∀ h : q < l.length, l[q]'h ≠ 62) (h2 : ∀ h : q + 1 < l.length, l[q]'(by omega) = 47 → l[q + 1]'h ≠ 62) : noEnd l q := by
  intro c x e
  have hq : q < l.length := by
    have := congrArg List.length e
    rw [List.length_drop, List.length_cons] at this
    omega
  rw [List.drop_eq_getElem_cons hq] at e
  obtain ⟨e1, e2⟩ := List.cons.inj e
  refine ⟨by rw [← e1]; exact h1 hq, ?_⟩
  rintro ⟨e3, e4⟩
  by_cases hq1 : q + 1 < l.length
  · rw [← e2, List.drop_eq_getElem_cons hq1] at e4
    exact h2 hq1 (e1.trans e3) (Option.some.inj e4)
  · rw [← e2, List.drop_of_length_le (by omega)] at e4
    cases e4
theorem tagG_none {l : List UInt8} {p q : Nat} {acc : List Pr} (hq : tagAt l p = q) (hn : noEnd l q) (ha : attrL (l.drop q) = none) : tagG acc (l.drop p) = none := by
  rw [tagG_at, hq]
  cases hd : l.drop q with
  | nil => rfl
  | cons c x =>
    obtain ⟨n1, n2⟩ := hn c x hd
    dsimp only
    rw [if_neg n1, if_neg n2, ← hd, ha]
theorem tagG_bad {l y : List UInt8} {p q : Nat} {acc : List Pr} {pr : Pr} (hq : tagAt l p = q) (hn : noEnd l q) (ha : attrL (l.drop q) = some (pr, y)) (hb : p = q ∨ hasL acc pr.name = true) : tagG acc (l.drop p) = none := by
  rw [tagG_at, hq]
  cases hd : l.drop q with
  | nil => rfl
  | cons c x =>
    obtain ⟨n1, n2⟩ := hn c x hd
    dsimp only
    rw [if_neg n1, if_neg n2, ← hd, ha]
    dsimp only
    rw [if_pos hb]
theorem tagG_next {l y : List UInt8} {p q : Nat} {acc : List Pr} {pr : Pr} (hq : tagAt l p = q) (hn : noEnd l q) (ha : attrL (l.drop q) = some (pr, y)) (hb : p ≠ q) (hb2 : hasL acc pr.name = false) : tagG acc (l.drop p) = tagG (acc ++ [pr]) y := by
  rw [tagG_at, hq]
  cases hd : l.drop q with
  | nil => rw [hd] at ha; cases ha
  | cons c x =>
    obtain ⟨n1, n2⟩ := hn c x hd
    dsimp only
    rw [if_neg n1, if_neg n2, ← hd, ha]
    dsimp only
    rw [if_neg (by rw [not_or, hb2]; exact ⟨hb, by simp⟩)]
theorem tagL_of {l : List UInt8} {a : Nat} (h47 : (l.drop a).head? ≠ some 47) (hw : wordL (l.drop a) ≠ []) : tagL (l.drop a) = (tagG [] (l.drop (a + (wordL (l.drop a)).length))).map fun p => (⟨if p.1 then 3 else 1, wordL (l.drop a), p.2.1, []⟩, p.2.2) := by
  unfold tagL
  rw [if_neg h47, if_neg hw, List.drop_drop]
  unfold tagG
  rw [tagF_same _ ((l.drop (a + (wordL (l.drop a)).length)).length + 1) _ _ ?_ (Nat.lt_succ_self _)]
  rw [List.length_drop, List.length_drop]
  omega
theorem tagL_of0 {l : List UInt8} (h47 : l.head? ≠ some 47) (hw : wordL l = []) : tagL l = none := by unfold tagL; rw [if_neg h47, if_pos hw]
theorem tagL_of47 {l : List UInt8} {a : Nat} (h : a < l.length) (h47 : l[a]'h = 47) : tagL (l.drop a) = shutL (l.drop (a + 1)) := by
  unfold tagL
  rw [List.drop_eq_getElem_cons h, h47, if_pos (show (47 :: List.drop (a + 1) l).head? = some 47 from rfl)]
  rfl
/-- Attributes as the program holds them. -/
abbrev PB := ByteArray × ByteArray
def prCells (p : PB) : List Value := [.string p.1, .string p.2]
def prVal (p : PB) : Pr := ⟨p.1.data.toList, p.2.data.toList⟩
theorem prCells_R (w : World) (B : Nat) (p : PB) : PrC.R w B (prCells p) (prVal p) := ⟨p.1, p.2, rfl, rfl, rfl⟩
theorem own_attrs {w : World} {base : Nat} {A : Option Addr} {n c : Nat} {l : List PB} (h : w.ownsRow base 25 2 (.slice A n c) n (l.flatMap prCells)) : RdC PrC w w.heap.size A (l.map prVal) ∧ l.length = n ∧ n ≤ c ∧ c ≤ maxLen ∧ (A = none → c = 0) :=
  RdC.of_own (C := PrC) prCells prVal (fun _ => rfl) (by decide) l (fun b _ => prCells_R _ _ b) h
/-- A token whose attributes lie in new memory. -/
def TkR (B : Nat) (w : World) (cs : Array Value) (t : Tk) : Prop := TkC.R w w.heap.size cs.toList t ∧ ∀ A n c, cs[2]? = some (.slice A n c) → ∀ ad, A = some ad → B ≤ ad.block
/-- What tag answers. -/
def TagTo (s : ByteArray) (a : Nat) (w : World) (e : Ending) (w' : World) : Prop := Below w.heap.size w w' ∧
  ((tagL (s.data.toList.drop (a + 1)) = none ∧ e = .returned (.tuple #[.agg #[.int .u8 0, .string ⟨#[]⟩, .slice none 0 0, .string ⟨#[]⟩], .int .i64 (-1)])) ∨
   (∃ (cs : Array Value) (t : Tk) (n : Nat), tagL (s.data.toList.drop (a + 1)) = some (t, s.data.toList.drop n) ∧ n ≤ s.size ∧ TkR w.heap.size w' cs t ∧ e = .returned (.tuple #[.agg cs, .int .i64 n])))
theorem attrL_suffix {l r : List UInt8} {p : Pr} (h : attrL l = some (p, r)) : ∃ k, k ≤ l.length ∧ r = l.drop k := by
  obtain ⟨g1, g2, x, rfl, _, _, _, h4⟩ := (attrL_iff _ _ _).1 h
  obtain ⟨q, raw, rfl, _⟩ := (valL_iff _ _ _).1 h4
  refine ⟨(p.name ++ (g1 ++ 61 :: (g2 ++ q :: (raw ++ [q])))).length, by simp <;> omega, ?_⟩
  have e : p.name ++ (g1 ++ 61 :: (g2 ++ q :: (raw ++ q :: r))) = (p.name ++ (g1 ++ 61 :: (g2 ++ q :: (raw ++ [q])))) ++ r := by simp
  rw [e, List.drop_left]
theorem drop_same {l : List UInt8} {n m : Nat} (hn : n ≤ l.length) (hm : m ≤ l.length) (h : l.drop n = l.drop m) : n = m := by
  have := congrArg List.length h
  rw [List.length_drop, List.length_drop] at this
  omega
theorem TkC_plain (w : World) (k : Nat) (hk : k < 256) (x : ByteArray) : TkC.R w w.heap.size (#[Value.int .u8 (k : Int), .string x, .slice none 0 0, .string ⟨#[]⟩] : Array Value).toList ⟨k, x.data.toList, [], []⟩ :=
  ⟨x, none, 0, ⟨#[]⟩, rfl, hk, rfl, rfl, Nat.le_refl _, Nat.zero_le _, fun _ => rfl, RdC.nil _ _ _⟩
theorem TkR_plain (B : Nat) (w : World) (k : Nat) (hk : k < 256) (x : ByteArray) : TkR B w #[Value.int .u8 (k : Int), .string x, .slice none 0 0, .string ⟨#[]⟩] ⟨k, x.data.toList, [], []⟩ :=
  ⟨TkC_plain w k hk x, fun A n c h ad e => by
    have h' : Value.slice none 0 0 = .slice A n c := Option.some.inj h
    injection h' with h1 _ _
    rw [← h1] at e
    cases e⟩
theorem cellV (w : World) (g k : Nat) (cs : Array Value) (t : TypeId) (fr : Nat × Nat) (h : w.heap[g]? = some (.cells cs t fr)) : w.cell? ⟨g, k, none⟩ = cs[k]? := by simp [World.cell?, h]
theorem freeV (w : World) (g k : Nat) (cs : Array Value) (t : TypeId) (h : w.heap[g]? = some (.cells cs t (0, 0))) : w.frozen? ⟨g, k, none⟩ = false := by simp [World.frozen?, h]
theorem own_setRow {w : World} {base : Nat} {e : TypeId} {size : Nat} {v : Value} {n : Nat} {xs : List Value} (h : w.ownsRow base e size v n xs) (R : Nat) (hR : R < base) (cs : Array Value) : (w.setRow R cs).ownsRow base e size v n xs := by
  refine ⟨h.1, ?_⟩
  rcases h.2 with h0 | ⟨g, cap, cur, hv, hb, hg, rest⟩
  · exact .inl h0
  · exact .inr ⟨g, cap, cur, hv, hb, (setRow_other w R g cs (by omega)).trans hg, rest⟩
theorem infoPr : (Try.prog.info? 25).map (fun i => (i.zero, i.size, i.bytes)) = some (some (.agg #[.string ⟨#[]⟩, .string ⟨#[]⟩]), 2, 32) := by kernel_rfl
theorem own_form2 {w : World} {base : Nat} {e : TypeId} {size : Nat} {v : Value} {n : Nat} {xs : List Value} (h : w.ownsRow base e size v n xs) : ∃ A c, v = .slice A n c := by
  rcases h.2 with ⟨rfl, rfl⟩ | ⟨g, cap, cur, rfl, _⟩
  · exact ⟨none, 0, rfl⟩
  · exact ⟨_, cap, rfl⟩
theorem TkC_made {w : World} {g : Nat} {L : List PB} {v : Value} (k : Nat) (hk : k < 256) (t : ByteArray) (h : w.ownsRow (g + 1) 25 2 v L.length (L.flatMap prCells)) :
    TkC.R w w.heap.size (#[Value.int .u8 (k : Int), .string t, v, .string ⟨#[]⟩] : Array Value).toList ⟨k, t.data.toList, L.map prVal, []⟩ := by
  obtain ⟨A, c, rfl⟩ := own_form2 h
  obtain ⟨h1, h2, h3, h4, h5⟩ := own_attrs h
  exact ⟨t, A, c, ⟨#[]⟩, by simp, hk, rfl, rfl, by simpa using h3, h4, h5, h1⟩
theorem TkC_set {w : World} {g R : Nat} {L : List PB} {v : Value} {cs : Array Value} (h : w.ownsRow (g + 1) 25 2 v L.length (L.flatMap prCells)) (hR : R < g) (k : Nat) (hk : k < 256) (t : ByteArray) :
    TkC.R (w.setRow R cs) (w.setRow R cs).heap.size (#[Value.int .u8 (k : Int), .string t, v, .string ⟨#[]⟩] : Array Value).toList ⟨k, t.data.toList, L.map prVal, []⟩ := TkC_made k hk t (own_setRow h R (by omega) cs)
theorem TkR_set {w : World} {B g R : Nat} {L : List PB} {A : Option Addr} {c : Nat} {cs : Array Value} (h : w.ownsRow (g + 1) 25 2 (.slice A L.length c) L.length (L.flatMap prCells)) (hR : R < g) (hB : B ≤ R) (k : Nat) (hk : k < 256) (t : ByteArray) :
    TkR B (w.setRow R cs) #[Value.int .u8 (k : Int), .string t, .slice A L.length c, .string ⟨#[]⟩] ⟨k, t.data.toList, L.map prVal, []⟩ := by
  refine ⟨TkC_set h hR k hk t, fun A' n c' e ad e2 => ?_⟩
  have h' : Value.slice A L.length c = .slice A' n c' := Option.some.inj e
  injection h' with h1 _ _
  rcases h.2 with ⟨h3, _⟩ | ⟨g', cap, cur, hv, hb, _⟩
  · injection h3 with h3 _ _
    rw [← h1, h3] at e2
    cases e2
  · injection hv with h3 _ _
    rw [← h1, h3] at e2
    injection e2 with e2
    rw [← e2]
    show B ≤ g'
    omega
theorem own_belowK {w w' : World} {B base : Nat} {e : TypeId} {size : Nat} {v : Value} {n : Nat} {xs : List Value} (h : w.ownsRow base e size v n xs) (hb : Below B w w') (hB : w.heap.size ≤ B) : w'.ownsRow base e size v n xs := by
  refine h.kept (row := none) ⟨hb.os, hb.tape, hb.output, hb.size, fun k hk _ => hb.block k (by omega)⟩ ?_
  cases v.ownBlock
  · exact .inl rfl
  · exact .inr (by simp)
theorem new_at (w : World) (cs : List Value) (t : TypeId) (B : Nat) (hB : w.heap.size = B) : ∀ (j : Nat) (u : Value), cs[j]? = some u → (w.alloc (.cells cs.toArray t)).cell? ((⟨B, 0, none⟩ : Addr).add j) = some u := fun j u h => by
  subst hB
  rw [addr_plain, World.cell?_alloc_new]
  simpa using h
theorem set_other (w : World) (g k b : Nat) (x : Value) (h : b ≠ g) : (w.setCell ⟨g, k, none⟩ x).heap[b]? = w.heap[b]? := by
  unfold World.setCell
  dsimp only
  rw [Array.getElem?_modify, if_neg (fun e => h e.symm)]
theorem own_setCell {w : World} {base : Nat} {e : TypeId} {size : Nat} {v : Value} {n : Nat} {xs : List Value} (h : w.ownsRow base e size v n xs) (R k : Nat) (hR : R < base) (x : Value) : (w.setCell ⟨R, k, none⟩ x).ownsRow base e size v n xs := by
  refine ⟨h.1, ?_⟩
  rcases h.2 with h0 | ⟨g, cap, cur, hv, hb, hg, rest⟩
  · exact .inl h0
  · exact .inr ⟨g, cap, cur, hv, hb, (set_other w R k g x (by omega)).trans hg, rest⟩
theorem two_at {l : List UInt8} {q : Nat} (h : q + 1 < l.length) : (l.drop q).take 2 = [l[q]'(by omega), l[q + 1]'h] := by
  rw [List.drop_eq_getElem_cons (show q < l.length by omega), List.drop_eq_getElem_cons h]
  rfl
theorem attrL_few {l : List UInt8} (h : l.length < 3) : attrL l = none := by
  cases ha : attrL l with
  | none => rfl
  | some r =>
    have := attrL_len (p := r.1) (r := r.2) ha
    omega
end Hx
end Go.Proofs.Ytfdhogaknlabkaa
namespace Go.Proofs.Ytfdhogaknlabkaa
open Go.RowKit
namespace Hx
open Lx Tx Nmb Es
set_option linter.unusedVariables false
theorem oneL_tagA {l : List UInt8} {a : Nat} (h : a < l.length) (h1 : l[a]'h = 60) : oneL (l.drop a) = tagL (l.drop (a + 1)) := by
  rw [List.drop_eq_getElem_cons h, h1]
  unfold oneL
  dsimp only
  rw [if_pos rfl]
theorem oneL_txt {l : List UInt8} {a j : Nat} (h : a < l.length) (h1 : l[a]'h ≠ 60) (h2 : (l.drop a).takeWhile txt = (l.drop a).take j) (h3 : j ≤ (l.drop a).length) : oneL (l.drop a) = (rd ((l.drop a).take j)).map fun x => (⟨4, [], [], x⟩, l.drop (a + j)) := by
  have e : ((l.drop a).takeWhile txt).length = j := by rw [h2, List.length_take]; omega
  have d := dw_drop txt l a
  rw [e] at d
  rw [← h2, ← d, List.drop_eq_getElem_cons h]
  unfold oneL
  dsimp only
  rw [if_neg h1]
theorem TagI_suffix {acc : List Pr} {y : List UInt8} {b : Bool} {at1 : List Pr} {r : List UInt8} (h : TagI acc y b at1 r) : ∃ p, y = p ++ r := by
  induction h with
  | shut acc g x _ => exact ⟨g ++ [62], by simp⟩
  | bare acc g x _ => exact ⟨g ++ [47, 62], by simp⟩
  | attr acc g l y p b at1 x _ _ ha _ _ ih =>
    obtain ⟨q, rfl⟩ := ih
    obtain ⟨k, _, e⟩ := attrL_suffix ha
    refine ⟨g ++ (l.take k ++ q), ?_⟩
    conv => lhs; rw [← List.take_append_drop k l, ← e]
    simp
theorem tagL_suffix {l r : List UInt8} {t : Tk} (h : tagL l = some (t, r)) : r.length ≤ l.length ∧ ∃ k, k ≤ l.length ∧ r = l.drop k := by
  obtain ⟨p, rfl⟩ : ∃ p, l = p ++ r := by
    rcases (tagL_iff _ _ _).1 h with ⟨g, rfl, _⟩ | ⟨b, y, rfl, _, hi, _⟩
    · exact ⟨47 :: (t.name ++ (g ++ [62])), by simp⟩
    · obtain ⟨q, rfl⟩ := TagI_suffix hi
      exact ⟨t.name ++ q, by simp⟩
  exact ⟨by simp, p.length, by simp, by rw [List.drop_left]⟩
theorem cell_setRow (w : World) (R b o : Nat) (cs : Array Value) (h : R < b) : (w.setRow R cs).cell? ⟨b, o, none⟩ = w.cell? ⟨b, o, none⟩ := by
  unfold World.cell?
  dsimp only
  rw [setRow_other w R b cs (by omega)]
theorem RdC_row {w : World} {A : Option Addr} {l : List Pr} (h : RdC PrC w w.heap.size A l) (R : Nat) (cs : Array Value) (hA : ∀ ad, A = some ad → R < ad.block) : RdC PrC (w.setRow R cs) (w.setRow R cs).heap.size A l := by
  intro hp
  obtain ⟨b, off, rfl, hb, hc⟩ := h hp
  refine ⟨b, off, rfl, by simpa [World.setRow] using hb, fun j hj => ?_⟩
  obtain ⟨cs', h1, h2⟩ := hc j hj
  exact ⟨cs', h1, fun i hi => (cell_setRow w R b _ cs (hA _ rfl)).trans (h2 i hi)⟩
theorem TkR_row {w : World} {B : Nat} {cs : Array Value} {t : Tk} (h : TkR B w cs t) (R : Nat) (hR : R < B) (cs' : Array Value) (B' : Nat) (hB : B' ≤ B) : TkR B' (w.setRow R cs') cs t := by
  obtain ⟨⟨x, A, c, u, h1, h2, h3, h4, h5, h6, h7, h8⟩, h9⟩ := h
  refine ⟨⟨x, A, c, u, h1, h2, h3, h4, h5, h6, h7, RdC_row h8 R cs' fun ad e => ?_⟩, fun A n c e ad e2 => Nat.le_trans hB (h9 A n c e ad e2)⟩
  exact Nat.lt_of_lt_of_le hR (h9 A _ c (by rw [← Array.getElem?_toList, h1]; rfl) ad e)
theorem TkR_text (B : Nat) (w : World) (x : ByteArray) : TkR B w #[Value.int .u8 4, .string ⟨#[]⟩, .slice none 0 0, .string x] ⟨4, [], [], x.data.toList⟩ :=
  ⟨⟨⟨#[]⟩, none, 0, x, rfl, (by decide : 4 < 256), rfl, rfl, Nat.le_refl _, Nat.zero_le _, fun _ => rfl, RdC.nil _ _ _⟩, fun A n c h ad e => by
    have h' : Value.slice none 0 0 = .slice A n c := Option.some.inj h
    injection h' with h1 _ _
    rw [← h1] at e
    cases e⟩
/-- What one answers. -/
def OneTo (s : ByteArray) (a : Nat) (w : World) (e : Ending) (w' : World) : Prop := Below w.heap.size w w' ∧
  ((oneL (s.data.toList.drop a) = none ∧ e = .returned (.tuple #[.agg #[.int .u8 0, .string ⟨#[]⟩, .slice none 0 0, .string ⟨#[]⟩], .int .i64 (-1)])) ∨
   (∃ (cs : Array Value) (t : Tk) (n : Nat), oneL (s.data.toList.drop a) = some (t, s.data.toList.drop n) ∧ n ≤ s.size ∧ TkR w.heap.size w' cs t ∧ e = .returned (.tuple #[.agg cs, .int .i64 n])))
end Hx
end Go.Proofs.Ytfdhogaknlabkaa
namespace Go.Proofs.Ytfdhogaknlabkaa
open Go.RowKit
namespace Hx
open Lx Tx Nmb Es
set_option linter.unusedVariables false
theorem lexE_same : ∀ (f g n : Nat) (l : List UInt8), l.length ≤ f → l.length ≤ g → lexE f n l = lexE g n l := by
  intro f
  induction f with
  | zero =>
    intro g n l h1 h2
    obtain rfl := List.eq_nil_of_length_eq_zero (Nat.le_zero.1 h1)
    cases g <;> rfl
  | succ f ih =>
    intro g n l h1 h2
    cases l with
    | nil => cases g <;> rfl
    | cons c l =>
      cases g with
      | zero => simp at h2
      | succ g =>
        unfold lexE
        cases ho : oneL (c :: l) with
        | none => rfl
        | some r =>
          obtain ⟨t, y⟩ := r
          have hl := oneL_len ho
          rw [List.length_cons] at h1 h2 hl
          dsimp only
          rw [ih g (n + 1) y (by omega) (by omega)]
/-- The tokens from here on. -/
def lexG (n : Nat) (l : List UInt8) : Except (Int × Nat) (List Tk) := lexE l.length n l
theorem lexG_none {l : List UInt8} {p n : Nat} (hp : p < l.length) (h : oneL (l.drop p) = none) : lexG n (l.drop p) = .error (if n = 512 then 4 else 80, l.length - p) := by
  unfold lexG
  have hl : (l.drop p).length = l.length - p := List.length_drop
  cases hd : l.drop p with
  | nil => rw [hd] at hl; simp at hl; omega
  | cons c x =>
    rw [hd] at h hl
    rw [← hl, List.length_cons]
    unfold lexE
    rw [h]
theorem lexG_many {l r : List UInt8} {t : Tk} {p n : Nat} (hp : p < l.length) (h : oneL (l.drop p) = some (t, r)) (hb : n = 512 ∨ 16 < t.attrs.length) : lexG n (l.drop p) = .error (4, l.length - p) := by
  unfold lexG
  have hl : (l.drop p).length = l.length - p := List.length_drop
  cases hd : l.drop p with
  | nil => rw [hd] at hl; simp at hl; omega
  | cons c x =>
    rw [hd] at h hl
    rw [← hl, List.length_cons]
    unfold lexE
    rw [h]
    dsimp only
    rw [if_pos hb]
theorem lexG_next {l r : List UInt8} {t : Tk} {p n : Nat} (hp : p < l.length) (h : oneL (l.drop p) = some (t, r)) (hb : ¬ (n = 512 ∨ 16 < t.attrs.length)) : lexG n (l.drop p) = (lexG (n + 1) r).map (t :: ·) := by
  unfold lexG
  have hl : (l.drop p).length = l.length - p := List.length_drop
  cases hd : l.drop p with
  | nil => rw [hd] at hl; simp at hl; omega
  | cons c x =>
    rw [hd] at h hl
    have h2 := oneL_len h
    rw [List.length_cons] at h2 ⊢
    conv => lhs; unfold lexE
    rw [h]
    dsimp only
    rw [if_neg hb, lexE_same x.length r.length (n + 1) r (by omega) (Nat.le_refl _)]
theorem lexR_in {l : List UInt8} (h1 : l.length ≤ 16384) (h2 : isP l = true) : lexR l = (match lexG 0 l with | .ok ts => (ts, 0, 0) | .error (e, k) => ([], (l.length : Int) - k, e)) := by
  unfold lexR lexG
  rw [if_neg (by omega), if_pos h2]
  cases lexE l.length 0 l <;> rfl
theorem map_error {α β : Type} {ε : Type} {e : ε} {x : Except ε α} (f : α → β) (h : x = .error e) : x.map f = .error e := by rw [h]; rfl
theorem lexR_err {l : List UInt8} {p n : Nat} {e : Int} {f : List Tk → List Tk} (h1 : l.length ≤ 16384) (h2 : isP l = true) (hp : p ≤ l.length) (hG : lexG 0 l = (lexG n (l.drop p)).map f) (h : lexG n (l.drop p) = .error (e, l.length - p)) : lexR l = ([], (p : Int), e) := by
  rw [lexR_in h1 h2, hG, map_error f h]
  dsimp only
  rw [show ((l.length : Nat) : Int) - ((l.length - p : Nat) : Int) = (p : Int) by omega]
theorem oneL_suffix {l r : List UInt8} {t : Tk} (h : oneL l = some (t, r)) : ∃ k, k ≤ l.length ∧ r = l.drop k := by
  rcases oneL_kind h with ⟨h1, s, rfl, ht⟩ | ⟨h1, h2, a, x, rfl, _⟩
  · obtain ⟨_, k, hk, e⟩ := tagL_suffix ht
    exact ⟨k + 1, by simp; omega, by rw [e]; rfl⟩
  · exact ⟨a.length, by simp, by rw [List.drop_left]⟩
/-- A token as the program holds it. -/
structure TB where
  x : ByteArray
  A : Option Addr
  c : Nat
  u : ByteArray
  t : Tk
def tbCells (b : TB) : List Value := [.int .u8 (b.t.kind : Int), .string b.x, .slice b.A b.t.attrs.length b.c, .string b.u]
/-- What Lex answers. -/
def LexTo (s : ByteArray) (w : World) (e : Ending) (w' : World) : Prop := Below w.heap.size w w' ∧
  ∃ (ts : List Tk) (n er : Int) (A : Option Addr) (c : Nat), lexR s.data.toList = (ts, n, er) ∧ e = .returned (.tuple #[.slice A ts.length c, .int .i64 n, .int .i64 er]) ∧ RdC TkC w' w'.heap.size A ts ∧ ts.length ≤ c ∧ c ≤ maxLen ∧ (A = none → c = 0)
theorem LexTo.bad {s : ByteArray} {w w' : World} {n er : Int} (hb : Below w.heap.size w w') (h : lexR s.data.toList = ([], n, er)) : LexTo s w (.returned (.tuple #[.slice none 0 0, .int .i64 n, .int .i64 er])) w' :=
  ⟨hb, [], n, er, none, 0, h, rfl, RdC.nil _ _ _, Nat.le_refl _, Nat.zero_le _, fun _ => rfl⟩
theorem tb_one (k : Int) (x : ByteArray) (A : Option Addr) (n c : Nat) (u : ByteArray) : ∀ v ∈ [Value.int .u8 k, .string x, .slice A n c, .string u], v.oneCell' = true := by simp [Value.oneCell']
end Hx
end Go.Proofs.Ytfdhogaknlabkaa
