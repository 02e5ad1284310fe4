/-
  Texts of one seat, put together: LexU, LexV, LexW, LexX, LexY, LexZ.
-/
import Derived.Test.YtbjgfaflikgobaaGreatDoorH05
import Derived.Test.YtbjgfaflikgobaaGreatDoorH01
import Derived.Maps.AppendAt
namespace Go.Proofs.YtbjgfaflikgobaaGreatDoor
open Go.RowKit
namespace Hx
open Lx Tx Nmb Es
set_option linter.unusedVariables false
def zPr : Array Value := #[.string ⟨#[]⟩, .string ⟨#[]⟩]
theorem onePr (x y : ByteArray) : (#[Value.string x, Value.string y] : Array Value).all (·.oneCell') = true := by simp [Value.oneCell']
theorem sizePr : (Tryz.prog.info? 119).map (·.size) = some 2 := by kernel_rfl
/-- Where an attribute's sign = is looked for; where its value is. -/
def eqAt (l : List UInt8) (a : Nat) : Nat := a + (wordL (l.drop a)).length + ((l.drop (a + (wordL (l.drop a)).length)).takeWhile blk).length
def valAt (l : List UInt8) (a : Nat) : Nat := eqAt l a + 1 + ((l.drop (eqAt l a + 1)).takeWhile blk).length
/-- What attr answers. -/
def AttrTo (s : ByteArray) (a : Nat) (w : World) (e : Ending) (w' : World) : Prop := Below w.heap.size w w' ∧
  ((attrL (s.data.toList.drop a) = none ∧ e = .returned (.tuple #[.agg #[.string ⟨#[]⟩, .string ⟨#[]⟩], .int .i64 (-1)])) ∨
   (∃ (x y : ByteArray) (n : Nat), attrL (s.data.toList.drop a) = some (⟨x.data.toList, y.data.toList⟩, s.data.toList.drop n) ∧ n ≤ s.size ∧ e = .returned (.tuple #[.agg #[.string x, .string y], .int .i64 n])))
end Hx
end Go.Proofs.YtbjgfaflikgobaaGreatDoor
namespace Go.Proofs.YtbjgfaflikgobaaGreatDoor
open Go.RowKit
namespace Hx
open Lx Tx Nmb Es
set_option linter.unusedVariables false
def zTk : Array Value := #[.int .u8 0, .string ⟨#[]⟩, .slice none 0 0, .string ⟨#[]⟩]
theorem oneTk (k : Int) (x : ByteArray) (v : Value) (y : ByteArray) (hv : v.oneCell' = true := by rfl) : (#[Value.int .u8 k, Value.string x, v, Value.string y] : Array Value).all (·.oneCell') = true := by simp [Value.oneCell'] at hv ⊢; exact hv
theorem sizeTk : (Tryz.prog.info? 82).map (·.size) = some 4 := by kernel_rfl
/-- What shut answers. -/
def ShutTo (s : ByteArray) (a : Nat) (w : World) (e : Ending) (w' : World) : Prop := Below w.heap.size w w' ∧
  ((shutL (s.data.toList.drop (a + 2)) = none ∧ e = .returned (.tuple #[.agg #[.int .u8 0, .string ⟨#[]⟩, .slice none 0 0, .string ⟨#[]⟩], .int .i64 (-1)])) ∨
   (∃ (x : ByteArray) (n : Nat), shutL (s.data.toList.drop (a + 2)) = some (⟨2, x.data.toList, [], []⟩, s.data.toList.drop n) ∧ n ≤ s.size ∧ e = .returned (.tuple #[.agg #[.int .u8 2, .string x, .slice none 0 0, .string ⟨#[]⟩], .int .i64 n])))
end Hx
end Go.Proofs.YtbjgfaflikgobaaGreatDoor
namespace Go.Proofs.YtbjgfaflikgobaaGreatDoor
open Go.RowKit
namespace Hx
open Lx Tx Nmb Es
set_option linter.unusedVariables false
/-- What stands behind a tag's name, from here on. -/
def tagG (acc : List Pr) (l : List UInt8) : Option (Bool × List Pr × List UInt8) := tagF (l.length + 1) acc l
def tagAt (l : List UInt8) (p : Nat) : Nat := p + ((l.drop p).takeWhile blk).length
/-- Neither of the two ends stands here. -/
def noEnd (l : List UInt8) (q : Nat) : Prop := ∀ c x, l.drop q = c :: x → c ≠ 62 ∧ ¬ (c = 47 ∧ x.head? = some 62)
/-- Attributes as the program holds them. -/
abbrev PB := ByteArray × ByteArray
def prCells (p : PB) : List Value := [.string p.1, .string p.2]
def prVal (p : PB) : Pr := ⟨p.1.data.toList, p.2.data.toList⟩
theorem prCells_R (w : World) (B : Nat) (p : PB) : PrC.R w B (prCells p) (prVal p) := ⟨p.1, p.2, rfl, rfl, rfl⟩
theorem own_attrs {w : World} {base : Nat} {A : Option Addr} {n c : Nat} {l : List PB} (h : w.ownsRow base 119 2 (.slice A n c) n (l.flatMap prCells)) : RdC PrC w w.heap.size A (l.map prVal) ∧ l.length = n ∧ n ≤ c ∧ c ≤ maxLen ∧ (A = none → c = 0) :=
  RdC.of_own (C := PrC) prCells prVal (fun _ => rfl) (by decide) l (fun b _ => prCells_R _ _ b) h
/-- A token whose attributes lie in new memory. -/
def TkR (B : Nat) (w : World) (cs : Array Value) (t : Tk) : Prop := TkC.R w w.heap.size cs.toList t ∧ ∀ A n c, cs[2]? = some (.slice A n c) → ∀ ad, A = some ad → B ≤ ad.block
/-- What tag answers. -/
def TagTo (s : ByteArray) (a : Nat) (w : World) (e : Ending) (w' : World) : Prop := Below w.heap.size w w' ∧
  ((tagL (s.data.toList.drop (a + 1)) = none ∧ e = .returned (.tuple #[.agg #[.int .u8 0, .string ⟨#[]⟩, .slice none 0 0, .string ⟨#[]⟩], .int .i64 (-1)])) ∨
   (∃ (cs : Array Value) (t : Tk) (n : Nat), tagL (s.data.toList.drop (a + 1)) = some (t, s.data.toList.drop n) ∧ n ≤ s.size ∧ TkR w.heap.size w' cs t ∧ e = .returned (.tuple #[.agg cs, .int .i64 n])))
theorem attrL_suffix {l r : List UInt8} {p : Pr} (h : attrL l = some (p, r)) : ∃ k, k ≤ l.length ∧ r = l.drop k := by
  obtain ⟨g1, g2, x, rfl, _, _, _, h4⟩ := (attrL_iff _ _ _).1 h
  obtain ⟨q, raw, rfl, _⟩ := (valL_iff _ _ _).1 h4
  refine ⟨(p.name ++ (g1 ++ 61 :: (g2 ++ q :: (raw ++ [q])))).length, by simp <;> omega, ?_⟩
  have e : p.name ++ (g1 ++ 61 :: (g2 ++ q :: (raw ++ q :: r))) = (p.name ++ (g1 ++ 61 :: (g2 ++ q :: (raw ++ [q])))) ++ r := by simp
  rw [e, List.drop_left]
theorem TkC_plain (w : World) (k : Nat) (hk : k < 256) (x : ByteArray) : TkC.R w w.heap.size (#[Value.int .u8 (k : Int), .string x, .slice none 0 0, .string ⟨#[]⟩] : Array Value).toList ⟨k, x.data.toList, [], []⟩ :=
  ⟨x, none, 0, ⟨#[]⟩, rfl, hk, rfl, rfl, Nat.le_refl _, Nat.zero_le _, fun _ => rfl, RdC.nil _ _ _⟩
theorem TkR_plain (B : Nat) (w : World) (k : Nat) (hk : k < 256) (x : ByteArray) : TkR B w #[Value.int .u8 (k : Int), .string x, .slice none 0 0, .string ⟨#[]⟩] ⟨k, x.data.toList, [], []⟩ :=
  ⟨TkC_plain w k hk x, fun A n c h ad e => by
    have h' : Value.slice none 0 0 = .slice A n c := Option.some.inj h
    injection h' with h1 _ _
    rw [← h1] at e
    cases e⟩
/-- The tag as it is made: its variable, its attributes. -/
def TagSt (t : ByteArray) (R g : Nat) (w : World) (L : List PB) (v : Value) (wr : World) : Prop :=
  wr.heap[g]? = some (.cells #[.int .u8 1, .string t, v, .string ⟨#[]⟩] 82 (0, 0)) ∧ wr.ownsRow (g + 1) 119 2 v L.length (L.flatMap prCells) ∧ wr.heap[R]? = some (.cells zTk 82 (0, 0)) ∧ Below w.heap.size w wr
theorem cellV (w : World) (g k : Nat) (cs : Array Value) (t : TypeId) (fr : Nat × Nat) (h : w.heap[g]? = some (.cells cs t fr)) : w.cell? ⟨g, k, none⟩ = cs[k]? := by simp [World.cell?, h]
theorem freeV (w : World) (g k : Nat) (cs : Array Value) (t : TypeId) (h : w.heap[g]? = some (.cells cs t (0, 0))) : w.frozen? ⟨g, k, none⟩ = false := by simp [World.frozen?, h]
theorem own_setRow {w : World} {base : Nat} {e : TypeId} {size : Nat} {v : Value} {n : Nat} {xs : List Value} (h : w.ownsRow base e size v n xs) (R : Nat) (hR : R < base) (cs : Array Value) : (w.setRow R cs).ownsRow base e size v n xs := by
  refine ⟨h.1, ?_⟩
  rcases h.2 with h0 | ⟨g, cap, cur, hv, hb, hg, rest⟩
  · exact .inl h0
  · exact .inr ⟨g, cap, cur, hv, hb, (setRow_other w R g cs (by omega)).trans hg, rest⟩
theorem infoPr : (Tryz.prog.info? 119).map (fun i => (i.zero, i.size, i.bytes)) = some (some (.agg #[.string ⟨#[]⟩, .string ⟨#[]⟩]), 2, 32) := by kernel_rfl
theorem own_form2 {w : World} {base : Nat} {e : TypeId} {size : Nat} {v : Value} {n : Nat} {xs : List Value} (h : w.ownsRow base e size v n xs) : ∃ A c, v = .slice A n c := by
  rcases h.2 with ⟨rfl, rfl⟩ | ⟨g, cap, cur, rfl, _⟩
  · exact ⟨none, 0, rfl⟩
  · exact ⟨_, cap, rfl⟩
theorem TkC_made {w : World} {g : Nat} {L : List PB} {v : Value} (k : Nat) (hk : k < 256) (t : ByteArray) (h : w.ownsRow (g + 1) 119 2 v L.length (L.flatMap prCells)) :
    TkC.R w w.heap.size (#[Value.int .u8 (k : Int), .string t, v, .string ⟨#[]⟩] : Array Value).toList ⟨k, t.data.toList, L.map prVal, []⟩ := by
  obtain ⟨A, c, rfl⟩ := own_form2 h
  obtain ⟨h1, h2, h3, h4, h5⟩ := own_attrs h
  exact ⟨t, A, c, ⟨#[]⟩, by simp, hk, rfl, rfl, by simpa using h3, h4, h5, h1⟩
theorem TkC_set {w : World} {g R : Nat} {L : List PB} {v : Value} {cs : Array Value} (h : w.ownsRow (g + 1) 119 2 v L.length (L.flatMap prCells)) (hR : R < g) (k : Nat) (hk : k < 256) (t : ByteArray) :
    TkC.R (w.setRow R cs) (w.setRow R cs).heap.size (#[Value.int .u8 (k : Int), .string t, v, .string ⟨#[]⟩] : Array Value).toList ⟨k, t.data.toList, L.map prVal, []⟩ := TkC_made k hk t (own_setRow h R (by omega) cs)
theorem TkR_set {w : World} {B g R : Nat} {L : List PB} {A : Option Addr} {c : Nat} {cs : Array Value} (h : w.ownsRow (g + 1) 119 2 (.slice A L.length c) L.length (L.flatMap prCells)) (hR : R < g) (hB : B ≤ R) (k : Nat) (hk : k < 256) (t : ByteArray) :
    TkR B (w.setRow R cs) #[Value.int .u8 (k : Int), .string t, .slice A L.length c, .string ⟨#[]⟩] ⟨k, t.data.toList, L.map prVal, []⟩ := by
  refine ⟨TkC_set h hR k hk t, fun A' n c' e ad e2 => ?_⟩
  have h' : Value.slice A L.length c = .slice A' n c' := Option.some.inj e
  injection h' with h1 _ _
  rcases h.2 with ⟨h3, _⟩ | ⟨g', cap, cur, hv, hb, _⟩
  · injection h3 with h3 _ _
    rw [← h1, h3] at e2
    cases e2
  · injection hv with h3 _ _
    rw [← h1, h3] at e2
    injection e2 with e2
    rw [← e2]
    show B ≤ g'
    omega
theorem own_belowK {w w' : World} {B base : Nat} {e : TypeId} {size : Nat} {v : Value} {n : Nat} {xs : List Value} (h : w.ownsRow base e size v n xs) (hb : Below B w w') (hB : w.heap.size ≤ B) : w'.ownsRow base e size v n xs := by
  refine h.kept (row := none) ⟨hb.os, hb.tape, hb.output, hb.size, fun k hk _ => hb.block k (by omega)⟩ ?_
  cases v.ownBlock
  · exact .inl rfl
  · exact .inr (by simp)
theorem new_at (w : World) (cs : List Value) (t : TypeId) (B : Nat) (hB : w.heap.size = B) : ∀ (j : Nat) (u : Value), cs[j]? = some u → (w.alloc (.cells cs.toArray t)).cell? ((⟨B, 0, none⟩ : Addr).add j) = some u := fun j u h => by
  subst hB
  rw [addr_plain, World.cell?_alloc_new]
  simpa using h
theorem set_other (w : World) (g k b : Nat) (x : Value) (h : b ≠ g) : (w.setCell ⟨g, k, none⟩ x).heap[b]? = w.heap[b]? := by
  unfold World.setCell
  dsimp only
  rw [Array.getElem?_modify, if_neg (fun e => h e.symm)]
theorem own_setCell {w : World} {base : Nat} {e : TypeId} {size : Nat} {v : Value} {n : Nat} {xs : List Value} (h : w.ownsRow base e size v n xs) (R k : Nat) (hR : R < base) (x : Value) : (w.setCell ⟨R, k, none⟩ x).ownsRow base e size v n xs := by
  refine ⟨h.1, ?_⟩
  rcases h.2 with h0 | ⟨g, cap, cur, hv, hb, hg, rest⟩
  · exact .inl h0
  · exact .inr ⟨g, cap, cur, hv, hb, (set_other w R k g x (by omega)).trans hg, rest⟩
end Hx
end Go.Proofs.YtbjgfaflikgobaaGreatDoor
namespace Go.Proofs.YtbjgfaflikgobaaGreatDoor
open Go.RowKit
namespace Hx
open Lx Tx Nmb Es
set_option linter.unusedVariables false
theorem TagI_suffix {acc : List Pr} {y : List UInt8} {b : Bool} {at1 : List Pr} {r : List UInt8} (h : TagI acc y b at1 r) : ∃ p, y = p ++ r := by
  induction h with
  | shut acc g x _ => exact ⟨g ++ [62], by simp⟩
  | bare acc g x _ => exact ⟨g ++ [47, 62], by simp⟩
  | attr acc g l y p b at1 x _ _ ha _ _ ih =>
    obtain ⟨q, rfl⟩ := ih
    obtain ⟨k, _, e⟩ := attrL_suffix ha
    refine ⟨g ++ (l.take k ++ q), ?_⟩
    conv => lhs; rw [← List.take_append_drop k l, ← e]
    simp
theorem tagL_suffix {l r : List UInt8} {t : Tk} (h : tagL l = some (t, r)) : r.length ≤ l.length ∧ ∃ k, k ≤ l.length ∧ r = l.drop k := by
  obtain ⟨p, rfl⟩ : ∃ p, l = p ++ r := by
    rcases (tagL_iff _ _ _).1 h with ⟨g, rfl, _⟩ | ⟨b, y, rfl, _, hi, _⟩
    · exact ⟨47 :: (t.name ++ (g ++ [62])), by simp⟩
    · obtain ⟨q, rfl⟩ := TagI_suffix hi
      exact ⟨t.name ++ q, by simp⟩
  exact ⟨by simp, p.length, by simp, by rw [List.drop_left]⟩
/-- What one answers. -/
def OneTo (s : ByteArray) (a : Nat) (w : World) (e : Ending) (w' : World) : Prop := Below w.heap.size w w' ∧
  ((oneL (s.data.toList.drop a) = none ∧ e = .returned (.tuple #[.agg #[.int .u8 0, .string ⟨#[]⟩, .slice none 0 0, .string ⟨#[]⟩], .int .i64 (-1)])) ∨
   (∃ (cs : Array Value) (t : Tk) (n : Nat), oneL (s.data.toList.drop a) = some (t, s.data.toList.drop n) ∧ n ≤ s.size ∧ TkR w.heap.size w' cs t ∧ e = .returned (.tuple #[.agg cs, .int .i64 n])))
end Hx
end Go.Proofs.YtbjgfaflikgobaaGreatDoor
namespace Go.Proofs.YtbjgfaflikgobaaGreatDoor
open Go.RowKit
namespace Hx
open Lx Tx Nmb Es
set_option linter.unusedVariables false
theorem lexE_same : ∀ (f g n : Nat) (l : List UInt8), l.length ≤ f → l.length ≤ g → lexE f n l = lexE g n l := by
  intro f
  induction f with
  | zero =>
    intro g n l h1 h2
    obtain rfl := List.eq_nil_of_length_eq_zero (Nat.le_zero.1 h1)
    cases g <;> rfl
  | succ f ih =>
    intro g n l h1 h2
    cases l with
    | nil => cases g <;> rfl
    | cons c l =>
      cases g with
      | zero => simp at h2
      | succ g =>
        unfold lexE
        cases ho : oneL (c :: l) with
        | none => rfl
        | some r =>
          obtain ⟨t, y⟩ := r
          have hl := oneL_len ho
          rw [List.length_cons] at h1 h2 hl
          dsimp only
          rw [ih g (n + 1) y (by omega) (by omega)]
/-- The tokens from here on. -/
def lexG (n : Nat) (l : List UInt8) : Except (Int × Nat) (List Tk) := lexE l.length n l
theorem lexG_none {l : List UInt8} {p n : Nat} (hp : p < l.length) (h : oneL (l.drop p) = none) : lexG n (l.drop p) = .error (if n = 512 then 4 else 80, l.length - p) := by
  unfold lexG
  have hl : (l.drop p).length = l.length - p := List.length_drop
  cases hd : l.drop p with
  | nil => rw [hd] at hl; simp at hl; omega
  | cons c x =>
    rw [hd] at h hl
    rw [← hl, List.length_cons]
    unfold lexE
    rw [h]
theorem lexG_many {l r : List UInt8} {t : Tk} {p n : Nat} (hp : p < l.length) (h : oneL (l.drop p) = some (t, r)) (hb : n = 512 ∨ 16 < t.attrs.length) : lexG n (l.drop p) = .error (4, l.length - p) := by
  unfold lexG
  have hl : (l.drop p).length = l.length - p := List.length_drop
  cases hd : l.drop p with
  | nil => rw [hd] at hl; simp at hl; omega
  | cons c x =>
    rw [hd] at h hl
    rw [← hl, List.length_cons]
    unfold lexE
    rw [h]
    dsimp only
    rw [if_pos hb]
theorem lexG_next {l r : List UInt8} {t : Tk} {p n : Nat} (hp : p < l.length) (h : oneL (l.drop p) = some (t, r)) (hb : ¬ (n = 512 ∨ 16 < t.attrs.length)) : lexG n (l.drop p) = (lexG (n + 1) r).map (t :: ·) := by
  unfold lexG
  have hl : (l.drop p).length = l.length - p := List.length_drop
  cases hd : l.drop p with
  | nil => rw [hd] at hl; simp at hl; omega
  | cons c x =>
    rw [hd] at h hl
    have h2 := oneL_len h
    rw [List.length_cons] at h2 ⊢
    conv => lhs; unfold lexE
    rw [h]
    dsimp only
    rw [if_neg hb, lexE_same x.length r.length (n + 1) r (by omega) (Nat.le_refl _)]
theorem lexR_in {l : List UInt8} (h1 : l.length ≤ 16384) (h2 : isP l = true) : lexR l = (match lexG 0 l with | .ok ts => (ts, 0, 0) | .error (e, k) => ([], (l.length : Int) - k, e)) := by
  unfold lexR lexG
  rw [if_neg (by omega), if_pos h2]
  cases lexE l.length 0 l <;> rfl
theorem map_error {α β : Type} {ε : Type} {e : ε} {x : Except ε α} (f : α → β) (h : x = .error e) : x.map f = .error e := by rw [h]; rfl
theorem lexR_err {l : List UInt8} {p n : Nat} {e : Int} {f : List Tk → List Tk} (h1 : l.length ≤ 16384) (h2 : isP l = true) (hp : p ≤ l.length) (hG : lexG 0 l = (lexG n (l.drop p)).map f) (h : lexG n (l.drop p) = .error (e, l.length - p)) : lexR l = ([], (p : Int), e) := by
  rw [lexR_in h1 h2, hG, map_error f h]
  dsimp only
  rw [show ((l.length : Nat) : Int) - ((l.length - p : Nat) : Int) = (p : Int) by omega]
theorem oneL_suffix {l r : List UInt8} {t : Tk} (h : oneL l = some (t, r)) : ∃ k, k ≤ l.length ∧ r = l.drop k := by
  rcases oneL_kind h with ⟨h1, s, rfl, ht⟩ | ⟨h1, h2, a, x, rfl, _⟩
  · obtain ⟨_, k, hk, e⟩ := tagL_suffix ht
    exact ⟨k + 1, by simp; omega, by rw [e]; rfl⟩
  · exact ⟨a.length, by simp, by rw [List.drop_left]⟩
/-- A token as the program holds it. -/
structure TB where
  x : ByteArray
  A : Option Addr
  c : Nat
  u : ByteArray
  t : Tk
def tbCells (b : TB) : List Value := [.int .u8 (b.t.kind : Int), .string b.x, .slice b.A b.t.attrs.length b.c, .string b.u]
/-- The tokens so far: an own row; where their attributes lie. -/
def LexSt (w : World) (L : List TB) (v : Value) (wr : World) : Prop :=
  wr.ownsRow w.heap.size 82 4 v L.length (L.flatMap tbCells) ∧ (∀ b ∈ L, TkC.R wr wr.heap.size (tbCells b) b.t ∧ (0 < b.t.attrs.length → ∀ ad, b.A = some ad → some ad.block ≠ v.ownBlock)) ∧ Below w.heap.size w wr
theorem LexSt.below {w wr w' : World} {L : List TB} {v : Value} (h : LexSt w L v wr) (hb : Below wr.heap.size wr w') : LexSt w L v w' :=
  ⟨own_belowK h.1 hb (Nat.le_refl _), fun b hm => ⟨TkC.keep (h.2.1 b hm).1 hb.size (fun bl o hlt => hb.cell (p := ⟨bl, o, none⟩) hlt), (h.2.1 b hm).2⟩, stp h.2.2 hb⟩
/-- What Lex answers. -/
def LexTo (s : ByteArray) (w : World) (e : Ending) (w' : World) : Prop := Below w.heap.size w w' ∧
  ∃ (ts : List Tk) (n er : Int) (A : Option Addr) (c : Nat), lexR s.data.toList = (ts, n, er) ∧ e = .returned (.tuple #[.slice A ts.length c, .int .i64 n, .int .i64 er]) ∧ RdC TkC w' w'.heap.size A ts ∧ ts.length ≤ c ∧ c ≤ maxLen ∧ (A = none → c = 0)
theorem LexTo.bad {s : ByteArray} {w w' : World} {n er : Int} (hb : Below w.heap.size w w') (h : lexR s.data.toList = ([], n, er)) : LexTo s w (.returned (.tuple #[.slice none 0 0, .int .i64 n, .int .i64 er])) w' :=
  ⟨hb, [], n, er, none, 0, h, rfl, RdC.nil _ _ _, Nat.le_refl _, Nat.zero_le _, fun _ => rfl⟩
theorem LexTo.good {s : ByteArray} {w wr : World} {L : List TB} {A : Option Addr} {c : Nat} (h : LexSt w L (.slice A L.length c) wr) (hl : lexR s.data.toList = (L.map TB.t, 0, 0)) : LexTo s w (.returned (.tuple #[.slice A L.length c, .int .i64 0, .int .i64 0])) wr := by
  obtain ⟨h1, _, h3, h4, h5⟩ := RdC.of_own (C := TkC) tbCells TB.t (fun _ => rfl) (by decide) L (fun b hm => (h.2.1 b hm).1) h.1
  exact ⟨h.2.2, L.map TB.t, 0, 0, A, c, hl, by rw [List.length_map], h1, by rw [List.length_map]; exact h3, h4, h5⟩
theorem infoTk : (Tryz.prog.info? 82).map (fun i => (i.zero, i.size, i.bytes)) = some (some (.agg #[.int .u8 0, .string ⟨#[]⟩, .slice none 0 0, .string ⟨#[]⟩]), 4, 64) := by kernel_rfl
theorem tb_one (k : Int) (x : ByteArray) (A : Option Addr) (n c : Nat) (u : ByteArray) : ∀ v ∈ [Value.int .u8 k, .string x, .slice A n c, .string u], v.oneCell' = true := by simp [Value.oneCell']
theorem LexSt.next {w wr w1 w5 : World} {L : List TB} {A A4 A1 : Option Addr} {c c4 c1 : Nat} {x u : ByteArray} {t : Tk} {o1 o2 : Obj} (h : LexSt w L (.slice A L.length c) wr) (hb : Below wr.heap.size wr w1)
    (hR : TkR wr.heap.size w1 #[.int .u8 (t.kind : Int), .string x, .slice A1 t.attrs.length c1, .string u] t)
    (hown : w5.ownsRow w.heap.size 82 4 (.slice A4 (L.length + 1) c4) (L.length + 1) (L.flatMap tbCells ++ [.int .u8 (t.kind : Int), .string x, .slice A1 t.attrs.length c1, .string u]))
    (hgr : ((w1.alloc o1).alloc o2).grownBy w5 (Value.slice A L.length c).ownBlock)
    (hlie : (Value.slice A4 (L.length + 1) c4).ownBlock = (Value.slice A L.length c).ownBlock ∨ (Value.slice A4 (L.length + 1) c4).ownBlock = some ((w1.alloc o1).alloc o2).heap.size) :
    LexSt w (L ++ [⟨x, A1, c1, u, t⟩]) (.slice A4 (L.length + 1) c4) w5 := by
  have hb2 : Below w1.heap.size w1 ((w1.alloc o1).alloc o2) := stpA (stpA (Below.refl _ _) _) _
  have h1 := (h.below hb).below hb2
  have hlen : (L ++ [(⟨x, A1, c1, u, t⟩ : TB)]).length = L.length + 1 := by simp
  have hfar : ∀ (A' : Option Addr) (l : List Pr), RdC PrC ((w1.alloc o1).alloc o2) ((w1.alloc o1).alloc o2).heap.size A' l → (0 < l.length → ∀ ad, A' = some ad → some ad.block ≠ (Value.slice A L.length c).ownBlock) → RdC PrC w5 w5.heap.size A' l := by
    intro A' l hr hne hp
    obtain ⟨b, off, rfl, hlt, hc⟩ := hr hp
    refine ⟨b, off, rfl, Nat.lt_of_lt_of_le hlt hgr.size, fun j hj => ?_⟩
    obtain ⟨cs', k1, k2⟩ := hc j hj
    exact ⟨cs', k1, fun i hi => hgr.cell (k2 i hi) (hne hp ⟨b, off, none⟩ rfl)⟩
  have hw1 := hb.size
  have hown0 : ∀ k, (Value.slice A L.length c).ownBlock = some k → w.heap.size ≤ k ∧ k < wr.heap.size := fun k hk => h.1.lt k hk
  have hnew : ∀ (B : TB), (0 < B.t.attrs.length → ∀ ad, B.A = some ad → some ad.block ≠ (Value.slice A L.length c).ownBlock) → TkC.R ((w1.alloc o1).alloc o2) ((w1.alloc o1).alloc o2).heap.size (tbCells B) B.t → TkC.R w5 w5.heap.size (tbCells B) B.t ∧ ((0 < B.t.attrs.length → ∀ ad, B.A = some ad → some ad.block ≠ (Value.slice A4 (L.length + 1) c4).ownBlock)) := by
    intro B hne hk
    obtain ⟨x', A', c', u', e1, e2, e3, e4, e5, e6, e7, e8⟩ := hk
    have e1' := e1
    unfold tbCells at e1'
    injection e1' with _ e1'
    injection e1' with _ e1'
    injection e1' with e9 _
    injection e9 with e9 _ _
    subst e9
    refine ⟨⟨x', _, c', u', e1, e2, e3, e4, e5, e6, e7, hfar _ _ e8 hne⟩, fun hp ad e => ?_⟩
    rcases hlie with h6 | h6
    · rw [h6]; exact hne hp ad e
    · rw [h6]
      obtain ⟨b, off, e10, hlt, _⟩ := e8 hp
      rw [e] at e10
      injection e10 with e10
      subst e10
      intro e11
      injection e11 with e11
      dsimp only at e11 hlt
      omega
  refine ⟨by rw [hlen, List.flatMap_append]; simpa [tbCells] using hown, fun b hm => ?_, h1.2.2.grown hgr ?_ ?_⟩
  · rcases List.mem_append.1 hm with hm | hm
    · exact hnew b (h1.2.1 b hm).2 (h1.2.1 b hm).1
    · obtain rfl := List.mem_singleton.1 hm
      refine hnew _ (fun _ ad e => ?_) (TkC.keep hR.1 hb2.size fun bl o hlt => hb2.cell (p := ⟨bl, o, none⟩) hlt)
      intro e2
      have := hR.2 A1 _ c1 rfl ad e
      have := (hown0 _ e2.symm).2
      omega
  · rw [World.size_alloc, World.size_alloc]
    have := h.2.2.size
    omega
  · intro k hk
    exact (hown0 k hk).1
end Hx
end Go.Proofs.YtbjgfaflikgobaaGreatDoor
namespace Go.Proofs.YtbjgfaflikgobaaGreatDoor
open Go.RowKit
namespace Hx
open Lx Tx Nmb Es
set_option linter.unusedVariables false
deriving instance DecidableEq for Pr
deriving instance DecidableEq for Tk
theorem take_step {α : Type} {l m : List α} {k : Nat} (h1 : k < l.length) (h2 : k < m.length) (h : l.take k = m.take k) (he : l[k]'h1 = m[k]'h2) : l.take (k + 1) = m.take (k + 1) := by
  rw [List.take_succ_eq_append_getElem h1, List.take_succ_eq_append_getElem h2, h, he]
theorem ne_at {α : Type} {l m : List α} {k : Nat} (h1 : k < l.length) (h2 : k < m.length) (he : l[k]'h1 ≠ m[k]'h2) : l ≠ m := by
  rintro rfl
  exact he rfl
end Hx
end Go.Proofs.YtbjgfaflikgobaaGreatDoor
