/-
  Texts of one seat, put together: TreM, TreP, TreQ, MemD.
-/
import Derived.Test.YteobcohjikjalaaGreatDoorSp02
import Derived.Test.YteobcohjikjalaaGreatDoorSp00
set_option linter.unusedSimpArgs false
namespace Go.Proofs.YteobcohjikjalaaGreatDoor
namespace Tr
open Lx Tx Nmb Es
set_option linter.unusedVariables false
structure At where
  space : List UInt8
  name : List UInt8
  value : List UInt8
deriving instance DecidableEq for At
structure Nd where
  kind : Nat
  space : List UInt8
  name : List UInt8
  attrs : List At
  text : List UInt8
  many : Int
deriving instance DecidableEq for Nd
def atOk (a : At) : Bool := fullL a.name && okT a.value && okT a.space
def key (a : At) : List UInt8 × List UInt8 := (a.space, a.name)
def atsOk (l : List At) : Bool := l.all atOk && decide ((l.map key).Nodup) && decide (l.length ≤ 16)
def ndOk (n : Nd) : Bool :=
  if n.kind = 1 then fullL n.name && n.text.isEmpty && okT n.space && atsOk n.attrs
  else if n.kind = 2 then n.name.isEmpty && n.space.isEmpty && n.attrs.isEmpty && decide (n.many = 0) && !n.text.isEmpty && okT n.text
  else false
def kidsD (g : List Nd → Option (List Nd)) : Nat → Bool → List Nd → Option (Bool × List Nd)
  | 0, b, l => some (b, l)
  | _ + 1, _, [] => none
  | k + 1, b, n :: l => if b = true ∧ n.kind = 2 then none else match g (n :: l) with
    | none => none
    | some r => kidsD g k (decide (n.kind = 2)) r
def restD : Nat → List Nd → Option (List Nd)
  | _, [] => none
  | 0, n :: l => if ndOk n = true ∧ n.kind = 2 then some l else none
  | d + 1, n :: l => if ndOk n = true ∧ 0 ≤ n.many then (kidsD (restD d) n.many.toNat false l).map (·.2) else none
def mayV (v : List Nd) : Bool := decide (v.length ≤ 512) && (v.head?.map fun n => decide (n.kind = 1)) == some true && decide (restD 12 v = some [])
theorem mayV_iff {v : List Nd} : mayV v = true ↔ v.length ≤ 512 ∧ (∃ n l, v = n :: l ∧ n.kind = 1) ∧ restD 12 v = some [] := by
  unfold mayV
  rw [Bool.and_eq_true, Bool.and_eq_true, decide_eq_true_eq, decide_eq_true_eq, beq_iff_eq, and_assoc]
  cases v with
  | nil => simp
  | cons n l => simp
def Loc (g : List Nd → Option (List Nd)) : Prop := ∀ l r, g l = some r → ∃ p, p ≠ [] ∧ l = p ++ r ∧ ∀ x, g (p ++ x) = some x
theorem kidsD_loc {g : List Nd → Option (List Nd)} (hg : Loc g) : ∀ (k : Nat) (b : Bool) (l : List Nd) (b' : Bool) (r : List Nd), kidsD g k b l = some (b', r) → ∃ p, l = p ++ r ∧ k ≤ p.length ∧ ∀ x, kidsD g k b (p ++ x) = some (b', x) := by
  intro k
  induction k with
  | zero =>
    intro b l b' r h
    rw [kidsD] at h
    obtain ⟨rfl, rfl⟩ := (Prod.mk.injEq _ _ _ _).mp (Option.some.inj h)
    exact ⟨[], rfl, Nat.le_refl _, fun x => by rw [List.nil_append, kidsD]⟩
  | succ k ih =>
    intro b l b' r h
    cases l with
    | nil => rw [kidsD] at h; cases h
    | cons n l =>
      rw [kidsD] at h
      by_cases hb : b = true ∧ n.kind = 2
      · rw [if_pos hb] at h; cases h
      · rw [if_neg hb] at h
        cases hn : g (n :: l) with
        | none => rw [hn] at h; cases h
        | some y =>
          rw [hn] at h
          obtain ⟨q, hq, e1, h1⟩ := hg _ _ hn
          obtain ⟨p, e2, h2, h3⟩ := ih _ _ _ _ h
          cases q with
          | nil => exact absurd rfl hq
          | cons n' q =>
            injection e1 with e1 e3
            subst e1 e3
            refine ⟨n :: q ++ p, by rw [e2]; simp, by simp; omega, fun x => ?_⟩
            have := h1 (p ++ x)
            rw [List.append_assoc, List.cons_append, kidsD, if_neg hb, ← List.cons_append, this]
            exact h3 x
theorem restD_loc : ∀ d, Loc (restD d) := by
  intro d
  induction d with
  | zero =>
    intro l r h
    cases l with
    | nil => rw [restD] at h; cases h
    | cons n l =>
      rw [restD] at h
      by_cases hn : ndOk n = true ∧ n.kind = 2
      · rw [if_pos hn] at h
        injection h with h
        subst h
        exact ⟨[n], by simp, rfl, fun x => by rw [List.singleton_append, restD, if_pos hn]⟩
      · rw [if_neg hn] at h; cases h
  | succ d ih =>
    intro l r h
    cases l with
    | nil => rw [restD] at h; cases h
    | cons n l =>
      rw [restD] at h
      by_cases hn : ndOk n = true ∧ 0 ≤ n.many
      · rw [if_pos hn] at h
        cases hk : kidsD (restD d) n.many.toNat false l with
        | none => rw [hk] at h; cases h
        | some y =>
          rw [hk] at h
          obtain ⟨b', y⟩ := y
          have h : y = r := Option.some.inj h
          subst h
          obtain ⟨p, e, _, h3⟩ := kidsD_loc ih _ _ _ _ _ hk
          exact ⟨n :: p, by simp, by rw [e]; rfl, fun x => by rw [List.cons_append, restD, if_pos hn, h3]; rfl⟩
      · rw [if_neg hn] at h; cases h
theorem restD_len {d : Nat} {l r : List Nd} (h : restD d l = some r) : r.length < l.length := by
  obtain ⟨p, h1, rfl, _⟩ := restD_loc d l r h
  have := List.length_pos_iff.2 h1
  simp
  omega
theorem restD_drop {d : Nat} {l r : List Nd} (h : restD d l = some r) : r = l.drop (l.length - r.length) := by
  obtain ⟨p, h1, rfl, _⟩ := restD_loc d l r h
  rw [List.length_append, Nat.add_sub_cancel, List.drop_left]
theorem kidsD_len {d k : Nat} {b b' : Bool} {l r : List Nd} (h : kidsD (restD d) k b l = some (b', r)) : r.length + k ≤ l.length := by
  obtain ⟨p, rfl, h2, _⟩ := kidsD_loc (restD_loc d) k b l b' r h
  simp
  omega
theorem kidsD_mono {g g' : List Nd → Option (List Nd)} (hg : ∀ l r, g l = some r → g' l = some r) : ∀ (k : Nat) (b : Bool) (l : List Nd) (y : Bool × List Nd), kidsD g k b l = some y → kidsD g' k b l = some y := by
  intro k
  induction k with
  | zero => intro b l y h; rw [kidsD] at h ⊢; exact h
  | succ k ih =>
    intro b l y h
    cases l with
    | nil => rw [kidsD] at h; cases h
    | cons n l =>
      rw [kidsD] at h ⊢
      by_cases hb : b = true ∧ n.kind = 2
      · rw [if_pos hb] at h; cases h
      · rw [if_neg hb] at h ⊢
        cases hn : g (n :: l) with
        | none => rw [hn] at h; cases h
        | some z =>
          rw [hn] at h
          rw [hg _ _ hn]
          exact ih _ _ _ h
theorem ndOk_two {n : Nd} (h : ndOk n = true) (hk : n.kind = 2) : n.many = 0 ∧ n.name = [] ∧ n.space = [] ∧ n.attrs = [] ∧ n.text ≠ [] ∧ okT n.text = true := by
  unfold ndOk at h
  rw [if_neg (by omega), if_pos hk] at h
  simp only [Bool.and_eq_true, decide_eq_true_eq, List.isEmpty_iff, Bool.not_eq_true', List.isEmpty_eq_false_iff] at h
  obtain ⟨⟨⟨⟨⟨h1, h2⟩, h3⟩, h4⟩, h5⟩, h6⟩ := h
  exact ⟨h4, h1, h2, h3, h5, h6⟩
theorem ndOk_one {n : Nd} (h : ndOk n = true) (hk : n.kind = 1) : fullL n.name = true ∧ n.text = [] ∧ okT n.space = true ∧ atsOk n.attrs = true := by
  unfold ndOk at h
  rw [if_pos hk] at h
  simp only [Bool.and_eq_true, List.isEmpty_iff] at h
  obtain ⟨⟨⟨h1, h2⟩, h3⟩, h4⟩ := h
  exact ⟨h1, h2, h3, h4⟩
theorem ndOk_kind {n : Nd} (h : ndOk n = true) : n.kind = 1 ∨ n.kind = 2 := by
  unfold ndOk at h
  by_cases h1 : n.kind = 1
  · exact .inl h1
  · by_cases h2 : n.kind = 2
    · exact .inr h2
    · rw [if_neg h1, if_neg h2] at h; cases h
theorem restD_text {d : Nat} {n : Nd} {l : List Nd} (h : ndOk n = true) (hk : n.kind = 2) : restD d (n :: l) = some l := by
  cases d with
  | zero => rw [restD, if_pos ⟨h, hk⟩]
  | succ d =>
    have h0 := (ndOk_two h hk).1
    rw [restD, if_pos ⟨h, by omega⟩, h0]
    rfl
theorem restD_mono : ∀ d l r, restD d l = some r → restD (d + 1) l = some r := by
  intro d
  induction d with
  | zero =>
    intro l r h
    cases l with
    | nil => rw [restD] at h; cases h
    | cons n l =>
      rw [restD] at h
      by_cases hn : ndOk n = true ∧ n.kind = 2
      · rw [if_pos hn] at h
        rw [restD_text hn.1 hn.2]
        exact h
      · rw [if_neg hn] at h; cases h
  | succ d ih =>
    intro l r h
    cases l with
    | nil => rw [restD] at h; cases h
    | cons n l =>
      rw [restD] at h ⊢
      by_cases hn : ndOk n = true ∧ 0 ≤ n.many
      · rw [if_pos hn] at h ⊢
        cases hk : kidsD (restD d) n.many.toNat false l with
        | none => rw [hk] at h; cases h
        | some y =>
          rw [hk] at h
          rw [kidsD_mono ih _ _ _ _ hk]
          exact h
      · rw [if_neg hn] at h; cases h
theorem restD_le {d e : Nat} (hde : d ≤ e) {l r : List Nd} (h : restD d l = some r) : restD e l = some r := by
  induction hde with
  | refl => exact h
  | step _ ih => exact restD_mono _ _ _ ih
theorem kidsD_le {d e : Nat} (hde : d ≤ e) {k : Nat} {b : Bool} {l : List Nd} {y : Bool × List Nd} (h : kidsD (restD d) k b l = some y) : kidsD (restD e) k b l = some y := kidsD_mono (fun _ _ h => restD_le hde h) k b l y h
theorem restD_ok {d : Nat} {n : Nd} {l r : List Nd} (h : restD d (n :: l) = some r) : ndOk n = true ∧ 0 ≤ n.many ∧ ∃ b, kidsD (restD (d - 1)) n.many.toNat false l = some (b, r) := by
  cases d with
  | zero =>
    rw [restD] at h
    by_cases hn : ndOk n = true ∧ n.kind = 2
    · rw [if_pos hn] at h
      injection h with h
      have h0 := (ndOk_two hn.1 hn.2).1
      exact ⟨hn.1, by omega, false, by rw [h0, ← h]; rfl⟩
    · rw [if_neg hn] at h; cases h
  | succ d =>
    rw [restD] at h
    by_cases hn : ndOk n = true ∧ 0 ≤ n.many
    · rw [if_pos hn] at h
      cases hk : kidsD (restD d) n.many.toNat false l with
      | none => rw [hk] at h; cases h
      | some y =>
        rw [hk] at h
        obtain ⟨b, y⟩ := y
        have h : y = r := Option.some.inj h
        subst h
        exact ⟨hn.1, hn.2, b, by rw [Nat.add_sub_cancel, hk]⟩
    · rw [if_neg hn] at h; cases h
def places (g : List Nd → Option (List Nd)) : Nat → Nat → List Nd → List Nat
  | 0, _, _ => []
  | k + 1, p, l => p :: match g l with
    | none => []
    | some r => places g k (p + (l.length - r.length)) r
def under (v : List Nd) (i : Nat) : List Nat := match v[i]? with
  | none => []
  | some n => places (restD 12) n.many.toNat (i + 1) (v.drop (i + 1))
def rawN (n : Nd) : Bool := n.space.isEmpty && n.attrs.all fun a => a.space.isEmpty
def rawV (v : List Nd) : Bool := v.all rawN
theorem rawV_iff {v : List Nd} : rawV v = true ↔ ∀ n ∈ v, n.space = [] ∧ ∀ a ∈ n.attrs, a.space = [] := by
  unfold rawV rawN
  simp [List.all_eq_true]
end Tr
end Go.Proofs.YteobcohjikjalaaGreatDoor
set_option linter.unusedSimpArgs false
namespace Go.Proofs.YteobcohjikjalaaGreatDoor
open Go.RowKit
namespace Hx
open Lx Tr
set_option linter.unusedVariables false
structure CodS (α : Type) where
  k : Nat
  R : World → (Nat → Prop) → List Value → α → Prop
  len : ∀ {w : World} {S : Nat → Prop} {cs : List Value} {x : α}, R w S cs x → cs.length = k
  one : ∀ {w : World} {S : Nat → Prop} {cs : List Value} {x : α}, R w S cs x → ∀ v ∈ cs, v.oneCell' = true
  keep : ∀ {w w' : World} {S S' : Nat → Prop} {cs : List Value} {x : α}, R w S cs x → (∀ b, S b → S' b) → (∀ b o, S b → w'.cell? ⟨b, o, none⟩ = w.cell? ⟨b, o, none⟩) → R w' S' cs x
def RdS {α : Type} (C : CodS α) (w : World) (S : Nat → Prop) (A : Option Addr) (l : List α) : Prop :=
  0 < l.length → ∃ b off, A = some ⟨b, off, none⟩ ∧ S b ∧ ∀ j (h : j < l.length), ∃ cs, C.R w S cs (l[j]'h) ∧ ∀ i (hi : i < cs.length), w.cell? ⟨b, off + j * C.k + i, none⟩ = some (cs[i]'hi)
def RdB {α : Type} (C : CodS α) (w : World) (A : Option Addr) (l : List α) : Prop := RdS C w (fun b => b < w.heap.size) A l
section
variable {α : Type} {C : CodS α}
theorem RdS.keep {w w' : World} {S S' : Nat → Prop} {A : Option Addr} {l : List α} (h : RdS C w S A l) (hS : ∀ b, S b → S' b) (hk : ∀ b o, S b → w'.cell? ⟨b, o, none⟩ = w.cell? ⟨b, o, none⟩) : RdS C w' S' A l := by
  intro hp
  obtain ⟨b, off, e, hb, hc⟩ := h hp
  refine ⟨b, off, e, hS b hb, fun j hj => ?_⟩
  obtain ⟨cs, h1, h2⟩ := hc j hj
  exact ⟨cs, C.keep h1 hS hk, fun i hi => (hk _ _ hb).trans (h2 i hi)⟩
theorem RdS.mono {w : World} {S S' : Nat → Prop} {A : Option Addr} {l : List α} (h : RdS C w S A l) (hS : ∀ b, S b → S' b) : RdS C w S' A l := h.keep hS fun _ _ _ => rfl
theorem RdS.nil (w : World) (S : Nat → Prop) (A : Option Addr) : RdS C w S A [] := fun h => absurd h (by simp)
theorem RdB.nil (w : World) (A : Option Addr) : RdB C w A [] := RdS.nil _ _ _
theorem RdB.on {w w' : World} {A : Option Addr} {l : List α} (h : RdB C w A l) (hb : Below w.heap.size w w') : RdB C w' A l :=
  RdS.keep h (fun b hlt => Nat.lt_of_lt_of_le hlt hb.size) fun b o hlt => hb.cell (p := ⟨b, o, none⟩) hlt
theorem RdS.at {w : World} {S : Nat → Prop} {A : Option Addr} {l : List α} {k : Nat} (h : RdS C w S A l) (hk : k < l.length) :
    ∃ b off cs, A = some ⟨b, off, none⟩ ∧ S b ∧ C.R w S cs (l[k]'hk) ∧ ∀ i (hi : i < cs.length), w.cell? ⟨b, off + k * C.k + i, none⟩ = some (cs[i]'hi) := by
  obtain ⟨b, off, e, hb, hc⟩ := h (by omega)
  obtain ⟨cs, h1, h2⟩ := hc k hk
  exact ⟨b, off, cs, e, hb, h1, h2⟩
theorem RdS.drop {w : World} {S : Nat → Prop} {b off : Nat} {l : List α} (h : RdS C w S (some ⟨b, off, none⟩) l) (i : Nat) : RdS C w S (some ⟨b, off + i * C.k, none⟩) (l.drop i) := by
  intro hp
  rw [List.length_drop] at hp
  obtain ⟨b', off', e, hb, hc⟩ := h (by omega)
  injection e with e
  injection e with e1 e2 _
  subst e1 e2
  refine ⟨b, off + i * C.k, rfl, hb, fun j hj => ?_⟩
  rw [List.length_drop] at hj
  obtain ⟨cs, h1, h2⟩ := hc (i + j) (by omega)
  refine ⟨cs, by rw [List.getElem_drop]; exact h1, fun m hm => ?_⟩
  have := h2 m hm
  rwa [show off + i * C.k + j * C.k + m = off + (i + j) * C.k + m by rw [Nat.add_mul]; omega]
theorem RdS.take {w : World} {S : Nat → Prop} {A : Option Addr} {l : List α} (h : RdS C w S A l) (k : Nat) : RdS C w S A (l.take k) := by
  intro hp
  have hl := List.length_take (i := k) (l := l)
  obtain ⟨b, off, e, hb, hc⟩ := h (by omega)
  refine ⟨b, off, e, hb, fun j hj => ?_⟩
  obtain ⟨cs, h1, h2⟩ := hc j (by omega)
  exact ⟨cs, by rw [List.getElem_take]; exact h1, h2⟩
end
def CodS.old {α : Type} (C : CodS α) : Cod α where
  k := C.k
  R w B cs x := C.R w (fun b => b < B) cs x
  len := fun h => C.len h
  keep := fun h hB hk => C.keep h (fun b hb => Nat.lt_of_lt_of_le hb hB) fun b o hb => hk b o hb
theorem RdC.toS {α : Type} {C : CodS α} {w : World} {B : Nat} {A : Option Addr} {l : List α} (h : RdC C.old w B A l) : RdS C w (fun b => b < B) A l := h
def AtS : CodS At where
  k := 3
  R _ _ cs a := ∃ x y z : ByteArray, cs = [.string x, .string y, .string z] ∧ x.data.toList = a.space ∧ y.data.toList = a.name ∧ z.data.toList = a.value
  len := by rintro _ _ _ _ ⟨x, y, z, rfl, _⟩; rfl
  one := by
    rintro _ _ _ _ ⟨x, y, z, rfl, _⟩ v hv
    simp at hv
    rcases hv with rfl | rfl | rfl <;> rfl
  keep := fun h _ _ => h
def ndCells (n : Nd) (x y z : ByteArray) (A : Option Addr) (c : Nat) : List Value := [.int .u8 (n.kind : Int), .string x, .string y, .slice A n.attrs.length c, .string z, .int .i64 n.many]
def NdV (n : Nd) (x y z : ByteArray) (A : Option Addr) (c : Nat) : Value := .agg #[.int .u8 (n.kind : Int), .string x, .string y, .slice A n.attrs.length c, .string z, .int .i64 n.many]
structure NdIn (n : Nd) (x y z : ByteArray) (A : Option Addr) (c : Nat) (w : World) (S : Nat → Prop) : Prop where
  space : x.data.toList = n.space
  name : y.data.toList = n.name
  text : z.data.toList = n.text
  attrs : RdS AtS w S A n.attrs
  le : n.attrs.length ≤ c
  cm : c ≤ maxLen
  nil : A = none → c = 0
  kd : n.kind < 256
  lo : -9223372036854775808 ≤ n.many
  hi : n.many ≤ 9223372036854775807
theorem NdIn.keep {n : Nd} {x y z : ByteArray} {A : Option Addr} {c : Nat} {w w' : World} {S S' : Nat → Prop} (h : NdIn n x y z A c w S) (hS : ∀ b, S b → S' b) (hk : ∀ b o, S b → w'.cell? ⟨b, o, none⟩ = w.cell? ⟨b, o, none⟩) : NdIn n x y z A c w' S' :=
  ⟨h.space, h.name, h.text, h.attrs.keep hS hk, h.le, h.cm, h.nil, h.kd, h.lo, h.hi⟩
def NdS : CodS Nd where
  k := 6
  R w S cs n := ∃ (x y z : ByteArray) (A : Option Addr) (c : Nat), cs = ndCells n x y z A c ∧ NdIn n x y z A c w S
  len := by rintro _ _ _ _ ⟨x, y, z, A, c, rfl, _⟩; rfl
  one := by
    rintro _ _ _ _ ⟨x, y, z, A, c, rfl, _⟩ v hv
    simp [ndCells] at hv
    rcases hv with rfl | rfl | rfl | rfl | rfl | rfl <;> rfl
  keep := fun ⟨x, y, z, A, c, h1, h2⟩ hS hk => ⟨x, y, z, A, c, h1, h2.keep hS hk⟩
def NdAt (n : Nd) (x y z : ByteArray) (A : Option Addr) (c : Nat) (w : World) : Prop := NdIn n x y z A c w (fun b => b < w.heap.size)
theorem NdAt.on {n : Nd} {x y z : ByteArray} {A : Option Addr} {c : Nat} {w w' : World} (h : NdAt n x y z A c w) (hb : Below w.heap.size w w') : NdAt n x y z A c w' :=
  NdIn.keep h (fun b hlt => Nat.lt_of_lt_of_le hlt hb.size) fun b o hlt => hb.cell (p := ⟨b, o, none⟩) hlt
theorem NdAt.rd {n : Nd} {x y z : ByteArray} {A : Option Addr} {c : Nat} {w : World} (h : NdAt n x y z A c w) : RdB AtS w A n.attrs := h.attrs
structure SmallN (n : Nd) : Prop where
  space : n.space.length ≤ 1000000
  name : n.name.length ≤ 1000000
  text : n.text.length ≤ 1000000
  attrs : n.attrs.length ≤ 1000000
  each : ∀ a ∈ n.attrs, a.space.length ≤ 1000000 ∧ a.name.length ≤ 1000000 ∧ a.value.length ≤ 1000000
theorem nd_at {w : World} {S : Nat → Prop} {A : Option Addr} {l : List Nd} {k : Nat} (hr : RdS NdS w S A l) (hk : k < l.length) :
    ∃ (b off : Nat) (x y z : ByteArray) (A1 : Option Addr) (c1 : Nat), A = some ⟨b, off, none⟩ ∧ S b ∧ NdIn (l[k]'hk) x y z A1 c1 w S ∧
      w.cell? ⟨b, off + k * 6, none⟩ = some (.int .u8 ((l[k]'hk).kind : Int)) ∧ w.cell? ⟨b, off + k * 6 + 1, none⟩ = some (.string x) ∧ w.cell? ⟨b, off + k * 6 + 2, none⟩ = some (.string y) ∧
      w.cell? ⟨b, off + k * 6 + 3, none⟩ = some (.slice A1 (l[k]'hk).attrs.length c1) ∧ w.cell? ⟨b, off + k * 6 + 4, none⟩ = some (.string z) ∧ w.cell? ⟨b, off + k * 6 + 5, none⟩ = some (.int .i64 (l[k]'hk).many) := by
  obtain ⟨b, off, cs, e, hb, ⟨x, y, z, A1, c1, rfl, hin⟩, hc⟩ := hr.at hk
  exact ⟨b, off, x, y, z, A1, c1, e, hb, hin, hc 0 (by simp [ndCells]), hc 1 (by simp [ndCells]), hc 2 (by simp [ndCells]), hc 3 (by simp [ndCells]), hc 4 (by simp [ndCells]), hc 5 (by simp [ndCells])⟩
theorem at_at {w : World} {S : Nat → Prop} {A : Option Addr} {l : List At} {k : Nat} (hr : RdS AtS w S A l) (hk : k < l.length) :
    ∃ (b off : Nat) (x y z : ByteArray), A = some ⟨b, off, none⟩ ∧ S b ∧ x.data.toList = (l[k]'hk).space ∧ y.data.toList = (l[k]'hk).name ∧ z.data.toList = (l[k]'hk).value ∧
      w.cell? ⟨b, off + k * 3, none⟩ = some (.string x) ∧ w.cell? ⟨b, off + k * 3 + 1, none⟩ = some (.string y) ∧ w.cell? ⟨b, off + k * 3 + 2, none⟩ = some (.string z) := by
  obtain ⟨b, off, cs, e, hb, ⟨x, y, z, rfl, h1, h2, h3⟩, hc⟩ := hr.at hk
  exact ⟨b, off, x, y, z, e, hb, h1, h2, h3, hc 0 (by simp), hc 1 (by simp), hc 2 (by simp)⟩
section
variable {H : Type} {enc : TypeId × Value → H}
theorem cells_oneN : Tryz.prog.cellsOf 9 = 1 ∧ Tryz.prog.cellsOf 5 = 1 ∧ Tryz.prog.cellsOf 37 = 1 ∧ Tryz.prog.cellsOf 3 = 1 ∧ Tryz.prog.cellsOf 41 = 3 ∧ Tryz.prog.cellsOf 39 = 6 := ⟨by kernel_rfl, by kernel_rfl, by kernel_rfl, by kernel_rfl, by kernel_rfl, by kernel_rfl⟩
theorem three_of {cs : List Value} (h : cs.length = 3) : ∃ x y z, cs = [x, y, z] := by
  match cs, h with
  | [x, y, z], _ => exact ⟨x, y, z, rfl⟩
theorem six_of {cs : List Value} (h : cs.length = 6) : ∃ x y z u v t, cs = [x, y, z, u, v, t] := by
  match cs, h with
  | [x, y, z, u, v, t], _ => exact ⟨x, y, z, u, v, t, rfl⟩
theorem opens_attr : Opens enc Tryz.prog AtS.old 41 := fun W sp held fuel cs x h => by
  obtain ⟨c1, _, _, _, c3, _⟩ := cells_oneN
  obtain ⟨xs, n, _, _, hl, hx, hf⟩ := DataW.trod_struct Tryz.underlying41 h
  rw [c3] at hl
  obtain ⟨a, b, c, rfl⟩ := three_of hl
  have h0 : DataW.trod enc Tryz.prog W 0 sp held n 9 (([a, b, c].drop 0).take (Tryz.prog.cellsOf 9)) = xs[0]? := hf 0 _ rfl
  have h1 : DataW.trod enc Tryz.prog W 0 sp held n 9 (([a, b, c].drop 1).take (Tryz.prog.cellsOf 9)) = xs[1]? := hf 1 _ rfl
  have h2 : DataW.trod enc Tryz.prog W 0 sp held n 9 (([a, b, c].drop 2).take (Tryz.prog.cellsOf 9)) = xs[2]? := hf 2 _ rfl
  have hx2 : xs.length = 3 := hx
  simp only [c1, List.drop_zero, List.drop_succ_cons, List.take_succ_cons, List.take_zero] at h0 h1 h2
  obtain ⟨s, e1, _⟩ := DataW.trod_string Tryz.underlying9 (h0.trans (List.getElem?_eq_getElem (by omega)))
  obtain ⟨t, e2, _⟩ := DataW.trod_string Tryz.underlying9 (h1.trans (List.getElem?_eq_getElem (by omega)))
  obtain ⟨u, e3, _⟩ := DataW.trod_string Tryz.underlying9 (h2.trans (List.getElem?_eq_getElem (by omega)))
  obtain ⟨rfl, _⟩ := List.cons.inj e1
  obtain ⟨rfl, _⟩ := List.cons.inj e2
  obtain ⟨rfl, _⟩ := List.cons.inj e3
  exact ⟨⟨_, _, _⟩, s, t, u, rfl, rfl, rfl, rfl⟩
theorem opens_node : Opens enc Tryz.prog NdS.old 39 := fun W sp held fuel cs x h => by
  obtain ⟨c1, c2, c3, c4, c5, c6⟩ := cells_oneN
  obtain ⟨xs, n, _, _, hl, hx, hf⟩ := DataW.trod_struct Tryz.underlying39 h
  rw [c6] at hl
  obtain ⟨a, b, c, d, e, f, rfl⟩ := six_of hl
  have h0 : DataW.trod enc Tryz.prog W 0 sp held n 5 (([a, b, c, d, e, f].drop 0).take (Tryz.prog.cellsOf 5)) = xs[0]? := hf 0 _ rfl
  have h1 : DataW.trod enc Tryz.prog W 0 sp held n 9 (([a, b, c, d, e, f].drop 1).take (Tryz.prog.cellsOf 9)) = xs[1]? := hf 1 _ rfl
  have h2 : DataW.trod enc Tryz.prog W 0 sp held n 9 (([a, b, c, d, e, f].drop 2).take (Tryz.prog.cellsOf 9)) = xs[2]? := hf 2 _ rfl
  have h3 : DataW.trod enc Tryz.prog W 0 sp held n 37 (([a, b, c, d, e, f].drop 3).take (Tryz.prog.cellsOf 37)) = xs[3]? := hf 3 _ rfl
  have h4 : DataW.trod enc Tryz.prog W 0 sp held n 9 (([a, b, c, d, e, f].drop 4).take (Tryz.prog.cellsOf 9)) = xs[4]? := hf 4 _ rfl
  have h5 : DataW.trod enc Tryz.prog W 0 sp held n 3 (([a, b, c, d, e, f].drop 5).take (Tryz.prog.cellsOf 3)) = xs[5]? := hf 5 _ rfl
  have hx2 : xs.length = 6 := hx
  simp only [c1, c2, c3, c4, List.drop_zero, List.drop_succ_cons, List.take_succ_cons, List.take_zero] at h0 h1 h2 h3 h4 h5
  obtain ⟨m, e0, _, w0⟩ := DataW.trod_int Tryz.underlying5 (h0.trans (List.getElem?_eq_getElem (by omega)))
  obtain ⟨s, e1, _⟩ := DataW.trod_string Tryz.underlying9 (h1.trans (List.getElem?_eq_getElem (by omega)))
  obtain ⟨t, e2, _⟩ := DataW.trod_string Tryz.underlying9 (h2.trans (List.getElem?_eq_getElem (by omega)))
  obtain ⟨l, A, cp, e3, k1, k2, k3, k4⟩ := (Opens.slice (C := AtS.old) Tryz.underlying37 c5 (by decide) opens_attr) W sp held _ _ _ (h3.trans (List.getElem?_eq_getElem (by omega)))
  obtain ⟨u, e4, _⟩ := DataW.trod_string Tryz.underlying9 (h4.trans (List.getElem?_eq_getElem (by omega)))
  obtain ⟨y, e5, _, w5⟩ := DataW.trod_int Tryz.underlying3 (h5.trans (List.getElem?_eq_getElem (by omega)))
  obtain ⟨rfl, _⟩ := List.cons.inj e0
  obtain ⟨rfl, _⟩ := List.cons.inj e1
  obtain ⟨rfl, _⟩ := List.cons.inj e2
  obtain ⟨rfl, _⟩ := List.cons.inj e3
  obtain ⟨rfl, _⟩ := List.cons.inj e4
  obtain ⟨rfl, _⟩ := List.cons.inj e5
  have hb := bounds_u8 w0
  have hy := bounds_i64 w5
  obtain ⟨k, rfl⟩ : ∃ k : Nat, m = (k : Int) := ⟨m.toNat, by omega⟩
  exact ⟨⟨k, _, _, l, _, y⟩, s, t, u, A, cp, rfl, rfl, rfl, rfl, k4, k1, k2, k3, by show k < 256; omega, by show _ ≤ y; omega, by show y ≤ _; omega⟩
theorem opens_nodes : Opens enc Tryz.prog (SlC NdS.old) 22 := Opens.slice (C := NdS.old) Tryz.underlying22 cells_oneN.2.2.2.2.2 (by decide) opens_node
end
end Hx
end Go.Proofs.YteobcohjikjalaaGreatDoor
