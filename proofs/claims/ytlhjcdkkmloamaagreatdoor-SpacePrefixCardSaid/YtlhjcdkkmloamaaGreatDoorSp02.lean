/-
  Texts of one seat, put together: TreM, TreP, TreQ, MemD, LexR, LexS.
-/
import Derived.Test.YtlhjcdkkmloamaaGreatDoorSp01
import Derived.Test.YtlhjcdkkmloamaaGreatDoorSp00
import Derived.Lib.Strings
import Derived.Deep.LoopGhost
set_option linter.unusedSimpArgs false
namespace Go.Proofs.YtlhjcdkkmloamaaGreatDoor
namespace Tr
open Lx Tx Nmb Es
set_option linter.unusedVariables false
structure At where
  space : List UInt8
  name : List UInt8
  value : List UInt8
deriving instance DecidableEq for At
structure Nd where
  kind : Nat
  space : List UInt8
  name : List UInt8
  attrs : List At
  text : List UInt8
  many : Int
deriving instance DecidableEq for Nd
def atOk (a : At) : Bool := fullL a.name && okT a.value && okT a.space
def key (a : At) : List UInt8 × List UInt8 := (a.space, a.name)
def atsOk (l : List At) : Bool := l.all atOk && decide ((l.map key).Nodup) && decide (l.length ≤ 16)
def ndOk (n : Nd) : Bool :=
  if n.kind = 1 then fullL n.name && n.text.isEmpty && okT n.space && atsOk n.attrs
  else if n.kind = 2 then n.name.isEmpty && n.space.isEmpty && n.attrs.isEmpty && decide (n.many = 0) && !n.text.isEmpty && okT n.text
  else false
def kidsD (g : List Nd → Option (List Nd)) : Nat → Bool → List Nd → Option (Bool × List Nd)
  | 0, b, l => some (b, l)
  | _ + 1, _, [] => none
  | k + 1, b, n :: l => if b = true ∧ n.kind = 2 then none else match g (n :: l) with
    | none => none
    | some r => kidsD g k (decide (n.kind = 2)) r
def restD : Nat → List Nd → Option (List Nd)
  | _, [] => none
  | 0, n :: l => if ndOk n = true ∧ n.kind = 2 then some l else none
  | d + 1, n :: l => if ndOk n = true ∧ 0 ≤ n.many then (kidsD (restD d) n.many.toNat false l).map (·.2) else none
def mayV (v : List Nd) : Bool := decide (v.length ≤ 512) && (v.head?.map fun n => decide (n.kind = 1)) == some true && decide (restD 12 v = some [])
theorem mayV_iff {v : List Nd} : mayV v = true ↔ v.length ≤ 512 ∧ (∃ n l, v = n :: l ∧ n.kind = 1) ∧ restD 12 v = some [] := by
  unfold mayV
  rw [Bool.and_eq_true, Bool.and_eq_true, decide_eq_true_eq, decide_eq_true_eq, beq_iff_eq, and_assoc]
  cases v with
  | nil => simp
  | cons n l => simp
def Loc (g : List Nd → Option (List Nd)) : Prop := ∀ l r, g l = some r → ∃ p, p ≠ [] ∧ l = p ++ r ∧ ∀ x, g (p ++ x) = some x
theorem kidsD_loc {g : List Nd → Option (List Nd)} (hg : Loc g) : ∀ (k : Nat) (b : Bool) (l : List Nd) (b' : Bool) (r : List Nd), kidsD g k b l = some (b', r) → ∃ p, l = p ++ r ∧ k ≤ p.length ∧ ∀ x, kidsD g k b (p ++ x) = some (b', x) := by
  intro k
  induction k with
  | zero =>
    intro b l b' r h
    rw [kidsD] at h
    obtain ⟨rfl, rfl⟩ := (Prod.mk.injEq _ _ _ _).mp (Option.some.inj h)
    exact ⟨[], rfl, Nat.le_refl _, fun x => by rw [List.nil_append, kidsD]⟩
  | succ k ih =>
    intro b l b' r h
    cases l with
    | nil => rw [kidsD] at h; cases h
    | cons n l =>
      rw [kidsD] at h
      by_cases hb : b = true ∧ n.kind = 2
      · rw [if_pos hb] at h; cases h
      · rw [if_neg hb] at h
        cases hn : g (n :: l) with
        | none => rw [hn] at h; cases h
        | some y =>
          rw [hn] at h
          obtain ⟨q, hq, e1, h1⟩ := hg _ _ hn
          obtain ⟨p, e2, h2, h3⟩ := ih _ _ _ _ h
          cases q with
          | nil => exact absurd rfl hq
          | cons n' q =>
            injection e1 with e1 e3
            subst e1 e3
            refine ⟨n :: q ++ p, by rw [e2]; simp, by simp; omega, fun x => ?_⟩
            have := h1 (p ++ x)
            rw [List.append_assoc, List.cons_append, kidsD, if_neg hb, ← List.cons_append, this]
            exact h3 x
theorem restD_loc : ∀ d, Loc (restD d) := by
  intro d
  induction d with
  | zero =>
    intro l r h
    cases l with
    | nil => rw [restD] at h; cases h
    | cons n l =>
      rw [restD] at h
      by_cases hn : ndOk n = true ∧ n.kind = 2
      · rw [if_pos hn] at h
        injection h with h
        subst h
        exact ⟨[n], by simp, rfl, fun x => by rw [List.singleton_append, restD, if_pos hn]⟩
      · rw [if_neg hn] at h; cases h
  | succ d ih =>
    intro l r h
    cases l with
    | nil => rw [restD] at h; cases h
    | cons n l =>
      rw [restD] at h
      by_cases hn : ndOk n = true ∧ 0 ≤ n.many
      · rw [if_pos hn] at h
        cases hk : kidsD (restD d) n.many.toNat false l with
        | none => rw [hk] at h; cases h
        | some y =>
          rw [hk] at h
          obtain ⟨b', y⟩ := y
          have h : y = r := Option.some.inj h
          subst h
          obtain ⟨p, e, _, h3⟩ := kidsD_loc ih _ _ _ _ _ hk
          exact ⟨n :: p, by simp, by rw [e]; rfl, fun x => by rw [List.cons_append, restD, if_pos hn, h3]; rfl⟩
      · rw [if_neg hn] at h; cases h
theorem restD_len {d : Nat} {l r : List Nd} (h : restD d l = some r) : r.length < l.length := by
  obtain ⟨p, h1, rfl, _⟩ := restD_loc d l r h
  have := List.length_pos_iff.2 h1
  simp
  omega
theorem restD_drop {d : Nat} {l r : List Nd} (h : restD d l = some r) : r = l.drop (l.length - r.length) := by
  obtain ⟨p, h1, rfl, _⟩ := restD_loc d l r h
  rw [List.length_append, Nat.add_sub_cancel, List.drop_left]
theorem kidsD_len {d k : Nat} {b b' : Bool} {l r : List Nd} (h : kidsD (restD d) k b l = some (b', r)) : r.length + k ≤ l.length := by
  obtain ⟨p, rfl, h2, _⟩ := kidsD_loc (restD_loc d) k b l b' r h
  simp
  omega
theorem ndOk_two {n : Nd} (h : ndOk n = true) (hk : n.kind = 2) : n.many = 0 ∧ n.name = [] ∧ n.space = [] ∧ n.attrs = [] ∧ n.text ≠ [] ∧ okT n.text = true := by
  unfold ndOk at h
  rw [if_neg (by omega), if_pos hk] at h
  simp only [Bool.and_eq_true, decide_eq_true_eq, List.isEmpty_iff, Bool.not_eq_true', List.isEmpty_eq_false_iff] at h
  obtain ⟨⟨⟨⟨⟨h1, h2⟩, h3⟩, h4⟩, h5⟩, h6⟩ := h
  exact ⟨h4, h1, h2, h3, h5, h6⟩
theorem ndOk_one {n : Nd} (h : ndOk n = true) (hk : n.kind = 1) : fullL n.name = true ∧ n.text = [] ∧ okT n.space = true ∧ atsOk n.attrs = true := by
  unfold ndOk at h
  rw [if_pos hk] at h
  simp only [Bool.and_eq_true, List.isEmpty_iff] at h
  obtain ⟨⟨⟨h1, h2⟩, h3⟩, h4⟩ := h
  exact ⟨h1, h2, h3, h4⟩
theorem ndOk_kind {n : Nd} (h : ndOk n = true) : n.kind = 1 ∨ n.kind = 2 := by
  unfold ndOk at h
  by_cases h1 : n.kind = 1
  · exact .inl h1
  · by_cases h2 : n.kind = 2
    · exact .inr h2
    · rw [if_neg h1, if_neg h2] at h; cases h
theorem restD_ok {d : Nat} {n : Nd} {l r : List Nd} (h : restD d (n :: l) = some r) : ndOk n = true ∧ 0 ≤ n.many ∧ ∃ b, kidsD (restD (d - 1)) n.many.toNat false l = some (b, r) := by
  cases d with
  | zero =>
    rw [restD] at h
    by_cases hn : ndOk n = true ∧ n.kind = 2
    · rw [if_pos hn] at h
      injection h with h
      have h0 := (ndOk_two hn.1 hn.2).1
      exact ⟨hn.1, by omega, false, by rw [h0, ← h]; rfl⟩
    · rw [if_neg hn] at h; cases h
  | succ d =>
    rw [restD] at h
    by_cases hn : ndOk n = true ∧ 0 ≤ n.many
    · rw [if_pos hn] at h
      cases hk : kidsD (restD d) n.many.toNat false l with
      | none => rw [hk] at h; cases h
      | some y =>
        rw [hk] at h
        obtain ⟨b, y⟩ := y
        have h : y = r := Option.some.inj h
        subst h
        exact ⟨hn.1, hn.2, b, by rw [Nat.add_sub_cancel, hk]⟩
    · rw [if_neg hn] at h; cases h
def places (g : List Nd → Option (List Nd)) : Nat → Nat → List Nd → List Nat
  | 0, _, _ => []
  | k + 1, p, l => p :: match g l with
    | none => []
    | some r => places g k (p + (l.length - r.length)) r
def under (v : List Nd) (i : Nat) : List Nat := match v[i]? with
  | none => []
  | some n => places (restD 12) n.many.toNat (i + 1) (v.drop (i + 1))
def givenN (l : List Pr) : List At := l.map fun p => ⟨[], p.name, p.value⟩
def rawN (n : Nd) : Bool := n.space.isEmpty && n.attrs.all fun a => a.space.isEmpty
def rawV (v : List Nd) : Bool := v.all rawN
theorem rawV_iff {v : List Nd} : rawV v = true ↔ ∀ n ∈ v, n.space = [] ∧ ∀ a ∈ n.attrs, a.space = [] := by
  unfold rawV rawN
  simp [List.all_eq_true]
structure PS where
  V : List Nd
  O : List Nat
def bumpN (n : Nd) : Nd := { n with many := n.many + 1 }
def bump (O : List Nat) (V : List Nd) : List Nd := match O.getLast? with
  | none => V
  | some i => V.modify i bumpN
def nodeT (t : Tk) : Nd := if t.kind = 4 then ⟨2, [], [], [], t.text, 0⟩ else ⟨1, [], t.name, givenN t.attrs, [], 0⟩
def stepP (s : PS) (b : Bool) (t : Tk) : Except Int PS :=
  if t.kind = 4 then (if b = true then .error 80 else if s.O = [] then (if t.text.all blk = true then .ok s else .error 80) else .ok ⟨bump s.O s.V ++ [nodeT t], s.O⟩)
  else if t.kind = 2 then match s.O.getLast? with
    | none => .error 80
    | some i => if (s.V[i]?.map (·.name)) = some t.name then .ok ⟨s.V, s.O.dropLast⟩ else .error 80
  else if s.O = [] ∧ s.V ≠ [] then .error 80 else if s.O.length = 12 then .error 100
  else .ok ⟨bump s.O s.V ++ [nodeT t], if t.kind = 3 then s.O else s.O ++ [s.V.length]⟩
def runP : PS → Bool → List Tk → Except Int PS
  | s, _, [] => .ok s
  | s, b, t :: r => match stepP s b t with
    | .error e => .error e
    | .ok s' => runP s' (decide (t.kind = 4)) r
def endP (x : Except Int PS) : List Nd × Int := match x with
  | .error e => ([], e)
  | .ok s => if s.V = [] ∨ s.O ≠ [] then ([], 80) else (s.V, 0)
def parseR (l : List Tk) : List Nd × Int :=
  if 512 < l.length then ([], 4) else if l.all mayT = true then endP (runP ⟨[], []⟩ false l) else ([], 8)
theorem okT_nil : okT [] = true := rfl
theorem stepP_err {s : PS} {b : Bool} {t : Tk} {e : Int} (h : stepP s b t = .error e) : e = 80 ∨ e = 100 := by
  unfold stepP at h
  repeat' split at h
  all_goals first
    | (cases h; done)
    | (injection h with h; subst h; simp)
theorem runP_err : ∀ (l : List Tk) (s : PS) (b : Bool) (e : Int), runP s b l = .error e → e = 80 ∨ e = 100 := by
  intro l
  induction l with
  | nil => intro s b e h; rw [runP] at h; cases h
  | cons t l ih =>
    intro s b e h
    rw [runP] at h
    cases hs : stepP s b t with
    | error e' =>
      rw [hs] at h
      injection h with h
      subst h
      exact stepP_err hs
    | ok s' =>
      rw [hs] at h
      exact ih _ _ _ h
end Tr
end Go.Proofs.YtlhjcdkkmloamaaGreatDoor
namespace Go.Proofs.YtlhjcdkkmloamaaGreatDoor
open Go.RowKit
namespace Hx
open Lx Tr
set_option linter.unusedVariables false
structure CodS (α : Type) where
  k : Nat
  R : World → (Nat → Prop) → List Value → α → Prop
  len : ∀ {w : World} {S : Nat → Prop} {cs : List Value} {x : α}, R w S cs x → cs.length = k
  one : ∀ {w : World} {S : Nat → Prop} {cs : List Value} {x : α}, R w S cs x → ∀ v ∈ cs, v.oneCell' = true
  keep : ∀ {w w' : World} {S S' : Nat → Prop} {cs : List Value} {x : α}, R w S cs x → (∀ b, S b → S' b) → (∀ b o, S b → w'.cell? ⟨b, o, none⟩ = w.cell? ⟨b, o, none⟩) → R w' S' cs x
def RdS {α : Type} (C : CodS α) (w : World) (S : Nat → Prop) (A : Option Addr) (l : List α) : Prop :=
  0 < l.length → ∃ b off, A = some ⟨b, off, none⟩ ∧ S b ∧ ∀ j (h : j < l.length), ∃ cs, C.R w S cs (l[j]'h) ∧ ∀ i (hi : i < cs.length), w.cell? ⟨b, off + j * C.k + i, none⟩ = some (cs[i]'hi)
def RdB {α : Type} (C : CodS α) (w : World) (A : Option Addr) (l : List α) : Prop := RdS C w (fun b => b < w.heap.size) A l
section
variable {α : Type} {C : CodS α}
theorem RdS.keep {w w' : World} {S S' : Nat → Prop} {A : Option Addr} {l : List α} (h : RdS C w S A l) (hS : ∀ b, S b → S' b) (hk : ∀ b o, S b → w'.cell? ⟨b, o, none⟩ = w.cell? ⟨b, o, none⟩) : RdS C w' S' A l := by
  intro hp
  obtain ⟨b, off, e, hb, hc⟩ := h hp
  refine ⟨b, off, e, hS b hb, fun j hj => ?_⟩
  obtain ⟨cs, h1, h2⟩ := hc j hj
  exact ⟨cs, C.keep h1 hS hk, fun i hi => (hk _ _ hb).trans (h2 i hi)⟩
theorem RdS.mono {w : World} {S S' : Nat → Prop} {A : Option Addr} {l : List α} (h : RdS C w S A l) (hS : ∀ b, S b → S' b) : RdS C w S' A l := h.keep hS fun _ _ _ => rfl
theorem RdS.nil (w : World) (S : Nat → Prop) (A : Option Addr) : RdS C w S A [] := fun h => absurd h (by simp)
theorem RdB.nil (w : World) (A : Option Addr) : RdB C w A [] := RdS.nil _ _ _
theorem RdB.on {w w' : World} {A : Option Addr} {l : List α} (h : RdB C w A l) (hb : Below w.heap.size w w') : RdB C w' A l :=
  RdS.keep h (fun b hlt => Nat.lt_of_lt_of_le hlt hb.size) fun b o hlt => hb.cell (p := ⟨b, o, none⟩) hlt
theorem RdS.at {w : World} {S : Nat → Prop} {A : Option Addr} {l : List α} {k : Nat} (h : RdS C w S A l) (hk : k < l.length) :
    ∃ b off cs, A = some ⟨b, off, none⟩ ∧ S b ∧ C.R w S cs (l[k]'hk) ∧ ∀ i (hi : i < cs.length), w.cell? ⟨b, off + k * C.k + i, none⟩ = some (cs[i]'hi) := by
  obtain ⟨b, off, e, hb, hc⟩ := h (by omega)
  obtain ⟨cs, h1, h2⟩ := hc k hk
  exact ⟨b, off, cs, e, hb, h1, h2⟩
theorem RdS.drop {w : World} {S : Nat → Prop} {b off : Nat} {l : List α} (h : RdS C w S (some ⟨b, off, none⟩) l) (i : Nat) : RdS C w S (some ⟨b, off + i * C.k, none⟩) (l.drop i) := by
  intro hp
  rw [List.length_drop] at hp
  obtain ⟨b', off', e, hb, hc⟩ := h (by omega)
  injection e with e
  injection e with e1 e2 _
  subst e1 e2
  refine ⟨b, off + i * C.k, rfl, hb, fun j hj => ?_⟩
  rw [List.length_drop] at hj
  obtain ⟨cs, h1, h2⟩ := hc (i + j) (by omega)
  refine ⟨cs, by rw [List.getElem_drop]; exact h1, fun m hm => ?_⟩
  have := h2 m hm
  rwa [show off + i * C.k + j * C.k + m = off + (i + j) * C.k + m by rw [Nat.add_mul]; omega]
theorem RdS.take {w : World} {S : Nat → Prop} {A : Option Addr} {l : List α} (h : RdS C w S A l) (k : Nat) : RdS C w S A (l.take k) := by
  intro hp
  have hl := List.length_take (i := k) (l := l)
  obtain ⟨b, off, e, hb, hc⟩ := h (by omega)
  refine ⟨b, off, e, hb, fun j hj => ?_⟩
  obtain ⟨cs, h1, h2⟩ := hc j (by omega)
  exact ⟨cs, by rw [List.getElem_take]; exact h1, h2⟩
end
def AtS : CodS At where
  k := 3
  R _ _ cs a := ∃ x y z : ByteArray, cs = [.string x, .string y, .string z] ∧ x.data.toList = a.space ∧ y.data.toList = a.name ∧ z.data.toList = a.value
  len := by rintro _ _ _ _ ⟨x, y, z, rfl, _⟩; rfl
  one := by
    rintro _ _ _ _ ⟨x, y, z, rfl, _⟩ v hv
    simp at hv
    rcases hv with rfl | rfl | rfl <;> rfl
  keep := fun h _ _ => h
def ndCells (n : Nd) (x y z : ByteArray) (A : Option Addr) (c : Nat) : List Value := [.int .u8 (n.kind : Int), .string x, .string y, .slice A n.attrs.length c, .string z, .int .i64 n.many]
def NdV (n : Nd) (x y z : ByteArray) (A : Option Addr) (c : Nat) : Value := .agg #[.int .u8 (n.kind : Int), .string x, .string y, .slice A n.attrs.length c, .string z, .int .i64 n.many]
structure NdIn (n : Nd) (x y z : ByteArray) (A : Option Addr) (c : Nat) (w : World) (S : Nat → Prop) : Prop where
  space : x.data.toList = n.space
  name : y.data.toList = n.name
  text : z.data.toList = n.text
  attrs : RdS AtS w S A n.attrs
  le : n.attrs.length ≤ c
  cm : c ≤ maxLen
  nil : A = none → c = 0
  kd : n.kind < 256
  lo : -9223372036854775808 ≤ n.many
  hi : n.many ≤ 9223372036854775807
theorem NdIn.keep {n : Nd} {x y z : ByteArray} {A : Option Addr} {c : Nat} {w w' : World} {S S' : Nat → Prop} (h : NdIn n x y z A c w S) (hS : ∀ b, S b → S' b) (hk : ∀ b o, S b → w'.cell? ⟨b, o, none⟩ = w.cell? ⟨b, o, none⟩) : NdIn n x y z A c w' S' :=
  ⟨h.space, h.name, h.text, h.attrs.keep hS hk, h.le, h.cm, h.nil, h.kd, h.lo, h.hi⟩
def NdS : CodS Nd where
  k := 6
  R w S cs n := ∃ (x y z : ByteArray) (A : Option Addr) (c : Nat), cs = ndCells n x y z A c ∧ NdIn n x y z A c w S
  len := by rintro _ _ _ _ ⟨x, y, z, A, c, rfl, _⟩; rfl
  one := by
    rintro _ _ _ _ ⟨x, y, z, A, c, rfl, _⟩ v hv
    simp [ndCells] at hv
    rcases hv with rfl | rfl | rfl | rfl | rfl | rfl <;> rfl
  keep := fun ⟨x, y, z, A, c, h1, h2⟩ hS hk => ⟨x, y, z, A, c, h1, h2.keep hS hk⟩
def NdAt (n : Nd) (x y z : ByteArray) (A : Option Addr) (c : Nat) (w : World) : Prop := NdIn n x y z A c w (fun b => b < w.heap.size)
theorem NdAt.on {n : Nd} {x y z : ByteArray} {A : Option Addr} {c : Nat} {w w' : World} (h : NdAt n x y z A c w) (hb : Below w.heap.size w w') : NdAt n x y z A c w' :=
  NdIn.keep h (fun b hlt => Nat.lt_of_lt_of_le hlt hb.size) fun b o hlt => hb.cell (p := ⟨b, o, none⟩) hlt
theorem NdAt.rd {n : Nd} {x y z : ByteArray} {A : Option Addr} {c : Nat} {w : World} (h : NdAt n x y z A c w) : RdB AtS w A n.attrs := h.attrs
structure SmallN (n : Nd) : Prop where
  space : n.space.length ≤ 1000000
  name : n.name.length ≤ 1000000
  text : n.text.length ≤ 1000000
  attrs : n.attrs.length ≤ 1000000
  each : ∀ a ∈ n.attrs, a.space.length ≤ 1000000 ∧ a.name.length ≤ 1000000 ∧ a.value.length ≤ 1000000
theorem nd_at {w : World} {S : Nat → Prop} {A : Option Addr} {l : List Nd} {k : Nat} (hr : RdS NdS w S A l) (hk : k < l.length) :
    ∃ (b off : Nat) (x y z : ByteArray) (A1 : Option Addr) (c1 : Nat), A = some ⟨b, off, none⟩ ∧ S b ∧ NdIn (l[k]'hk) x y z A1 c1 w S ∧
      w.cell? ⟨b, off + k * 6, none⟩ = some (.int .u8 ((l[k]'hk).kind : Int)) ∧ w.cell? ⟨b, off + k * 6 + 1, none⟩ = some (.string x) ∧ w.cell? ⟨b, off + k * 6 + 2, none⟩ = some (.string y) ∧
      w.cell? ⟨b, off + k * 6 + 3, none⟩ = some (.slice A1 (l[k]'hk).attrs.length c1) ∧ w.cell? ⟨b, off + k * 6 + 4, none⟩ = some (.string z) ∧ w.cell? ⟨b, off + k * 6 + 5, none⟩ = some (.int .i64 (l[k]'hk).many) := by
  obtain ⟨b, off, cs, e, hb, ⟨x, y, z, A1, c1, rfl, hin⟩, hc⟩ := hr.at hk
  exact ⟨b, off, x, y, z, A1, c1, e, hb, hin, hc 0 (by simp [ndCells]), hc 1 (by simp [ndCells]), hc 2 (by simp [ndCells]), hc 3 (by simp [ndCells]), hc 4 (by simp [ndCells]), hc 5 (by simp [ndCells])⟩
theorem at_at {w : World} {S : Nat → Prop} {A : Option Addr} {l : List At} {k : Nat} (hr : RdS AtS w S A l) (hk : k < l.length) :
    ∃ (b off : Nat) (x y z : ByteArray), A = some ⟨b, off, none⟩ ∧ S b ∧ x.data.toList = (l[k]'hk).space ∧ y.data.toList = (l[k]'hk).name ∧ z.data.toList = (l[k]'hk).value ∧
      w.cell? ⟨b, off + k * 3, none⟩ = some (.string x) ∧ w.cell? ⟨b, off + k * 3 + 1, none⟩ = some (.string y) ∧ w.cell? ⟨b, off + k * 3 + 2, none⟩ = some (.string z) := by
  obtain ⟨b, off, cs, e, hb, ⟨x, y, z, rfl, h1, h2, h3⟩, hc⟩ := hr.at hk
  exact ⟨b, off, x, y, z, e, hb, h1, h2, h3, hc 0 (by simp), hc 1 (by simp), hc 2 (by simp)⟩
section
variable {H : Type} {enc : TypeId × Value → H}
theorem cells_oneN : Tryz.prog.cellsOf 9 = 1 ∧ Tryz.prog.cellsOf 5 = 1 ∧ Tryz.prog.cellsOf 30 = 1 ∧ Tryz.prog.cellsOf 3 = 1 ∧ Tryz.prog.cellsOf 34 = 3 ∧ Tryz.prog.cellsOf 32 = 6 := ⟨by kernel_rfl, by kernel_rfl, by kernel_rfl, by kernel_rfl, by kernel_rfl, by kernel_rfl⟩
end
end Hx
end Go.Proofs.YtlhjcdkkmloamaaGreatDoor
namespace Go.Proofs.YtlhjcdkkmloamaaGreatDoor
open Go.RowKit
namespace Hx
open Lx
set_option linter.unusedVariables false
theorem ba_l (s : ByteArray) : s.data.toList.length = s.size := by cases s; simp [ByteArray.size]
theorem at_l (s : ByteArray) (k : Nat) (h : k < s.size) : s.data.toList[k]'(by rw [ba_l]; exact h) = s[k]'h := by cases s; rfl
theorem ba_x {s t : ByteArray} (h : s.data.toList = t.data.toList) : s = t := by
  cases s; cases t
  simpa using h
theorem empty_l (s : ByteArray) : s.toList.isEmpty = decide (s.size = 0) := by
  rw [ByteArray.toList_eq, Bool.eq_iff_iff, List.isEmpty_iff, decide_eq_true_eq, ← ba_l]
  constructor
  · intro e; rw [e]; rfl
  · exact List.eq_nil_of_length_eq_zero
theorem extract_l (s : ByteArray) (a b : Nat) (h : b ≤ s.size) : (s.extract a b).data.toList = (s.data.toList.drop a).take (b - a) := Lib.extract_data s a b
def nameP (l : List UInt8) : Prop := l = [] ∨ nameL l = true
end Hx
end Go.Proofs.YtlhjcdkkmloamaaGreatDoor
